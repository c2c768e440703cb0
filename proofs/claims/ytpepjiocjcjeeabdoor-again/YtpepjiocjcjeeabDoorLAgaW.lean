/-
  FieldAgain's walk.
-/
import Derived.Test.YtpepjiocjcjeeabDoorCardF16
import Derived.Deep.RegionHeld3
namespace Go.Proofs.YtpepjiocjcjeeabDoor.fieldAgain
open Go.ChangeShapes Go.WideShapes Go.ChangeAt Go.RowKit
set_option maxRecDepth 20000 in
theorem run_slH16 (a : Option Addr) (n cap q : Nat) (h2 : q ≤ cap) (w : World) : (Instr.sliceAt 22 (.slice a n cap) none (some (.int .i64 (q : Int))) none).run Tryd.prog w = .ok (.slice a q cap) w := by
  have hu : Tryd.prog.underlying 22 = some (.slice (Tryd.prog.elem 22)) := Tryd.underlying22
  have hs : (sizeOf (Tryd.prog.elem 22)).run Tryd.prog w = .ok 1 w := by
    obtain ⟨i0, hi0, hz0, hz1, hz2⟩ := info_parts info5
    have : (sizeOf 5).run Tryd.prog w = .ok 1 w := by go_simp
    exact this
  rw [run_sliceAt_slice (h := hu), run_slice_h (ht := hu) (h0 := by omega) (h2 := by omega), hs]
  cases a with
  | none => simp [Result.andThen, sliced]
  | some ad =>
    obtain ⟨b, o, f⟩ := ad
    simp [Result.andThen, sliced, Addr.add]
theorem bts_take {a : Option Addr} {l : List UInt8} {w : World} (h : Bts a l w) (n : Nat) : Bts a (l.take n) w := by
  rcases h with rfl | ⟨g, o, e, hg, hr⟩
  · exact .inl (by simp)
  · refine .inr ⟨g, o, e, hg, fun j hj => ?_⟩
    have hj2 : j < l.length := by rw [List.length_take] at hj; omega
    have := hr j hj2
    rw [this]
    rw [List.getElem_take]
theorem prL_mem : ∀ (F : List Fd) (p : Fd), p ∈ F → p.name.length + p.body.length ≤ (prL F).length
  | q :: r, p, h => by
    have e : (prL (q :: r)).length = (wrF q).length + (prL r).length := by unfold prL; simp
    rw [e]
    rcases List.mem_cons.1 h with rfl | h
    · unfold wrF
      simp
      omega
    · have := prL_mem r p h
      omega
set_option maxRecDepth 100000 in
set_option maxHeartbeats 16000000 in
theorem walk {w : World} (a0 : Option Addr) (l : List UInt8) (cap0 : Nat) (hr : Bts a0 l w) (hl : l.length ≤ 140737488351232) (hcp : l.length ≤ cap0) (_hn0 : a0 = none → cap0 = 0) (hcm : cap0 ≤ 9223372036854775807) (hT : Table w) :
    Calls Tryd.prog 3 #[.slice a0 l.length cap0] w fun e w' => e = .returned (.bool true) ∧ Below w.heap.size w w' := by
  have HR : Hid (Bts a0 l w) := hr
  have HT : Hid (Table w) := hT
  have HWK : Hid (∀ wx, Table wx → Calls Tryd.prog 7 #[] wx fun e w' => e = .returned (.bool true) ∧ Below wx.heap.size wx w') := fun wx h => wakes_any wx h
  have hlI : (l.length : Int) ≤ 140737488351232 := by omega
  have HFP : Hid (∀ wx, Bts a0 l wx → Table wx → Calls Tryd.prog 8 #[.slice a0 l.length cap0] wx fun e w' => ∃ b c, e = .returned (.tuple #[.slice b (fsP l (prsF l)).length c, .int .i64 (btP (prsF l) : Int), .agg #[.int .i64 ((spP (prsF l)).1 : Int), .int .i64 ((spP (prsF l)).2 : Int)]]) ∧ Below wx.heap.size wx w' ∧ w'.ownsRow wx.heap.size 32 2 (.slice b (fsP l (prsF l)).length c) (fsP l (prsF l)).length (cellsF (fsP l (prsF l)))) := fun wx h h2 => fparse_rowG a0 l cap0 hcp hcm hl wx h h2
  have HUP : Hid (∀ wx, Bts a0 l wx → Calls Tryd.prog 9 #[.slice a0 l.length cap0] wx fun e w' => ∃ b c, e = .returned (.tuple #[.slice b (fsP l (prsF l)).length c, .int .i64 (btP (prsF l) : Int), .agg #[.int .i64 ((spP (prsF l)).1 : Int), .int .i64 ((spP (prsF l)).2 : Int)]]) ∧ Below wx.heap.size wx w' ∧ w'.ownsRow wx.heap.size 32 2 (.slice b (fsP l (prsF l)).length c) (fsP l (prsF l)).length (cellsF (fsP l (prsF l)))) := fun wx h => uparse_row a0 l cap0 hl wx h
  have hFl := fsP_few l
  have hag := again_all l
  clear hr hT
  go_enter Tryd.func3, Tryd.ntmps3
  go_wp2_with fail
  refine (HWK.out _ HT.out).mono ?_
  rintro e w1 ⟨rfl, hb1⟩
  have HB1 : Hid (Below w.heap.size w w1) := hb1
  clear hb1 HWK
  rcases hag with ⟨ps, A, h1, h2, h3, h4, h5, h6, h7⟩ | ⟨⟨e1, e2⟩, h1, h2, h3⟩
  · rw [h1] at HFP HUP hFl
    rw [show fsP l (.ok (ps, A)) = ps.map (fdOf l) from rfl, show btP (.ok (ps, A)) = A from rfl, show spP (.ok (ps, A)) = (0, 0) from rfl] at HFP HUP
    rw [show fsP l (.ok (ps, A)) = ps.map (fdOf l) from rfl] at hFl
    have HCK : Hid (∀ p ∈ ps.map (fdOf l), chkF p.name p.body = 0) := fun p hp => by
      obtain ⟨q, hq, rfl⟩ := List.mem_map.1 hp
      exact h3 q hq
    have HPE : Hid (prE (ps.map (fdOf l)) = 0) := h2
    have HPL : Hid (∀ p ∈ ps.map (fdOf l), p.name.length + p.body.length ≤ (prL (ps.map (fdOf l))).length) := fun p hp => prL_mem _ p hp
    have HTK : Hid (prL (ps.map (fdOf l)) = l.take (prL (ps.map (fdOf l))).length) := h6
    clear h1 h2 h3 h6
    generalize ps.map (fdOf l) = F at *
    generalize hP : prL F = P at *
    have HP : Hid (prL F = P) := hP
    have hPI : (P.length : Int) ≤ 140737488351232 := by omega
    have hFI : (F.length : Int) ≤ 4096 := by omega
    clear hP
    go_wp2_with fail
    refine (HFP.out _ (HR.out.below HB1.out) (tab_below HT.out HB1.out)).mono ?_
    rintro e w2 ⟨b2, c2, rfl, hb2, ho2⟩
    have HO2 : Hid (w2.ownsRow w1.heap.size 32 2 (.slice b2 F.length c2) F.length (cellsF F)) := ho2
    have HB2 : Hid (Below w.heap.size w w2) := HB1.out.trans (hb2.mono HB1.out.size)
    clear ho2 hb2 HFP HB1
    obtain ⟨W2, hW2⟩ : ∃ W2, W2 = w2.alloc (.cells #[.int .i64 0, .int .i64 0] 27) := ⟨_, rfl⟩
    have HW2 : Hid (w2.alloc (.cells #[.int .i64 0, .int .i64 0] 27) = W2) := hW2.symm
    have hx2 : Below w2.heap.size w2 W2 := by rw [hW2]; exact (Below.refl _ _).alloc (Nat.le_refl _) _
    have HS2 : Hid (Lies W2 w2.heap.size #[.int .i64 0, .int .i64 0] 27) := by rw [hW2]; exact Lies.new w2 _ _
    have HOX : Hid (W2.ownsRow w1.heap.size 32 2 (.slice b2 F.length c2) F.length (cellsF F)) := ownT_below HO2.out hx2
    have HBX : Hid (Below w.heap.size w W2) := HB2.out.trans (hx2.mono HB2.out.size)
    clear hW2 hx2 HO2 HB2
    go_wp2_with fail
    rw [HW2.out]
    refine (HUP.out _ (HR.out.below HBX.out)).mono ?_
    rintro e w3 ⟨b3, c3, rfl, hb3, -⟩
    have HO3 : Hid (w3.ownsRow w1.heap.size 32 2 (.slice b2 F.length c2) F.length (cellsF F)) := ownT_below HOX.out hb3
    have HB3 : Hid (Below w.heap.size w w3) := HBX.out.trans (hb3.mono HBX.out.size)
    have hs3 := HS2.out.below hb3 HS2.out.lt
    have hlt3 := hs3.lt
    have s0 := hs3.cell 0
    have s1 := hs3.cell 1
    simp only [List.getElem?_toArray, List.getElem?_cons_zero, List.getElem?_cons_succ] at s0 s1
    have HFD : Hid (∀ wx, Below w3.heap.size w3 wx → Fds b2 F wx) := fun wx h => fds_own16 (ownT_below HO3.out h)
    clear hb3 HUP HW2 HS2 HOX HBX hs3
    obtain ⟨W3, hW3⟩ : ∃ W3, W3 = w3.alloc (.cells #[.int .i64 0, .int .i64 0] 27) := ⟨_, rfl⟩
    have HW3 : Hid (w3.alloc (.cells #[.int .i64 0, .int .i64 0] 27) = W3) := hW3.symm
    have hx3 : Below w3.heap.size w3 W3 := by rw [hW3]; exact (Below.refl _ _).alloc (Nat.le_refl _) _
    have HBY : Hid (Below w.heap.size w W3) := HB3.out.trans (hx3.mono HB3.out.size)
    have HFY : Hid (∀ wx, Below W3.heap.size W3 wx → Fds b2 F wx) := fun wx h => HFD.out wx (hx3.trans (h.mono hx3.size))
    clear hW3 hx3 HFD HB3 HO3
    go_wp2_with fail
    rw [HW3.out]
    clear s0 s1 HW3
    go_loopw [9, 63] (fun _ iv wr => ∃ k : Nat, k ≤ F.length ∧ iv = .int .i64 (k : Int) ∧ Hid (Below W3.heap.size W3 wr)) (fun _ iv _ => F.length - (intOf iv).toNat)
    case atStart => exact ⟨0, Nat.zero_le _, rfl, Below.refl _ _⟩
    case round =>
      obtain ⟨k, hk, rfl, HB⟩ := hrel
      by_cases hlt : k < F.length
      · have hki : (k : Int) < (F.length : Int) := by omega
        obtain ⟨g, o, hga, d1, d2⟩ := (HFY.out _ HB.out).at k hlt
        subst hga
        have hzk := HPL.out _ (List.getElem_mem hlt)
        have hck := HCK.out _ (List.getElem_mem hlt)
        have HC : Hid (∀ wx, Table wx → Calls Tryd.prog 10 #[.agg #[.string (tx F[k].name), .string (tx F[k].body)]] wx fun e w' => e = .returned (.int .i64 0) ∧ Below wx.heap.size wx w') := fun wx hx => by
          have := fcheck_any (tx F[k].name) (tx F[k].body) (by rw [tx_size]; omega) (by rw [tx_size]; omega) wx hx
          rw [tx_list, tx_list, hck] at this
          exact this
        have HTR : Hid (Table wr) := tab_below HT.out (HBY.out.trans (HB.out.mono HBY.out.size))
        clear hzk hck
        generalize tx F[k].name = t1 at *
        generalize tx F[k].body = t2 at *
        go_wp2_with fail
        refine (HC.out _ HTR.out).mono ?_
        rintro e w4 ⟨rfl, hb4⟩
        have HB4 : Hid (Below W3.heap.size W3 w4) := HB.out.trans (hb4.mono HB.out.size)
        clear hb4 HB
        go_wp2_with fail
        go_roundw
        case rel => exact ⟨k + 1, by omega, by go_num, HB4.out⟩
        case measure => simp [intOf]; omega
      · obtain rfl : k = F.length := by omega
        have HBZ : Hid (Below w.heap.size w wr) := HBY.out.trans (HB.out.mono HBY.out.size)
        have HPR := fprint_any b2 c2 F wr (HFY.out _ HB.out) (by omega) (fun p hp => by have := HPL.out p hp; omega) (tab_below HT.out HBZ.out) (fun _ => by rw [HP.out]; omega)
        rw [HPE.out, HP.out] at HPR
        clear HB HFY HBY HCK HPL HPE
        go_wp2_with fail
        refine HPR.mono ?_
        rintro e w5 ⟨v5, rfl, hb5, -, ho5⟩
        have ho6 := ho5 trivial
        have HB5 : Hid (Below w.heap.size w w5) := HBZ.out.trans (hb5.mono HBZ.out.size)
        have HO5 : Hid (w5.ownsRow wr.heap.size 5 1 v5 P.length (cellsB P)) := ho6
        obtain ⟨a5, c5, hv5, -⟩ := own_bts ho6
        subst hv5
        have hq1 := own_tx (own_below HO5.out (Below.refl _ _).drew)
        have hR5 : Bts a0 l w5.drew := HR.out.below HB5.out.drew
        have hq2 : (convert 22 9 (.slice a0 P.length cap0)).run Tryd.prog w5.drew = .ok (.string (tx P)) w5.drew := by
          have h9 := bts_back (bts_take hR5 P.length) cap0
          rw [← HTK.out] at h9
          exact h9
        have hsl := run_slH16 a0 l.length cap0 P.length (by omega)
        have hA1 : decide ((l.length : Int) < (A : Int)) = false := decide_eq_false (by omega)
        have hA2 : decide ((A : Int) < (P.length : Int)) = false := decide_eq_false (by omega)
        have hA5 : decide (l.length < A) = false := decide_eq_false (by omega)
        have hA6 : decide (A < P.length) = false := decide_eq_false (by omega)
        have hA3 : ¬ (l.length : Int) < (A : Int) := by omega
        have hA4 : ¬ (A : Int) < (P.length : Int) := by omega
        clear HPR hb5 ho5 ho6 HBZ
        go_wp2_with fail
        refine wp_onlyN ?_
        go_region_held3 (fun w' => (convert 22 9 (.slice a5 P.length c5)).run Tryd.prog w' = .ok (.string (tx P)) w' ∧ (convert 22 9 (.slice a0 P.length cap0)).run Tryd.prog w' = .ok (.string (tx P)) w') (first | assumption | exact ⟨hq1, hq2⟩) (fail)
        simp only [OnlyN]
        have HBW : Hid (Below w.heap.size w w5.drew) := HB5.out.drew
        rcases h7 with ⟨rfl, hAl⟩ | ⟨hAn, hle⟩
        · have e1 : ((P.length : Int) == (l.length : Int)) = true := by rw [beq_iff_eq]; omega
          rw [← hAl]
          clear hq1 hq2 hsl hR5 hAl HO5 HB5 HR
          generalize w5.drew = wz at *
          go_wp2_with fail
          go_ret
          exact ⟨rfl, HBW.out⟩
        · have hlt := leH_lt _ _ hle
          rw [leH_yes l P.length (by omega), Bool.and_eq_true, decide_eq_true_eq, decide_eq_true_eq] at hle
          obtain ⟨g, o, rfl, x0, x1⟩ : ∃ g o, a0 = some ⟨g, o, none⟩ ∧ w5.drew.cell? ⟨g, o + P.length, none⟩ = some (.int .u8 13) ∧ w5.drew.cell? ⟨g, o + (P.length + 1), none⟩ = some (.int .u8 10) := by
            rcases hR5 with h | ⟨g, o, h1, _, h2⟩
            · rw [h] at hlt
              simp at hlt
            · refine ⟨g, o, h1, ?_, ?_⟩
              · have := h2 P.length (by omega)
                rw [hle.1] at this
                exact this
              · have := h2 (P.length + 1) (by omega)
                rw [hle.2] at this
                exact this
          have e0 : ((A : Int) == (P.length : Int)) = false := by rw [beq_eq_false_iff_ne]; omega
          have e2 : IntKind.i64.wrap ((P.length : Int) + 2) = (P.length : Int) + 2 := by rw [IntKind.wrap_i64]; omega
          have e3 : ((A : Int) == (P.length : Int) + 2) = true := by rw [beq_iff_eq]; omega
          have e4 : IntKind.i64.wrap ((A : Int) - 2) = (P.length : Int) := by rw [IntKind.wrap_i64]; omega
          have e5 : IntKind.i64.wrap ((A : Int) - 1) = (P.length : Int) + 1 := by rw [IntKind.wrap_i64]; omega
          have e6 : (P.length : Int) < (l.length : Int) := by omega
          have e7 : (P.length : Int) + 1 < (l.length : Int) := by omega
          have e8 : ¬ A = P.length := by omega
          clear hq1 hq2 hsl HO5 HB5 hAn hle HR
          generalize w5.drew = wz at *
          go_wp2_with fail
          go_ret
          exact ⟨rfl, HBW.out⟩
  · have h2' : e1 = 160 ∨ e1 = 161 := h2
    have h3' : e2 ≤ l.length := h3
    rw [h1] at HFP HUP
    rw [show fsP l (.error (e1, e2)) = [] from rfl, show btP (.error (e1, e2)) = 0 from rfl, show spP (.error (e1, e2)) = (e1, e2) from rfl] at HFP HUP
    have hz : (([] : List Fd).length : Nat) = 0 := rfl
    rw [hz] at HFP HUP
    clear h1 h2 h3 hFl hz
    go_wp2_with fail
    refine (HFP.out _ (HR.out.below HB1.out) (tab_below HT.out HB1.out)).mono ?_
    rintro e w2 ⟨b2, c2, rfl, hb2, -⟩
    have HB2 : Hid (Below w.heap.size w w2) := HB1.out.trans (hb2.mono HB1.out.size)
    clear hb2 HFP HB1
    obtain ⟨W2, hW2⟩ : ∃ W2, W2 = w2.alloc (.cells #[.int .i64 (e1 : Int), .int .i64 (e2 : Int)] 27) := ⟨_, rfl⟩
    have HW2 : Hid (w2.alloc (.cells #[.int .i64 (e1 : Int), .int .i64 (e2 : Int)] 27) = W2) := hW2.symm
    have hx2 : Below w2.heap.size w2 W2 := by rw [hW2]; exact (Below.refl _ _).alloc (Nat.le_refl _) _
    have HS2 : Hid (Lies W2 w2.heap.size #[.int .i64 (e1 : Int), .int .i64 (e2 : Int)] 27) := by rw [hW2]; exact Lies.new w2 _ _
    have HBX : Hid (Below w.heap.size w W2) := HB2.out.trans (hx2.mono HB2.out.size)
    clear hW2 hx2 HB2
    go_wp2_with (rw [HW2.out])
    refine (HUP.out _ (HR.out.below HBX.out)).mono ?_
    rintro e w3 ⟨b3, c3, rfl, hb3, -⟩
    have HB3 : Hid (Below w.heap.size w w3) := HBX.out.trans (hb3.mono HBX.out.size)
    have hs3 := HS2.out.below hb3 HS2.out.lt
    have hlt3 := hs3.lt
    have s0 := hs3.cell 0
    have s1 := hs3.cell 1
    simp only [List.getElem?_toArray, List.getElem?_cons_zero, List.getElem?_cons_succ] at s0 s1
    clear hb3 HUP HW2 HS2 HBX hs3
    have he2 : (e2 : Int) ≤ (l.length : Int) := by omega
    rcases h2' with rfl | rfl
    · go_wp2_with fail
      go_ret
      exact ⟨rfl, HB3.out.alloc (by have := HB3.out.size; omega) _⟩
    · go_wp2_with fail
      go_ret
      exact ⟨rfl, HB3.out.alloc (by have := HB3.out.size; omega) _⟩
end Go.Proofs.YtpepjiocjcjeeabDoor.fieldAgain
