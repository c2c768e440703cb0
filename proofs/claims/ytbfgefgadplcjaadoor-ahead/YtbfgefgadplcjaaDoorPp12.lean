/-
  Print, Of.
-/
import Derived.Test.YtbfgefgadplcjaaDoorPv12
import Derived.Test.YtbfgefgadplcjaaDoorGrown
namespace Go.Proofs.YtbfgefgadplcjaaDoor
open Go.RowKit

theorem rws_at (c : Int) (s : Stt) (n i : Nat) (L : List (List UInt8)) (h : i < L.length) : rwsL c s n i (L.drop i) = hdL c s (decide (i + 1 = n)) ++ L[i] ++ [13, 10] ++ rwsL c s n (i + 1) (L.drop (i + 1)) := by
  rw [List.drop_eq_getElem_cons h, rwsL]
theorem ar_short (r : Ry) (h : arB r = true) : 1 ≤ r.ls.length ∧ r.ls.length ≤ 64 ∧ ∀ t ∈ r.ls, t.length ≤ 510 := by
  unfold arB at h
  rw [Bool.and_eq_true, Bool.and_eq_true, decide_eq_true_eq, decide_eq_true_eq, List.all_eq_true] at h
  refine ⟨h.1.1, h.1.2, fun t htt => ?_⟩
  have := h.2 t htt
  rw [Bool.and_eq_true, decide_eq_true_eq] at this
  omega
theorem mayR_parts (r : Ry) (h : mayR r = true) : isCd r.code = true ∧ mayB r.code r.st = true ∧ arB r = true := by
  unfold mayR at h
  rw [Bool.and_eq_true, Bool.and_eq_true, Bool.and_eq_true] at h
  exact ⟨h.1.1.1, h.1.1.2, h.1.2⟩
theorem strCells_tx (l : List UInt8) : Lib.strCells (tx l) = cellsB l := by unfold Lib.strCells cellsB; rw [tx_list]
set_option maxHeartbeats 4000000 in
set_option maxRecDepth 20000 in
theorem print_bad (x : Rx) (L : List (List UInt8)) (h0 : -9223372036854775808 ≤ x.c) (h1 : x.c ≤ 9223372036854775807) (w : World) (ht : Tb w) (hn : x.n = L.length) (hL : Txs x.a L w) (hll : ∀ l ∈ L, l.length ≤ 140737488355328) (hln : L.length ≤ 140737488355328) (hm : mayR ⟨x.c, x.s, L⟩ = false) :
    Calls Tryd.prog 21 #[rxV x] w fun e w' => e = .returned (.tuple #[.slice none 0 0, .int .i64 120]) ∧ Below w.heap.size w w' := by
  obtain ⟨c, s, a, n, k⟩ := x
  dsimp only at h0 h1 hn hL hm
  subst hn
  obtain ⟨W, hW⟩ : ∃ W, W = w.alloc (.cells (rxC ⟨c, s, a, L.length, k⟩) 50) := ⟨_, rfl⟩
  have hB : Below w.heap.size w W := by subst hW; exact (Below.refl _ _).alloc (Nat.le_refl _) _
  have hLi : Lies W w.heap.size (rxC ⟨c, s, a, L.length, k⟩) 50 := by subst hW; exact Lies.new w _ _
  have HWW : Hid (w.alloc (.cells #[.int .i64 c, .int .i64 s.1, .int .i64 s.2.1, .int .i64 s.2.2, .slice a L.length k] 50) = W) := hW.symm
  have HCK := check_any ⟨c, s, a, L.length, k⟩ L h0 h1 W (ht.on hB) rfl (hL.below hB) hll hln
  have HTX : Hid (Txs a L w) := hL
  have HT : Hid (Tb w) := ht
  obtain ⟨r0, r1, r2, r3, r4, -, -, -, -, -⟩ := rxC_cells hLi
  have HB0 : Hid (Below w.heap.size w W) := hB
  have HL0 : Hid (Lies W w.heap.size (rxC ⟨c, s, a, L.length, k⟩) 50) := hLi
  unfold rxV at HCK ⊢
  dsimp only at r0 r1 r2 r3 r4 HCK ⊢
  clear hLi hB ht hL hll hW
  have hck : chkR ⟨c, s, L⟩ = 120 := by unfold chkR; rw [hm]; rfl
  rw [hck] at HCK
  clear hck hm
  go_enter Tryd.func21, Tryd.ntmps21
  go_wp2_with fail
  rw [HWW.out]
  refine HCK.mono ?_
  rintro e w1 ⟨rfl, hB1⟩
  have HB1 : Hid (Below w.heap.size w w1) := HB0.out.trans (hB1.mono HB0.out.size)
  clear hB1
  go_wp2_with fail
  go_ret2
  exact ⟨rfl, HB1.out⟩
set_option maxHeartbeats 4000000 in
set_option maxRecDepth 20000 in
theorem print_ok (x : Rx) (L : List (List UInt8)) (h0 : -9223372036854775808 ≤ x.c) (h1 : x.c ≤ 9223372036854775807) (w : World) (ht : Tb w) (hn : x.n = L.length) (hL : Txs x.a L w) (hll : ∀ l ∈ L, l.length ≤ 140737488355328) (hln : L.length ≤ 140737488355328) (hm : mayR ⟨x.c, x.s, L⟩ = true) :
    Calls Tryd.prog 21 #[rxV x] w fun e w' => ∃ v, e = .returned (.tuple #[v, .int .i64 0]) ∧ w'.ownsRow w.heap.size 5 1 v (prL ⟨x.c, x.s, L⟩).length (cellsB (prL ⟨x.c, x.s, L⟩)) ∧ Below w.heap.size w w' := by
  obtain ⟨c, s, a, n, k⟩ := x
  dsimp only at h0 h1 hn hL hm
  subst hn
  obtain ⟨W, hW⟩ : ∃ W, W = w.alloc (.cells (rxC ⟨c, s, a, L.length, k⟩) 50) := ⟨_, rfl⟩
  have hB : Below w.heap.size w W := by subst hW; exact (Below.refl _ _).alloc (Nat.le_refl _) _
  have hLi : Lies W w.heap.size (rxC ⟨c, s, a, L.length, k⟩) 50 := by subst hW; exact Lies.new w _ _
  have HWW : Hid (w.alloc (.cells #[.int .i64 c, .int .i64 s.1, .int .i64 s.2.1, .int .i64 s.2.2, .slice a L.length k] 50) = W) := hW.symm
  have HCK := check_any ⟨c, s, a, L.length, k⟩ L h0 h1 W (ht.on hB) rfl (hL.below hB) hll hln
  obtain ⟨i0, hi0, hz0, hz1, hz2⟩ := info_parts info5
  have HTX : Hid (Txs a L w) := hL
  have HT : Hid (Tb w) := ht
  obtain ⟨r0, r1, r2, r3, r4, -, -, -, -, -⟩ := rxC_cells hLi
  have HB0 : Hid (Below w.heap.size w W) := hB
  have HL0 : Hid (Lies W w.heap.size (rxC ⟨c, s, a, L.length, k⟩) 50) := hLi
  unfold rxV at HCK ⊢
  dsimp only at r0 r1 r2 r3 r4 HCK ⊢
  clear hLi hB ht hL hll hW
  have hck : chkR ⟨c, s, L⟩ = 0 := by unfold chkR; rw [hm]; rfl
  rw [hck] at HCK
  obtain ⟨m1, m2, m3⟩ := mayR_parts _ hm
  obtain ⟨m4, m5, m6⟩ := ar_short _ m3
  dsimp only at m1 m2 m4 m5 m6
  have hcr := cd_rng c m1 h0 h1
  have hst := may_st c s m2
  have HHD : Hid (∀ last w', Below w.heap.size w w' → Calls Tryd.prog 39 #[.agg #[.int .i64 c, .int .i64 s.1, .int .i64 s.2.1, .int .i64 s.2.2, .slice a L.length k], .bool last] w' fun e w2 => e = .returned (.string (tx (hdL c s last))) ∧ Below w'.heap.size w' w2) := fun last w' hb => head_any ⟨c, s, a, L.length, k⟩ last hcr.1 hcr.2 hst w' (HT.out.on hb)
  have HHL : Hid (∀ last, (hdL c s last).length ≤ 16) := fun last => hd_len c s last hcr.2 hst
  have HM6 : Hid (∀ t ∈ L, t.length ≤ 510) := m6
  have HPL : Hid (prL ⟨c, s, L⟩ = [] ++ rwsL c s L.length 0 (L.drop 0)) := rfl
  clear hck m1 m2 m3 m6 hcr hst hm h0 h1
  go_enter Tryd.func21, Tryd.ntmps21
  go_wp2_with fail
  rw [HWW.out]
  refine HCK.mono ?_
  rintro e w1 ⟨rfl, hB1⟩
  have HB1 : Hid (Below w.heap.size w w1) := HB0.out.trans (hB1.mono HB0.out.size)
  have HL1 : Hid (Lies w1 w.heap.size (rxC ⟨c, s, a, L.length, k⟩) 50) := HL0.out.below hB1 HL0.out.lt
  obtain ⟨q0, q1, q2, q3, q4, -, -, -, -, -⟩ := rxC_cells HL1.out
  dsimp only at q0 q1 q2 q3 q4
  clear hB1 HCK HB0 HL0 HWW r0 r1 r2 r3 r4
  go_wp2_with fail
  clear q0 q1 q2 q3 q4
  go_loopw [5, 6, 7, 16] (fun v _ _ iv wr => ∃ (i : Nat) (out : List UInt8), i ≤ L.length ∧ out.length ≤ 1000 * i ∧ iv = .int .i64 i ∧ Hid (wr.ownsRow w.heap.size 5 1 v out.length (cellsB out)) ∧ Hid (Below w.heap.size w wr) ∧ Hid (Lies wr w.heap.size (rxC ⟨c, s, a, L.length, k⟩) 50) ∧ Hid (prL ⟨c, s, L⟩ = out ++ rwsL c s L.length i (L.drop i))) (fun _ _ _ iv _ => L.length - (intOf iv).toNat)
  case atStart => exact ⟨0, [], Nat.zero_le _, Nat.zero_le _, rfl, ⟨rfl, .inl ⟨rfl, rfl⟩⟩, HB1.out, HL1.out, HPL.out⟩
  case round =>
    obtain ⟨i, out, hi, hol, rfl, HO, HB, HLr, HP⟩ := hrel
    clear HB1 HL1 HPL
    obtain ⟨q0, q1, q2, q3, q4, -, -, -, -, -⟩ := rxC_cells HLr.out
    dsimp only at q0 q1 q2 q3 q4
    by_cases hlt : i < L.length
    · have hlt' : (i : Int) < (L.length : Int) := by omega
      have htc := (HTX.out.below HB.out).cell i hlt
      rw [rws_at _ _ _ _ _ hlt] at HP
      obtain ⟨last, hlast⟩ : ∃ last, last = decide (i + 1 = L.length) := ⟨_, rfl⟩
      rw [← hlast] at HP
      have hli : ((i : Int) == (L.length : Int) - 1) = last := by
        rw [hlast, Bool.eq_iff_iff, beq_iff_eq, decide_eq_true_eq]
        omega
      have HHD1 := HHD.out last wr HB.out
      have hh := HHL.out last
      have hti := HM6.out _ (List.getElem_mem hlt)
      have a1 := sadd (tx (hdL c s last)) (tx L[i]) (by rw [tx_size, tx_size]; omega)
      rw [tx_cat] at a1
      have a2 := sadd (tx (hdL c s last ++ L[i])) ⟨#[13, 10]⟩ (by rw [tx_size, List.length_append, show (⟨#[13, 10]⟩ : ByteArray).size = 2 from rfl]; omega)
      have e2 : tx (hdL c s last ++ L[i]) ++ ⟨#[13, 10]⟩ = tx (hdL c s last ++ L[i] ++ [13, 10]) := tx_cat _ [13, 10]
      rw [e2] at a2
      have hol2 : (out ++ (hdL c s last ++ L[i] ++ [13, 10])).length ≤ 1000 * (i + 1) := by
        simp only [List.length_append, List.length_cons, List.length_nil]
        omega
      have HP2 : Hid (prL ⟨c, s, L⟩ = (out ++ (hdL c s last ++ L[i] ++ [13, 10])) ++ rwsL c s L.length (i + 1) (L.drop (i + 1))) := by
        show _ = _
        rw [HP.out, List.append_assoc out]
      have hrs : (tx (hdL c s last ++ L[i] ++ [13, 10])).size = (hdL c s last ++ L[i] ++ [13, 10]).length := tx_size _
      have hrc := strCells_tx (hdL c s last ++ L[i] ++ [13, 10])
      have hll2 : (hdL c s last ++ L[i] ++ [13, 10]).length ≤ 528 := by
        simp only [List.length_append, List.length_cons, List.length_nil]
        omega
      clear HP hlast e2 hh
      obtain ⟨g, o, rfl, hgs, hce⟩ := htc
      generalize tx L[i] = Y at *
      generalize tx (hdL c s last ++ L[i]) = Z at *
      generalize hR : hdL c s last ++ L[i] ++ [13, 10] = R at *
      generalize tx (hdL c s last) = HH at *
      go_wp2_with fail
      refine HHD1.mono ?_
      rintro e w2 ⟨rfl, hB2⟩
      have HB2 : Hid (Below w.heap.size w w2) := HB.out.trans (hB2.mono HB.out.size)
      have HL2 : Hid (Lies w2 w.heap.size (rxC ⟨c, s, some ⟨g, o, none⟩, L.length, k⟩) 50) := HLr.out.below hB2 HLr.out.lt
      have HO2 : Hid (w2.ownsRow w.heap.size 5 1 u5 out.length (cellsB out)) := own_below HO.out hB2
      clear hB2 HHD1 HB HLr HO q0 q1 q2 q3 q4 hce
      go_wp2_with (refine Lib.wpList_append_own_string _ rfl _ _ 31 9 rfl w.heap.size 5 i0 Tryd.underlying31 Tryd.underlying9 hi0 hz0 hz1 hz2 u5 out.length (cellsB out) rfl HO2.out (tx R) rfl (by rw [hrs]; unfold maxLen; omega) (by rw [hrs]; omega) HB2.out.size ?_; intro v3 w3 HO3 HG3 HN3; apply Hid.out)
      unfold Hid
      rw [hrc, hrs, ← cellsB_append, ← List.length_append] at HO3
      have HO4 : Hid (w3.ownsRow w.heap.size 5 1 v3 (out ++ R).length (cellsB (out ++ R))) := HO3
      have HB4 : Hid (Below w.heap.size w w3) := HB2.out.grown HG3 HB2.out.size (fun j e => (HO2.out.lt j e).1)
      have HL4 : Hid (Lies w3 w.heap.size (rxC ⟨c, s, some ⟨g, o, none⟩, L.length, k⟩) 50) := (HG3.block _ HL2.out.lt (fun e => own_apart HO2.out HL2.out (by decide) _ e.symm rfl)).trans HL2.out
      clear HO3 HG3 HN3 HB2 HL2 HO2
      go_wp2_with fail
      go_round
      case rel => exact ⟨i + 1, out ++ R, hlt, hol2, by go_num, HO4.out, HB4.out, HL4.out, HP2.out⟩
      case measure => simp [intOf]; omega
    · have hlt' : ¬ (i : Int) < (L.length : Int) := by omega
      have HP2 : Hid (prL ⟨c, s, L⟩ = out) := by
        have := HP.out
        rw [List.drop_eq_nil_of_le (by omega)] at this
        rw [show rwsL c s L.length i [] = [] from rfl, List.append_nil] at this
        exact this
      clear HP
      go_wp2_with fail
      go_ret2
      exact ⟨_, rfl, by rw [HP2.out]; exact HO.out, HB.out⟩
end Go.Proofs.YtbfgefgadplcjaaDoor
