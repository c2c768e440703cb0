/-
  FieldAhead's walk.
-/
import Derived.Test.YtpepjiocjcjeeabDoorWk16
import Derived.Test.YtpepjiocjcjeeabDoorCardF16
import Derived.Deep.RegionHeld3
namespace Go.Proofs.YtpepjiocjcjeeabDoor.fieldAhead
open Go.ChangeShapes Go.WideShapes Go.ChangeAt Go.RowKit
theorem own_nn {w : World} {B n c : Nat} {a : Option Addr} {xs : List Value} (h : w.ownsRow B 5 1 (.slice a n c) n xs) : n ≤ c ∧ c ≤ 9223372036854775807 ∧ (a = none → c = 0) ∧ (∀ ad, a = some ad → ad.block < w.heap.size) := by
  refine ⟨?_, own_capT h, ?_, fun ad e => ?_⟩
  · obtain ⟨_, ⟨h1, h2⟩ | ⟨g, cap, cur, hv, _, _, hcap, _⟩⟩ := h
    · injection h1 with _ _ e
      omega
    · injection hv with _ _ e
      omega
  · intro e
    obtain ⟨_, ⟨h1, h2⟩ | ⟨g, cap, cur, hv, _⟩⟩ := h
    · injection h1
    · injection hv with e1
      rw [e] at e1
      cases e1
  · obtain ⟨_, ⟨h1, h2⟩ | ⟨g, cap, cur, hv, _, hc, _⟩⟩ := h
    · injection h1 with e1
      rw [e] at e1
      cases e1
    · injection hv with e1
      rw [e] at e1
      cases e1
      exact (Array.getElem?_eq_some_iff.1 hc).1
theorem prL_mem : ∀ (F : List Fd) (p : Fd), p ∈ F → p.name.length + p.body.length ≤ (prL F).length
  | q :: r, p, h => by
    have e : (prL (q :: r)).length = (wrF q).length + (prL r).length := by unfold prL; simp
    rw [e]
    rcases List.mem_cons.1 h with rfl | h
    · unfold wrF
      simp
      omega
    · have := prL_mem r p h
      omega

set_option maxRecDepth 100000 in
set_option maxHeartbeats 16000000 in
theorem walk {w : World} (a0 : Option Addr) (l : List UInt8) (cap0 : Nat) (hr : Bts a0 l w) (hl : l.length ≤ 1048576) (hcp : l.length ≤ cap0) (hn0 : a0 = none → cap0 = 0) (hcm : cap0 ≤ 9223372036854775807)
    (a1 : Option Addr) (m : List UInt8) (cap1 : Nat) (hr1 : Bts a1 m w) (hm : m.length ≤ 1048576) (_hcp1 : m.length ≤ cap1) (hn1 : a1 = none → cap1 = 0) (_hcm1 : cap1 ≤ 9223372036854775807) (hT : Table w) :
    Calls Tryd.prog 4 #[.slice a0 l.length cap0, .slice a1 m.length cap1] w fun e w' => e = .returned (.bool true) ∧ Below w.heap.size w w' := by
  have HR : Hid (Bts a0 l w) := hr
  have HR1 : Hid (Bts a1 m w) := hr1
  have HT : Hid (Table w) := hT
  have HN0 : Hid (a0 = none → cap0 = 0) := hn0
  have HN1 : Hid (a1 = none → cap1 = 0) := hn1
  have HWK : Hid (∀ wx, Table wx → Calls Tryd.prog 7 #[] wx fun e w' => e = .returned (.bool true) ∧ Below wx.heap.size wx w') := fun wx h => wakes_any wx h
  have hlI : (l.length : Int) ≤ 1048576 := by omega
  have hmI : (m.length : Int) ≤ 1048576 := by omega
  have HFP : Hid (∀ wx, Bts a0 l wx → Table wx → Calls Tryd.prog 8 #[.slice a0 l.length cap0] wx fun e w' => ∃ b c, e = .returned (.tuple #[.slice b (fsP l (prsF l)).length c, .int .i64 (btP (prsF l) : Int), .agg #[.int .i64 ((spP (prsF l)).1 : Int), .int .i64 ((spP (prsF l)).2 : Int)]]) ∧ Below wx.heap.size wx w' ∧ w'.ownsRow wx.heap.size 32 2 (.slice b (fsP l (prsF l)).length c) (fsP l (prsF l)).length (cellsF (fsP l (prsF l)))) := fun wx h h2 => fparse_rowG a0 l cap0 hcp hcm (by omega) wx h h2
  have HUP : Hid (∀ wx, Bts a0 l wx → Calls Tryd.prog 9 #[.slice a0 l.length cap0] wx fun e w' => ∃ b c, e = .returned (.tuple #[.slice b (fsP l (prsF l)).length c, .int .i64 (btP (prsF l) : Int), .agg #[.int .i64 ((spP (prsF l)).1 : Int), .int .i64 ((spP (prsF l)).2 : Int)]]) ∧ Below wx.heap.size wx w' ∧ w'.ownsRow wx.heap.size 32 2 (.slice b (fsP l (prsF l)).length c) (fsP l (prsF l)).length (cellsF (fsP l (prsF l)))) := fun wx h => uparse_row a0 l cap0 (by omega) wx h
  have HPA : Hid (∀ (b : Option Addr) (n c : Nat) (B : Nat) (wx : World), n = (l ++ m).length → wx.ownsRow B 5 1 (.slice b n c) n (cellsB (l ++ m)) → Table wx →
      Calls Tryd.prog 8 #[.slice b n c] wx fun e w' => ∃ b2 c2, e = .returned (.tuple #[.slice b2 (fsP (l ++ m) (prsF (l ++ m))).length c2, .int .i64 (btP (prsF (l ++ m)) : Int), .agg #[.int .i64 ((spP (prsF (l ++ m))).1 : Int), .int .i64 ((spP (prsF (l ++ m))).2 : Int)]]) ∧ Below wx.heap.size wx w' ∧ w'.ownsRow wx.heap.size 32 2 (.slice b2 (fsP (l ++ m) (prsF (l ++ m))).length c2) (fsP (l ++ m) (prsF (l ++ m))).length (cellsF (fsP (l ++ m) (prsF (l ++ m))))) := by
    intro b n c B wx hn ho hTx
    obtain ⟨k1, k2, k3, k4⟩ := own_nn ho
    obtain ⟨ad, cp, hv, hbt, -⟩ := own_bts ho
    injection hv with hv1 hv2 hv3
    subst hv1
    subst hn
    exact fparse_rowG b (l ++ m) c k1 k2 (by rw [List.length_append]; omega) wx hbt hTx
  have hFl := fsP_few l
  have hFl2 := fsP_few (l ++ m)
  -- what is told
  have hprE : prE (fsP l (prsF l)) = 0 ∧ (prL (fsP l (prsF l))).length ≤ l.length := by
    rcases again_all l with ⟨ps, A, h1, h2, _, h4, h5, _⟩ | ⟨e, h1, _⟩
    · rw [h1]
      exact ⟨h2, by show (prL (ps.map (fdOf l))).length ≤ l.length; omega⟩
    · rw [h1]
      exact ⟨rfl, by show (prL []).length ≤ _; exact Nat.zero_le _⟩
  have hcase : ((spP (prsF l)).1 = 0 ∧ (btP (prsF l) = (prL (fsP l (prsF l))).length ∨ (btP (prsF l) ≠ (prL (fsP l (prsF l))).length ∧ fsP (l ++ m) (prsF (l ++ m)) = fsP l (prsF l) ∧ btP (prsF (l ++ m)) = btP (prsF l) ∧ spP (prsF (l ++ m)) = spP (prsF l)))) ∨
      ((spP (prsF l)).1 ≠ 0 ∧ (spP (prsF l)).2 ≤ l.length ∧ (l.length ≤ (spP (prsF l)).2 + 1 ∨ ((spP (prsF l)).2 + 1 < l.length ∧ fsP (l ++ m) (prsF (l ++ m)) = [] ∧ btP (prsF (l ++ m)) = 0 ∧ spP (prsF (l ++ m)) = spP (prsF l)))) := by
    obtain ⟨ha, hb⟩ := ahead_all l m
    rcases again_all l with ⟨ps, A, h1, _⟩ | ⟨e, h1, h2, h9⟩
    · left
      rw [h1]
      refine ⟨rfl, ?_⟩
      by_cases hA : A = (prL (ps.map (fdOf l))).length
      · exact .inl hA
      · obtain ⟨h3, h4⟩ := ha ps A h1 hA
        rw [h3]
        exact .inr ⟨hA, h4, rfl, rfl⟩
    · right
      rw [h1]
      refine ⟨by show e.1 ≠ 0; omega, h9, ?_⟩
      by_cases hE : e.2 + 1 < l.length
      · rw [hb e h1 hE]
        exact .inr ⟨hE, rfl, rfl, rfl⟩
      · exact .inl (by show l.length ≤ e.2 + 1; omega)
  have HMEM : Hid (∀ p ∈ fsP l (prsF l), p.name.length ≤ 140737488351232 ∧ p.body.length ≤ 140737488351232) := fun p hp => by have := prL_mem _ p hp; omega
  have HPE : Hid (prE (fsP l (prsF l)) = 0) := hprE.1
  have HPLl := hprE.2
  clear hr hr1 hT hprE hn0 hn1
  generalize fsP l (prsF l) = F at *
  generalize btP (prsF l) = A at *
  generalize spP (prsF l) = S at *
  generalize fsP (l ++ m) (prsF (l ++ m)) = F2 at *
  generalize btP (prsF (l ++ m)) = A2 at *
  generalize spP (prsF (l ++ m)) = S2 at *
  obtain ⟨X, Y⟩ := S
  obtain ⟨X2, Y2⟩ := S2
  dsimp only at HFP HUP HPA hcase
  have HCASE : Hid _ := hcase
  generalize hP : prL F = P at *
  have HP : Hid (prL F = P) := hP
  have hPI : (P.length : Int) ≤ 1048576 := by omega
  have hFI : (F.length : Int) ≤ 4096 := by omega
  clear hP hcase
  go_enter Tryd.func4, Tryd.ntmps4
  go_wp2_with fail
  refine (HWK.out _ HT.out).mono ?_
  rintro e w1 ⟨rfl, hb1⟩
  have HB1 : Hid (Below w.heap.size w w1) := hb1
  clear hb1 HWK
  go_wp2_with fail
  refine (HFP.out _ (HR.out.below HB1.out) (tab_below HT.out HB1.out)).mono ?_
  rintro e w2 ⟨b2, c2, rfl, hb2, ho2⟩
  have HB2 : Hid (Below w.heap.size w w2) := HB1.out.trans (hb2.mono HB1.out.size)
  have HO2 : Hid (w2.ownsRow w1.heap.size 32 2 (.slice b2 F.length c2) F.length (cellsF F)) := ho2
  clear ho2 hb2 HFP HB1
  obtain ⟨W2, hW2⟩ : ∃ W2, W2 = w2.alloc (.cells #[.int .i64 (X : Int), .int .i64 (Y : Int)] 27) := ⟨_, rfl⟩
  have HW2 : Hid (w2.alloc (.cells #[.int .i64 (X : Int), .int .i64 (Y : Int)] 27) = W2) := hW2.symm
  have hxW2 : Below w2.heap.size w2 W2 := by rw [hW2]; exact (Below.refl _ _).alloc (Nat.le_refl _) _
  have HSW2 : Hid (Lies W2 w2.heap.size #[.int .i64 (X : Int), .int .i64 (Y : Int)] 27) := by rw [hW2]; exact Lies.new w2 _ _
  have HBW2 : Hid (Below w.heap.size w W2) := HB2.out.trans (hxW2.mono HB2.out.size)

  have HOX : Hid (W2.ownsRow w1.heap.size 32 2 (.slice b2 F.length c2) F.length (cellsF F)) := ownT_below HO2.out hxW2
  have hz2 : w2.heap.size < W2.heap.size := HSW2.out.lt
  have HPR := fprint_any b2 c2 F W2 (fds_own16 HOX.out) (by omega) HMEM.out (tab_below HT.out HBW2.out) (fun _ => by rw [HP.out]; omega)
  rw [HPE.out, HP.out] at HPR
  clear hW2 hxW2 HB2 HO2 HMEM HPE
  go_wp2_with fail
  rw [HW2.out]
  refine HPR.mono ?_
  rintro e w5 ⟨v5, rfl, hb5, -, ho5⟩
  have ho6 := ho5 trivial
  obtain ⟨a5, c5, hv5, -⟩ := own_bts ho6
  subst hv5
  have HB5 : Hid (Below w.heap.size w w5) := HBW2.out.trans (hb5.mono HBW2.out.size)
  have HS5 : Hid (Lies w5 w2.heap.size #[.int .i64 (X : Int), .int .i64 (Y : Int)] 27) := HSW2.out.below hb5 HSW2.out.lt
  have HF5 : Hid (w5.ownsRow w1.heap.size 32 2 (.slice b2 F.length c2) F.length (cellsF F)) := ownT_below HOX.out hb5
  have hz5 : W2.heap.size ≤ w5.heap.size := hb5.size
  clear HPR hb5 ho5 ho6 HBW2 HSW2 HOX HW2
  go_upto_region 5 with fail
  refine wp_region_lit ?_
  refine wpList_plain rfl (fun K hK => ?_)
  go_simp
  refine hK _ _ ?_
  refine wpList_plain rfl (fun K hK => ?_)
  go_simp
  refine hK _ _ ?_
  refine wpList_appB rfl _ _ rfl w5.heap.size (.slice (some ⟨w5.heap.size, 0, none⟩) 0 0) 0 [] rfl (World.ownsRow_made w5 #[] 0 (Nat.le_refl _) (by unfold maxLen; omega) rfl) a0 l l.length cap0 rfl rfl (HR.out.below (HB5.out.alloc HB5.out.size _)) HN0.out (by omega) (by simp) ?_
  intro v6 w6 ho6 hg6
  have HO7 : Hid (w6.ownsRow w5.heap.size 5 1 v6 (0 + l.length) (cellsB ([] ++ l))) := ho6
  have HG6 : Hid (Below w5.heap.size w5 w6) := ((Below.refl _ _).alloc (Nat.le_refl _) _).grown hg6 (by simp) (fun q hq => by cases hq; exact Nat.le_refl _)
  clear ho6 hg6
  refine wpList_plain rfl (fun K hK => ?_)
  go_simp
  refine hK _ _ ?_
  refine wpList_appB rfl _ _ rfl w5.heap.size v6 (0 + l.length) ([] ++ l) rfl HO7.out a1 m m.length cap1 rfl rfl (HR1.out.below (HB5.out.trans (HG6.out.mono HB5.out.size))) HN1.out (by omega) HG6.out.size ?_
  intro v8 w8 ho8 hg8
  have HG8 : Hid (Below w5.heap.size w5 w8) := HG6.out.grown hg8 HG6.out.size (fun q hq => (HO7.out.lt q hq).1)
  obtain ⟨a8, cp8, hv8, -⟩ := own_bts ho8
  obtain ⟨n8, hn8⟩ : ∃ n8, n8 = 0 + l.length + m.length := ⟨_, rfl⟩
  rw [← hn8] at hv8 ho8
  subst hv8
  have HOA : Hid (w8.ownsRow w5.heap.size 5 1 (.slice a8 n8 cp8) n8 (cellsB (l ++ m))) := by
    rw [List.nil_append] at ho8
    exact ho8
  have HB8 : Hid (Below w.heap.size w w8) := HB5.out.trans (HG8.out.mono HB5.out.size)
  have HS8 : Hid (Lies w8 w2.heap.size #[.int .i64 (X : Int), .int .i64 (Y : Int)] 27) := HS5.out.below HG8.out HS5.out.lt
  have HF8 : Hid (w8.ownsRow w1.heap.size 32 2 (.slice b2 F.length c2) F.length (cellsF F)) := ownT_below HF5.out HG8.out
  have HPB := HPA.out a8 n8 cp8 w5.heap.size w8 (by rw [hn8]; simp) HOA.out (tab_below HT.out HB8.out)
  have hz8 : w5.heap.size ≤ w8.heap.size := HG8.out.size
  clear ho8 hg8 HO7 HG6 HG8 HOA hn8 HPA HS5 HF5 HB5 HR1
  refine wpList_plain rfl (fun K hK => ?_)
  go_simp
  refine HPB.mono ?_
  rintro e w9 ⟨b9, c9, rfl, hb9, ho9⟩
  have HB9 : Hid (Below w.heap.size w w9) := HB8.out.trans (hb9.mono HB8.out.size)
  have HS9 : Hid (Lies w9 w2.heap.size #[.int .i64 (X : Int), .int .i64 (Y : Int)] 27) := HS8.out.below hb9 HS8.out.lt
  have HF9 : Hid (w9.ownsRow w1.heap.size 32 2 (.slice b2 F.length c2) F.length (cellsF F)) := ownT_below HF8.out hb9
  have HG9 : Hid (w9.ownsRow w8.heap.size 32 2 (.slice b9 F2.length c9) F2.length (cellsF F2)) := ho9
  have hz9 : w8.heap.size ≤ w9.heap.size := hb9.size
  clear hb9 ho9 HB8 HS8 HF8 HPB
  refine hK _ _ ?_
  obtain ⟨W9, hW9⟩ : ∃ W9, W9 = w9.alloc (.cells #[.int .i64 (X2 : Int), .int .i64 (Y2 : Int)] 27) := ⟨_, rfl⟩
  have HW9 : Hid (w9.alloc (.cells #[.int .i64 (X2 : Int), .int .i64 (Y2 : Int)] 27) = W9) := hW9.symm
  have hxW9 : Below w9.heap.size w9 W9 := by rw [hW9]; exact (Below.refl _ _).alloc (Nat.le_refl _) _
  have HSW9 : Hid (Lies W9 w9.heap.size #[.int .i64 (X2 : Int), .int .i64 (Y2 : Int)] 27) := by rw [hW9]; exact Lies.new w9 _ _
  have HBW9 : Hid (Below w.heap.size w W9) := HB9.out.trans (hxW9.mono HB9.out.size)
  have HS10 : Hid (Lies W9 w2.heap.size #[.int .i64 (X : Int), .int .i64 (Y : Int)] 27) := HS9.out.below hxW9 HS9.out.lt
  have HF10 : Hid (W9.ownsRow w1.heap.size 32 2 (.slice b2 F.length c2) F.length (cellsF F)) := ownT_below HF9.out hxW9
  have HG10 : Hid (W9.ownsRow w8.heap.size 32 2 (.slice b9 F2.length c9) F2.length (cellsF F2)) := ownT_below HG9.out hxW9
  have hz10 : w9.heap.size < W9.heap.size := HSW9.out.lt
  clear hW9 hxW9 HB9 HS9 HF9 HG9
  go_wp2_with (rw [HW9.out])
  refine (HUP.out _ (HR.out.below HBW9.out)).mono ?_
  rintro e wa ⟨ba, ca, rfl, hba, -⟩
  have HBa : Hid (Below w.heap.size w wa) := HBW9.out.trans (hba.mono HBW9.out.size)
  have HS11 : Hid (Lies wa w2.heap.size #[.int .i64 (X : Int), .int .i64 (Y : Int)] 27) := HS10.out.below hba HS10.out.lt
  have HT11 : Hid (Lies wa w9.heap.size #[.int .i64 (X2 : Int), .int .i64 (Y2 : Int)] 27) := HSW9.out.below hba HSW9.out.lt
  have HF11 : Hid (wa.ownsRow w1.heap.size 32 2 (.slice b2 F.length c2) F.length (cellsF F)) := ownT_below HF10.out hba
  have HG11 : Hid (wa.ownsRow w8.heap.size 32 2 (.slice b9 F2.length c9) F2.length (cellsF F2)) := ownT_below HG10.out hba
  have hz11 : W9.heap.size ≤ wa.heap.size := hba.size
  clear hba HBW9 HSW9 HS10 HF10 HG10 HUP HW9
  obtain ⟨Wa, hWa⟩ : ∃ Wa, Wa = wa.alloc (.cells #[.int .i64 (X : Int), .int .i64 (Y : Int)] 27) := ⟨_, rfl⟩
  have HWa : Hid (wa.alloc (.cells #[.int .i64 (X : Int), .int .i64 (Y : Int)] 27) = Wa) := hWa.symm
  have hxWa : Below wa.heap.size wa Wa := by rw [hWa]; exact (Below.refl _ _).alloc (Nat.le_refl _) _
  have HSWa : Hid (Lies Wa wa.heap.size #[.int .i64 (X : Int), .int .i64 (Y : Int)] 27) := by rw [hWa]; exact Lies.new wa _ _
  have HBWa : Hid (Below w.heap.size w Wa) := HBa.out.trans (hxWa.mono HBa.out.size)
  have hs1 := HS11.out.below hxWa HS11.out.lt
  have hs2 := HT11.out.below hxWa HT11.out.lt
  have HF12 : Hid (Wa.ownsRow w1.heap.size 32 2 (.slice b2 F.length c2) F.length (cellsF F)) := ownT_below HF11.out hxWa
  have HG12 : Hid (Wa.ownsRow w8.heap.size 32 2 (.slice b9 F2.length c9) F2.length (cellsF F2)) := ownT_below HG11.out hxWa
  have p0 := hs1.cell 0
  have p1 := hs1.cell 1
  have p2 := hs2.cell 0
  have p3 := hs2.cell 1
  have p4 := HSWa.out.cell 0
  have p5 := HSWa.out.cell 1
  simp only [List.getElem?_toArray, List.getElem?_cons_zero, List.getElem?_cons_succ] at p0 p1 p2 p3 p4 p5
  have hz12 : wa.heap.size < Wa.heap.size := HSWa.out.lt
  clear hWa hxWa hs1 hs2 HS11 HT11 HF11 HG11 HBa HSWa
  rcases HCASE.out with ⟨hX, hA | ⟨hA, hF2, hA2, hS2⟩⟩ | ⟨hX, hYl, hY | ⟨hY, hF2, hA2, hS2⟩⟩
  · subst hX
    subst hA
    rw [show ((0 : Nat) : Int) = 0 from rfl] at p0 p4 HWa
    clear HF12 HG12 HCASE
    go_wp2_with (rw [HWa.out])
    go_ret
    exact ⟨rfl, HBWa.out⟩
  · subst hX
    subst hF2
    subst hA2
    injection hS2 with hS3 hS4
    subst hS3
    subst hS4
    rw [show ((0 : Nat) : Int) = 0 from rfl] at p0 p2 p4 HWa
    have e1 : ((A2 : Int) == (P.length : Int)) = false := by rw [beq_eq_false_iff_ne]; omega
    have e2 : ¬ A2 = P.length := hA
    have HSM := lsame_eq b2 b9 c2 c9 F2 Wa (fds_own16 HF12.out) (fds_own16 HG12.out) (by omega)
    clear HF12 HG12 HCASE
    go_wp2_with (rw [HWa.out])
    refine HSM.mono ?_
    rintro e wb ⟨rfl, hbb⟩
    have HBb : Hid (Below w.heap.size w wb) := HBWa.out.trans (hbb.mono HBWa.out.size)
    clear hbb HSM
    go_wp2_with fail
    go_ret
    exact ⟨rfl, HBb.out⟩
  · have e0 : ((X : Int) == 0) = false := by rw [beq_eq_false_iff_ne]; omega
    have e1 : ¬ (X : Int) = 0 := by omega
    have e2 : IntKind.i64.wrap ((Y : Int) + 1) = (Y : Int) + 1 := by rw [IntKind.wrap_i64]; omega
    have e3 : (l.length : Int) ≤ (Y : Int) + 1 := by omega
    clear HF12 HG12 HCASE
    go_wp2_with (rw [HWa.out])
    go_ret
    exact ⟨rfl, HBWa.out⟩
  · subst hF2
    subst hA2
    injection hS2 with hS3 hS4
    subst hS3
    subst hS4
    have e0 : ((X2 : Int) == 0) = false := by rw [beq_eq_false_iff_ne]; omega
    have e1 : ¬ (X2 : Int) = 0 := by omega
    have e2 : IntKind.i64.wrap ((Y2 : Int) + 1) = (Y2 : Int) + 1 := by rw [IntKind.wrap_i64]; omega
    have e3 : ¬ (l.length : Int) ≤ (Y2 : Int) + 1 := by omega
    clear HF12 HG12 HCASE
    go_wp2_with (rw [HWa.out])
    go_ret
    exact ⟨rfl, HBWa.out⟩
end Go.Proofs.YtpepjiocjcjeeabDoor.fieldAhead
