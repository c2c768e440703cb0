/-
  FieldBack's walk.
-/
import Derived.Test.YtpepjiocjcjeeaaDoorCardF16
import Derived.Test.YtpepjiocjcjeeaaDoorOpU16
namespace Go.Proofs.YtpepjiocjcjeeaaDoor.fieldBack
open Go.ChangeShapes Go.WideShapes Go.ChangeAt Go.RowKit
theorem own_nn {w : World} {B n c : Nat} {a : Option Addr} {xs : List Value} (h : w.ownsRow B 5 1 (.slice a n c) n xs) : n ≤ c ∧ c ≤ 9223372036854775807 ∧ (a = none → c = 0) ∧ (∀ ad, a = some ad → ad.block < w.heap.size) := by
  refine ⟨?_, own_capT h, ?_, fun ad e => ?_⟩
  · obtain ⟨_, ⟨h1, h2⟩ | ⟨g, cap, cur, hv, _, _, hcap, _⟩⟩ := h
    · injection h1 with _ _ e
      omega
    · injection hv with _ _ e
      omega
  · intro e
    obtain ⟨_, ⟨h1, h2⟩ | ⟨g, cap, cur, hv, _⟩⟩ := h
    · injection h1
    · injection hv with e1
      rw [e] at e1
      cases e1
  · obtain ⟨_, ⟨h1, h2⟩ | ⟨g, cap, cur, hv, _, hc, _⟩⟩ := h
    · injection h1 with e1
      rw [e] at e1
      cases e1
    · injection hv with e1
      rw [e] at e1
      cases e1
      exact (Array.getElem?_eq_some_iff.1 hc).1
theorem own_keepF {W : World} {B n : Nat} {v : Value} {xs : List Value} (h : W.ownsRow B 34 2 v n xs) (b i : Nat) (hb : b < B) (x : Value) : (W.setCell ⟨b, i, none⟩ x).ownsRow B 34 2 v n xs := ownX_set h b i hb x
theorem two_bts (w : World) : Bts (some ⟨w.heap.size, 0, none⟩) [13, 10] (w.alloc (.cells #[.int .u8 13, .int .u8 10] 5)) := .inr ⟨w.heap.size, 0, rfl, by simp, fun j hj => by
  rw [Nat.zero_add]
  exact (cell_of_row _ w.heap.size j _ 5 (0, 0) (heap_alloc_new w _)).trans (by rw [show (#[Value.int .u8 13, .int .u8 10] : Array Value) = (cellsB [13, 10]).toArray from rfl, List.getElem?_toArray]; exact cellsB_at _ _ hj)⟩
set_option maxRecDepth 100000 in
set_option maxHeartbeats 16000000 in
theorem walk {w : World} (a0 : Option Addr) (l : List Fd) (cap0 : Nat) (hr : Fds a0 l w) (_hn0 : a0 = none → cap0 = 0) (hl : l.length ≤ 1048576) (htt : totF l ≤ 1048576)
    (a1 : Option Addr) (m : List UInt8) (cap1 : Nat) (hr1 : Bts a1 m w) (hm : m.length ≤ 1048576) (_hcp1 : m.length ≤ cap1) (hn1 : a1 = none → cap1 = 0) (_hcm1 : cap1 ≤ 9223372036854775807) (hT : Table w) :
    Calls Tryd.prog 6 #[.slice a0 l.length cap0, .slice a1 m.length cap1] w fun e w' => e = .returned (.bool true) ∧ Below w.heap.size w w' := by
  have HR : Hid (Fds a0 l w) := hr
  have HR1 : Hid (Bts a1 m w) := hr1
  have HT : Hid (Table w) := hT
  have hPl := prR_le l hl htt
  have HN1 : Hid (a1 = none → cap1 = 0) := hn1
  have HWK : Hid (∀ wx, Table wx → Calls Tryd.prog 22 #[] wx fun e w' => e = .returned (.bool true) ∧ Below wx.heap.size wx w') := fun wx h => wakes_any wx h
  have HUP : Hid (∀ (a : Option Addr) (cap : Nat) (wx : World), Fds a l wx → Calls Tryd.prog 14 #[.slice a l.length cap] wx fun e w' => ∃ b c, e = .returned (.tuple #[.slice b (prR l).length c, .int .i64 (prE l : Int)]) ∧ Below wx.heap.size wx w' ∧ w'.ownsRow wx.heap.size 5 1 (.slice b (prR l).length c) (prR l).length (cellsB (prR l))) := fun a cap wx h => uprint_row a cap l wx h hl htt
  have HFP : Hid (∀ (a : Option Addr) (cap : Nat) (wx : World), Fds a l wx → Table wx → Calls Tryd.prog 17 #[.slice a l.length cap] wx fun e w' => ∃ b c, e = .returned (.tuple #[.slice b (prR l).length c, .int .i64 (prE l : Int)]) ∧ Below wx.heap.size wx w' ∧ w'.ownsRow wx.heap.size 5 1 (.slice b (prR l).length c) (prR l).length (cellsB (prR l))) := fun a cap wx h h2 => fprint_row a cap l wx h hl htt h2
  have HPA : Hid (∀ (R : List UInt8), R.length ≤ 1048578 → (R = [] ∨ leH R = true) → prE l = 0 → ∀ (b : Option Addr) (n c : Nat) (B : Nat) (wx : World), n = (prR l ++ R).length → wx.ownsRow B 5 1 (.slice b n c) n (cellsB (prR l ++ R)) → Table wx →
      Calls Tryd.prog 9 #[.slice b n c] wx fun e w' => ∃ b2 c2, e = .returned (.tuple #[.slice b2 l.length c2, .int .i64 (((prR l).length + (if R = [] then 0 else 2) : Nat) : Int), .agg #[.int .i64 0, .int .i64 0]]) ∧ Below wx.heap.size wx w' ∧ w'.ownsRow wx.heap.size 34 2 (.slice b2 l.length c2) l.length (cellsF l)) := by
    intro R hRl hR hE b n c B wx hn ho hTx
    obtain ⟨ps, h1, h2⟩ := back_all l hE R hR
    have hpr : prR l = prL l := by unfold prR; rw [if_pos hE]
    obtain ⟨k1, k2, k3, k4⟩ := own_nn ho
    obtain ⟨ad, cp, hv, hbt, -⟩ := own_bts ho
    injection hv with hv1 hv2 hv3
    subst hv1
    subst hn
    have h3 := fparse_row b (prR l ++ R) c k1 k2 (by rw [List.length_append]; omega) wx k4 hbt hTx
    rw [hpr] at h3 ⊢
    rw [h1] at h3
    rw [show fsP (prL l ++ R) (.ok (ps, (prL l).length + (if R = [] then 0 else 2))) = l from h2] at h3
    exact h3
  have hlI : (l.length : Int) ≤ 1048576 := by omega
  have hmI : (m.length : Int) ≤ 1048576 := by omega
  have hPe : Hid (prE l ≠ 0 → (prR l).length = 0) := fun h => by unfold prR; rw [if_neg h]; rfl
  clear hr hr1 htt hT hn1
  generalize prR l = P at *
  generalize prE l = E at *
  have hPI : (P.length : Int) ≤ 4194304 := by omega
  go_enter Tryd.func6, Tryd.ntmps6
  go_wp2_with fail
  refine (HWK.out _ HT.out).mono ?_
  rintro e w1 ⟨rfl, hb1⟩
  have HB1 : Hid (Below w.heap.size w w1) := hb1
  clear hb1 HWK
  go_wp2_with fail
  refine (HFP.out _ _ _ (HR.out.below HB1.out) (tab_below HT.out HB1.out)).mono ?_
  rintro e w2 ⟨b2, c2, rfl, hb2, ho2⟩
  have HO2 : Hid (w2.ownsRow w1.heap.size 5 1 (.slice b2 P.length c2) P.length (cellsB P)) := ho2
  have HB2 : Hid (Below w.heap.size w w2) := HB1.out.trans (hb2.mono HB1.out.size)
  clear ho2 hb2 HFP HB1
  go_wp2_with fail
  refine (HUP.out _ _ _ (HR.out.below HB2.out)).mono ?_
  rintro e w3 ⟨b3, c3, rfl, hb3, -⟩
  have HO3 : Hid (w3.ownsRow w1.heap.size 5 1 (.slice b2 P.length c2) P.length (cellsB P)) := ownT_below HO2.out hb3
  have HB3 : Hid (Below w.heap.size w w3) := HB2.out.trans (hb3.mono HB2.out.size)
  clear hb3 HUP HB2 HO2
  by_cases hE : E = 0
  · have hEI : ((E : Int) == 0) = true := by rw [beq_iff_eq]; omega
    have HPA0 := HPA.out [] (by simp) (.inl rfl) hE b2 P.length c2 w1.heap.size w3 (by simp) (by rw [List.append_nil]; exact HO3.out) (tab_below HT.out HB3.out)
    rw [if_pos rfl, Nat.add_zero] at HPA0
    have HPA1 : Hid (∀ (b : Option Addr) (n c : Nat) (B : Nat) (wx : World), n = (P ++ ([13, 10] ++ m)).length → wx.ownsRow B 5 1 (.slice b n c) n (cellsB (P ++ ([13, 10] ++ m))) → Table wx →
      Calls Tryd.prog 9 #[.slice b n c] wx fun e w' => ∃ b2 c2, e = .returned (.tuple #[.slice b2 l.length c2, .int .i64 ((P.length + 2 : Nat) : Int), .agg #[.int .i64 0, .int .i64 0]]) ∧ Below wx.heap.size wx w' ∧ w'.ownsRow wx.heap.size 34 2 (.slice b2 l.length c2) l.length (cellsF l)) := by
      have := HPA.out ([13, 10] ++ m) (by simp; omega) (.inr rfl) hE
      rw [if_neg (by simp)] at this
      exact this
    subst hE
    clear HPA hPe
    go_wp2_with fail
    refine HPA0.mono ?_
    rintro e w4 ⟨b4, c4, rfl, hb4, ho4⟩
    have HO4 : Hid (w4.ownsRow w1.heap.size 5 1 (.slice b2 P.length c2) P.length (cellsB P)) := ownT_below HO3.out hb4
    have HB4 : Hid (Below w.heap.size w w4) := HB3.out.trans (hb4.mono HB3.out.size)
    have HF4 : Hid (w4.ownsRow w3.heap.size 34 2 (.slice b4 l.length c4) l.length (cellsF l)) := ho4
    clear ho4 hb4 HPA0 HO3 HB3
    obtain ⟨W4, hW4⟩ : ∃ W4, W4 = w4.alloc (.cells #[.int .i64 0, .int .i64 0] 27) := ⟨_, rfl⟩
    have HW4 : Hid (w4.alloc (.cells #[.int .i64 0, .int .i64 0] 27) = W4) := hW4.symm
    have hx4 : Below w4.heap.size w4 W4 := by rw [hW4]; exact (Below.refl _ _).alloc (Nat.le_refl _) _
    have HS4 : Hid (Lies W4 w4.heap.size #[.int .i64 0, .int .i64 0] 27) := by rw [hW4]; exact Lies.new w4 _ _
    have HO5 : Hid (W4.ownsRow w1.heap.size 5 1 (.slice b2 P.length c2) P.length (cellsB P)) := ownT_below HO4.out hx4
    have HB5 : Hid (Below w.heap.size w W4) := HB4.out.trans (hx4.mono HB4.out.size)
    have HF5 : Hid (W4.ownsRow w3.heap.size 34 2 (.slice b4 l.length c4) l.length (cellsF l)) := ownT_below HF4.out hx4
    have HSM := lsame_eq b4 a0 c4 cap0 l W4 (fds_own16 HF5.out) (HR.out.below HB5.out) (by omega)
    have s0 := HS4.out.cell 0
    have s1 := HS4.out.cell 1
    simp only [List.getElem?_toArray, List.getElem?_cons_zero, List.getElem?_cons_succ] at s0 s1
    have hz4 : w.heap.size ≤ w4.heap.size := HB4.out.size
    clear hW4 hx4 HO4 HB4 HF4
    go_wp2_with fail
    rw [HW4.out]
    refine HSM.mono ?_
    rintro e w5 ⟨rfl, hb5⟩
    have HS5 : Hid (Lies w5 w4.heap.size #[.int .i64 0, .int .i64 0] 27) := HS4.out.below hb5 HS4.out.lt
    have HO6 : Hid (w5.ownsRow w1.heap.size 5 1 (.slice b2 P.length c2) P.length (cellsB P)) := ownT_below HO5.out hb5
    have HB6 : Hid (Below w.heap.size w w5) := HB5.out.trans (hb5.mono HB5.out.size)
    have HR6 : Hid (Bts a1 m w5) := HR1.out.below HB6.out
    have HZ4 : Hid (w.heap.size ≤ w4.heap.size) := hz4
    have HZ5 : Hid (W4.heap.size ≤ w5.heap.size) := hb5.size
    clear hb5 s0 s1 HSM HF5 HO5 HB5 HS4 HW4
    obtain ⟨k1, k2, k3, k4⟩ := own_nn HO6.out
    have HK3 : Hid (b2 = none → c2 = 0) := k3
    have HA1 : Hid (Bts b2 P (w5.alloc (.cells #[] 5))) := by
      obtain ⟨ad, cp, hv, hbt, -⟩ := own_bts HO6.out
      injection hv with hv1
      subst hv1
      exact hbt.below ((Below.refl _ _).alloc (Nat.le_refl _) _)
    have hPI2 : P.length ≤ 4194304 := by omega
    clear k1 k2 k3 k4
    go_upto_region 10 with fail
    refine wp_region_lit ?_
    refine wpList_plain rfl (fun K hK => ?_)
    go_simp
    refine hK _ _ ?_
    refine wpList_plain rfl (fun K hK => ?_)
    go_simp
    refine hK _ _ ?_
    refine wpList_appB rfl _ _ rfl w5.heap.size (.slice (some ⟨w5.heap.size, 0, none⟩) 0 0) 0 [] rfl (World.ownsRow_made w5 #[] 0 (Nat.le_refl _) (by unfold maxLen; omega) rfl) b2 P P.length c2 rfl rfl HA1.out HK3.out (by omega) (by simp) ?_
    intro v6 w6 ho6 hg6
    have HO7 : Hid (w6.ownsRow w5.heap.size 5 1 v6 (0 + P.length) (cellsB ([] ++ P))) := ho6
    have HG6 : Hid (Below w5.heap.size w5 w6) := ((Below.refl _ _).alloc (Nat.le_refl _) _).grown hg6 (by simp) (fun q hq => by cases hq; exact Nat.le_refl _)
    clear ho6 hg6
    refine wpList_plain rfl (fun K hK => ?_)
    go_simp
    refine hK _ _ ?_
    refine wpList_appB rfl _ _ rfl w5.heap.size v6 (0 + P.length) ([] ++ P) rfl (HO7.out.alloc _) (some ⟨w6.heap.size, 0, none⟩) [13, 10] 2 2 rfl rfl (two_bts w6) (fun h => by cases h) (by omega) (by have := HG6.out.size; simp; omega) ?_
    intro v7 w7 ho7 hg7
    have HO8 : Hid (w7.ownsRow w5.heap.size 5 1 v7 (0 + P.length + 2) (cellsB (([] ++ P) ++ [13, 10]))) := ho7
    have HG7 : Hid (Below w5.heap.size w5 w7) := (HG6.out.alloc (by have := HG6.out.size; omega) _).grown hg7 (by have := HG6.out.size; simp; omega) (fun q hq => (HO7.out.lt q hq).1)
    clear ho7 hg7
    refine wpList_plain rfl (fun K hK => ?_)
    go_simp
    refine hK _ _ ?_
    refine wpList_appB rfl _ _ rfl w5.heap.size v7 (0 + P.length + 2) (([] ++ P) ++ [13, 10]) rfl HO8.out a1 m m.length cap1 rfl rfl (HR6.out.below (HG7.out.mono (Nat.le_refl _))) HN1.out (by omega) HG7.out.size ?_
    intro v8 w8 ho8 hg8
    have HO9 : Hid (w8.ownsRow w5.heap.size 5 1 v8 (0 + P.length + 2 + m.length) (cellsB ((([] ++ P) ++ [13, 10]) ++ m))) := ho8
    have HG8 : Hid (Below w5.heap.size w5 w8) := HG7.out.grown hg8 HG7.out.size (fun q hq => (HO8.out.lt q hq).1)
    clear ho8 hg8
    refine wpList_plain rfl (fun K hK => ?_)
    go_simp
    refine hK _ _ ?_
    refine wpList_nil ?_
    obtain ⟨a8, cp8, hv8, -⟩ := own_bts HO9.out
    obtain ⟨n8, hn8⟩ : ∃ n8, n8 = 0 + P.length + 2 + m.length := ⟨_, rfl⟩
    rw [← hn8] at hv8 HO9
    subst hv8
    have HOA : Hid (w8.ownsRow w5.heap.size 5 1 (.slice a8 n8 cp8) n8 (cellsB (P ++ ([13, 10] ++ m)))) := by
      have := HO9.out
      rw [List.nil_append, List.append_assoc] at this
      exact this
    have HB8 : Hid (Below w.heap.size w w8) := HB6.out.trans (HG8.out.mono HB6.out.size)
    have HS8 : Hid (Lies w8 w4.heap.size #[.int .i64 0, .int .i64 0] 27) := HS5.out.below HG8.out HS5.out.lt
    have HPB := HPA1.out a8 n8 cp8 w5.heap.size w8 (by rw [hn8]; simp; omega) HOA.out (tab_below HT.out HB8.out)
    clear HO9 HO8 HO7 HG6 HG7 HG8 HOA HA1 HK3 hn8 HR6 HO6 HB6 HS5 HZ5 HPA1
    go_wp2_with fail
    refine HPB.mono ?_
    rintro e w9 ⟨b9, c9, rfl, hb9, ho9⟩
    have HB9 : Hid (Below w.heap.size w w9) := HB8.out.trans (hb9.mono HB8.out.size)
    have hS9 := HS8.out.below hb9 HS8.out.lt
    have hbS : w.heap.size ≤ w4.heap.size := HZ4.out
    obtain ⟨WA, hWA⟩ : ∃ WA, WA = (w9.setCell ⟨w4.heap.size, 0, none⟩ (.int .i64 0)).setCell ⟨w4.heap.size, 1, none⟩ (.int .i64 0) := ⟨_, rfl⟩
    have hX : Below w4.heap.size w9 WA := by
      rw [hWA]
      exact (((Below.refl _ _).setCell (p := ⟨w4.heap.size, 0, none⟩) (Nat.le_refl _) _).setCell (p := ⟨w4.heap.size, 1, none⟩) (Nat.le_refl _) _)
    have hSA : Lies WA w4.heap.size #[.int .i64 0, .int .i64 0] 27 := by
      rw [hWA]
      exact (hS9.set 0 (.int .i64 0)).set 1 (.int .i64 0)
    have hOA : WA.ownsRow w8.heap.size 34 2 (.slice b9 l.length c9) l.length (cellsF l) := by
      rw [hWA]
      exact own_keepF (own_keepF ho9 w4.heap.size 0 HS8.out.lt _) w4.heap.size 1 HS8.out.lt _
    have HBA : Hid (Below w.heap.size w WA) := HB9.out.trans (hX.mono hbS)
    have HSM2 := lsame_eq b9 a0 c9 cap0 l WA (fds_own16 hOA) (HR.out.below HBA.out) (by omega)
    have s0 := hSA.cell 0
    have s1 := hSA.cell 1
    have t0 := hS9.cell 0
    have t1 := hS9.cell 1
    have y0 := hS9.frozen 0
    have y1 := hS9.frozen 1
    simp only [List.getElem?_toArray, List.getElem?_cons_zero, List.getElem?_cons_succ] at s0 s1 t0 t1
    have HWA : Hid ((w9.setCell ⟨w4.heap.size, 0, none⟩ (.int .i64 0)).setCell ⟨w4.heap.size, 1, none⟩ (.int .i64 0) = WA) := hWA.symm
    clear hb9 ho9 hS9 hX hSA hOA hWA HS8 HB8 HPB HB9
    go_wp2_with fail
    rw [HWA.out]
    refine HSM2.mono ?_
    rintro e wb ⟨rfl, hbb⟩
    have HBb : Hid (Below w.heap.size w wb) := HBA.out.trans (hbb.mono HBA.out.size)
    clear hbb HSM2 s0 s1 t0 t1 y0 y1
    go_wp2_with fail
    go_ret
    exact ⟨rfl, HBb.out⟩
  · have hEI : ((E : Int) == 0) = false := by rw [beq_eq_false_iff_ne]; omega
    have hE0 : ¬ (E : Int) = 0 := by omega
    have hP0 : P.length = 0 := hPe.out hE
    clear HPA hPe hE
    go_wp2_with fail
    go_ret
    exact ⟨rfl, HB3.out⟩
end Go.Proofs.YtpepjiocjcjeeaaDoor.fieldBack
