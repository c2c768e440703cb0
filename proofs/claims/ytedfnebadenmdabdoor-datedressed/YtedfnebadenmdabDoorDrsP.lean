/-
  The plain mathematics of a date's text in other capitals, with wider gaps and a remark.
-/
import Derived.Test.YtedfnebadenmdabDoorPrz
namespace Go.Proofs.YtedfnebadenmdabDoor

/-- A letter, as the statement asks. -/
def letB (c : UInt8) : Bool := (decide (97 ≤ c.toNat) && decide (c.toNat ≤ 122)) || (decide (65 ≤ c.toNat) && decide (c.toNat ≤ 90))
/-- A letter, turned about where the mask has a bit. -/
def turnB (m i : Nat) (c : UInt8) : UInt8 := if letB c = true ∧ m / 2 ^ (i % 64) % 2 = 1 then c ^^^ 32 else c
/-- What a gap is widened by. -/
def widL (n : Nat) : List UInt8 := ([32, 9, 32, 9] : List UInt8).take n
def gapL (n : Nat) : List UInt8 := 32 :: widL n
def outB (m n i : Nat) (c : UInt8) : List UInt8 := turnB m i c :: (if turnB m i c = 32 then widL n else [])
def outL (m n : Nat) : Nat → List UInt8 → List UInt8
  | _, [] => []
  | i, c :: r => outB m n i c ++ outL m n (i + 1) r
theorem outL_app (m n : Nat) : ∀ (a b : List UInt8) (i : Nat), outL m n i (a ++ b) = outL m n i a ++ outL m n (i + a.length) b
  | [], b, i => by simp [outL]
  | c :: a, b, i => by
    rw [List.cons_append, outL, outL, outL_app m n a b (i + 1), List.append_assoc, List.length_cons, Nat.add_right_comm, Nat.add_assoc]
theorem outL_nil (m n i : Nat) : outL m n i [] = [] := rfl
theorem turn_keep (m i : Nat) (c : UInt8) (h : letB c = false) : turnB m i c = c := by
  unfold turnB
  rw [if_neg (fun k => by rw [h] at k; cases k.1)]
theorem outL_cons (m n i : Nat) (c : UInt8) (r : List UInt8) (h : letB c = false) (h2 : c ≠ 32) : outL m n i (c :: r) = c :: outL m n (i + 1) r := by
  rw [outL, outB, turn_keep m i c h, if_neg h2]
  rfl
theorem outL_44 (m n i : Nat) (r : List UInt8) : outL m n i (44 :: r) = 44 :: outL m n (i + 1) r := outL_cons m n i 44 r (by decide) (by decide)
theorem outL_58 (m n i : Nat) (r : List UInt8) : outL m n i (58 :: r) = 58 :: outL m n (i + 1) r := outL_cons m n i 58 r (by decide) (by decide)
theorem outL_43 (m n i : Nat) (r : List UInt8) : outL m n i (43 :: r) = 43 :: outL m n (i + 1) r := outL_cons m n i 43 r (by decide) (by decide)
theorem outL_45 (m n i : Nat) (r : List UInt8) : outL m n i (45 :: r) = 45 :: outL m n (i + 1) r := outL_cons m n i 45 r (by decide) (by decide)
theorem outL_32 (m n i : Nat) : outL m n i [32] = gapL n := by
  rw [outL, outB, turn_keep m i 32 (by decide), if_pos rfl, outL, List.append_nil]
  rfl
theorem outL_keep (m n : Nat) : ∀ (l : List UInt8) (i : Nat), (∀ b ∈ l, letB b = false ∧ b ≠ 32) → outL m n i l = l
  | [], _, _ => rfl
  | c :: r, i, h => by
    rw [outL_cons m n i c r (h c (by simp)).1 (h c (by simp)).2, outL_keep m n r (i + 1) (fun b hb => h b (by simp [hb]))]
theorem dig_plain (b : UInt8) (h : isB 2 (b.toNat : Int) = true) : letB b = false ∧ b ≠ 32 := by
  have : ∀ b : Fin 256, isB 2 (b.val : Int) = true → letB (UInt8.ofNat b.val) = false ∧ UInt8.ofNat b.val ≠ 32 := by decide +kernel
  have := this ⟨b.toNat, b.toNat_lt⟩ h
  simpa using this
theorem outL_pad (m n i wd v : Nat) : outL m n i (padL wd v) = padL wd v := outL_keep m n _ i (fun b hb => dig_plain b (pad_all wd v b hb))
theorem let_turn (b : UInt8) (h : isB 1 (b.toNat : Int) = true) : isB 1 ((b ^^^ 32).toNat : Int) = true ∧ upB (b ^^^ 32) = upB b ∧ b ^^^ 32 ≠ 32 ∧ b ≠ 32 := by
  have : ∀ b : Fin 256, isB 1 (b.val : Int) = true → isB 1 (((UInt8.ofNat b.val) ^^^ 32).toNat : Int) = true ∧ upB ((UInt8.ofNat b.val) ^^^ 32) = upB (UInt8.ofNat b.val) ∧ (UInt8.ofNat b.val) ^^^ 32 ≠ 32 ∧ UInt8.ofNat b.val ≠ 32 := by decide +kernel
  have := this ⟨b.toNat, b.toNat_lt⟩ h
  simpa using this
theorem turn_let (m i : Nat) (b : UInt8) (h : isB 1 (b.toNat : Int) = true) : isB 1 ((turnB m i b).toNat : Int) = true ∧ upB (turnB m i b) = upB b ∧ turnB m i b ≠ 32 := by
  obtain ⟨h1, h2, h3, h4⟩ := let_turn b h
  unfold turnB
  split
  · exact ⟨h1, h2, h3⟩
  · exact ⟨h, rfl, h4⟩
theorem outL_let (m n : Nat) : ∀ (l : List UInt8) (i : Nat), (∀ b ∈ l, isB 1 (b.toNat : Int) = true) → (∀ b ∈ outL m n i l, isB 1 (b.toNat : Int) = true) ∧ upL (outL m n i l) = upL l ∧ (l ≠ [] → outL m n i l ≠ [])
  | [], _, _ => ⟨(fun b hb => by cases hb), rfl, fun h => absurd rfl h⟩
  | c :: r, i, h => by
    obtain ⟨h1, h2, h3⟩ := turn_let m i c (h c (by simp))
    obtain ⟨k1, k2, _⟩ := outL_let m n r (i + 1) (fun b hb => h b (by simp [hb]))
    have e : outL m n i (c :: r) = turnB m i c :: outL m n (i + 1) r := by
      rw [outL, outB, if_neg h3]
      rfl
    rw [e]
    refine ⟨fun b hb => ?_, ?_, (fun _ h => by cases h)⟩
    · rcases List.mem_cons.1 hb with rfl | hb
      · exact h1
      · exact k1 b hb
    · unfold upL at k2 ⊢
      rw [List.map_cons, List.map_cons, h2, k2]
theorem nm_out {w : List UInt8} {ns : List (List UInt8)} {j : Nat} (m n i : Nat) (h : Nm w ns j) : Nm (outL m n i w) ns j := by
  obtain ⟨h1, h2, h3⟩ := outL_let m n w i h.all
  exact ⟨h1, by rw [h2]; exact h.at', h3 h.ne⟩
theorem gp_gap (n : Nat) : Gp (gapL n) := by
  refine ⟨fun b hb => ?_, by unfold gapL; simp⟩
  unfold gapL widL at hb
  have hb' : b ∈ ([32, 32, 9, 32, 9] : List UInt8) := by
    rcases List.mem_cons.1 hb with rfl | hb
    · simp
    · have := List.mem_of_mem_take hb
      simp at this ⊢
      rcases this with rfl | rfl | rfl | rfl <;> simp
  have key : ∀ b ∈ ([32, 32, 9, 32, 9] : List UInt8), isBl b = true := by decide
  exact key b hb'
/-- The dressed text. -/
def dreL (m n : Nat) (s r : List UInt8) : List UInt8 := [32, 9] ++ (outL m n 0 s ++ (32 :: 40 :: (r.filter remB ++ [41, 32])))
theorem parse_dressed (m n : Nat) (r : List UInt8) {y m1 d h mi sc z wd : Nat} {sg : UInt8} {x : Dt} (hm : May x) (ey : x.y = y) (em : x.mo = (m1 : Int) + 1) (ed : x.d = d) (eh : x.h = h) (ei : x.mi = mi) (es : x.s = sc) (hz : (sg = 43 ∧ x.z = z) ∨ (sg = 45 ∧ x.z = -(z : Int))) (hwd : wdN (numD x.y x.mo x.d) = (wd : Int)) :
    parse (dreL m n (printB wd d m1 y h mi sc ⟨#[sg]⟩ (z / 60) (z % 60)).data.toList r) = ⟨x, 0, 0⟩ := by
  have hwd6 := wdN_in (numD x.y x.mo x.d)
  obtain ⟨q1, q2, q3, q4, q5, q6⟩ := hm.day
  have ql := longN_pos x.y x.mo
  have t1 := hm.h1; have t3 := hm.m1; have t5 := hm.s1; have t6 := hm.z0; have t7 := hm.z1
  have hzz : z ≤ 1439 := by omega
  obtain ⟨a1, a2, a3⟩ := wdM_facts ⟨wd, by omega⟩
  obtain ⟨b1, b2, b3⟩ := moM_facts ⟨m1, by omega⟩
  have p1 := pad_len1 (n := d) (by omega)
  have p4 := pad_len4 (n := y) (by omega)
  have hsg : ∀ i q, outL m n i (sg :: q) = sg :: outL m n (i + 1) q := by
    rcases hz with ⟨rfl, _⟩ | ⟨rfl, _⟩
    · exact fun i q => outL_43 m n i q
    · exact fun i q => outL_45 m n i q
  rw [printB_list]
  obtain ⟨M', hM', hout⟩ : ∃ M', Nm M' moL m1 ∧ ∀ tl, outL m n 0 (wdM wd ++ 44 :: ([32] ++ (padL 1 d ++ ([32] ++ (moM m1 ++ ([32] ++ (padL 4 y ++ ([32] ++ (padL 2 h ++ 58 :: (padL 2 mi ++ 58 :: (padL 2 sc ++ ([32] ++ (sg :: (padL 2 (z / 60) ++ (padL 2 (z % 60) ++ []))))))))))))))) ++ tl =
      outL m n 0 (wdM wd) ++ 44 :: (gapL n ++ (padL 1 d ++ (gapL n ++ (M' ++ (gapL n ++ (padL 4 y ++ (gapL n ++ (padL 2 h ++ 58 :: (padL 2 mi ++ 58 :: (padL 2 sc ++ (gapL n ++ (sg :: (padL 2 (z / 60) ++ (padL 2 (z % 60) ++ tl)))))))))))))) := by
    refine ⟨outL m n (0 + (wdM wd).length + 1 + [(32 : UInt8)].length + (padL 1 d).length + [(32 : UInt8)].length) (moM m1), nm_out m n _ ⟨b1, b2, b3⟩, fun tl => ?_⟩
    simp only [outL_app, outL_44, outL_58, outL_32, outL_pad, hsg, outL_nil]
    simp only [List.append_assoc, List.cons_append, List.append_nil]
  unfold dreL
  rw [hout]
  refine parse_form (g0 := [32, 9]) (g1 := gapL n) (x := x) (by decide) (nm_out m n _ ⟨a1, a2, a3⟩) (gp_gap n).all ⟨pad_all 1 d, p1.1, p1.2⟩ (gp_gap n) hM' (gp_gap n) ⟨pad_all 4 y, by omega, by omega⟩ (gp_gap n) (dg_pad2 (by omega)) (dg_pad2 (by omega)) (dg_pad2 (by omega)) (gp_gap n) (dg_pad2 (by omega)) (dg_pad2 (by omega)) ?_ ?_ (pEnd_app (fun b hb => (List.mem_filter.1 hb).2)) (fun b hb => by simp at hb; subst hb; decide) hm ?_ em ?_ ?_ ?_ ?_ hwd
  · rw [pad_val]; omega
  · rw [pad_val, pad_val]
    rcases hz with ⟨h1, h2⟩ | ⟨h1, h2⟩
    · exact .inl ⟨h1, by omega⟩
    · exact .inr ⟨h1, by omega⟩
  · rw [pad_val]; exact ey
  · rw [pad_val]; exact ed
  · rw [pad_val]; exact eh
  · rw [pad_val]; exact ei
  · rw [pad_val]; exact es
theorem wdM_len : ∀ i : Fin 7, (wdM i.val).length = 3 := by decide +kernel
theorem parse_later {y m1 d h mi sc z wd : Nat} {sg : UInt8} {x : Dt} (hm : May x) (ey : x.y = y) (em : x.mo = (m1 : Int) + 1) (ed : x.d = d) (eh : x.h = h) (ei : x.mi = mi) (es : x.s = sc) (hz : (sg = 43 ∧ x.z = z) ∨ (sg = 45 ∧ x.z = -(z : Int))) (hwd : wdN (numD x.y x.mo x.d) = (wd : Int)) :
    parse ((printB wd d m1 y h mi sc ⟨#[sg]⟩ (z / 60) (z % 60)).data.toList.drop 5) = ⟨x, 0, 0⟩ ∧ 5 ≤ (printB wd d m1 y h mi sc ⟨#[sg]⟩ (z / 60) (z % 60)).data.toList.length := by
  have hwd6 := wdN_in (numD x.y x.mo x.d)
  obtain ⟨q1, q2, q3, q4, q5, q6⟩ := hm.day
  have ql := longN_pos x.y x.mo
  have t1 := hm.h1; have t3 := hm.m1; have t5 := hm.s1; have t6 := hm.z0; have t7 := hm.z1
  have hzz : z ≤ 1439 := by omega
  have w3 := wdM_len ⟨wd, by omega⟩
  obtain ⟨b1, b2, b3⟩ := moM_facts ⟨m1, by omega⟩
  have p1 := pad_len1 (n := d) (by omega)
  have p4 := pad_len4 (n := y) (by omega)
  simp only at w3
  rw [printB_list]
  have cut : ∀ X : List UInt8, (wdM wd ++ 44 :: ([32] ++ X)).drop 5 = X ∧ 5 ≤ (wdM wd ++ 44 :: ([32] ++ X)).length := fun X => by
    refine ⟨?_, by simp; omega⟩
    rw [show wdM wd ++ 44 :: ([32] ++ X) = (wdM wd ++ [44, 32]) ++ X by simp]
    exact List.drop_left' (by simp [w3])
  refine ⟨?_, (cut _).2⟩
  rw [(cut _).1]
  refine parse_bare (x := x) ⟨pad_all 1 d, p1.1, p1.2⟩ gp32 ⟨b1, b2, b3⟩ gp32 ⟨pad_all 4 y, by omega, by omega⟩ gp32 (dg_pad2 (by omega)) (dg_pad2 (by omega)) (dg_pad2 (by omega)) gp32 (dg_pad2 (by omega)) (dg_pad2 (by omega)) ?_ ?_ pEnd_nil (fun b hb => by cases hb) hm ?_ em ?_ ?_ ?_ ?_
  · rw [pad_val]; omega
  · rw [pad_val, pad_val]
    rcases hz with ⟨h1, h2⟩ | ⟨h1, h2⟩
    · exact .inl ⟨h1, by omega⟩
    · exact .inr ⟨h1, by omega⟩
  · rw [pad_val]; exact ey
  · rw [pad_val]; exact ed
  · rw [pad_val]; exact eh
  · rw [pad_val]; exact ei
  · rw [pad_val]; exact es
end Go.Proofs.YtedfnebadenmdabDoor
