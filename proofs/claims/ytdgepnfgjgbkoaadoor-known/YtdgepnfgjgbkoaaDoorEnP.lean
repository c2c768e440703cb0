/-
  What the document's own examples come to.
-/
import Derived.Test.YtdgepnfgjgbkoaaDoorWdP
namespace Go.Proofs.YtdgepnfgjgbkoaaDoor

theorem decL_lit (rs : List Int) (l : List UInt8) (h : ∀ r ∈ rs, isR r) (e : encL rs = l) : decL l = rs ∧ badU l = l.length := by
  subst e
  exact decL_encL rs h
theorem enc_lit (sh : Bool) (rs : List Int) (l t : List UInt8) (h : ∀ r ∈ rs, isR r) (e : encL rs = l) (hb : (if sh = true ∧ (jnW (wrS true [] rs)).length < (jnW (wrS false [] rs)).length then jnW (wrS true [] rs) else jnW (wrS false [] rs)) = t) : encW l sh = t ∧ encE l = 0 := by
  obtain ⟨h1, h2⟩ := decL_lit rs l h e
  unfold encW encE wrT
  have hn : ¬ badU l < l.length := by omega
  rw [if_neg hn, if_neg hn, h1]
  exact ⟨hb, rfl⟩
theorem kn_e1 : encW [71, 114, 195, 188, 195, 159, 101] true = [61, 63, 85, 84, 70, 45, 56, 63, 66, 63, 82, 51, 76, 68, 118, 77, 79, 102, 90, 81, 61, 61, 63, 61] ∧ encE [71, 114, 195, 188, 195, 159, 101] = 0 := enc_lit true [71, 114, 252, 223, 101] _ _ (by decide) (by decide +kernel) (by decide +kernel)
theorem kn_e2 : encW [97, 98, 99, 100, 101, 102, 103, 104, 105] true = [61, 63, 85, 84, 70, 45, 56, 63, 81, 63, 97, 98, 99, 100, 101, 102, 103, 104, 105, 63, 61] ∧ encE [97, 98, 99, 100, 101, 102, 103, 104, 105] = 0 := enc_lit true [97, 98, 99, 100, 101, 102, 103, 104, 105] _ _ (by decide) (by decide +kernel) (by decide +kernel)
theorem kn_d1 : decW [97, 32, 61, 63, 117, 116, 102, 45, 56, 63, 113, 63, 98, 63, 61, 32, 32, 61, 63, 85, 84, 70, 45, 56, 63, 66, 63, 89, 119, 61, 61, 63, 61, 32, 100] = ([97, 32, 98, 99, 32, 100], 0, 0) := by decide +kernel
theorem kn_n1 : needW [195, 169] = true := by decide +kernel
theorem kn_n2 : needW [97, 32, 98] = false := by decide +kernel
theorem kd_0 : decW [61, 63, 105, 115, 111, 45, 56, 56, 53, 57, 45, 49, 63, 81, 63, 99, 97, 102, 61, 101, 57, 95, 97, 117, 63, 61] = ([99, 97, 102, 195, 169, 32, 97, 117], 0, 0) := by decide +kernel
theorem kd_1 : decW [61, 63, 117, 115, 45, 97, 115, 99, 105, 105, 42, 101, 110, 63, 113, 63, 120, 61, 51, 68, 63, 61] = ([120, 61], 0, 0) := by decide +kernel
theorem kd_2 : decW [] = ([], 0, 0) := by decide +kernel
theorem kd_3 : decW [61, 63, 120, 63, 81, 63, 97, 63, 61] = ([], 171, 2) := by decide +kernel
theorem kd_4 : decW [61, 63, 85, 84, 70, 45, 56, 63, 66, 63, 89, 81, 63, 61] = ([], 170, 12) := by decide +kernel
theorem kd_5 : decW [61, 63, 85, 84, 70, 45, 56, 63, 81, 63, 97, 61, 52, 63, 61] = ([], 170, 11) := by decide +kernel
theorem kd_6 : decW [61, 63, 85, 84, 70, 45, 56, 63, 81, 63, 61, 70, 70, 63, 61] = ([], 170, 10) := by decide +kernel
theorem kd_7 : decW [61, 63, 117, 115, 45, 97, 115, 99, 105, 105, 63, 113, 63, 61, 56, 48, 63, 61] = ([], 170, 13) := by decide +kernel
theorem kd_8 : decW [61, 63, 85, 84, 70, 45, 56, 63, 88, 63, 97, 63, 61] = ([61, 63, 85, 84, 70, 45, 56, 63, 88, 63, 97, 63, 61], 0, 0) := by decide +kernel
theorem kd_9 : decW [120, 61, 63, 85, 84, 70, 45, 56, 63, 81, 63, 97, 63, 61] = ([120, 61, 63, 85, 84, 70, 45, 56, 63, 81, 63, 97, 63, 61], 0, 0) := by decide +kernel
theorem kd_10 : decW [61, 63, 85, 84, 70, 45, 56, 63, 81, 63, 97, 32, 98, 63, 61] = ([61, 63, 85, 84, 70, 45, 56, 63, 81, 63, 97, 32, 98, 63, 61], 0, 0) := by decide +kernel
theorem kd_11 : decW [61, 63, 63, 81, 63, 97, 63, 61] = ([61, 63, 63, 81, 63, 97, 63, 61], 0, 0) := by decide +kernel
theorem kd_12 : decW [61, 63, 85, 84, 70, 45, 56, 63, 81, 63, 63, 61] = ([], 0, 0) := by decide +kernel
theorem kd_13 : decW [255, 32, 0] = ([255, 32, 0], 0, 0) := by decide +kernel
theorem kn_e3 : encW [97, 32, 98, 195, 169] true = [61, 63, 85, 84, 70, 45, 56, 63, 66, 63, 89, 83, 66, 105, 119, 54, 107, 61, 63, 61] ∧ encE [97, 32, 98, 195, 169] = 0 := enc_lit true [97, 32, 98, 233] _ _ (by decide) (by decide +kernel) (by decide +kernel)
theorem kn_e4 : encW [] true = [] ∧ encE [] = 0 := enc_lit true [] _ _ (by decide) (by decide +kernel) (by decide +kernel)
theorem kn_e5 : encW [97, 255] true = [] ∧ encE [97, 255] = 50 := by
  have h : badU [97, 255] < ([97, 255] : List UInt8).length := by decide +kernel
  unfold encW encE
  rw [if_pos h, if_pos h]
  exact ⟨rfl, rfl⟩
theorem kx_0 : needW [61, 63] = false := by decide +kernel
theorem kx_1 : needW [61, 63, 120, 63, 113, 63, 63, 61] = true := by decide +kernel
theorem kx_2 : needW [97, 13] = true := by decide +kernel
theorem kx_3 : needW [] = false := by decide +kernel
theorem kx_4 : needW [97, 9, 98] = false := by decide +kernel
end Go.Proofs.YtdgepnfgjgbkoaaDoor
/-
  Written words: the plain mathematics of the loop.
-/
namespace Go.Proofs.YtdgepnfgjgbkoaaDoor

theorem qL_app (a b : List UInt8) : qL (a ++ b) = qL a ++ qL b := by simp [qL]
theorem qL_nil : qL [] = [] := rfl
theorem coW_app (q : Bool) (a b : List UInt8) : coW q (a ++ b) = coW q a + coW q b := by
  unfold coW
  cases q
  · simp
  · simp [qL_app]
theorem coW_nil (q : Bool) : coW q [] = 0 := by cases q <;> rfl
theorem qB_le (c : UInt8) : (qB c).length ≤ 3 ∧ 1 ≤ (qB c).length := by
  unfold qB
  split
  · simp
  · split
    · simp
    · simp [hexL]
theorem qL_le : ∀ l : List UInt8, (qL l).length ≤ 3 * l.length ∧ l.length ≤ (qL l).length
  | [] => by simp [qL]
  | c :: t => by
    have h1 := qB_le c
    have h2 := qL_le t
    simp only [qL, List.flatMap_cons, List.length_append, List.length_cons] at h2 ⊢
    omega
theorem coW_le (q : Bool) (l : List UInt8) : coW q l ≤ 3 * l.length ∧ l.length ≤ coW q l := by
  unfold coW
  cases q
  · simp; omega
  · simp only [if_true]
    exact qL_le l
theorem encR_len (r : Int) : 1 ≤ (Lib.encodeRune r).length ∧ (Lib.encodeRune r).length ≤ 4 := by
  have := Lib.encodeRuneZ_length r
  unfold Lib.encodeRune
  rw [List.length_map]
  exact this
theorem coW_rune (q : Bool) (r : Int) : coW q (Lib.encodeRune r) ≤ roW q := by
  have h := encR_len r
  have h2 := coW_le q (Lib.encodeRune r)
  unfold roW
  cases q
  · simp only [Bool.false_eq_true, if_false]
    omega
  · simp only [if_true]
    omega
theorem wrd_len (q : Bool) (b : List UInt8) (h : coW q b ≤ roW q) : (wrd q b).length ≤ 75 := by
  have e : (wrd q b).length = 12 + (txW q b).length := by
    unfold wrd
    simp only [List.length_append, List.length_cons, List.length_nil]
    omega
  rw [e]
  unfold txW
  unfold coW roW at h
  cases q
  · simp only [Bool.false_eq_true, if_false] at h ⊢
    rw [e64L_len]
    omega
  · simp only [if_true] at h ⊢
    omega
theorem jn_len : ∀ L : List (List UInt8), (∀ x ∈ L, x.length ≤ 75) → (jnW L).length ≤ 76 * L.length
  | [], _ => Nat.zero_le _
  | [x], h => by
    have := h x (by simp)
    simp only [jnW, List.length_cons, List.length_nil]
    omega
  | x :: y :: t, h => by
    have h1 := h x (by simp)
    have h2 := jn_len (y :: t) (fun z hz => h z (by simp at hz ⊢; right; exact hz))
    unfold jnW
    simp only [List.length_append, List.length_cons] at h2 ⊢
    omega
/-- How far write is: L words are written, the bytes B are taken. -/
structure Wst (q : Bool) (l : List UInt8) (pos : Nat) (L : List (List UInt8)) (B : List UInt8) : Prop where
  all : wrS q [] (decL l) = L ++ wrS q B (decL (l.drop pos))
  whole : badU (l.drop pos) = (l.drop pos).length
  room : coW q B ≤ roW q
  ln : L.length ≤ pos
  sh : ∀ x ∈ L, x.length ≤ 75
theorem Wst.start (q : Bool) (l : List UInt8) (h : badU l = l.length) : Wst q l 0 [] [] := ⟨rfl, h, by rw [coW_nil]; exact Nat.zero_le _, Nat.le_refl _, fun x h => by cases h⟩
theorem Wst.on {q : Bool} {l : List UInt8} {pos : Nat} {L : List (List UInt8)} {B : List UInt8} (h : Wst q l pos L B) {r : Int} {n : Nat} (ho : oneN (l.drop pos) = some (r, n)) (hc : ¬ roW q < coW q B + coW q (Lib.encodeRune r)) : Wst q l (pos + n) L (B ++ Lib.encodeRune r) := by
  have hw := h.whole
  have h1 := badU_some ho
  have h2 := (oneN_run _ r n ho)
  refine ⟨?_, ?_, ?_, ?_, h.sh⟩
  · rw [h.all, decL_some ho, List.drop_drop, wrS, if_neg hc]
  · have h3 := h2.1
    rw [hw] at h1
    rw [List.drop_drop] at h1
    have : (l.drop (pos + n)).length = (l.drop pos).length - n := by rw [List.length_drop, List.length_drop]; omega
    omega
  · rw [coW_app]
    omega
  · have := h.ln
    omega
theorem Wst.new {q : Bool} {l : List UInt8} {pos : Nat} {L : List (List UInt8)} {B : List UInt8} (h : Wst q l pos L B) {r : Int} {n : Nat} (ho : oneN (l.drop pos) = some (r, n)) (hc : roW q < coW q B + coW q (Lib.encodeRune r)) : Wst q l (pos + n) (L ++ [wrd q B]) (Lib.encodeRune r) := by
  have hw := h.whole
  have h1 := badU_some ho
  have h2 := (oneN_run _ r n ho)
  refine ⟨?_, ?_, coW_rune q r, ?_, fun x hx => ?_⟩
  · rw [h.all, decL_some ho, List.drop_drop, wrS, if_pos hc]
    simp
  · have h3 := h2.1
    rw [hw] at h1
    rw [List.drop_drop] at h1
    have : (l.drop (pos + n)).length = (l.drop pos).length - n := by rw [List.length_drop, List.length_drop]; omega
    omega
  · have := h.ln
    rw [List.length_append]
    have := h2.2.1
    simp only [List.length_cons, List.length_nil]
    omega
  · rcases List.mem_append.1 hx with hx | hx
    · exact h.sh x hx
    · rw [List.mem_singleton] at hx
      rw [hx]
      exact wrd_len q B h.room
theorem Wst.fin {q : Bool} {l : List UInt8} {pos : Nat} {L : List (List UInt8)} {B : List UInt8} (h : Wst q l pos L B) (hp : l.length ≤ pos) : wrS q [] (decL l) = if B = [] then L else L ++ [wrd q B] := by
  rw [h.all, List.drop_eq_nil_of_le hp, decL_none rfl, wrS]
  split <;> simp
theorem join_jn : ∀ L : List (List UInt8), List.intercalate [32] L = jnW L
  | [] => rfl
  | [x] => by simp [jnW, List.intercalate]
  | x :: y :: t => by
    have ih := join_jn (y :: t)
    unfold jnW
    rw [← ih]
    simp [List.intercalate]
end Go.Proofs.YtdgepnfgjgbkoaaDoor
