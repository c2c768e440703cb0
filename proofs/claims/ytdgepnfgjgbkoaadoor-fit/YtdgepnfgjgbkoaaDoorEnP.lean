/-
  Written words: the plain mathematics of the loop.
-/
import Derived.Test.YtdgepnfgjgbkoaaDoorWdP
namespace Go.Proofs.YtdgepnfgjgbkoaaDoor

theorem qL_app (a b : List UInt8) : qL (a ++ b) = qL a ++ qL b := by simp [qL]
theorem qL_nil : qL [] = [] := rfl
theorem coW_app (q : Bool) (a b : List UInt8) : coW q (a ++ b) = coW q a + coW q b := by
  unfold coW
  cases q
  · simp
  · simp [qL_app]
theorem coW_nil (q : Bool) : coW q [] = 0 := by cases q <;> rfl
theorem qB_le (c : UInt8) : (qB c).length ≤ 3 ∧ 1 ≤ (qB c).length := by
  unfold qB
  split
  · simp
  · split
    · simp
    · simp [hexL]
theorem qL_le : ∀ l : List UInt8, (qL l).length ≤ 3 * l.length ∧ l.length ≤ (qL l).length
  | [] => by simp [qL]
  | c :: t => by
    have h1 := qB_le c
    have h2 := qL_le t
    simp only [qL, List.flatMap_cons, List.length_append, List.length_cons] at h2 ⊢
    omega
theorem coW_le (q : Bool) (l : List UInt8) : coW q l ≤ 3 * l.length ∧ l.length ≤ coW q l := by
  unfold coW
  cases q
  · simp; omega
  · simp only [if_true]
    exact qL_le l
theorem encR_len (r : Int) : 1 ≤ (Lib.encodeRune r).length ∧ (Lib.encodeRune r).length ≤ 4 := by
  have := Lib.encodeRuneZ_length r
  unfold Lib.encodeRune
  rw [List.length_map]
  exact this
theorem coW_rune (q : Bool) (r : Int) : coW q (Lib.encodeRune r) ≤ roW q := by
  have h := encR_len r
  have h2 := coW_le q (Lib.encodeRune r)
  unfold roW
  cases q
  · simp only [Bool.false_eq_true, if_false]
    omega
  · simp only [if_true]
    omega
theorem wrd_len (q : Bool) (b : List UInt8) (h : coW q b ≤ roW q) : (wrd q b).length ≤ 75 := by
  have e : (wrd q b).length = 12 + (txW q b).length := by
    unfold wrd
    simp only [List.length_append, List.length_cons, List.length_nil]
    omega
  rw [e]
  unfold txW
  unfold coW roW at h
  cases q
  · simp only [Bool.false_eq_true, if_false] at h ⊢
    rw [e64L_len]
    omega
  · simp only [if_true] at h ⊢
    omega
theorem jn_len : ∀ L : List (List UInt8), (∀ x ∈ L, x.length ≤ 75) → (jnW L).length ≤ 76 * L.length
  | [], _ => Nat.zero_le _
  | [x], h => by
    have := h x (by simp)
    simp only [jnW, List.length_cons, List.length_nil]
    omega
  | x :: y :: t, h => by
    have h1 := h x (by simp)
    have h2 := jn_len (y :: t) (fun z hz => h z (by simp at hz ⊢; right; exact hz))
    unfold jnW
    simp only [List.length_append, List.length_cons] at h2 ⊢
    omega
/-- How far write is: L words are written, the bytes B are taken. -/
structure Wst (q : Bool) (l : List UInt8) (pos : Nat) (L : List (List UInt8)) (B : List UInt8) : Prop where
  all : wrS q [] (decL l) = L ++ wrS q B (decL (l.drop pos))
  whole : badU (l.drop pos) = (l.drop pos).length
  room : coW q B ≤ roW q
  ln : L.length ≤ pos
  sh : ∀ x ∈ L, x.length ≤ 75
theorem Wst.start (q : Bool) (l : List UInt8) (h : badU l = l.length) : Wst q l 0 [] [] := ⟨rfl, h, by rw [coW_nil]; exact Nat.zero_le _, Nat.le_refl _, fun x h => by cases h⟩
theorem Wst.on {q : Bool} {l : List UInt8} {pos : Nat} {L : List (List UInt8)} {B : List UInt8} (h : Wst q l pos L B) {r : Int} {n : Nat} (ho : oneN (l.drop pos) = some (r, n)) (hc : ¬ roW q < coW q B + coW q (Lib.encodeRune r)) : Wst q l (pos + n) L (B ++ Lib.encodeRune r) := by
  have hw := h.whole
  have h1 := badU_some ho
  have h2 := (oneN_run _ r n ho)
  refine ⟨?_, ?_, ?_, ?_, h.sh⟩
  · rw [h.all, decL_some ho, List.drop_drop, wrS, if_neg hc]
  · have h3 := h2.1
    rw [hw] at h1
    rw [List.drop_drop] at h1
    have : (l.drop (pos + n)).length = (l.drop pos).length - n := by rw [List.length_drop, List.length_drop]; omega
    omega
  · rw [coW_app]
    omega
  · have := h.ln
    omega
theorem Wst.new {q : Bool} {l : List UInt8} {pos : Nat} {L : List (List UInt8)} {B : List UInt8} (h : Wst q l pos L B) {r : Int} {n : Nat} (ho : oneN (l.drop pos) = some (r, n)) (hc : roW q < coW q B + coW q (Lib.encodeRune r)) : Wst q l (pos + n) (L ++ [wrd q B]) (Lib.encodeRune r) := by
  have hw := h.whole
  have h1 := badU_some ho
  have h2 := (oneN_run _ r n ho)
  refine ⟨?_, ?_, coW_rune q r, ?_, fun x hx => ?_⟩
  · rw [h.all, decL_some ho, List.drop_drop, wrS, if_pos hc]
    simp
  · have h3 := h2.1
    rw [hw] at h1
    rw [List.drop_drop] at h1
    have : (l.drop (pos + n)).length = (l.drop pos).length - n := by rw [List.length_drop, List.length_drop]; omega
    omega
  · have := h.ln
    rw [List.length_append]
    have := h2.2.1
    simp only [List.length_cons, List.length_nil]
    omega
  · rcases List.mem_append.1 hx with hx | hx
    · exact h.sh x hx
    · rw [List.mem_singleton] at hx
      rw [hx]
      exact wrd_len q B h.room
theorem Wst.fin {q : Bool} {l : List UInt8} {pos : Nat} {L : List (List UInt8)} {B : List UInt8} (h : Wst q l pos L B) (hp : l.length ≤ pos) : wrS q [] (decL l) = if B = [] then L else L ++ [wrd q B] := by
  rw [h.all, List.drop_eq_nil_of_le hp, decL_none rfl, wrS]
  split <;> simp
theorem join_jn : ∀ L : List (List UInt8), List.intercalate [32] L = jnW L
  | [] => rfl
  | [x] => by simp [jnW, List.intercalate]
  | x :: y :: t => by
    have ih := join_jn (y :: t)
    unfold jnW
    rw [← ih]
    simp [List.intercalate]
end Go.Proofs.YtdgepnfgjgbkoaaDoor
