/-
  The program's isRune, noRune and Encode.
-/
import Derived.Test.YtjpmfgmoekpcpabGreatDoorBld5
import Derived.Test.YtjpmfgmoekpcpabGreatDoorUtfE
namespace Go.Proofs.YtjpmfgmoekpcpabGreatDoor
open Go.RowKit

/-- The place of the first number that is no rune. -/
def noR : List Int → Nat
  | [] => 0
  | r :: t => if isR r then noR t + 1 else 0
theorem noR_le (l : List Int) : noR l ≤ l.length := by
  induction l with
  | nil => exact Nat.le_refl _
  | cons r t ih => simp only [noR]; split <;> simp <;> omega
theorem noR_all (l : List Int) : noR l = l.length ↔ ∀ r ∈ l, isR r := by
  induction l with
  | nil => simp [noR]
  | cons r t ih =>
    simp only [noR, List.length_cons, List.mem_cons, forall_eq_or_imp]
    by_cases h : isR r
    · rw [if_pos h]
      constructor
      · intro e; exact ⟨h, ih.1 (by omega)⟩
      · intro e; have := ih.2 e.2; omega
    · rw [if_neg h]
      constructor
      · intro e; omega
      · intro e; exact absurd e.1 h
theorem noR_drop (l : List Int) (k : Nat) (hk : k < l.length) : noR (l.drop k) = if isR l[k] then noR (l.drop (k + 1)) + 1 else 0 := by
  rw [List.drop_eq_getElem_cons hk]
  rfl

/-- What Encode tells: a text, an error and its place. -/
def encT (l : List Int) : ByteArray := if noR l < l.length then ⟨#[]⟩ else ⟨(encL l).toArray⟩
def encE (l : List Int) : Array Value := if noR l < l.length then #[.int .i64 50, .int .i64 (noR l)] else #[.int .i64 0, .int .i64 0]
theorem encL_take (l : List Int) (k : Nat) (hk : k < l.length) : encL (l.take (k + 1)) = encL (l.take k) ++ Lib.encodeRune l[k] := by
  unfold encL
  rw [List.take_succ_eq_append_getElem hk, List.flatMap_append]
  simp
theorem encL_length (l : List Int) : (encL l).length ≤ 4 * l.length := by
  induction l with
  | nil => simp [encL]
  | cons r t ih =>
    have : encL (r :: t) = Lib.encodeRune r ++ encL t := rfl
    rw [this, List.length_append, ← Lib.runeCells_length]
    have := (Lib.runeCells_le r).2
    simp
    omega

end Go.Proofs.YtjpmfgmoekpcpabGreatDoor
