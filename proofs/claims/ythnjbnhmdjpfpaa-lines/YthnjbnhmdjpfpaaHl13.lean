/-
  What is held; what an item is made of.
-/
import Derived.Test.YthnjbnhmdjpfpaaTk13
namespace Go.Proofs.Ythnjbnhmdjpfpaa
open Go.RowKit

theorem zheld_ln (F : Nat → Prop) (b m : Nat) (s : List UInt8) (w : World) (x : Ln w F b m s) : Calls Try.prog 50 #[.pointer (some ⟨b, 0, none⟩)] w fun e w' => e = .returned (.int .i64 (heldN m s : Nat)) ∧ w' = w := zheld_any F b m _ _ _ w x
def kdI : It → Int
  | .no => 0
  | .line _ => 1
  | .bad _ => 2
def txI : It → List UInt8
  | .line l => l
  | _ => []
def yI : It → Int
  | .bad y => y
  | _ => 0
theorem itV_is (i : It) : itV i = .agg #[.int .i64 (kdI i), .string ⟨(txI i).toArray⟩, .slice none 0 0, .int .i64 (yI i), .bool false] := by cases i <;> rfl
theorem kdI_zero (i : It) : (kdI i == 0) = true → i = .no := by cases i <;> simp [kdI]
theorem kdI_no {i : It} (h : ¬ i = .no) : (kdI i == 0) = false ∧ (kdI i != 0) = true ∧ ¬ kdI i = 0 := by
  cases i <;> simp [kdI]
  exact h rfl
/-- What is left of a list behind its first k. -/
theorem bts_drop {g o : Nat} {l : List UInt8} {w : World} (h : Bts (some ⟨g, o, none⟩) l w) (k : Nat) (hg : g < w.heap.size) : Bts (some ⟨g, o + k, none⟩) (l.drop k) w := by
  rcases h with e | ⟨g', o', e, hg', hrow⟩
  · exact .inl (by rw [e]; simp)
  · cases e
    exact .inr ⟨g, o + k, rfl, hg, fun j hj => by
      rw [List.length_drop] at hj
      rw [Nat.add_assoc, hrow (k + j) (by omega), List.getElem_drop]⟩
theorem Bts.lt {g o : Nat} {l : List UInt8} {w : World} (h : Bts (some ⟨g, o, none⟩) l w) (h0 : 0 < l.length) : g < w.heap.size := by
  rcases h with e | ⟨g', o', e, hg', _⟩
  · rw [e] at h0; cases h0
  · cases e; exact hg'
def lenOf : Value → Nat
  | .slice _ n _ => n
  | _ => 0
theorem lineOf_ne (m : Nat) (l : List UInt8) : lineOf m l ≠ .no := by
  unfold lineOf
  split <;> intro h <;> cases h
end Go.Proofs.Ythnjbnhmdjpfpaa
