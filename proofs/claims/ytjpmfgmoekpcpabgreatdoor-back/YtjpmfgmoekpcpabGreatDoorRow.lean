/-
  The plain mathematics of writing parameters one by one: no Go in sight.
-/
import Derived.Test.YtjpmfgmoekpcpabGreatDoorPmB
import Derived.WalkKit
import Derived.Below
namespace Go.Proofs.YtjpmfgmoekpcpabGreatDoor

/-- The same, behind a text. -/
def Pz.on (t : List UInt8) : Except Nat (List UInt8) → Except Nat (List UInt8)
  | .error e => .error e
  | .ok u => .ok (t ++ u)
theorem Pz.on_on (t u : List UInt8) (x : Except Nat (List UInt8)) : Pz.on t (Pz.on u x) = Pz.on (t ++ u) x := by cases x <;> simp [Pz.on]
theorem Pz.on_nil (x : Except Nat (List UInt8)) : x = Pz.on [] x := by cases x <;> simp [Pz.on]
theorem prtL_at (l : List Pm) (k : Nat) (h : k < l.length) : prtL (l.drop k) = if nmB l[k].name = true then (if vaB l[k] = true then Pz.on (wr1 l[k]) (prtL (l.drop (k + 1))) else .error 101) else .error 100 := by
  rw [List.drop_eq_getElem_cons h, prtL]
  split
  · split
    · cases prtL (l.drop (k + 1)) <;> rfl
    · rfl
  · rfl
/-- What all would come to. -/
def wrA (l : List Pm) : List UInt8 := l.flatMap wr1
theorem wrA_take (l : List Pm) (k : Nat) (h : k < l.length) : wrA (l.take (k + 1)) = wrA (l.take k) ++ wr1 l[k] := by
  unfold wrA
  rw [List.take_succ_eq_append_getElem h, List.flatMap_append]
  simp
theorem wrA_le (l : List Pm) (k : Nat) : (wrA (l.take k)).length ≤ (wrA l).length := by
  have e : wrA l = wrA (l.take k) ++ wrA (l.drop k) := by unfold wrA; rw [← List.flatMap_append, List.take_append_drop]
  rw [e, List.length_append]
  omega
theorem wr1_le (l : List Pm) (k : Nat) (h : k < l.length) : (wr1 l[k]).length ≤ (wrA l).length := by
  have h1 := wrA_take l k h
  have h2 := wrA_le l (k + 1)
  rw [h1, List.length_append] at h2
  omega
theorem wr1_name (p : Pm) : p.name.length + 1 ≤ (wr1 p).length := by unfold wr1; simp
end Go.Proofs.YtjpmfgmoekpcpabGreatDoor
/-
  Bytes that lie in a row of memory.
-/
namespace Go.Proofs.YtjpmfgmoekpcpabGreatDoor
open Go.RowKit

/-- The bytes of s lie in block g from place o on. -/
def RowAt (s : ByteArray) (g o : Nat) (w : World) : Prop := ∀ j, (h : j < s.size) → w.cell? ⟨g, o + j, none⟩ = some (.int .u8 (s[j].toNat : Int))

theorem RowAt.below {s : ByteArray} {g o B : Nat} {w w' : World} (h : RowAt s g o w) (hb : Below B w w') (hg : g < B) : RowAt s g o w' := fun j hj =>
  (hb.cell (p := ⟨g, o + j, none⟩) hg).trans (h j hj)
end Go.Proofs.YtjpmfgmoekpcpabGreatDoor
