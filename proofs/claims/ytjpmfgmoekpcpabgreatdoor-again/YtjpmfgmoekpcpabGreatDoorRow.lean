/-
  Rows of parameters in memory; the document's Same.
-/
import Derived.Test.YtjpmfgmoekpcpabGreatDoorPq10
import Derived.Laws.StructEq
import Derived.Deep.QuietTactic
import Derived.BigQuiet
import Derived.WalkKit
import Derived.Below
namespace Go.Proofs.YtjpmfgmoekpcpabGreatDoor
open Go.RowKit

/-- The parameters l lie where a points. -/
def Pms (a : Option Addr) (l : List Pm) (w : World) : Prop := l = [] ∨ ∃ g o, a = some ⟨g, o, none⟩ ∧ g < w.heap.size ∧ ∀ j u, (cellsP l)[j]? = some u → w.cell? ⟨g, o + j, none⟩ = some u
theorem Pms.below {a : Option Addr} {l : List Pm} {w w' : World} (h : Pms a l w) (hb : Below w.heap.size w w') : Pms a l w' := by
  rcases h with h | ⟨g, o, e, hg, hr⟩
  · exact .inl h
  · exact .inr ⟨g, o, e, Nat.lt_of_lt_of_le hg hb.size, fun j u hj => (hb.cell (p := ⟨g, o + j, none⟩) hg).trans (hr j u hj)⟩
theorem Pms.drewN {a : Option Addr} {l : List Pm} {w : World} (h : Pms a l w) (n : Nat) : Pms a l (w.drewN n) := h
theorem cellsP_length : ∀ l : List Pm, (cellsP l).length = 3 * l.length
  | [] => rfl
  | p :: r => by
    have e : cellsP (p :: r) = (pmC p).toList ++ cellsP r := rfl
    rw [e, List.length_append, cellsP_length r]
    show 3 + 3 * r.length = 3 * (r.length + 1)
    omega
theorem cellsP_at : ∀ (l : List Pm) (i : Nat) (h : i < l.length), (cellsP l)[i * 3]? = some (.string (tx l[i].name)) ∧ (cellsP l)[i * 3 + 1]? = some (.string (tx l[i].val)) ∧ (cellsP l)[i * 3 + 2]? = some (.bool l[i].has)
  | p :: r, 0, _ => ⟨rfl, rfl, rfl⟩
  | p :: r, i + 1, h => by
    have ih := cellsP_at r i (by simpa using h)
    have e : cellsP (p :: r) = (pmC p).toList ++ cellsP r := rfl
    have e3 : (pmC p).toList.length = 3 := rfl
    rw [e, List.getElem?_append_right (by rw [e3]; omega), List.getElem?_append_right (by rw [e3]; omega), List.getElem?_append_right (by rw [e3]; omega), e3]
    rw [show (i + 1) * 3 - 3 = i * 3 by omega, show (i + 1) * 3 + 1 - 3 = i * 3 + 1 by omega, show (i + 1) * 3 + 2 - 3 = i * 3 + 2 by omega]
    exact ih
theorem Pms.at {a : Option Addr} {l : List Pm} {w : World} (h : Pms a l w) (i : Nat) (hi : i < l.length) : ∃ g o, a = some ⟨g, o, none⟩ ∧ w.cell? ⟨g, o + i * 3, none⟩ = some (.string (tx l[i].name)) ∧ w.cell? ⟨g, o + i * 3 + 1, none⟩ = some (.string (tx l[i].val)) ∧ w.cell? ⟨g, o + i * 3 + 2, none⟩ = some (.bool l[i].has) := by
  rcases h with rfl | ⟨g, o, e, _, hr⟩
  · simp at hi
  · obtain ⟨h0, h1, h2⟩ := cellsP_at l i hi
    exact ⟨g, o, e, hr _ _ h0, by rw [Nat.add_assoc]; exact hr _ _ h1, by rw [Nat.add_assoc]; exact hr _ _ h2⟩
theorem own_pms {w : World} {B : Nat} {v : Value} {l : List Pm} (h : w.ownsRow B 54 3 v l.length (cellsP l)) : ∃ a cap, v = .slice a l.length cap ∧ Pms a l w := by
  rcases l with _ | ⟨p, r⟩
  · obtain ⟨a, c, e⟩ := ownP_len h
    exact ⟨a, c, e, .inl rfl⟩
  · obtain ⟨h1, h2⟩ := id h
    rcases h2 with ⟨rfl, h0⟩ | ⟨g, cap, cur, rfl, hB, hg, hr⟩
    · simp at h0
    · refine ⟨_, cap, rfl, .inr ⟨g, 0, rfl, (h.lt g rfl).2, fun j u hj => ?_⟩⟩
      rw [Nat.zero_add]
      have hjl : j < (cellsP (p :: r)).length := by
        rcases Nat.lt_or_ge j (cellsP (p :: r)).length with h' | h'
        · exact h'
        · rw [List.getElem?_eq_none h'] at hj; cases hj
      rw [cellsP_length] at hjl
      rw [h.cellAt j (by omega)]
      exact hj

end Go.Proofs.YtjpmfgmoekpcpabGreatDoor
/-
  Bytes that lie in a row of memory.
-/
namespace Go.Proofs.YtjpmfgmoekpcpabGreatDoor
open Go.RowKit

/-- The bytes of s lie in block g from place o on. -/
def RowAt (s : ByteArray) (g o : Nat) (w : World) : Prop := ∀ j, (h : j < s.size) → w.cell? ⟨g, o + j, none⟩ = some (.int .u8 (s[j].toNat : Int))

theorem RowAt.below {s : ByteArray} {g o B : Nat} {w w' : World} (h : RowAt s g o w) (hb : Below B w w') (hg : g < B) : RowAt s g o w' := fun j hj =>
  (hb.cell (p := ⟨g, o + j, none⟩) hg).trans (h j hj)
end Go.Proofs.YtjpmfgmoekpcpabGreatDoor
