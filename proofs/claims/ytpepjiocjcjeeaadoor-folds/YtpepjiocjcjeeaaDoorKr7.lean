/-
  What a loop over an iterator keeps: all cells from a block on.
-/
import Derived.Test.YtpepjiocjcjeeaaDoorSeg7
import Derived.RangeFuncNested
namespace Go.Proofs.YtpepjiocjcjeeaaDoor
open Go.RowKit

structure Kr (n0 : Nat) (W W' : World) : Prop where
  size : W.heap.size ≤ W'.heap.size
  same : ∀ (k : Nat) (o : Obj), n0 ≤ k → W.heap[k]? = some o → o.isCells = true → W'.heap[k]? = some o
theorem Kr.refl (n0 : Nat) (W : World) : Kr n0 W W := ⟨Nat.le_refl _, fun _ _ _ h _ => h⟩
theorem Kr.trans {n0 : Nat} {A B C : World} (h : Kr n0 A B) (k : Kr n0 B C) : Kr n0 A C := ⟨Nat.le_trans h.size k.size, fun i o hi ho hc => k.same i o hi (h.same i o hi ho hc) hc⟩
theorem Kr.book (n0 : Nat) (W : World) (l : Nat) (o o' : Obj) (hl : W.heap[l]? = some o) (ho : o.isCells = false) : Kr n0 W (W.putObj l o') :=
  ⟨(grownBy_putObj' W l o').size, fun k ob _ hk hc => by
    refine (World.putObj_heap_other (fun e => ?_)).trans hk
    subst e
    rw [hl] at hk
    cases hk
    rw [ho] at hc
    cases hc⟩
theorem Kr.of_chg {n0 : Nat} {F : Nat → Prop} {W W' : World} (h : Chg F W W') (hF : ∀ k, F k → k < n0) : Kr n0 W W' :=
  ⟨h.size, fun k o hk ho _ => (h.block k (Array.getElem?_eq_some_iff.1 ho).1 (fun f => by have := hF k f; omega)).trans ho⟩
theorem Kr.of_below {n0 : Nat} {W W' : World} (h : Below W.heap.size W W') : Kr n0 W W' := Kr.of_chg (F := fun _ => False) (Chg.of_below h) (fun _ f => f.elim)
/-- A row that lies from n0 on. -/
theorem Kr.ow {α : Type} {cel : α → List Value} {t k n0 : Nat} {W W' : World} {v : Value} {l : List α} (h : Kr n0 W W') (ho : Ow cel t k W v l) (hv : ∀ g, v.ownBlock = some g → n0 ≤ g) : Ow cel t k W' v l := by
  obtain ⟨h1, ⟨rfl, h2⟩ | ⟨g, cap, cur, rfl, h3, h4, h5⟩⟩ := ho
  · exact ⟨h1, .inl ⟨rfl, h2⟩⟩
  · exact ⟨h1, .inr ⟨g, cap, cur, rfl, h3, h.same g _ (hv g rfl) h4 rfl, h5⟩⟩
/-- Also what isn't cells: what the laws of loops ask of a body. -/
theorem keeps_of_chg {B : Nat} {F : Nat → Prop} {W W' : World} (h : Chg F W W') (hF : ∀ k, F k → k < B) : KeepsFrom B W W' :=
  ⟨h.size, fun k o hk ho _ => (h.block k (Array.getElem?_eq_some_iff.1 ho).1 (fun f => by have := hF k f; omega)).trans ho⟩
theorem grown_of_below {W W' : World} (h : Below W.heap.size W W') : W.grownBy W' none := ⟨h.os, h.tape, h.output, h.size, fun k hk _ => h.block k hk⟩
end Go.Proofs.YtpepjiocjcjeeaaDoor
