/-
  What an iterator wants kept between two of its rounds.
-/
import Derived.Test.YtdgepnfgjgbkoaaDoorRv16
import Derived.Test.YtdgepnfgjgbkoaaDoorBx7
import Derived.Test.YtdgepnfgjgbkoaaDoorUpper
namespace Go.Proofs.YtdgepnfgjgbkoaaDoor
open Go.RowKit Go.Shelf

/-- Blocks of G lie as they lay. -/
structure Kg (G : Nat → Prop) (W W' : World) : Prop where
  size : W.heap.size ≤ W'.heap.size
  same : ∀ (k : Nat) (o : Obj), G k → W.heap[k]? = some o → o.isCells = true → W'.heap[k]? = some o
theorem Kg.refl (G : Nat → Prop) (W : World) : Kg G W W := ⟨Nat.le_refl _, fun _ _ _ h _ => h⟩
theorem Kg.trans {G : Nat → Prop} {A B C : World} (h : Kg G A B) (k : Kg G B C) : Kg G A C := ⟨Nat.le_trans h.size k.size, fun i o hi ho hc => k.same i o hi (h.same i o hi ho hc) hc⟩
theorem Kg.book (G : Nat → Prop) (W : World) (l : Nat) (o o' : Obj) (hl : W.heap[l]? = some o) (ho : o.isCells = false) : Kg G W (W.putObj l o') :=
  ⟨(grownBy_putObj' W l o').size, fun k ob _ hk hc => by
    refine (World.putObj_heap_other (fun e => ?_)).trans hk
    subst e
    rw [hl] at hk
    cases hk
    rw [ho] at hc
    cases hc⟩
theorem Kg.of_chg {G F : Nat → Prop} {W W' : World} (h : Chg F W W') (hF : ∀ k, F k → ¬ G k) : Kg G W W' :=
  ⟨h.size, fun k _ hk ho _ => (h.block k (Array.getElem?_eq_some_iff.1 ho).1 (fun f => hF k f hk)).trans ho⟩
theorem Kg.of_below {G : Nat → Prop} {W W' : World} (h : Below W.heap.size W W') : Kg G W W' :=
  ⟨h.size, fun k _ _ ho _ => (h.block k (Array.getElem?_eq_some_iff.1 ho).1).trans ho⟩
theorem Kg.lies {G : Nat → Prop} {W W' : World} (h : Kg G W W') {g t : Nat} {cs : Array Value} (hl : Lies W g cs t) (hg : G g) : Lies W' g cs t := h.same g _ hg hl rfl
theorem lies_turn {W W' : World} {g t : Nat} {cs : Array Value} {row : Option Nat} (h : Lies W g cs t) (hg : W.grownBy W' row) (hr : ∀ r, row = some r → ∃ o : Obj, W.heap[r]? = some o ∧ o.isCells = false) : Lies W' g cs t := (grownBy_keeps_cells hg hr h rfl).trans h
theorem own_turn {W W' : World} {B n : Nat} {v : Value} {xs : List Value} {row : Option Nat} (h : W.ownsRow B 5 1 v n xs) (hg : W.grownBy W' row) (hr : ∀ r, row = some r → ∃ o : Obj, W.heap[r]? = some o ∧ o.isCells = false) : W'.ownsRow B 5 1 v n xs := own_keep h (fun k hk => by
  rcases h.2 with ⟨rfl, _⟩ | ⟨g, cap, cur, rfl, hB, hc, _⟩
  · cases hk
  · cases hk
    exact grownBy_keeps_cells hg hr hc rfl)
theorem below_turn {w W W' : World} {B C : Nat} {row : Option Nat} (h : Below B w W) (hB : B ≤ C) (hw : B ≤ w.heap.size) (hg : W.grownBy W' row) (hr : ∀ r, row = some r → C ≤ r ∧ ∃ o : Obj, W.heap[r]? = some o ∧ o.isCells = false) : Below B w W' := h.grown hg (Nat.le_trans hw h.size) (fun r e => Nat.le_trans hB (hr r e).1)
theorem keeps_cells {B : Nat} {F : Nat → Prop} {W W' : World} (h : Chg F W W') (hF : ∀ k, F k → ∃ o : Obj, W.heap[k]? = some o ∧ o.isCells = true) : KeepsFrom B W W' :=
  ⟨h.size, fun k o _ ho hc => (h.block k (Array.getElem?_eq_some_iff.1 ho).1 (fun f => by
    obtain ⟨o', h1, h2⟩ := hF k f
    rw [ho] at h1
    cases h1
    rw [hc] at h2
    cases h2)).trans ho⟩
end Go.Proofs.YtdgepnfgjgbkoaaDoor
