/-
  Worlds of which some blocks alone are changed; lists of things in memory, each of as many cells.
-/
import Derived.Test.YthkoionigdnhgabGreatDoorRowl
import Derived.Test.YthkoionigdnhgabGreatDoorProg
import Derived.WalkKit
import Derived.Laws.IdiomCopy
import Derived.Laws.OwnMore
import Derived.Lib.SliceRun
import Derived.OwnWalk
import Derived.Deep.AppendLies
namespace Go.Proofs.YthkoionigdnhgabGreatDoor
open Go.RowKit

/-- All is as it was but the blocks F. -/
structure Chg (F : Nat → Prop) (w w' : World) : Prop where
  os : w'.os = w.os
  tape : w'.tape = w.tape
  output : w'.output = w.output
  size : w.heap.size ≤ w'.heap.size
  block : ∀ k, k < w.heap.size → ¬ F k → w'.heap[k]? = w.heap[k]?
theorem Chg.refl (F : Nat → Prop) (w : World) : Chg F w w := ⟨rfl, rfl, rfl, Nat.le_refl _, fun _ _ _ => rfl⟩
theorem Chg.trans {F : Nat → Prop} {a b c : World} (h : Chg F a b) (k : Chg F b c) : Chg F a c :=
  ⟨k.os.trans h.os, k.tape.trans h.tape, k.output.trans h.output, Nat.le_trans h.size k.size, fun i hi hn => (k.block i (Nat.lt_of_lt_of_le hi h.size) hn).trans (h.block i hi hn)⟩
/-- What is changed next may be new besides. -/
theorem Chg.then {F G : Nat → Prop} {a b c : World} (h : Chg F a b) (k : Chg G b c) (hG : ∀ i, G i → F i ∨ a.heap.size ≤ i) : Chg F a c :=
  ⟨k.os.trans h.os, k.tape.trans h.tape, k.output.trans h.output, Nat.le_trans h.size k.size, fun i hi hn => (k.block i (Nat.lt_of_lt_of_le hi h.size) (fun g => by rcases hG i g with h1 | h1; exact hn h1; omega)).trans (h.block i hi hn)⟩
theorem Chg.mono {F G : Nat → Prop} {a b : World} (h : Chg F a b) (hG : ∀ i, F i → G i) : Chg G a b := ⟨h.os, h.tape, h.output, h.size, fun k hk hn => h.block k hk (fun f => hn (hG k f))⟩
theorem Chg.drew {F : Nat → Prop} {a b : World} (h : Chg F a b) : Chg F a b.drew := ⟨h.os, h.tape, h.output, h.size, h.block⟩
theorem Chg.drewN {F : Nat → Prop} {a b : World} (h : Chg F a b) (n : Nat) : Chg F a (b.drewN n) := ⟨h.os, h.tape, h.output, h.size, h.block⟩
theorem Chg.set {F : Nat → Prop} {a b : World} (h : Chg F a b) {p : Addr} (hp : F p.block ∨ a.heap.size ≤ p.block) (v : Value) : Chg F a (b.setCell p v) :=
  ⟨h.os, h.tape, h.output, by rw [World.size_setCell]; exact h.size, fun k hk hn => (Below.heap_setCell _ _ _ _ (fun e => by subst e; rcases hp with h1 | h1; exact hn h1; omega)).trans (h.block k hk hn)⟩
theorem Chg.alloc {F : Nat → Prop} {a b : World} (h : Chg F a b) (o : Obj) : Chg F a (b.alloc o) :=
  ⟨h.os, h.tape, h.output, by simp; exact Nat.le_succ_of_le h.size, fun k hk hn => (Below.heap_alloc _ _ _ (Nat.lt_of_lt_of_le hk h.size)).trans (h.block k hk hn)⟩
theorem Chg.below {F : Nat → Prop} {a b c : World} (h : Chg F a b) (k : Below b.heap.size b c) : Chg F a c :=
  ⟨k.os.trans h.os, k.tape.trans h.tape, k.output.trans h.output, Nat.le_trans h.size k.size, fun i hi hn => (k.block i (Nat.lt_of_lt_of_le hi h.size)).trans (h.block i hi hn)⟩
theorem Chg.of_below {F : Nat → Prop} {a b : World} (k : Below a.heap.size a b) : Chg F a b := (Chg.refl F a).below k
theorem Chg.grown {F : Nat → Prop} {a b c : World} {row : Option Nat} (h : Chg F a b) (g : b.grownBy c row) (hr : ∀ k, row = some k → F k ∨ a.heap.size ≤ k) : Chg F a c :=
  ⟨g.os.trans h.os, g.tape.trans h.tape, g.output.trans h.output, Nat.le_trans h.size g.size, fun k hk hn => (g.block k (Nat.lt_of_lt_of_le hk h.size) (fun e => by rcases hr k e.symm with h1 | h1; exact hn h1; omega)).trans (h.block k hk hn)⟩
theorem Chg.to_below {F : Nat → Prop} {B : Nat} {a b : World} (h : Chg F a b) (hB : B ≤ a.heap.size) (hF : ∀ k, F k → B ≤ k) : Below B a b :=
  ⟨h.os, h.tape, h.output, h.size, fun k hk => h.block k (by omega) (fun f => by have := hF k f; omega)⟩
theorem Chg.lies {F : Nat → Prop} {a b : World} (h : Chg F a b) {g : Nat} {cs : Array Value} {t : TypeId} (hl : Lies a g cs t) (hn : ¬ F g) : Lies b g cs t := (h.block g hl.lt hn).trans hl
theorem lies_kind {w : World} {g t u : Nat} {cs ds : Array Value} (h : Lies w g cs t) (k : Lies w g ds u) : t = u := by
  unfold Lies at h k
  rw [h] at k
  cases k
  rfl
theorem lt_of_cell {w : World} {a : Addr} {v : Value} (h : w.cell? a = some v) : a.block < w.heap.size := by
  rcases Nat.lt_or_ge a.block w.heap.size with h' | h'
  · exact h'
  · simp [World.cell?, Array.getElem?_eq_none h'] at h
theorem ret_bool {a b : Bool} (h : a = b) : Ending.returned (.bool a) = .returned (.bool b) := by rw [h]
theorem ret_i64 {a b : Int} (h : a = b) : Ending.returned (.int .i64 a) = .returned (.int .i64 b) := by rw [h]
end Go.Proofs.YthkoionigdnhgabGreatDoor
/-
  Rows that the call made, of things of several cells; one thing laid behind them.
-/
namespace Go.Proofs.YthkoionigdnhgabGreatDoor
open Go.RowKit

/-- The row v holds the things l. -/
def Ow {α : Type} (cel : α → List Value) (t k : Nat) (w : World) (v : Value) (l : List α) : Prop := w.ownsRow 0 t k v l.length (l.flatMap cel)
theorem Ow.nil {α : Type} (cel : α → List Value) (t k : Nat) (w : World) : Ow cel t k w (.slice none 0 0) ([] : List α) := ⟨by simp, .inl ⟨rfl, rfl⟩⟩
theorem Ow.keep {α : Type} {cel : α → List Value} {t k : Nat} {w w' : World} {v : Value} {l : List α} (h : Ow cel t k w v l) (hk : ∀ g, v.ownBlock = some g → w'.heap[g]? = w.heap[g]?) : Ow cel t k w' v l := by
  obtain ⟨h1, ⟨rfl, h2⟩ | ⟨g, cap, cur, rfl, h3, h4, h5⟩⟩ := h
  · exact ⟨h1, .inl ⟨rfl, h2⟩⟩
  · exact ⟨h1, .inr ⟨g, cap, cur, rfl, h3, (hk g rfl).trans h4, h5⟩⟩
theorem Ow.lt {α : Type} {cel : α → List Value} {t k : Nat} {w : World} {v : Value} {l : List α} (h : Ow cel t k w v l) (g : Nat) (hg : v.ownBlock = some g) : g < w.heap.size := by
  obtain ⟨_, ⟨rfl, _⟩ | ⟨g', cap, cur, rfl, _, h4, _⟩⟩ := h
  · cases hg
  · cases hg; exact (Array.getElem?_eq_some_iff.1 h4).1
theorem Ow.chg {α : Type} {cel : α → List Value} {t k : Nat} {w w' : World} {v : Value} {l : List α} {F : Nat → Prop} (h : Ow cel t k w v l) (hc : Chg F w w') (hn : ∀ g, v.ownBlock = some g → ¬ F g) : Ow cel t k w' v l := h.keep (fun g hg => hc.block g (h.lt g hg) (hn g hg))
theorem Ow.below {α : Type} {cel : α → List Value} {t k : Nat} {w w' : World} {v : Value} {l : List α} (h : Ow cel t k w v l) (hb : Below w.heap.size w w') : Ow cel t k w' v l := h.keep (fun g hg => hb.block g (h.lt g hg))
theorem Ow.cells {α : Type} {cel : α → List Value} {t k : Nat} {w : World} {g n c : Nat} {l : List α} (h : Ow cel t k w (.slice (some ⟨g, 0, none⟩) n c) l) (j : Nat) (hj : j < (l.flatMap cel).length) : w.cell? ⟨g, j, none⟩ = (l.flatMap cel)[j]? := by
  obtain ⟨h1, ⟨h2, _⟩ | ⟨g', cap, cur, h2, _, h4, _, _, _, h5⟩⟩ := h
  · cases h2
  · cases h2
    rw [cell_of_row w g j cur t (0, 0) h4, ← h5, List.getElem?_take, if_pos (by rw [← h1]; exact hj), Array.getElem?_toList]
theorem Ow.frozen {α : Type} {cel : α → List Value} {t k : Nat} {w : World} {g n c : Nat} {l : List α} (h : Ow cel t k w (.slice (some ⟨g, 0, none⟩) n c) l) (j : Nat) : w.frozen? ⟨g, j, none⟩ = false := by
  obtain ⟨h1, ⟨h2, _⟩ | ⟨g', cap, cur, h2, _, h4, _⟩⟩ := h
  · cases h2
  · cases h2
    exact frozen_of_row w g j cur t h4
theorem Ow.cap {α : Type} {cel : α → List Value} {t k : Nat} {w : World} {a : Option Addr} {n c : Nat} {l : List α} (h : Ow cel t k w (.slice a n c) l) : n = l.length ∧ n ≤ c := by
  obtain ⟨h1, ⟨h2, h0⟩ | ⟨g', cap, cur, h2, _, h4, h5, _⟩⟩ := h
  · cases h2; exact ⟨h0.symm, Nat.le_refl _⟩
  · cases h2; exact ⟨rfl, h5⟩
end Go.Proofs.YthkoionigdnhgabGreatDoor
