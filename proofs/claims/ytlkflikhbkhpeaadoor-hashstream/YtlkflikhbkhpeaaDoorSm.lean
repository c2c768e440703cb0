/-
  Three hashes, what each of them took, and one that New did not make: what stands between the calls of a script.
-/
import Derived.Test.YtlkflikhbkhpeaaDoorKeep
namespace Go.Proofs.YtlkflikhbkhpeaaDoor
open Go.RowKit

def upd {α : Type} (f : Nat → α) (i : Nat) (x : α) : Nat → α := fun j => if j = i then x else f j
theorem upd_same {α : Type} (f : Nat → α) (i : Nat) (x : α) : upd f i x i = x := if_pos rfl
theorem upd_other {α : Type} (f : Nat → α) (i j : Nat) (x : α) (h : j ≠ i) : upd f i x j = f j := if_neg h
def ptr (g : Nat) : Value := .pointer (some ⟨g, 0, none⟩)
def hereA (g : Nat → Nat) : Array Value := #[ptr (g 0), ptr (g 1), ptr (g 2)]
def allA (b : Nat → Value) : Array Value := #[b 0, b 1, b 2]
theorem hereA_at (g : Nat → Nat) (i : Nat) (h : i < 3) : (hereA g)[i]? = some (ptr (g i)) := by
  match i, h with
  | 0, _ => rfl
  | 1, _ => rfl
  | 2, _ => rfl
theorem allA_at (b : Nat → Value) (i : Nat) (h : i < 3) : (allA b)[i]? = some (b i) := by
  match i, h with
  | 0, _ => rfl
  | 1, _ => rfl
  | 2, _ => rfl
theorem hereA_set (g : Nat → Nat) (i k : Nat) (h : i < 3) : (hereA g).setIfInBounds i (ptr k) = hereA (upd g i k) := by
  match i, h with
  | 0, _ => rfl
  | 1, _ => rfl
  | 2, _ => rfl
theorem allA_set (b : Nat → Value) (i : Nat) (v : Value) (h : i < 3) : (allA b).setIfInBounds i v = allA (upd b i v) := by
  match i, h with
  | 0, _ => rfl
  | 1, _ => rfl
  | 2, _ => rfl

/-- The three hashes (th: what each took; tb, b: what the statement holds of it). -/
structure Sm (w0 w : World) (hb ab z : Nat) (g : Nat → Nat) (th tb : Nat → List UInt8) (b : Nat → Value) : Prop where
  bel : Below w0.heap.size w0 w
  here : Lies w hb (hereA g) 36
  all : Lies w ab (allA b) 44
  zero : Lies w z (hv false ⟨0#32, 0#32, 0#32, 0#32⟩ zero64 0) 43
  hash : ∀ i, i < 3 → HashAt w (g i) (th i)
  inj : ∀ i j, i < 3 → j < 3 → i ≠ j → g i ≠ g j
  own : ∀ i, i < 3 → w.ownsRow w0.heap.size 5 1 (b i) (tb i).length (cellsB (tb i))
  hhb : w0.heap.size ≤ hb
  hab : w0.heap.size ≤ ab
  hz : w0.heap.size ≤ z
  hg : ∀ i, i < 3 → w0.heap.size ≤ g i

theorem Sm.keep {w0 w w' : World} {hb ab z : Nat} {g : Nat → Nat} {th tb : Nat → List UInt8} {b : Nat → Value} (h : Sm w0 w hb ab z g th tb b) (hbel : Below w0.heap.size w0 w') (hk : ∀ k, k < w.heap.size → w'.heap[k]? = w.heap[k]?) : Sm w0 w' hb ab z g th tb b :=
  ⟨hbel, (hk hb h.here.lt).trans h.here, (hk ab h.all.lt).trans h.all, (hk z h.zero.lt).trans h.zero, fun i hi => (h.hash i hi).of (hk _ (h.hash i hi).lt), h.inj, fun i hi => own_keep (h.own i hi) (fun k e => hk k ((h.own i hi).lt k e).2), h.hhb, h.hab, h.hz, h.hg⟩
theorem Sm.below {w0 w w' : World} {hb ab z : Nat} {g : Nat → Nat} {th tb : Nat → List UInt8} {b : Nat → Value} (h : Sm w0 w hb ab z g th tb b) (hbb : Below w.heap.size w w') : Sm w0 w' hb ab z g th tb b :=
  h.keep (h.bel.trans (hbb.mono h.bel.size)) (fun k hk => hbb.block k hk)
/-- A hash took more. -/
theorem Sm.took {w0 w w' : World} {hb ab z : Nat} {g : Nat → Nat} {th tb : Nat → List UInt8} {b : Nat → Value} (h : Sm w0 w hb ab z g th tb b) {i : Nat} (hi : i < 3) (hbut : But (g i) w w') {T : List UInt8} (hT : HashAt w' (g i) T) : Sm w0 w' hb ab z g (upd th i T) tb b := by
  obtain ⟨row, _, _, hl⟩ := (h.hash i hi).ex
  have n1 : hb ≠ g i := fun e => by have := h.here; rw [e] at this; exact absurd (lies_kind this hl) (by decide)
  have n2 : ab ≠ g i := fun e => by have := h.all; rw [e] at this; exact absurd (lies_kind this hl) (by decide)
  have n3 : z ≠ g i := fun e => by
    have h1 := h.zero.cell 0
    have h2 := hl.cell 0
    rw [e] at h1
    rw [h1] at h2
    simp [hv, hvL] at h2
  refine ⟨h.bel.trans (hbut.below (h.hg i hi) h.bel.size), hbut.lies h.here n1, hbut.lies h.all n2, hbut.lies h.zero n3, fun j hj => ?_, h.inj, fun j hj => own_keep (h.own j hj) (fun k e => hbut.block k ((h.own j hj).lt k e).2 ((h.hash i hi).apart (h.own j hj) k e)), h.hhb, h.hab, h.hz, h.hg⟩
  by_cases e : j = i
  · subst e
    rw [upd_same]
    exact hT
  · rw [upd_other _ _ _ _ e]
    exact (h.hash j hj).but hbut (h.inj j i hj hi e)
theorem heap_set (w : World) (g k j : Nat) (v : Value) (h : k ≠ g) : (w.setCell ⟨g, j, none⟩ v).heap[k]? = w.heap[k]? := Below.heap_setCell _ _ _ _ h
/-- What the statement holds of a hash is written anew. -/
theorem Sm.held {w0 w : World} {hb ab z : Nat} {g : Nat → Nat} {th tb : Nat → List UInt8} {b : Nat → Value} (h : Sm w0 w hb ab z g th tb b) {i : Nat} (hi : i < 3) (v : Value) (T : List UInt8) (ho : w.ownsRow w0.heap.size 5 1 v T.length (cellsB T)) :
    Sm w0 (w.setCell ⟨ab, i, none⟩ v) hb ab z g th (upd tb i T) (upd b i v) := by
  have n1 : hb ≠ ab := fun e => by have := h.here; rw [e] at this; exact absurd (lies_kind this h.all) (by decide)
  have n3 : z ≠ ab := fun e => by have := h.zero; rw [e] at this; exact absurd (lies_kind this h.all) (by decide)
  refine ⟨h.bel.setCell h.hab _, (heap_set w ab hb i v n1).trans h.here, ?_, (heap_set w ab z i v n3).trans h.zero, fun j hj => (h.hash j hj).of (heap_set w ab _ i v (fun e => ?_)), h.inj, fun j hj => ?_, h.hhb, h.hab, h.hz, h.hg⟩
  · have := h.all.set i v
    rw [allA_set b i v hi] at this
    exact this
  · obtain ⟨row, _, _, hl⟩ := (h.hash j hj).ex
    rw [e] at hl
    exact absurd (lies_kind hl h.all) (by decide)
  · by_cases e : j = i
    · subst e
      rw [upd_same, upd_same]
      exact own_keep ho (fun k e => heap_set w ab k j v (own_apart ho h.all (by decide) k e))
    · rw [upd_other _ _ _ _ e, upd_other _ _ _ _ e]
      exact own_keep (h.own j hj) (fun k e => heap_set w ab k i v (own_apart (h.own j hj) h.all (by decide) k e))
/-- Another hash comes into a place. -/
theorem Sm.put {w0 w : World} {hb ab z : Nat} {g : Nat → Nat} {th tb : Nat → List UInt8} {b : Nat → Value} (h : Sm w0 w hb ab z g th tb b) {i : Nat} (hi : i < 3) (k : Nat) (T : List UInt8) (hk : HashAt w k T) (hne : ∀ j, j < 3 → g j ≠ k) (hB : w0.heap.size ≤ k) :
    Sm w0 (w.setCell ⟨hb, i, none⟩ (ptr k)) hb ab z (upd g i k) (upd th i T) tb b := by
  have n1 : ab ≠ hb := fun e => by have := h.all; rw [e] at this; exact absurd (lies_kind this h.here) (by decide)
  have n3 : z ≠ hb := fun e => by have := h.zero; rw [e] at this; exact absurd (lies_kind this h.here) (by decide)
  have nh : ∀ {q S}, HashAt w q S → q ≠ hb := fun {q S} hq e => by
    obtain ⟨row, _, _, hl⟩ := hq.ex
    rw [e] at hl
    exact absurd (lies_kind hl h.here) (by decide)
  refine ⟨h.bel.setCell h.hhb _, ?_, (heap_set w hb ab i _ n1).trans h.all, (heap_set w hb z i _ n3).trans h.zero, fun j hj => ?_, fun p q hp hq hpq => ?_, fun j hj => own_keep (h.own j hj) (fun m e => heap_set w hb m i _ (own_apart (h.own j hj) h.here (by decide) m e)), h.hhb, h.hab, h.hz, fun j hj => ?_⟩
  · have := h.here.set i (ptr k)
    rw [hereA_set g i k hi] at this
    exact this
  · by_cases e : j = i
    · subst e
      rw [upd_same, upd_same]
      exact hk.of (heap_set w hb k j _ (nh hk))
    · rw [upd_other _ _ _ _ e, upd_other _ _ _ _ e]
      exact (h.hash j hj).of (heap_set w hb _ i _ (nh (h.hash j hj)))
  · by_cases e1 : p = i
    · subst e1
      rw [upd_same, upd_other _ _ _ _ (Ne.symm hpq)]
      exact (hne q hq).symm
    · by_cases e2 : q = i
      · subst e2
        rw [upd_same, upd_other _ _ _ _ e1]
        exact hne p hp
      · rw [upd_other _ _ _ _ e1, upd_other _ _ _ _ e2]
        exact h.inj p q hp hq hpq
  · by_cases e : j = i
    · subst e
      rw [upd_same]
      exact hB
    · rw [upd_other _ _ _ _ e]
      exact h.hg j hj
end Go.Proofs.YtlkflikhbkhpeaaDoor
