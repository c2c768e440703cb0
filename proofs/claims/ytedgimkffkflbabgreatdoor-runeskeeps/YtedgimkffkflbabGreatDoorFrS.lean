/-
  Four lists of the call's own and two beside them, that are written over and made longer: the state.
-/
import Derived.Test.YtedgimkffkflbabGreatDoorKpC
import Derived.Deep.AppendLies
namespace Go.Proofs.YtedgimkffkflbabGreatDoor
open Go.RowKit

def updF {α : Type} (f : Nat → α) (i : Nat) (x : α) : Nat → α := fun j => if j = i then x else f j
theorem updF_self {α : Type} (f : Nat → α) (i : Nat) (x : α) : updF f i x i = x := if_pos rfl
theorem updF_ne {α : Type} (f : Nat → α) (i : Nat) (x : α) {j : Nat} (h : j ≠ i) : updF f i x j = f j := if_neg h
structure Frs (w0 w : World) (gL : Nat) (V : Nat → Value) (F : Nat → List Int) (u1 u2 : Value) (R1 R2 : List Int) : Prop where
  below : Below w0.heap.size w0 w
  hgL : w0.heap.size ≤ gL
  lst : Lies w gL #[V 0, V 1, V 2, V 3] 22
  own : ∀ i, i < 4 → w.ownsRow w0.heap.size 21 1 (V i) (F i).length (cellsN .i32 (F i))
  ap : ∀ i j, i < 4 → j < 4 → i ≠ j → ∀ k, (V i).ownBlock = some k → (V j).ownBlock ≠ some k
  r1 : w.ownsRow w0.heap.size 21 1 u1 R1.length (cellsN .i32 R1)
  r2 : w.ownsRow w0.heap.size 21 1 u2 R2.length (cellsN .i32 R2)
  a1 : ∀ i, i < 4 → ∀ k, (V i).ownBlock = some k → u1.ownBlock ≠ some k
  a2 : ∀ i, i < 4 → ∀ k, (V i).ownBlock = some k → u2.ownBlock ≠ some k
theorem Frs.keep {w0 w w' : World} {gL : Nat} {V : Nat → Value} {F : Nat → List Int} {u1 u2 : Value} {R1 R2 : List Int} (h : Frs w0 w gL V F u1 u2 R1 R2) (hb : Below w.heap.size w w') : Frs w0 w' gL V F u1 u2 R1 R2 :=
  ⟨h.below.trans (hb.mono h.below.size), h.hgL, h.lst.below hb h.lst.lt, fun i hi => ownN_below (h.own i hi) hb, h.ap, ownN_below h.r1 hb, ownN_below h.r2 hb, h.a1, h.a2⟩
theorem Frs.cell {w0 w : World} {gL : Nat} {V : Nat → Value} {F : Nat → List Int} {u1 u2 : Value} {R1 R2 : List Int} (h : Frs w0 w gL V F u1 u2 R1 R2) (i : Nat) (hi : i < 4) : w.cell? ⟨gL, i, none⟩ = some (V i) := by
  rw [h.lst.cell i]
  match i, hi with
  | 0, _ => rfl
  | 1, _ => rfl
  | 2, _ => rfl
  | 3, _ => rfl
theorem set4 (V : Nat → Value) (i : Nat) (hi : i < 4) (v : Value) : (#[V 0, V 1, V 2, V 3] : Array Value).setIfInBounds i v = #[updF V i v 0, updF V i v 1, updF V i v 2, updF V i v 3] := by
  match i, hi with
  | 0, _ => rfl
  | 1, _ => rfl
  | 2, _ => rfl
  | 3, _ => rfl
/-- The shape of a row, and where its numbers lie. -/
theorem own_at {w : World} {B n : Nat} {v : Value} {l : List Int} (h : w.ownsRow B 21 1 v n (cellsN .i32 l)) (j : Nat) (hj : j < n) (x : Int) (hx : l[j]? = some x) : ∃ g c, v = .slice (some ⟨g, 0, none⟩) n c ∧ g < w.heap.size ∧ B ≤ g ∧ v.ownBlock = some g ∧ w.cell? ⟨g, j, none⟩ = some (.int .i32 x) ∧ w.frozen? ⟨g, j, none⟩ = false := by
  rcases id h.2 with ⟨rfl, h0⟩ | ⟨g, cap, cur, rfl, hb, hg, hcap, _⟩
  · omega
  · refine ⟨g, cap, rfl, (Array.getElem?_eq_some_iff.1 hg).1, hb, rfl, ?_, Lies.frozen hg j⟩
    have := h.cellAt j (by omega)
    rw [this]
    unfold cellsN
    rw [List.getElem?_map, hx]
    rfl
theorem own_set {w : World} {B n c g : Nat} {l : List Int} (h : w.ownsRow B 21 1 (.slice (some ⟨g, 0, none⟩) n c) n (cellsN .i32 l)) (j : Nat) (hj : j < n) (x : Int) : (w.setCell ⟨g, j, none⟩ (.int .i32 x)).ownsRow B 21 1 (.slice (some ⟨g, 0, none⟩) n c) n (cellsN .i32 (l.set j x)) := by
  obtain ⟨h1, h2⟩ := h
  refine ⟨by rw [cellsN_length] at h1 ⊢; rw [List.length_set]; exact h1, ?_⟩
  rcases h2 with ⟨hv, h0⟩ | ⟨g', cap, cur, hv, hb, hg, hcap, hm, hs, ht⟩
  · omega
  · injection hv with e1 e2 e3
    injection e1 with e1
    injection e1 with e1
    subst e1 e3
    refine .inr ⟨g, c, cur.setIfInBounds j (.int .i32 x), rfl, hb, Lies.set hg j _, hcap, hm, by simpa using hs, ?_⟩
    rw [Nat.mul_one] at ht ⊢
    rw [Array.toList_setIfInBounds, List.take_set, ht]
    unfold cellsN
    rw [List.map_set]
/-- A number of the row i is another. -/
theorem Frs.put {w0 w : World} {gL : Nat} {V : Nat → Value} {F : Nat → List Int} {u1 u2 : Value} {R1 R2 : List Int} (h : Frs w0 w gL V F u1 u2 R1 R2) (i : Nat) (hi : i < 4) (g n c : Nat) (hv : V i = .slice (some ⟨g, 0, none⟩) n c) (hn : n = (F i).length) (hg : w0.heap.size ≤ g) (j : Nat) (hj : j < n) (x : Int) :
    Frs w0 (w.setCell ⟨g, j, none⟩ (.int .i32 x)) gL V (updF F i ((F i).set j x)) u1 u2 R1 R2 := by
  have hob : (V i).ownBlock = some g := by rw [hv]; rfl
  have hi0 := h.own i hi
  have hLg : gL ≠ g := fun e => by
    have h2 := ownN_apart hi0 h.lst (by decide) g hob
    exact h2 e.symm
  have hk : ∀ q, q ≠ g → (w.setCell ⟨g, j, none⟩ (.int .i32 x)).heap[q]? = w.heap[q]? := fun q hq => Below.heap_setCell _ _ _ q hq
  refine ⟨h.below.setCell (p := ⟨g, j, none⟩) hg _, h.hgL, (hk gL hLg).trans h.lst, fun k hk4 => ?_, h.ap, ownN_keep h.r1 (fun q hq => hk q (fun e => h.a1 i hi g hob (e ▸ hq))), ownN_keep h.r2 (fun q hq => hk q (fun e => h.a2 i hi g hob (e ▸ hq))), h.a1, h.a2⟩
  by_cases e : k = i
  · subst e
    rw [updF_self, List.length_set, hv, ← hn]
    rw [hv, ← hn] at hi0
    exact own_set hi0 j hj x
  · rw [updF_ne F i _ e]
    exact ownN_keep (h.own k hk4) (fun q hq => hk q (fun e2 => h.ap i k hi hk4 (Ne.symm e) g hob (e2 ▸ hq)))
/-- The row i is a longer one. -/
theorem Frs.longer {w0 w w' : World} {gL : Nat} {V : Nat → Value} {F : Nat → List Int} {u1 u2 : Value} {R1 R2 : List Int} (h : Frs w0 w gL V F u1 u2 R1 R2) (i : Nat) (hi : i < 4) (g n c : Nat) (L : List Int) (hn : n = L.length) (ho : w'.ownsRow w0.heap.size 21 1 (.slice (some ⟨g, 0, none⟩) n c) n (cellsN .i32 L)) (hg : w.grownBy w' (V i).ownBlock) (hw : (V i).ownBlock = some g ∨ g = w.heap.size) :
    Frs w0 (w'.setCell ⟨gL, i, none⟩ (.slice (some ⟨g, 0, none⟩) n c)) gL (updF V i (.slice (some ⟨g, 0, none⟩) n c)) (updF F i L) u1 u2 R1 R2 := by
  have hi0 := h.own i hi
  have hLi : some gL ≠ (V i).ownBlock := fun e => (ownN_apart hi0 h.lst (by decide) gL e.symm) rfl
  have hlst : Lies w' gL #[V 0, V 1, V 2, V 3] 22 := (hg.block gL h.lst.lt hLi).trans h.lst
  have hk : ∀ q, q ≠ gL → (w'.setCell ⟨gL, i, none⟩ (.slice (some ⟨g, 0, none⟩) n c)).heap[q]? = w'.heap[q]? := fun q hq => Below.heap_setCell _ _ _ q hq
  have hgne : ∀ v xs nn, w.ownsRow w0.heap.size 21 1 v nn xs → (∀ k, (V i).ownBlock = some k → v.ownBlock ≠ some k) → v.ownBlock ≠ some g := fun v xs nn hv hne e => by
    rcases hw with hw | hw
    · exact hne g hw e
    · have := (hv.lt g e).2
      omega
  have keep : ∀ v xs nn, w.ownsRow w0.heap.size 21 1 v nn xs → (∀ k, (V i).ownBlock = some k → v.ownBlock ≠ some k) → (w'.setCell ⟨gL, i, none⟩ (.slice (some ⟨g, 0, none⟩) n c)).ownsRow w0.heap.size 21 1 v nn xs := fun v xs nn hv hne =>
    ownN_keep hv (fun q hq => (hk q (ownN_apart hv h.lst (by decide) q hq)).trans (hg.block q (hv.lt q hq).2 (fun e => hne q e.symm hq)))
  refine ⟨?_, h.hgL, ?_, fun k hk4 => ?_, fun k j hk4 hj4 hne q hq => ?_, keep _ _ _ h.r1 (fun k hk' => h.a1 i hi k hk'), keep _ _ _ h.r2 (fun k hk' => h.a2 i hi k hk'), fun k hk4 q hq => ?_, fun k hk4 q hq => ?_⟩
  · exact (h.below.grown hg h.below.size (fun q hq => (hi0.lt q hq).1)).setCell (p := ⟨gL, i, none⟩) h.hgL _
  · have := hlst.set i (.slice (some ⟨g, 0, none⟩) n c)
    rw [set4 V i hi] at this
    exact this
  · by_cases e : k = i
    · subst e
      rw [updF_self, updF_self, ← hn]
      exact ownN_keep ho (fun q hq => hk q (ownN_apart ho hlst (by decide) q hq))
    · rw [updF_ne V i _ e, updF_ne F i _ e]
      exact keep _ _ _ (h.own k hk4) (fun q hq => h.ap i k hi hk4 (Ne.symm e) q hq)
  · by_cases e1 : k = i
    · subst e1
      rw [updF_self] at hq
      injection hq with hq
      rw [updF_ne V k _ (Ne.symm hne), ← hq]
      exact hgne _ _ _ (h.own j hj4) (fun q' hq' => h.ap k j hk4 hj4 hne q' hq')
    · rw [updF_ne V i _ e1] at hq
      by_cases e2 : j = i
      · subst e2
        rw [updF_self]
        intro e
        injection e with e
        exact hgne _ _ _ (h.own k hk4) (fun q' hq' => h.ap j k hj4 hk4 (Ne.symm hne) q' hq') (by rw [hq, ← e])
      · rw [updF_ne V i _ e2]
        exact h.ap k j hk4 hj4 hne q hq
  · by_cases e1 : k = i
    · subst e1
      rw [updF_self] at hq
      injection hq with hq
      rw [← hq]
      exact hgne _ _ _ h.r1 (fun q' hq' => h.a1 k hk4 q' hq')
    · rw [updF_ne V i _ e1] at hq
      exact h.a1 k hk4 q hq
  · by_cases e1 : k = i
    · subst e1
      rw [updF_self] at hq
      injection hq with hq
      rw [← hq]
      exact hgne _ _ _ h.r2 (fun q' hq' => h.a2 k hk4 q' hq')
    · rw [updF_ne V i _ e1] at hq
      exact h.a2 k hk4 q hq
/-- Another row, of other cells, is made longer. -/
theorem Frs.grown {w0 w w' : World} {gL : Nat} {V : Nat → Value} {F : Nat → List Int} {u1 u2 : Value} {R1 R2 : List Int} (h : Frs w0 w gL V F u1 u2 R1 R2) {sv : Value} {n : Nat} {xs : List Value} (hs : w.ownsRow w0.heap.size 3 1 sv n xs) (hg : w.grownBy w' sv.ownBlock) : Frs w0 w' gL V F u1 u2 R1 R2 := by
  have keep : ∀ v nn ys, w.ownsRow w0.heap.size 21 1 v nn ys → w'.ownsRow w0.heap.size 21 1 v nn ys := fun v nn ys hv => ownN_keep hv (fun q hq => hg.block q (hv.lt q hq).2 (fun e => by
    rcases hv.2 with ⟨rfl, _⟩ | ⟨g, cap, cur, rfl, _, hl, _⟩
    · cases hq
    · injection hq with hq
      subst hq
      exact ownN_apart hs hl (by decide) _ e.symm rfl))
  exact ⟨h.below.grown hg h.below.size (fun q hq => (hs.lt q hq).1), h.hgL, (hg.block gL h.lst.lt (fun e => (ownN_apart hs h.lst (by decide) gL e.symm) rfl)).trans h.lst, fun i hi => keep _ _ _ (h.own i hi), h.ap, keep _ _ _ h.r1, keep _ _ _ h.r2, h.a1, h.a2⟩
def f4 {α : Type} (a b c d : α) : Nat → α := fun i => if i = 0 then a else if i = 1 then b else if i = 2 then c else d
end Go.Proofs.YtedgimkffkflbabGreatDoor
