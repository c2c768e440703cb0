/-
  Loops over an iterator whose variable is laid in a block; statements that don't panic.
-/
import Derived.Test.YtgbbjhhggjocmaaRf7
namespace Go.Proofs.Ytgbbjhhggjocmaa
open Go.RowKit Go.Shelf

def noP (Q : Exit → Act → World → Prop) : Exit → Act → World → Prop
  | .panic _, _, _ => False
  | e, a, w => Q e a w
theorem wp_noP {P : Program} {c : Code} {Q : Exit → Act → World → Prop} {a : Act} {w : World} (h : c.wp P (noP Q) a w) : c.wp P Q a w :=
  Code.wp_mono (fun e a w q => by cases e <;> first | exact q | exact q.elim) h
theorem noP_normal {Q : Exit → Act → World → Prop} {a : Act} {w : World} (h : Q .normal a w) : noP Q .normal a w := h
theorem lies_turn {W W' : World} {b t B : Nat} {cs : Array Value} (h : Lies W b cs t) {row : Option Nat} (hg : W.grownBy W' row) (hr : ∀ r, row = some r → B ≤ r ∧ ∃ o : Obj, W.heap[r]? = some o ∧ o.isCells = false) : Lies W' b cs t :=
  (hg.block b h.lt (fun e => by
    obtain ⟨_, o', h1, h2⟩ := hr b e.symm
    have h3 : W.heap[b]? = some (.cells cs t (0, 0)) := h
    rw [h3] at h1
    cases h1
    cases h2)).trans h
theorem rf_box {α : Type} {P : Program} {n : Nat} {g : Operand} {ps : Array Tmp} {assign body : Code} {Q : Exit → Act → World → Prop} {a : Act} {w : World}
    (h1 : 1 ≤ n) {gf : Nat} {lb : Array Value} (hg : a.eval g = .func (.func gf) #[] lb) (eg : ∀ args w, (callFunc gf args).run P w = .ok (.enter gf args) w)
    {encs : α → Array Value} {S Sp : List α → Prop} {N : Nat} (hseq : SeqStopsK Fence.wide (n - 1) P gf lb encs (Kr w.heap.size) S Sp N w) (hps : ∀ x, (encs x).size = ps.size)
    (cs : α → Array Value) (t : TypeId) (I : List α → World → Prop) (Ix : Code → List α → World → Prop) (hI : OwnFrom w.heap.size I) (hIx : ∀ c, OwnFrom w.heap.size (Ix c)) (h0 : I [] w) (a₁ : α → Nat → Act)
    (hassign : ∀ (l : Nat) (x : α) (W : World) (B : Nat) (K : Act → World → Prop), B = W.heap.size → K (a₁ x B) (W.alloc (.cells (cs x) t)) →
      assign.wpIn (Fence.wide.inRound l) (n - 1 - 1) P (Exit.then K (fun _ _ _ => False)) { tmps := (ps.zip (encs x)).foldl (fun t (p, v) => t.setIfInBounds p v) a.tmps, defers := [] } W)
    (hbody : ∀ (l : Nat) (pre : List α) (x : α) (B : Nat) (W : World), Lies W B (cs x) t → I pre W → pre.length < N → body.wpIn (Fence.wide.inRound l) (n - 1 - 1) P (ownPostG w.heap.size (Kr w.heap.size) I Ix (pre ++ [x]) W) (a₁ x B) W)
    (hdone : ∀ (D : Nat) (xs : List α) (W : World), w.heap.size ≤ D → S xs → I xs W → W.heap[D]? = some (.deferred (some [])) → Q .normal { a with defers := { target := .collected D, args := #[] } :: a.defers } W)
    (hstop : ∀ (D : Nat) (c : Code) (pre : List α) (W : World), w.heap.size ≤ D → Sp pre → Ix c pre W → W.heap[D]? = some (.deferred (some [])) → c.wpIn Fence.wide n P Q { a with defers := { target := .collected D, args := #[] } :: a.defers } W) :
    (Code.rangeFunc g ps assign body).wpIn Fence.wide n P Q a w :=
  wpIn_rangeFunc_ownH rfl h1 hg trivial eg hseq (fun h k => h.trans k) (fun W l o o' _ hl ho _ => Kr.book _ W l o o' hl ho) (Below.refl _ _) hps I Ix hI hIx h0 (fun x a' W => ∃ B, Lies W B (cs x) t ∧ a' = a₁ x B) (fun _ _ _ _ _ _ hs hg hr => by obtain ⟨B, h1, h2⟩ := hs; exact ⟨B, lies_turn h1 hg hr, h2⟩)
    (fun l pre x W K hi hK => hassign l x W _ K rfl (by
      have hb : Below W.heap.size W (W.alloc (.cells (cs x) t)) := (Below.refl _ _).alloc (Nat.le_refl _) _
      exact hK _ _ (keeps_of_chg (F := fun _ => False) (Chg.of_below hb) (fun _ h => h.elim)) (Kr.of_below hb) (hI.alloc _ hi) ⟨W.heap.size, Lies.new W _ _, rfl⟩))
    (fun l pre x _ W _ _ hi e => by obtain ⟨B, h1, rfl⟩ := e; exact hbody l pre x B W h1 hi) hdone hstop
end Go.Proofs.Ytgbbjhhggjocmaa
