/-
  A range over a function whose rounds are known by their number: the body is asked of the number that is due alone.
-/
import Derived.RangeFuncNested
import Derived.RangeFuncBound
import Derived.RangeFuncCalls
import Derived.RangeFuncLeaves
import Derived.Shelf.Abstract
import Derived.Shelf.RegionOpen
import Derived.WalkKit
import Derived.OwnWalkIn
import Derived.TacticsInMore
import Derived.LoopNIn
import Derived.LoopIn
namespace Go.Proofs.YtedgimkffkflbaaDoor
open Go.RowKit

/-- How a round ends that goes on. -/
def goesOn (B : Nat) (I : Nat → World → Prop) (t : Nat) (W : World) : Exit → Act → World → Prop
  | .normal, _, W' => KeepsFrom B W W' ∧ I (t + 1) W'
  | _, _, _ => False

theorem range_rounds {F : Fence} {n : Nat} {P : Program} {g : Operand} {ps : Array Tmp} {assign body : Code} {Q : Exit → Act → World → Prop} {a : Act} {w : World}
    (hro : F.round = none) (h1 : 1 ≤ n) {gf : Nat} {lb : Array Value} (hg : a.eval g = .func (.func gf) #[] lb) (hFg : F.fn gf) (eg : ∀ args w, (callFunc gf args).run P w = .ok (.enter gf args) w)
    (m : Nat) (encs : Nat → Array Value) (hps : ∀ t, (encs t).size = ps.size) (I : Nat → World → Prop) (hI : OwnFrom w.heap.size I) (h0 : I 0 w)
    (hseq : ∀ (l : Nat) (J : Nat → World → Prop), (∀ t W, J t W → I t W) → (∀ t W, J t W → t < m → YieldAt F (n - 1 - 1) P l (encs t) W fun e W' => e = .returned (.bool true) ∧ J (t + 1) W') →
      ∀ W, J 0 W → CallsIn F (n - 1) P gf (#[.func (.yield l) #[] #[]] ++ lb) W fun e W' => (∃ v, e = .returned v) ∧ J m W')
    (Ax : Nat → Act → World → Prop) (hAx : ∀ t a', OwnFrom w.heap.size (fun (_ : Unit) W => Ax t a' W))
    (hassign : ∀ (l t : Nat) (W : World) (K : Act → World → Prop), I t W → t < m → (∀ a' W', KeepsFrom w.heap.size W W' → I t W' → Ax t a' W' → K a' W') →
      assign.wpIn (F.inRound l) (n - 1 - 1) P (Exit.then K (fun _ _ _ => False)) { tmps := (ps.zip (encs t)).foldl (fun t (p, v) => t.setIfInBounds p v) a.tmps, defers := [] } W)
    (hbody : ∀ (l t : Nat) (a' : Act) (W : World), I t W → Ax t a' W → t < m → body.wpIn (F.inRound l) (n - 1 - 1) P (goesOn w.heap.size I t W) a' W)
    (hdone : ∀ (D : Nat) (W : World), w.heap.size ≤ D → I m W → W.heap[D]? = some (.deferred (some [])) → Q .normal { a with defers := { target := .collected D, args := #[] } :: a.defers } W) :
    (Code.rangeFunc g ps assign body).wpIn F n P Q a w := by
  refine wpIn_rangeFunc fun fn hfn => ?_
  rw [hro]
  let rec' : LoopState → Option Code → Loop := fun st pe => { state := st, pending := pe, fn, tmps := a.tmps, params := ps, assign, body, defers := w.heap.size }
  let L := w.heap.size + 1
  let W1 := (w.alloc (.deferred (some []))).alloc (.loop (rec' .ready none))
  -- what the book-keeping says beside the caller's own word
  let J : Nat → World → Prop := fun t W => I t W ∧ W.heap[L]? = some (.loop (rec' .ready none)) ∧ W.heap[w.heap.size]? = some (.deferred (some []))
  have hJ0 : J 0 W1 := by
    refine ⟨hI.alloc _ (hI.alloc _ h0), ?_, ?_⟩
    · have := World.alloc_heap_new (w.alloc (.deferred (some []))) (.loop (rec' .ready none))
      rw [World.size_alloc] at this
      exact this
    · exact (Below.heap_alloc _ _ _ (by simp)).trans (World.alloc_heap_new w _)
  refine ⟨L, [{ target := .collected w.heap.size, args := #[] }], W1, { target := .fn (.func gf) lb, args := #[.func (.yield L) #[] #[]] }, W1, gf, #[.func (.yield L) #[] #[]] ++ lb, W1, ?_, ?_, ?_, ?_, fun _ => h1, ?_⟩
  · exact run_enterLoop_outer _ _ _ _ _
  · simp only [resolve, hg]
    simp [go_sem]
  · intro f' hf'
    simp [Target.leads] at hf'
    subst hf'
    exact hFg
  · simp [invoke, go_sem, eg]
  refine (hseq L J (fun t W h => h.1) ?_ W1 hJ0).mono ?_
  · -- one round
    rintro t W ⟨hi, hl, hk⟩ ht
    refine ⟨fn, _, assign, body, run_yield (P := P) (args := encs t) hl (hps t), roundIn_of_wpIn hfn (hassign L t W _ hi ht ?_)⟩
    intro a' Wa hkf hia hax
    have hla := hkf.same L _ (Nat.le_succ _) hl rfl
    have hka := hkf.same w.heap.size _ (Nat.le_refl _) hk rfl
    have hlt : L < Wa.heap.size := (Array.getElem?_eq_some_iff.1 hla).1
    refine ⟨_, run_beginRound hla rfl, ?_⟩
    let Wb := Wa.putObj L (.loop { rec' .ready none with state := .busy })
    have hlb : Wb.heap[L]? = some (.loop { rec' .ready none with state := .busy }) := World.putObj_heap_same hlt
    have hkb : Wb.heap[w.heap.size]? = some (.deferred (some [])) := (World.putObj_heap_other (by omega)).trans hka
    refine wpIn_mono (hbody L t a' Wb (hI.putObj _ hia (Nat.le_succ _) hla rfl) ((hAx t a').putObj (s := ()) _ hax (Nat.le_succ _) hla rfl) ht) ?_
    intro e a3 W3 hp
    cases e with
    | normal =>
      obtain ⟨hk3, hi3⟩ := hp
      have hl3 := hk3.same L _ (Nat.le_succ _) hlb rfl
      have hd3 := hk3.same w.heap.size _ (Nat.le_refl _) hkb rfl
      refine ⟨_, _, run_endRound (P := P) none hl3, rfl, hI.putObj _ hi3 (Nat.le_succ _) hl3 rfl, ?_, ?_⟩
      · exact World.putObj_heap_same (Array.getElem?_eq_some_iff.1 hl3).1
      · exact (World.putObj_heap_other (by omega)).trans hd3
    | _ => exact hp.elim
  · rintro e W2 ⟨⟨v, rfl⟩, hi, hl, hk⟩
    refine ⟨none, _, run_endLoop (P := P) hl (by intro h; cases h), ?_⟩
    exact hdone _ _ (Nat.le_refl _) (hI.putObj _ hi (Nat.le_succ _) hl rfl) ((World.putObj_heap_other (by omega)).trans hk)

/-- Two loop variables, the second of which the assignment puts into a box of its own. -/
theorem range_box {F : Fence} {n : Nat} {P : Program} {g : Operand} {p0 p1 slot : Nat} {assign body : Code} {Q : Exit → Act → World → Prop} {a : Act} {w : World}
    (hro : F.round = none) (h1 : 1 ≤ n) {gf : Nat} {lb : Array Value} (hg : a.eval g = .func (.func gf) #[] lb) (hFg : F.fn gf) (eg : ∀ args w, (callFunc gf args).run P w = .ok (.enter gf args) w)
    (m : Nat) (e0 e1 : Nat → Value) (I : Nat → World → Prop) (hI : OwnFrom w.heap.size I) (h0 : I 0 w)
    (hseq : ∀ (l : Nat) (J : Nat → World → Prop), (∀ t W, J t W → I t W) → (∀ t W, J t W → t < m → YieldAt F (n - 1 - 1) P l #[e0 t, e1 t] W fun e W' => e = .returned (.bool true) ∧ J (t + 1) W') →
      ∀ W, J 0 W → CallsIn F (n - 1) P gf (#[.func (.yield l) #[] #[]] ++ lb) W fun e W' => (∃ v, e = .returned v) ∧ J m W')
    (R : Nat → Nat → World → Prop) (hR : ∀ t B, OwnFrom w.heap.size (fun (_ : Unit) W => R t B W))
    (hassign : ∀ (l t : Nat) (W : World) (K : Act → World → Prop), I t W → t < m →
      (∀ B W', KeepsFrom w.heap.size W W' → I t W' → R t B W' → K { tmps := ((a.tmps.setIfInBounds p0 (e0 t)).setIfInBounds p1 (e1 t)).setIfInBounds slot (.pointer (some ⟨B, 0, none⟩)), defers := [] } W') →
      assign.wpIn (F.inRound l) (n - 1 - 1) P (Exit.then K (fun _ _ _ => False)) { tmps := (a.tmps.setIfInBounds p0 (e0 t)).setIfInBounds p1 (e1 t), defers := [] } W)
    (hbody : ∀ (l t B : Nat) (W : World), I t W → R t B W → t < m → body.wpIn (F.inRound l) (n - 1 - 1) P (goesOn w.heap.size I t W) { tmps := ((a.tmps.setIfInBounds p0 (e0 t)).setIfInBounds p1 (e1 t)).setIfInBounds slot (.pointer (some ⟨B, 0, none⟩)), defers := [] } W)
    (hdone : ∀ (D : Nat) (W : World), w.heap.size ≤ D → I m W → W.heap[D]? = some (.deferred (some [])) → Q .normal { a with defers := { target := .collected D, args := #[] } :: a.defers } W) :
    (Code.rangeFunc g #[p0, p1] assign body).wpIn F n P Q a w := by
  refine range_rounds hro h1 hg hFg eg m (fun t => #[e0 t, e1 t]) (fun _ => rfl) I hI h0 hseq
    (fun t a' W => ∃ B, R t B W ∧ a' = { tmps := ((a.tmps.setIfInBounds p0 (e0 t)).setIfInBounds p1 (e1 t)).setIfInBounds slot (.pointer (some ⟨B, 0, none⟩)), defers := [] }) ?_ ?_ ?_ hdone
  · rintro t a' s W W' row ⟨B, hb, ha⟩ hg hr
    exact ⟨B, hR t B s W W' row hb hg hr, ha⟩
  · intro l t W K hi ht hk
    have e : (#[p0, p1].zip #[e0 t, e1 t]).foldl (fun t (p, v) => t.setIfInBounds p v) a.tmps = (a.tmps.setIfInBounds p0 (e0 t)).setIfInBounds p1 (e1 t) := by simp
    show assign.wpIn _ _ _ _ { tmps := (#[p0, p1].zip #[e0 t, e1 t]).foldl (fun t (p, v) => t.setIfInBounds p v) a.tmps, defers := [] } _
    rw [e]
    exact hassign l t W K hi ht (fun B W' h1 h2 h3 => hk _ W' h1 h2 ⟨B, h3, rfl⟩)
  · rintro l t a' W hi ⟨B, hb, rfl⟩ ht
    exact hbody l t B W hi hb ht
end Go.Proofs.YtedgimkffkflbaaDoor
