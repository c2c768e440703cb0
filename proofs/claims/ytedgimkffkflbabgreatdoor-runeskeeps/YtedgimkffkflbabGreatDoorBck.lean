/-
  A range over a function whose rounds are known by their number: the body is asked of the number that is due alone.
-/
import Derived.RangeFuncNested
import Derived.RangeFuncBound
import Derived.RangeFuncCalls
import Derived.RangeFuncLeaves
import Derived.Shelf.Abstract
import Derived.Shelf.RegionOpen
import Derived.WalkKit
import Derived.OwnWalkIn
import Derived.TacticsInMore
import Derived.LoopNIn
import Derived.LoopIn
import Derived.Test.YtedgimkffkflbabGreatDoorShf
import Derived.Test.YtedgimkffkflbabGreatDoorRn
namespace Go.Proofs.YtedgimkffkflbabGreatDoor
open Go.RowKit

/-- How a round ends that goes on. -/
def goesOn (B : Nat) (I : Nat → World → Prop) (t : Nat) (W : World) : Exit → Act → World → Prop
  | .normal, _, W' => KeepsFrom B W W' ∧ I (t + 1) W'
  | _, _, _ => False

theorem range_rounds {F : Fence} {n : Nat} {P : Program} {g : Operand} {ps : Array Tmp} {assign body : Code} {Q : Exit → Act → World → Prop} {a : Act} {w : World}
    (hro : F.round = none) (h1 : 1 ≤ n) {gf : Nat} {lb : Array Value} (hg : a.eval g = .func (.func gf) #[] lb) (hFg : F.fn gf) (eg : ∀ args w, (callFunc gf args).run P w = .ok (.enter gf args) w)
    (m : Nat) (encs : Nat → Array Value) (hps : ∀ t, (encs t).size = ps.size) (I : Nat → World → Prop) (hI : OwnFrom w.heap.size I) (h0 : I 0 w)
    (hseq : ∀ (l : Nat) (J : Nat → World → Prop), (∀ t W, J t W → I t W) → (∀ t W, J t W → t < m → YieldAt F (n - 1 - 1) P l (encs t) W fun e W' => e = .returned (.bool true) ∧ J (t + 1) W') →
      ∀ W, J 0 W → CallsIn F (n - 1) P gf (#[.func (.yield l) #[] #[]] ++ lb) W fun e W' => (∃ v, e = .returned v) ∧ J m W')
    (Ax : Nat → Act → World → Prop) (hAx : ∀ t a', OwnFrom w.heap.size (fun (_ : Unit) W => Ax t a' W))
    (hassign : ∀ (l t : Nat) (W : World) (K : Act → World → Prop), I t W → t < m → (∀ a' W', KeepsFrom w.heap.size W W' → I t W' → Ax t a' W' → K a' W') →
      assign.wpIn (F.inRound l) (n - 1 - 1) P (Exit.then K (fun _ _ _ => False)) { tmps := (ps.zip (encs t)).foldl (fun t (p, v) => t.setIfInBounds p v) a.tmps, defers := [] } W)
    (hbody : ∀ (l t : Nat) (a' : Act) (W : World), I t W → Ax t a' W → t < m → body.wpIn (F.inRound l) (n - 1 - 1) P (goesOn w.heap.size I t W) a' W)
    (hdone : ∀ (D : Nat) (W : World), w.heap.size ≤ D → I m W → W.heap[D]? = some (.deferred (some [])) → Q .normal { a with defers := { target := .collected D, args := #[] } :: a.defers } W) :
    (Code.rangeFunc g ps assign body).wpIn F n P Q a w := by
  refine wpIn_rangeFunc fun fn hfn => ?_
  rw [hro]
  let rec' : LoopState → Option Code → Loop := fun st pe => { state := st, pending := pe, fn, tmps := a.tmps, params := ps, assign, body, defers := w.heap.size }
  let L := w.heap.size + 1
  let W1 := (w.alloc (.deferred (some []))).alloc (.loop (rec' .ready none))
  -- what the book-keeping says beside the caller's own word
  let J : Nat → World → Prop := fun t W => I t W ∧ W.heap[L]? = some (.loop (rec' .ready none)) ∧ W.heap[w.heap.size]? = some (.deferred (some []))
  have hJ0 : J 0 W1 := by
    refine ⟨hI.alloc _ (hI.alloc _ h0), ?_, ?_⟩
    · have := World.alloc_heap_new (w.alloc (.deferred (some []))) (.loop (rec' .ready none))
      rw [World.size_alloc] at this
      exact this
    · exact (Below.heap_alloc _ _ _ (by simp)).trans (World.alloc_heap_new w _)
  refine ⟨L, [{ target := .collected w.heap.size, args := #[] }], W1, { target := .fn (.func gf) lb, args := #[.func (.yield L) #[] #[]] }, W1, gf, #[.func (.yield L) #[] #[]] ++ lb, W1, ?_, ?_, ?_, ?_, fun _ => h1, ?_⟩
  · exact run_enterLoop_outer _ _ _ _ _
  · simp only [resolve, hg]
    simp [go_sem]
  · intro f' hf'
    simp [Target.leads] at hf'
    subst hf'
    exact hFg
  · simp [invoke, go_sem, eg]
  refine (hseq L J (fun t W h => h.1) ?_ W1 hJ0).mono ?_
  · -- one round
    rintro t W ⟨hi, hl, hk⟩ ht
    refine ⟨fn, _, assign, body, run_yield (P := P) (args := encs t) hl (hps t), roundIn_of_wpIn hfn (hassign L t W _ hi ht ?_)⟩
    intro a' Wa hkf hia hax
    have hla := hkf.same L _ (Nat.le_succ _) hl rfl
    have hka := hkf.same w.heap.size _ (Nat.le_refl _) hk rfl
    have hlt : L < Wa.heap.size := (Array.getElem?_eq_some_iff.1 hla).1
    refine ⟨_, run_beginRound hla rfl, ?_⟩
    let Wb := Wa.putObj L (.loop { rec' .ready none with state := .busy })
    have hlb : Wb.heap[L]? = some (.loop { rec' .ready none with state := .busy }) := World.putObj_heap_same hlt
    have hkb : Wb.heap[w.heap.size]? = some (.deferred (some [])) := (World.putObj_heap_other (by omega)).trans hka
    refine wpIn_mono (hbody L t a' Wb (hI.putObj _ hia (Nat.le_succ _) hla rfl) ((hAx t a').putObj (s := ()) _ hax (Nat.le_succ _) hla rfl) ht) ?_
    intro e a3 W3 hp
    cases e with
    | normal =>
      obtain ⟨hk3, hi3⟩ := hp
      have hl3 := hk3.same L _ (Nat.le_succ _) hlb rfl
      have hd3 := hk3.same w.heap.size _ (Nat.le_refl _) hkb rfl
      refine ⟨_, _, run_endRound (P := P) none hl3, rfl, hI.putObj _ hi3 (Nat.le_succ _) hl3 rfl, ?_, ?_⟩
      · exact World.putObj_heap_same (Array.getElem?_eq_some_iff.1 hl3).1
      · exact (World.putObj_heap_other (by omega)).trans hd3
    | _ => exact hp.elim
  · rintro e W2 ⟨⟨v, rfl⟩, hi, hl, hk⟩
    refine ⟨none, _, run_endLoop (P := P) hl (by intro h; cases h), ?_⟩
    exact hdone _ _ (Nat.le_refl _) (hI.putObj _ hi (Nat.le_succ _) hl rfl) ((World.putObj_heap_other (by omega)).trans hk)

/-- Two loop variables, the second of which the assignment puts into a box of its own. -/
theorem range_box {F : Fence} {n : Nat} {P : Program} {g : Operand} {p0 p1 slot : Nat} {assign body : Code} {Q : Exit → Act → World → Prop} {a : Act} {w : World}
    (hro : F.round = none) (h1 : 1 ≤ n) {gf : Nat} {lb : Array Value} (hg : a.eval g = .func (.func gf) #[] lb) (hFg : F.fn gf) (eg : ∀ args w, (callFunc gf args).run P w = .ok (.enter gf args) w)
    (m : Nat) (e0 e1 : Nat → Value) (I : Nat → World → Prop) (hI : OwnFrom w.heap.size I) (h0 : I 0 w)
    (hseq : ∀ (l : Nat) (J : Nat → World → Prop), (∀ t W, J t W → I t W) → (∀ t W, J t W → t < m → YieldAt F (n - 1 - 1) P l #[e0 t, e1 t] W fun e W' => e = .returned (.bool true) ∧ J (t + 1) W') →
      ∀ W, J 0 W → CallsIn F (n - 1) P gf (#[.func (.yield l) #[] #[]] ++ lb) W fun e W' => (∃ v, e = .returned v) ∧ J m W')
    (R : Nat → Nat → World → Prop) (hR : ∀ t B, OwnFrom w.heap.size (fun (_ : Unit) W => R t B W))
    (hassign : ∀ (l t : Nat) (W : World) (K : Act → World → Prop), I t W → t < m →
      (∀ B W', KeepsFrom w.heap.size W W' → I t W' → R t B W' → K { tmps := ((a.tmps.setIfInBounds p0 (e0 t)).setIfInBounds p1 (e1 t)).setIfInBounds slot (.pointer (some ⟨B, 0, none⟩)), defers := [] } W') →
      assign.wpIn (F.inRound l) (n - 1 - 1) P (Exit.then K (fun _ _ _ => False)) { tmps := (a.tmps.setIfInBounds p0 (e0 t)).setIfInBounds p1 (e1 t), defers := [] } W)
    (hbody : ∀ (l t B : Nat) (W : World), I t W → R t B W → t < m → body.wpIn (F.inRound l) (n - 1 - 1) P (goesOn w.heap.size I t W) { tmps := ((a.tmps.setIfInBounds p0 (e0 t)).setIfInBounds p1 (e1 t)).setIfInBounds slot (.pointer (some ⟨B, 0, none⟩)), defers := [] } W)
    (hdone : ∀ (D : Nat) (W : World), w.heap.size ≤ D → I m W → W.heap[D]? = some (.deferred (some [])) → Q .normal { a with defers := { target := .collected D, args := #[] } :: a.defers } W) :
    (Code.rangeFunc g #[p0, p1] assign body).wpIn F n P Q a w := by
  refine range_rounds hro h1 hg hFg eg m (fun t => #[e0 t, e1 t]) (fun _ => rfl) I hI h0 hseq
    (fun t a' W => ∃ B, R t B W ∧ a' = { tmps := ((a.tmps.setIfInBounds p0 (e0 t)).setIfInBounds p1 (e1 t)).setIfInBounds slot (.pointer (some ⟨B, 0, none⟩)), defers := [] }) ?_ ?_ ?_ hdone
  · rintro t a' s W W' row ⟨B, hb, ha⟩ hg hr
    exact ⟨B, hR t B s W W' row hb hg hr, ha⟩
  · intro l t W K hi ht hk
    have e : (#[p0, p1].zip #[e0 t, e1 t]).foldl (fun t (p, v) => t.setIfInBounds p v) a.tmps = (a.tmps.setIfInBounds p0 (e0 t)).setIfInBounds p1 (e1 t) := by simp
    show assign.wpIn _ _ _ _ { tmps := (#[p0, p1].zip #[e0 t, e1 t]).foldl (fun t (p, v) => t.setIfInBounds p v) a.tmps, defers := [] } _
    rw [e]
    exact hassign l t W K hi ht (fun B W' h1 h2 h3 => hk _ W' h1 h2 ⟨B, h3, rfl⟩)
  · rintro l t a' W hi ⟨B, hb, rfl⟩ ht
    exact hbody l t B W hi hb ht
end Go.Proofs.YtedgimkffkflbabGreatDoor
/-
  The library's Backward over the wide runes that were read.
-/
namespace Go.Proofs.YtedgimkffkflbabGreatDoor
open Go.RowKit
attribute [local go_sem] Oper.semAt_some

/-- Wide runes and their places, in memory. -/
def PsAt (a : Option Addr) (ps : List (Int × Nat)) (w : World) : Prop := ps = [] ∨ ∃ g, a = some ⟨g, 0, none⟩ ∧ g < w.heap.size ∧ ∀ j, (h : j < ps.length) → w.cell? ⟨g, j * 2, none⟩ = some (.int .i32 ps[j].1) ∧ w.cell? ⟨g, j * 2 + 1, none⟩ = some (.int .i64 (ps[j].2 : Int))

/-- What the round number t is handed. -/
def encI (ps : List (Int × Nat)) (t : Nat) : Value := .int .i64 ((ps.length - 1 - t : Nat) : Int)
def encV (ps : List (Int × Nat)) (t : Nat) : Value := .agg #[.int .i32 (ps.getD (ps.length - 1 - t) (0, 0)).1, .int .i64 ((ps.getD (ps.length - 1 - t) (0, 0)).2 : Int)]

set_option maxHeartbeats 2000000 in
set_option maxRecDepth 100000 in
theorem back_seq (F : Fence) (n : Nat) (hF : F.fn 80) (hro : F.round = none) (hn : 1 ≤ n) (l bs : Nat) (a : Option Addr) (ps : List (Int × Nat)) (cap : Nat) (hlen : ps.length ≤ 1073741824) (J : Nat → World → Prop)
    (hJI : ∀ t W, J t W → W.cell? ⟨bs, 0, none⟩ = some (.slice a ps.length cap) ∧ PsAt a ps W)
    (hY : ∀ t W, J t W → t < ps.length → YieldAt F (n - 1) Tryz.prog l #[encI ps t, encV ps t] W fun e W' => e = .returned (.bool true) ∧ J (t + 1) W') (W : World) (h0 : J 0 W) :
    CallsIn F n Tryz.prog 80 #[.func (.yield l) #[] #[], .pointer (some ⟨bs, 0, none⟩)] W fun e W' => (∃ v, e = .returned v) ∧ J ps.length W' := by
  have HJI : Hid (∀ t W, J t W → W.cell? ⟨bs, 0, none⟩ = some (.slice a ps.length cap) ∧ PsAt a ps W) := hJI
  have c0 := (hJI 0 W h0).1
  have HJ0 : Hid (J 0 W) := h0
  clear hJI h0
  refine callsIn_of_wp Tryz.func80 rfl hF ?_ hro
  simp only [Tryz.ntmps80, List.size_toArray, List.length_cons, List.length_nil, Nat.reduceAdd, Nat.reduceSub, Array.replicate_succ, Array.replicate_zero, List.push_toArray, List.append_toArray, List.nil_append, List.cons_append]
  gi_wp2
  gi_loopw [3] (fun p wr => ∃ t : Nat, p = .int .i64 ((ps.length : Int) - 1 - t) ∧ t ≤ ps.length ∧ Hid (J t wr)) (fun p _ => (intOf p + 1).toNat)
  case atStart => exact ⟨0, by simp, Nat.zero_le _, HJ0⟩
  case round =>
    obtain ⟨t, rfl, ht, HJ⟩ := hrel
    by_cases hlt : t < ps.length
    · obtain ⟨c1, h | ⟨g, rfl, hg, hc⟩⟩ := HJI.out t wr HJ.out
      · rw [h] at hlt; simp at hlt
      obtain ⟨d0, d1⟩ := hc (ps.length - 1 - t) (by omega)
      obtain ⟨fn, tmps, assign, body, hy, hR⟩ := hY t wr HJ.out hlt
      have eg : ps.getD (ps.length - 1 - t) (0, 0) = ps[ps.length - 1 - t]'(by omega) := by simp [List.getD_eq_getElem?_getD, List.getElem?_eq_getElem (show ps.length - 1 - t < ps.length by omega)]
      unfold encI encV at hy
      rw [eg] at hy
      obtain ⟨K, hK⟩ : ∃ K, ps.length - 1 - t = K := ⟨_, rfl⟩
      have hK2 : (ps.length : Int) - 1 - t = (K : Int) := by omega
      simp only [hK] at hy d0 d1
      rw [hK2]
      have hKl : K < ps.length := by omega
      have hKl' : (K : Int) < (ps.length : Int) := by omega
      generalize hr : (ps[K]'hKl).1 = r at *
      generalize hp : (ps[K]'hKl).2 = p at *
      clear hr hp eg hc
      have HR : Hid (RoundIn F (n - 1) Tryz.prog l fn tmps assign body wr fun e W' => e = .returned (.bool true) ∧ J (t + 1) W') := hR
      clear hR hY
      gi_wp2
      refine HR.out.mono ?_
      rintro e W3 ⟨rfl, hJ3⟩
      have HJ3 : Hid (J (t + 1) W3) := hJ3
      have hK3 : (K : Int) - 1 = (ps.length : Int) - 1 - ((t + 1 : Nat) : Int) := by omega
      clear hJ3 HR hy
      gi_wp2
      refine ⟨⟨t + 1, by push_cast; rfl, by omega, HJ3⟩, ?_⟩
      simp only [intOf]
      omega
    · have hz : (ps.length : Int) - 1 - t = -1 := by omega
      obtain rfl : t = ps.length := by omega
      rw [hz]
      gi_wp2
      go_end0
      exact ⟨⟨_, rfl⟩, HJ.out⟩
end Go.Proofs.YtedgimkffkflbabGreatDoor
