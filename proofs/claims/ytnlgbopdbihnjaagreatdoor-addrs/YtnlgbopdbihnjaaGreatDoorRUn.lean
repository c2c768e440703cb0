/-
  A range over a function whose rounds are known by their number: the body is asked of the number that is due alone.
-/
import Derived.RangeFuncNested
import Derived.RangeFuncBound
import Derived.RangeFuncCalls
import Derived.RangeFuncLeaves
import Derived.Shelf.Abstract
import Derived.Shelf.RegionOpen
import Derived.WalkKit
import Derived.OwnWalkIn
import Derived.TacticsInMore
import Derived.LoopNIn
import Derived.LoopIn
import Derived.Test.YtnlgbopdbihnjaaGreatDoorNum
import Derived.Test.YtnlgbopdbihnjaaGreatDoorDec
import Derived.Test.YtnlgbopdbihnjaaGreatDoorMk
import Derived.Test.YtnlgbopdbihnjaaGreatDoorRStp
import Derived.Test.YtnlgbopdbihnjaaGreatDoorBase2
import Derived.Lib.OthersKept
namespace Go.Proofs.YtnlgbopdbihnjaaGreatDoor
open Go.RowKit

/-- How a round ends that goes on. -/
def goesOn (B : Nat) (I : Nat → World → Prop) (t : Nat) (W : World) : Exit → Act → World → Prop
  | .normal, _, W' => KeepsFrom B W W' ∧ I (t + 1) W'
  | _, _, _ => False

theorem range_rounds {F : Fence} {n : Nat} {P : Program} {g : Operand} {ps : Array Tmp} {assign body : Code} {Q : Exit → Act → World → Prop} {a : Act} {w : World}
    (hro : F.round = none) (h1 : 1 ≤ n) {gf : Nat} {lb : Array Value} (hg : a.eval g = .func (.func gf) #[] lb) (hFg : F.fn gf) (eg : ∀ args w, (callFunc gf args).run P w = .ok (.enter gf args) w)
    (m : Nat) (encs : Nat → Array Value) (hps : ∀ t, (encs t).size = ps.size) (I : Nat → World → Prop) (hI : OwnFrom w.heap.size I) (h0 : I 0 w)
    (hseq : ∀ (l : Nat) (J : Nat → World → Prop), (∀ t W, J t W → I t W) → (∀ t W, J t W → t < m → YieldAt F (n - 1 - 1) P l (encs t) W fun e W' => e = .returned (.bool true) ∧ J (t + 1) W') →
      ∀ W, J 0 W → CallsIn F (n - 1) P gf (#[.func (.yield l) #[] #[]] ++ lb) W fun e W' => (∃ v, e = .returned v) ∧ J m W')
    (Ax : Nat → Act → World → Prop) (hAx : ∀ t a', OwnFrom w.heap.size (fun (_ : Unit) W => Ax t a' W))
    (hassign : ∀ (l t : Nat) (W : World) (K : Act → World → Prop), I t W → t < m → (∀ a' W', KeepsFrom w.heap.size W W' → I t W' → Ax t a' W' → K a' W') →
      assign.wpIn (F.inRound l) (n - 1 - 1) P (Exit.then K (fun _ _ _ => False)) { tmps := (ps.zip (encs t)).foldl (fun t (p, v) => t.setIfInBounds p v) a.tmps, defers := [] } W)
    (hbody : ∀ (l t : Nat) (a' : Act) (W : World), I t W → Ax t a' W → t < m → body.wpIn (F.inRound l) (n - 1 - 1) P (goesOn w.heap.size I t W) a' W)
    (hdone : ∀ (D : Nat) (W : World), w.heap.size ≤ D → I m W → W.heap[D]? = some (.deferred (some [])) → Q .normal { a with defers := { target := .collected D, args := #[] } :: a.defers } W) :
    (Code.rangeFunc g ps assign body).wpIn F n P Q a w := by
  refine wpIn_rangeFunc fun fn hfn => ?_
  rw [hro]
  let rec' : LoopState → Option Code → Loop := fun st pe => { state := st, pending := pe, fn, tmps := a.tmps, params := ps, assign, body, defers := w.heap.size }
  let L := w.heap.size + 1
  let W1 := (w.alloc (.deferred (some []))).alloc (.loop (rec' .ready none))
  -- what the book-keeping says beside the caller's own word
  let J : Nat → World → Prop := fun t W => I t W ∧ W.heap[L]? = some (.loop (rec' .ready none)) ∧ W.heap[w.heap.size]? = some (.deferred (some []))
  have hJ0 : J 0 W1 := by
    refine ⟨hI.alloc _ (hI.alloc _ h0), ?_, ?_⟩
    · have := World.alloc_heap_new (w.alloc (.deferred (some []))) (.loop (rec' .ready none))
      rw [World.size_alloc] at this
      exact this
    · exact (Below.heap_alloc _ _ _ (by simp)).trans (World.alloc_heap_new w _)
  refine ⟨L, [{ target := .collected w.heap.size, args := #[] }], W1, { target := .fn (.func gf) lb, args := #[.func (.yield L) #[] #[]] }, W1, gf, #[.func (.yield L) #[] #[]] ++ lb, W1, ?_, ?_, ?_, ?_, fun _ => h1, ?_⟩
  · exact run_enterLoop_outer _ _ _ _ _
  · simp only [resolve, hg]
    simp [go_sem]
  · intro f' hf'
    simp [Target.leads] at hf'
    subst hf'
    exact hFg
  · simp [invoke, go_sem, eg]
  refine (hseq L J (fun t W h => h.1) ?_ W1 hJ0).mono ?_
  · -- one round
    rintro t W ⟨hi, hl, hk⟩ ht
    refine ⟨fn, _, assign, body, run_yield (P := P) (args := encs t) hl (hps t), roundIn_of_wpIn hfn (hassign L t W _ hi ht ?_)⟩
    intro a' Wa hkf hia hax
    have hla := hkf.same L _ (Nat.le_succ _) hl rfl
    have hka := hkf.same w.heap.size _ (Nat.le_refl _) hk rfl
    have hlt : L < Wa.heap.size := (Array.getElem?_eq_some_iff.1 hla).1
    refine ⟨_, run_beginRound hla rfl, ?_⟩
    let Wb := Wa.putObj L (.loop { rec' .ready none with state := .busy })
    have hlb : Wb.heap[L]? = some (.loop { rec' .ready none with state := .busy }) := World.putObj_heap_same hlt
    have hkb : Wb.heap[w.heap.size]? = some (.deferred (some [])) := (World.putObj_heap_other (by omega)).trans hka
    refine wpIn_mono (hbody L t a' Wb (hI.putObj _ hia (Nat.le_succ _) hla rfl) ((hAx t a').putObj (s := ()) _ hax (Nat.le_succ _) hla rfl) ht) ?_
    intro e a3 W3 hp
    cases e with
    | normal =>
      obtain ⟨hk3, hi3⟩ := hp
      have hl3 := hk3.same L _ (Nat.le_succ _) hlb rfl
      have hd3 := hk3.same w.heap.size _ (Nat.le_refl _) hkb rfl
      refine ⟨_, _, run_endRound (P := P) none hl3, rfl, hI.putObj _ hi3 (Nat.le_succ _) hl3 rfl, ?_, ?_⟩
      · exact World.putObj_heap_same (Array.getElem?_eq_some_iff.1 hl3).1
      · exact (World.putObj_heap_other (by omega)).trans hd3
    | _ => exact hp.elim
  · rintro e W2 ⟨⟨v, rfl⟩, hi, hl, hk⟩
    refine ⟨none, _, run_endLoop (P := P) hl (by intro h; cases h), ?_⟩
    exact hdone _ _ (Nat.le_refl _) (hI.putObj _ hi (Nat.le_succ _) hl rfl) ((World.putObj_heap_other (by omega)).trans hk)

/-- Two loop variables, the second of which the assignment puts into a box of its own. -/
theorem range_box {F : Fence} {n : Nat} {P : Program} {g : Operand} {p0 p1 slot : Nat} {assign body : Code} {Q : Exit → Act → World → Prop} {a : Act} {w : World}
    (hro : F.round = none) (h1 : 1 ≤ n) {gf : Nat} {lb : Array Value} (hg : a.eval g = .func (.func gf) #[] lb) (hFg : F.fn gf) (eg : ∀ args w, (callFunc gf args).run P w = .ok (.enter gf args) w)
    (m : Nat) (e0 e1 : Nat → Value) (I : Nat → World → Prop) (hI : OwnFrom w.heap.size I) (h0 : I 0 w)
    (hseq : ∀ (l : Nat) (J : Nat → World → Prop), (∀ t W, J t W → I t W) → (∀ t W, J t W → t < m → YieldAt F (n - 1 - 1) P l #[e0 t, e1 t] W fun e W' => e = .returned (.bool true) ∧ J (t + 1) W') →
      ∀ W, J 0 W → CallsIn F (n - 1) P gf (#[.func (.yield l) #[] #[]] ++ lb) W fun e W' => (∃ v, e = .returned v) ∧ J m W')
    (R : Nat → Nat → World → Prop) (hR : ∀ t B, OwnFrom w.heap.size (fun (_ : Unit) W => R t B W))
    (hassign : ∀ (l t : Nat) (W : World) (K : Act → World → Prop), I t W → t < m →
      (∀ B W', KeepsFrom w.heap.size W W' → I t W' → R t B W' → K { tmps := ((a.tmps.setIfInBounds p0 (e0 t)).setIfInBounds p1 (e1 t)).setIfInBounds slot (.pointer (some ⟨B, 0, none⟩)), defers := [] } W') →
      assign.wpIn (F.inRound l) (n - 1 - 1) P (Exit.then K (fun _ _ _ => False)) { tmps := (a.tmps.setIfInBounds p0 (e0 t)).setIfInBounds p1 (e1 t), defers := [] } W)
    (hbody : ∀ (l t B : Nat) (W : World), I t W → R t B W → t < m → body.wpIn (F.inRound l) (n - 1 - 1) P (goesOn w.heap.size I t W) { tmps := ((a.tmps.setIfInBounds p0 (e0 t)).setIfInBounds p1 (e1 t)).setIfInBounds slot (.pointer (some ⟨B, 0, none⟩)), defers := [] } W)
    (hdone : ∀ (D : Nat) (W : World), w.heap.size ≤ D → I m W → W.heap[D]? = some (.deferred (some [])) → Q .normal { a with defers := { target := .collected D, args := #[] } :: a.defers } W) :
    (Code.rangeFunc g #[p0, p1] assign body).wpIn F n P Q a w := by
  refine range_rounds hro h1 hg hFg eg m (fun t => #[e0 t, e1 t]) (fun _ => rfl) I hI h0 hseq
    (fun t a' W => ∃ B, R t B W ∧ a' = { tmps := ((a.tmps.setIfInBounds p0 (e0 t)).setIfInBounds p1 (e1 t)).setIfInBounds slot (.pointer (some ⟨B, 0, none⟩)), defers := [] }) ?_ ?_ ?_ hdone
  · rintro t a' s W W' row ⟨B, hb, ha⟩ hg hr
    exact ⟨B, hR t B s W W' row hb hg hr, ha⟩
  · intro l t W K hi ht hk
    have e : (#[p0, p1].zip #[e0 t, e1 t]).foldl (fun t (p, v) => t.setIfInBounds p v) a.tmps = (a.tmps.setIfInBounds p0 (e0 t)).setIfInBounds p1 (e1 t) := by simp
    show assign.wpIn _ _ _ _ { tmps := (#[p0, p1].zip #[e0 t, e1 t]).foldl (fun t (p, v) => t.setIfInBounds p v) a.tmps, defers := [] } _
    rw [e]
    exact hassign l t W K hi ht (fun B W' h1 h2 h3 => hk _ W' h1 h2 ⟨B, h3, rfl⟩)
  · rintro l t a' W hi ⟨B, hb, rfl⟩ ht
    exact hbody l t B W hi hb ht
end Go.Proofs.YtnlgbopdbihnjaaGreatDoor
/-
  The library's Backward over the wide runes that were read.
-/
namespace Go.Proofs.YtnlgbopdbihnjaaGreatDoor
open Go.RowKit
attribute [local go_sem] Oper.semAt_some

/-- Wide runes and their places, in memory. -/
def PsAt (a : Option Addr) (ps : List (Int × Nat)) (w : World) : Prop := ps = [] ∨ ∃ g, a = some ⟨g, 0, none⟩ ∧ g < w.heap.size ∧ ∀ j, (h : j < ps.length) → w.cell? ⟨g, j * 2, none⟩ = some (.int .i32 ps[j].1) ∧ w.cell? ⟨g, j * 2 + 1, none⟩ = some (.int .i64 (ps[j].2 : Int))

/-- What the round number t is handed. -/
def encI (ps : List (Int × Nat)) (t : Nat) : Value := .int .i64 ((ps.length - 1 - t : Nat) : Int)
def encV (ps : List (Int × Nat)) (t : Nat) : Value := .agg #[.int .i32 (ps.getD (ps.length - 1 - t) (0, 0)).1, .int .i64 ((ps.getD (ps.length - 1 - t) (0, 0)).2 : Int)]

end Go.Proofs.YtnlgbopdbihnjaaGreatDoor
/-
  Runes laid backwards to their places: the plain mathematics.
-/
namespace Go.Proofs.YtnlgbopdbihnjaaGreatDoor

theorem insAll_snoc (base : List Int) (ps : List (Int × Nat)) (x : Int × Nat) : insAll base (ps ++ [x]) = (insAll base ps).insertIdx x.2 x.1 := by
  unfold insAll
  rw [List.foldl_append]
  rfl
theorem PsOk_get : ∀ {ps : List (Int × Nat)} {h : Nat}, PsOk h ps → ∀ j (hj : j < ps.length), ps[j].2 ≤ h + j ∧ 128 ≤ ps[j].1 ∧ ps[j].1 ≤ 1114111
  | x :: t, h, hp, 0, _ => ⟨hp.1, hp.2.1, hp.2.2.1⟩
  | x :: t, h, hp, j + 1, hj => by
    have := PsOk_get hp.2.2.2 j (by simpa using hj)
    simp only [List.getElem_cons_succ]
    omega
theorem insAll_length (base : List Int) : ∀ ps : List (Int × Nat), PsOk base.length ps → (insAll base ps).length = base.length + ps.length := by
  intro ps
  induction ps generalizing base with
  | nil => intro _; rfl
  | cons x t ih =>
    intro hp
    have h1 : (base.insertIdx x.2 x.1).length = base.length + 1 := List.length_insertIdx_of_le_length hp.1 _
    have := ih (base.insertIdx x.2 x.1) (by rw [h1]; exact hp.2.2.2)
    show (insAll (base.insertIdx x.2 x.1) t).length = _
    rw [this, h1, List.length_cons]
    omega
theorem PsOk_take {ps : List (Int × Nat)} {h : Nat} (hp : PsOk h ps) (k : Nat) : PsOk h (ps.take k) := by
  induction ps generalizing h k with
  | nil => simpa using hp
  | cons x t ih =>
    cases k with
    | zero => trivial
    | succ k => exact ⟨hp.1, hp.2.1, hp.2.2.1, ih hp.2.2.2 k⟩

/-- So far t of them are laid. -/
structure SlOk (base : List Int) (ps : List (Int × Nat)) (t : Nat) (sl : List (Option Int)) : Prop where
  len : sl.length = base.length + ps.length
  fil : fill sl (insAll base (ps.take (ps.length - t))) = insAll base ps
  cnt : pre (free sl) (base.length + ps.length) = ((base.length + ps.length - t : Nat) : Int)
  big : ∀ r, some r ∈ sl → 128 ≤ r
theorem free_01 (sl : List (Option Int)) : (∀ j, 0 ≤ free sl j) ∧ ∀ j, free sl j ≤ 1 := ⟨fun j => by unfold free; split <;> omega, fun j => by unfold free; split <;> omega⟩
theorem slOk_start (base : List Int) (ps : List (Int × Nat)) (hp : PsOk base.length ps) : SlOk base ps 0 (List.replicate (base.length + ps.length) none) := by
  refine ⟨by simp, ?_, ?_, fun r hr => ?_⟩
  · rw [Nat.sub_zero, List.take_length, ← insAll_length base ps hp, fill_none]
  · rw [pre_ext _ (fun _ => 1) _ (fun j hj => free_none _ j hj), pre_one]
    rfl
  · rw [List.mem_replicate] at hr
    cases hr.2
theorem free_one {sl : List (Option Int)} {j : Nat} (h : free sl j = 1) : sl[j]? = some none := by
  unfold free at h
  split at h
  · assumption
  · omega
theorem SlOk.step {base : List Int} {ps : List (Int × Nat)} {t : Nat} {sl : List (Option Int)} (H : SlOk base ps t sl) (hp : PsOk base.length ps) (ht : t < ps.length) (at' : Nat) (h1 : free sl at' = 1) (h2 : pre (free sl) at' = ((ps[ps.length - 1 - t]'(by omega)).2 : Int)) :
    SlOk base ps (t + 1) (sl.set at' (some (ps[ps.length - 1 - t]'(by omega)).1)) := by
  have hg := PsOk_get hp (ps.length - 1 - t) (by omega)
  have hn := free_one h1
  have hlt : at' < sl.length := (List.getElem?_eq_some_iff.1 hn).1
  have hfs := free_set sl at' (ps[ps.length - 1 - t]'(by omega)).1 hn
  refine ⟨by rw [List.length_set]; exact H.len, ?_, ?_, fun r hr => ?_⟩
  · have e : ps.take (ps.length - t) = ps.take (ps.length - (t + 1)) ++ [ps[ps.length - 1 - t]'(by omega)] := by
      rw [show ps.length - t = (ps.length - 1 - t) + 1 from by omega, show ps.length - (t + 1) = ps.length - 1 - t from by omega, List.take_succ_eq_append_getElem (by omega)]
    have := H.fil
    rw [e, insAll_snoc] at this
    rw [← this]
    symm
    refine fill_insert sl _ _ at' _ ?_ hn h2
    rw [insAll_length base _ (PsOk_take hp _), List.length_take]
    omega
  · rw [pre_ext _ _ _ (fun j _ => hfs j), pre_put, H.cnt, if_pos (by rw [← H.len]; exact hlt)]
    omega
  · rcases List.mem_or_eq_of_mem_set hr with hr | hr
    · exact H.big r hr
    · injection hr with hr
      rw [hr]
      exact hg.2.1
/-- What lies in the cells of the list. -/
def slC (sl : List (Option Int)) : List Int := sl.map fun o => o.getD 0
theorem slC_set (sl : List (Option Int)) (k : Nat) (r : Int) : slC (sl.set k (some r)) = (slC sl).set k r := by simp [slC, List.map_set]
theorem slC_none (n : Nat) : slC (List.replicate n none) = List.replicate n 0 := by simp [slC]

/-- The places are gone through from the left: k runes are laid, a places are behind. -/
structure FlOk (base : List Int) (sl : List (Option Int)) (k a : Nat) (cs : List Int) : Prop where
  le : a ≤ sl.length
  cnt : pre (free sl) a = k
  eq : cs = fill (sl.take a) (base.take k) ++ slC (sl.drop a)
theorem flOk_start (base : List Int) (sl : List (Option Int)) : FlOk base sl 0 0 (slC sl) := ⟨Nat.zero_le _, rfl, by simp [fill]⟩
theorem fill_length (s : List (Option Int)) : ∀ l, (fill s l).length = s.length := by
  induction s with
  | nil => intro l; rfl
  | cons o s ih =>
    intro l
    cases o with
    | some r => simp [fill, ih]
    | none => cases l <;> simp [fill, ih]
theorem fill_snoc (s : List (Option Int)) : ∀ (l : List Int) (o : Option Int) (x : Int), pre (free s) s.length = l.length → fill (s ++ [o]) (match o with | none => l ++ [x] | some _ => l) = fill s l ++ [match o with | none => x | some r => r] := by
  induction s with
  | nil =>
    intro l o x h
    have : l = [] := by
      simp only [pre, List.length_nil] at h
      exact List.eq_nil_of_length_eq_zero (by omega)
    subst this
    cases o <;> rfl
  | cons q s ih =>
    intro l o x h
    rw [List.length_cons, free_cons] at h
    cases q with
    | some r =>
      simp only [if_neg (show ¬ (some r = (none : Option Int)) by simp), Int.zero_add] at h
      simp only [List.cons_append, fill]
      rw [← ih l o x h]
    | none =>
      simp only [if_true] at h
      cases l with
      | nil =>
        have := pre_mono (free s) (free_01 s).1 (a := 0) (b := s.length) (Nat.zero_le _)
        simp only [pre] at this
        simp at h
        omega
      | cons y l =>
        have h' : pre (free s) s.length = l.length := by simp only [List.length_cons] at h; omega
        have := ih l o x h'
        cases o with
        | none => simp only [List.cons_append, fill] at this ⊢; rw [this]
        | some r => simp only [List.cons_append, fill] at this ⊢; rw [this]
theorem free_take (s : List (Option Int)) (a : Nat) (_ : a ≤ s.length) : pre (free (s.take a)) a = pre (free s) a := by
  refine pre_ext _ _ _ (fun j hj => ?_)
  unfold free
  rw [List.getElem?_take, if_pos hj]
/-- A place that is taken is passed over. -/
theorem FlOk.pass {base : List Int} {sl : List (Option Int)} {k a : Nat} {cs : List Int} (H : FlOk base sl k a cs) (hk : k ≤ base.length) (r : Int) (h : sl[a]? = some (some r)) : cs[a]? = some r ∧ FlOk base sl k (a + 1) cs := by
  have hlt : a < sl.length := (List.getElem?_eq_some_iff.1 h).1
  have hl : (fill (sl.take a) (base.take k)).length = a := by rw [fill_length, List.length_take]; omega
  have hd : sl.drop a = some r :: sl.drop (a + 1) := by
    rw [List.drop_eq_getElem_cons hlt]
    have : sl[a] = some r := by rw [List.getElem?_eq_getElem hlt] at h; injection h
    rw [this]
  refine ⟨?_, by omega, ?_, ?_⟩
  · rw [H.eq, List.getElem?_append_right (by omega), hl, Nat.sub_self, hd]
    rfl
  · rw [pre, H.cnt]
    have : free sl a = 0 := by unfold free; rw [h, if_neg (by simp)]
    rw [this]
    omega
  · have ht : sl.take (a + 1) = sl.take a ++ [some r] := by
      rw [List.take_succ_eq_append_getElem hlt]
      have : sl[a] = some r := by rw [List.getElem?_eq_getElem hlt] at h; injection h
      rw [this]
    have := fill_snoc (sl.take a) (base.take k) (some r) 0 (by rw [List.length_take, Nat.min_eq_left H.le, free_take sl a H.le, H.cnt, List.length_take, Nat.min_eq_left hk])
    simp only at this
    rw [ht, this, H.eq, hd]
    simp [slC]
/-- A rune is laid into the next place that is free. -/
theorem FlOk.lay {base : List Int} {sl : List (Option Int)} {k a : Nat} {cs : List Int} (H : FlOk base sl k a cs) (hk : k < base.length) (h : sl[a]? = some none) : cs[a]? = some 0 ∧ FlOk base sl (k + 1) (a + 1) (cs.set a base[k]) := by
  have hlt : a < sl.length := (List.getElem?_eq_some_iff.1 h).1
  have hl : (fill (sl.take a) (base.take k)).length = a := by rw [fill_length, List.length_take]; omega
  have hn : sl[a] = none := by rw [List.getElem?_eq_getElem hlt] at h; injection h
  have hd : sl.drop a = none :: sl.drop (a + 1) := by rw [List.drop_eq_getElem_cons hlt, hn]
  refine ⟨?_, by omega, ?_, ?_⟩
  · rw [H.eq, List.getElem?_append_right (by omega), hl, Nat.sub_self, hd]
    rfl
  · rw [pre, H.cnt]
    have : free sl a = 1 := by unfold free; rw [h, if_pos rfl]
    rw [this]
    push_cast
    rfl
  · have ht : sl.take (a + 1) = sl.take a ++ [none] := by rw [List.take_succ_eq_append_getElem hlt, hn]
    have := fill_snoc (sl.take a) (base.take k) none base[k] (by rw [List.length_take, Nat.min_eq_left H.le, free_take sl a H.le, H.cnt, List.length_take, Nat.min_eq_left (Nat.le_of_lt hk)])
    simp only at this
    rw [ht, List.take_succ_eq_append_getElem hk, this, H.eq, hd, List.set_append_right _ _ (by omega), hl, Nat.sub_self]
    simp [slC]
theorem FlOk.next {base : List Int} {sl : List (Option Int)} {k a : Nat} {cs : List Int} (H : FlOk base sl k a cs) (hs : pre (free sl) sl.length = base.length) (hk : k < base.length) : a < sl.length := by
  rcases Nat.lt_or_ge a sl.length with h | h
  · exact h
  · have := H.le
    obtain rfl : a = sl.length := by omega
    have := H.cnt
    omega
/-- At the end all is filled. -/
theorem FlOk.done {base : List Int} {sl : List (Option Int)} {a : Nat} {cs : List Int} (H : FlOk base sl base.length a cs) (hs : pre (free sl) sl.length = base.length) : cs = fill sl base := by
  have key : ∀ (d : List (Option Int)) (s : List (Option Int)) (l : List Int), pre (free s) s.length = l.length → pre (free (s ++ d)) (s ++ d).length = l.length → fill s l ++ slC d = fill (s ++ d) l := by
    intro d
    induction d with
    | nil => intro s l _ _; simp [slC]
    | cons o d ih =>
      intro s l h1 h2
      have e : pre (free (s ++ [o])) (s ++ [o]).length = l.length := by
        have a1 : pre (free (s ++ [o])) s.length = l.length := by
          rw [← h1]
          refine pre_ext _ _ _ (fun j hj => ?_)
          unfold free
          rw [List.getElem?_append_left hj]
        have a2 : pre (free (s ++ o :: d)) (s.length + 1) = pre (free (s ++ [o])) (s.length + 1) := by
          refine pre_ext _ _ _ (fun j hj => ?_)
          unfold free
          rw [show s ++ o :: d = (s ++ [o]) ++ d from by simp, List.getElem?_append_left (by simp; omega)]
        have a3 := pre_mono (free (s ++ o :: d)) (free_01 _).1 (a := s.length + 1) (b := (s ++ o :: d).length) (by simp)
        rw [a2, h2] at a3
        have a4 := pre_mono (free (s ++ [o])) (free_01 _).1 (a := s.length) (b := s.length + 1) (by omega)
        simp only [List.length_append, List.length_cons, List.length_nil]
        simp only [Nat.zero_add]
        omega
      have ho : o ≠ none := by
        intro e0
        subst e0
        have : free (s ++ [none]) s.length = 1 := by
          unfold free
          rw [List.getElem?_append_right (Nat.le_refl _), Nat.sub_self]
          simp
        have a1 : pre (free (s ++ [none])) s.length = l.length := by
          rw [← h1]
          refine pre_ext _ _ _ (fun j hj => ?_)
          unfold free
          rw [List.getElem?_append_left hj]
        simp only [List.length_append, List.length_cons, List.length_nil, pre, Nat.zero_add] at e
        omega
      obtain ⟨r, rfl⟩ := Option.ne_none_iff_exists'.1 ho
      have f := fill_snoc s l (some r) 0 h1
      simp only at f
      have := ih (s ++ [some r]) l e (by simpa using h2)
      rw [f] at this
      rw [show s ++ some r :: d = (s ++ [some r]) ++ d from by simp, ← this]
      simp [slC]
  rw [H.eq, List.take_of_length_le (Nat.le_refl _)]
  have := key (sl.drop a) (sl.take a) base (by rw [List.length_take, Nat.min_eq_left H.le, free_take sl a H.le, H.cnt]) (by rw [List.take_append_drop]; exact hs)
  rw [this, List.take_append_drop]
end Go.Proofs.YtnlgbopdbihnjaaGreatDoor
/-
  The program's laid: wide runes put to their places.
-/
namespace Go.Proofs.YtnlgbopdbihnjaaGreatDoor
open Go.RowKit
attribute [local go_sem] Oper.semAt_some

theorem Lies.grown {W W' : World} {g : Nat} {cs : Array Value} {t : TypeId} {row : Option Nat} {B : Nat} (h : Lies W g cs t) (hg : W.grownBy W' row) (hr : ∀ r, row = some r → B ≤ r ∧ ∃ o : Obj, W.heap[r]? = some o ∧ o.isCells = false) : Lies W' g cs t :=
  (hg.block g h.lt (fun e => by
    obtain ⟨_, o, ho, hc⟩ := hr g e.symm
    rw [h] at ho
    injection ho with ho
    subst ho
    cases hc)).trans h
theorem cell_grown' {W W' : World} {p : Addr} {v : Value} {row : Option Nat} {B : Nat} (h : W.cell? p = some v) (hg : W.grownBy W' row) (hr : ∀ r, row = some r → B ≤ r ∧ ∃ o : Obj, W.heap[r]? = some o ∧ o.isCells = false) : W'.cell? p = some v :=
  cell_kept h hg (fun r e => (hr r e).2)
theorem MkAt.but {w w' : World} {g N k : Nat} {f : Nat → Int} (h : MkAt w g N f) (hb : But k w w') (hne : g ≠ k) : MkAt w' g N f := h.keep (hb.block g h.lt hne)
end Go.Proofs.YtnlgbopdbihnjaaGreatDoor
/-
  The program's Unpuny.
-/
namespace Go.Proofs.YtnlgbopdbihnjaaGreatDoor
open Go.RowKit

theorem asc_is (c : UInt8) : isB 13 (c.toNat : Int) = decide (c.toNat < 128) := by
  have h : ∀ b : Fin 256, isB 13 (b.val : Int) = decide (b.val < 128) := by decide +kernel
  exact h ⟨c.toNat, c.toNat_lt⟩
theorem hiN_eq (l : List UInt8) : badN 13 l = hiN l := by
  induction l with
  | nil => rfl
  | cons b t ih =>
    unfold badN hiN
    rw [asc_is]
    by_cases h : b.toNat < 128
    · rw [if_pos h, ← ih]
      simp [h]
    · rw [if_neg h]
      simp [h]
theorem hiN_all {l : List UInt8} (h : hiN l = l.length) : ∀ k (hk : k < l.length), l[k].toNat < 128 := by
  induction l with
  | nil => intro k hk; simp at hk
  | cons b t ih =>
    simp only [hiN, List.length_cons] at h
    split at h
    · rename_i hb
      intro k hk
      cases k with
      | zero => exact hb
      | succ k => exact ih (by omega) k (by simpa using hk)
    · omega
/-- Wide runes and their places as cells. -/
def cellsP (ps : List (Int × Nat)) : List Value := ps.flatMap fun x => [Value.int .i32 x.1, Value.int .i64 (x.2 : Int)]
theorem cellsP_length (ps : List (Int × Nat)) : (cellsP ps).length = ps.length * 2 := by
  induction ps with
  | nil => rfl
  | cons x t ih =>
    have : cellsP (x :: t) = [Value.int .i32 x.1, Value.int .i64 (x.2 : Int)] ++ cellsP t := rfl
    rw [this, List.length_append, ih]
    simp
    omega
theorem cellsP_append (a b : List (Int × Nat)) : cellsP (a ++ b) = cellsP a ++ cellsP b := by simp [cellsP]
theorem cellsP_at (ps : List (Int × Nat)) : ∀ j (h : j < ps.length), (cellsP ps)[j * 2]? = some (.int .i32 ps[j].1) ∧ (cellsP ps)[j * 2 + 1]? = some (.int .i64 (ps[j].2 : Int)) := by
  induction ps with
  | nil => intro j h; simp at h
  | cons x t ih =>
    intro j h
    have e : cellsP (x :: t) = Value.int .i32 x.1 :: Value.int .i64 (x.2 : Int) :: cellsP t := rfl
    rw [e]
    cases j with
    | zero => exact ⟨rfl, rfl⟩
    | succ j =>
      have := ih j (by simpa using h)
      rw [show (j + 1) * 2 = j * 2 + 1 + 1 from by omega]
      simp only [List.getElem?_cons_succ, List.getElem_cons_succ]
      exact this
theorem extract_all0 (s : ByteArray) : s.extract 0 0 = ⟨#[]⟩ := by
  apply ByteArray.ext
  simp

theorem rdS_err {bias : Nat} : ∀ {l : List UInt8} {i at' sum wt c q : Nat}, rdS bias l i at' sum wt = .inl (c, q) → c = 51 ∨ c = 52
  | [], _, _, _, _, _, _, h => by
    simp only [rdS] at h
    injection h with h
    injection h with h
    exact .inl h.symm
  | b :: t, i, at', sum, wt, c, q, h => by
    unfold rdS at h
    split at h
    · injection h with h
      injection h with h
      exact .inl h.symm
    · split at h
      · injection h with h
        injection h with h
        exact .inr h.symm
      · split at h
        · cases h
        · exact rdS_err h
/-- What Unpuny tells, as a value. -/
def unpV (l : List UInt8) : Array Value := #[.int .i64 ((unpE l).1 : Nat), .int .i64 ((unpE l).2 : Nat)]

end Go.Proofs.YtnlgbopdbihnjaaGreatDoor
/-
  The document's Unpuny.
-/
namespace Go.Proofs.YtnlgbopdbihnjaaGreatDoor
open Go.RowKit

theorem nts_take {k : IntKind} {a : Option Addr} {l : List Int} {w : World} (h : Nts k a l w) (n : Nat) : Nts k a (l.take n) w := by
  rcases h with rfl | ⟨g, o, e, hg, hr⟩
  · exact .inl (by simp)
  · exact .inr ⟨g, o, e, hg, fun j hj => by rw [List.length_take] at hj; rw [hr j (by omega), List.getElem_take]⟩
theorem nts_drop {k : IntKind} {g o : Nat} {l : List Int} {w : World} (h : Nts k (some ⟨g, o, none⟩) l w) (n : Nat) : Nts k (some ⟨g, o + n, none⟩) (l.drop n) w := by
  rcases h with rfl | ⟨g', o', e, hg, hr⟩
  · exact .inl (by simp)
  · injection e with e
    injection e with e1 e2
    subst e1 e2
    refine .inr ⟨g, o + n, rfl, hg, fun j hj => ?_⟩
    rw [List.length_drop] at hj
    rw [Nat.add_assoc, hr (n + j) (by omega), List.getElem_drop]
/-- Numbers more behind a row of the call's own. -/
theorem wpList_append_nums {ops : Array Oper} {rest : List Oper} {o : Oper} {a : Act} {w : World} {Q : Exit → Act → World → Prop} (hgd : o.guard = none) (s x : Operand) (T e by' : Nat) (k : IntKind)
    (hT : Tryz.prog.underlying T = some (.slice e)) (hI : (Tryz.prog.info? e).map (fun i => (i.zero, i.size, i.bytes)) = some (some (.int k 0), 1, by')) (hby : 0 < by')
    (ho : o.op = .call { callee := .builtin .append, args := #[s, x], argTypes := #[T, T] }) (base : Nat) (v : Value) (n : Nat) (xs : List Int) (hs : a.eval s = v) (hown : w.ownsRow base e 1 v n (cellsN k xs))
    (sp : Option Addr) (l : List Int) (m c : Nat) (hx : a.eval x = .slice sp m c) (hm : m = l.length) (hb : Nts k sp l w) (hnc : sp = none → c = 0) (hbytes : (n + m) * by' ≤ 140737488355328) (hbase : base ≤ w.heap.size)
    (h : ∀ v' w', w'.ownsRow base e 1 v' (n + m) (cellsN k (xs ++ l)) → w.grownBy w' v.ownBlock → wpList Tryz.prog ops Q rest (a.put o.dst v') w') : wpList Tryz.prog ops Q (o :: rest) a w := by
  obtain ⟨i0, hi, hz0, hz1, hz2⟩ := info_parts hI
  subst hm
  have hn : n + l.length ≤ 140737488355328 := Nat.le_trans (Nat.le_mul_of_pos_right _ hby) hbytes
  cases sp with
  | none =>
    obtain rfl := nts_none hb
    obtain rfl := hnc rfl
    refine wpList_append_own_none hgd s x T ho base e i0 1 hT hi v n _ hs hown hx ?_
    exact h v w (by simpa using hown) (World.grownBy.refl w _)
  | some ad =>
    refine wpList_append_own _ hgd s x T ho base e i0 (.int k 0) 1 by' hT hi hz0 hz1 hz2 rfl (by decide) v n _ hs hown ad l.length c (cellsN k l) hx (by rw [cellsN_length]; omega) (nts_news hb) (cellsN_one k _) (by unfold maxLen; omega) hbytes hbase ?_
    intro v' w' hown' hgrow _
    exact h v' w' (by rw [cellsN_append]; exact hown') hgrow

/-- What comes of a list and of the steps that are left. -/
def finU (acc : List Int) (r : (Nat × Nat) ⊕ List (Int × Nat)) : List Int × (Nat × Nat) := match r with
  | .inl e => ([], e)
  | .inr ps => (insAll acc ps, (0, 0))
def mkP (l : List UInt8) (p : Nat) : Nat := if 0 < lastI l p then (lastI l p).toNat + 1 else 0
theorem mkP_one (l : List UInt8) : mkP l 1 = 0 := by
  have := lastI_lt l 1
  unfold mkP
  rw [if_neg (by omega)]
theorem mkP_yes (l : List UInt8) (p : Nat) (h1 : 1 ≤ p) (h : l[p]? = some 45) : mkP l (p + 1) = p + 1 := by
  have e : lastI l (p + 1) = p := if_pos h
  unfold mkP
  rw [e, if_pos (by omega)]
  omega
theorem mkP_no (l : List UInt8) (p : Nat) (h : l[p]? ≠ some 45) : mkP l (p + 1) = mkP l p := by
  have e : lastI l (p + 1) = lastI l p := if_neg h
  unfold mkP
  rw [e]
theorem mkP_end (l : List UInt8) (p : Nat) (h : p = max l.length 1) : mkP l p = mrkS l := by
  rcases Nat.eq_zero_or_pos l.length with h0 | h0
  · have e : p = 1 := by omega
    rw [e, mkP_one]
    unfold mrkS
    rw [h0]
    simp [lastI]
  · have e : p = l.length := by omega
    rw [e]
    rfl
theorem mrk_rel (l : List UInt8) : (mrkS l = 0 ∧ mrkN l = 0) ∨ mrkS l = mrkN l + 1 := by
  unfold mrkS mrkN
  split
  · exact .inr rfl
  · exact .inl ⟨rfl, rfl⟩
theorem hiN_at (l : List UInt8) (k : Nat) (hk : k < l.length) (h : ∀ j (hj : j < l.length), j < k → l[j].toNat < 128) (hr : ¬ l[k].toNat < 128) : hiN l = k := by
  induction l generalizing k with
  | nil => simp at hk
  | cons x t ih =>
    cases k with
    | zero => simp only [hiN]; rw [if_neg (by simpa using hr)]
    | succ k =>
      simp only [hiN]
      rw [if_pos (show x.toNat < 128 from h 0 (by simp) (by omega))]
      congr 1
      exact ih k (by simpa using hk) (fun j hj hjk => h (j + 1) (by simp; omega) (by omega)) (by simpa using hr)
theorem hiN_full (l : List UInt8) (h : ∀ j (hj : j < l.length), l[j].toNat < 128) : hiN l = l.length := by
  induction l with
  | nil => rfl
  | cons x t ih =>
    simp only [hiN, List.length_cons]
    rw [if_pos (show x.toNat < 128 from h 0 (by simp)), ih (fun j hj => h (j + 1) (by simp; omega))]
theorem finU_end (l : List UInt8) (acc : List Int) (fuel at' : Nat) (n : Int) (i h bias : Nat) (first : Bool) (hl : l.length ≤ at') : finU acc (unL l fuel at' n i h bias first) = (acc, (0, 0)) := by
  have : unL l fuel at' n i h bias first = .inr [] := by
    cases fuel with
    | zero => rfl
    | succ f => simp only [unL]; rw [if_pos hl]
  rw [this]
  rfl
theorem finU_inl (l : List UInt8) (acc : List Int) (fuel at' : Nat) (n : Int) (i h bias : Nat) (first : Bool) (hl : at' < l.length) (e : Nat × Nat) (he : rdS bias (l.drop at') 0 at' 0 1 = .inl e) : finU acc (unL l (fuel + 1) at' n i h bias first) = ([], e) := by
  simp only [unL]
  rw [if_neg (by omega), he]
  rfl
theorem finU_utf (l : List UInt8) (acc : List Int) (fuel at' : Nat) (n : Int) (i h bias : Nat) (first : Bool) (hl : at' < l.length) (s b : Nat) (he : rdS bias (l.drop at') 0 at' 0 1 = .inr (s, b)) (hr : ¬ isR (n + ((i + s) / (h + 1) : Nat))) : finU acc (unL l (fuel + 1) at' n i h bias first) = ([], (50, b - 1)) := by
  simp only [unL]
  rw [if_neg (by omega), he]
  simp only
  rw [if_neg hr]
  rfl
theorem finU_go (l : List UInt8) (acc : List Int) (fuel at' : Nat) (n : Int) (i h bias : Nat) (first : Bool) (hl : at' < l.length) (s b : Nat) (he : rdS bias (l.drop at') 0 at' 0 1 = .inr (s, b)) (hr : isR (n + ((i + s) / (h + 1) : Nat))) : finU acc (unL l (fuel + 1) at' n i h bias first) = finU (acc.insertIdx ((i + s) % (h + 1)) (n + ((i + s) / (h + 1) : Nat))) (unL l fuel b (n + ((i + s) / (h + 1) : Nat)) ((i + s) % (h + 1) + 1) (h + 1) (biasB s (h + 1) first) false) := by
  conv => lhs; simp only [unL]
  rw [if_neg (by omega), he]
  simp only
  rw [if_pos hr]
  cases unL l fuel b (n + ((i + s) / (h + 1) : Nat)) ((i + s) % (h + 1) + 1) (h + 1) (biasB s (h + 1) first) false with
  | inl e => rfl
  | inr ps => rfl
theorem ins_parts (acc : List Int) (p : Nat) (r : Int) (hp : p ≤ acc.length) : acc.take p ++ [r] ++ acc.drop p = acc.insertIdx p r := by
  induction acc generalizing p with
  | nil =>
    obtain rfl : p = 0 := by simpa using hp
    rfl
  | cons x t ih =>
    cases p with
    | zero => rfl
    | succ p =>
      have := ih p (by simpa using hp)
      simp only [List.take_succ_cons, List.drop_succ_cons, List.cons_append, List.insertIdx_succ_cons, List.cons.injEq, true_and]
      exact this
end Go.Proofs.YtnlgbopdbihnjaaGreatDoor
