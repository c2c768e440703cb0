/-
  A loop over an iterator whose rounds are known ahead: round k is handed the k-th row of values.
-/
import Derived.Test.YthkoionigdnhgabGreatDoorProg
import Derived.RangeFuncNested
import Derived.Shelf.Abstract
import Derived.Laws.EntriesVeiled
import Derived.RangeFuncBound
import Derived.RangeFuncLeaves
import Derived.Shelf.RegionOpen
import Derived.WalkKit
import Derived.OwnWalkIn
import Derived.TacticsInMore
import Derived.LoopNIn
import Derived.LoopIn
import Derived.Test.YthkoionigdnhgabGreatDoorKr7
import Derived.Test.YthkoionigdnhgabGreatDoorBx7
namespace Go.Proofs.YthkoionigdnhgabGreatDoor
open Go.RowKit Go.Shelf

/-- The iterator hands on vs, row by row, unless a round leaves; between two rounds it wants Kp of what a round did. -/
def SeqL (n : Nat) (P : Program) (g : Nat) (lb : Array Value) (vs : List (Array Value)) (Kp : World → World → Prop) (w : World) : Prop :=
  ∀ (l : Nat) (J Jx : Nat → World → Prop) (W : World), Below w.heap.size w W → AbidesFrom W.heap.size J →
    (∀ (k : Nat) (hk : k < vs.length) (W1 : World), J k W1 → YieldAt Fence.wide (n - 1) P l vs[k] W1 fun e W' =>
      (e = .returned (.bool true) ∧ J (k + 1) W' ∧ Kp W1 W') ∨ (e = .returned (.bool false) ∧ Jx (k + 1) W')) →
    J 0 W → CallsIn Fence.wide n P g (#[.func (.yield l) #[] #[]] ++ lb) W fun e W' => (∃ v, e = .returned v) ∧ (J vs.length W' ∨ ∃ k, k ≤ vs.length ∧ Jx k W')
/-- How a round may be left. -/
def rvPost (B : Nat) (Kp : World → World → Prop) (I : World → Prop) (Ix : Code → World → Prop) (W : World) : Exit → Act → World → Prop
  | .normal, _, W' => KeepsFrom B W W' ∧ Kp W W' ∧ I W'
  | .ret, _, W' => KeepsFrom B W W' ∧ Ix .ret W'
  | .exit id, _, W' => KeepsFrom B W W' ∧ Ix (.exit id) W'
  | .goto t, _, W' => KeepsFrom B W W' ∧ Ix (.goto t) W'
  | .panic _, _, _ => False
  | .outgrown, _, _ => False

/-- One round: the record r of loop l is ready, its marks lie in block d. -/
theorem rv_round {P : Program} {m B l d k : Nat} {r : Loop} {args : Array Value} {Kp : World → World → Prop} {I : Nat → World → Prop} {Ix : Code → Nat → World → Prop} {W : World}
    (hB : B ≤ l) (hBd : B ≤ d) (hdl : d ≠ l) (hr0 : r.state = .ready) (hp0 : r.pending = none) (hs : args.size = r.params.size)
    (hKt : ∀ {A B C : World}, Kp A B → Kp B C → Kp A C) (hKb : ∀ (W : World) (l : Nat) (o o' : Obj), B ≤ l → W.heap[l]? = some o → o.isCells = false → Kp W (W.putObj l o'))
    (hI : ∀ k, OwnFrom B (fun (_ : Unit) W => I k W)) (hIx : ∀ c k, OwnFrom B (fun (_ : Unit) W => Ix c k W)) (a₁ : Act)
    (hl : W.heap[l]? = some (.loop r)) (hd : W.heap[d]? = some (.deferred (some []))) (hi : I k W)
    (hassign : ∀ K : Act → World → Prop, K a₁ W → r.assign.wpIn (Fence.wide.inRound l) m P (Exit.then K (fun _ _ _ => False)) { tmps := (r.params.zip args).foldl (fun t (p, v) => t.setIfInBounds p v) r.tmps, defers := [] } W)
    (hbody : ∀ W, (∃ r, W.heap[l]? = some (.loop r)) → I k W → r.body.wpIn (Fence.wide.inRound l) m P (rvPost B Kp (I (k + 1)) (fun c => Ix c (k + 1)) W) a₁ W) :
    YieldAt Fence.wide m P l args W fun e W' =>
      (e = .returned (.bool true) ∧ (I (k + 1) W' ∧ W'.heap[l]? = some (.loop r) ∧ W'.heap[d]? = some (.deferred (some []))) ∧ Kp W W') ∨
      (e = .returned (.bool false) ∧ ∃ c, Ix c (k + 1) W' ∧ W'.heap[l]? = some (.loop { r with state := .done, pending := some c }) ∧ W'.heap[d]? = some (.deferred (some []))) := by
  obtain ⟨rb, hrb⟩ : ∃ rb : Loop, rb = { r with state := .busy } := ⟨_, rfl⟩
  have hlt := (Array.getElem?_eq_some_iff.1 hl).1
  refine ⟨r.fn, _, r.assign, r.body, run_yield hl hs, roundIn_of_wpIn trivial (hassign _ ⟨_, run_beginRound hl hr0, ?_⟩)⟩
  rw [← hrb]
  have hl2 : (W.putObj l (.loop rb)).heap[l]? = some (.loop rb) := World.putObj_heap_same hlt
  have hd2 : (W.putObj l (.loop rb)).heap[d]? = some (.deferred (some [])) := (World.putObj_heap_other (by omega)).trans hd
  have hk2 : Kp W (W.putObj l (.loop rb)) := hKb _ _ _ _ hB hl rfl
  have hi2 : I k (W.putObj l (.loop rb)) := (hI k).putObj (s := ()) _ hi hB hl rfl
  have out : ∀ (j : Option Code) (V : World), KeepsFrom B (W.putObj l (.loop rb)) V → V.heap[l]? = some (.loop rb) ∧
      (Instr.endRound l j).run P V = .ok (.bool j.isNone) (V.putObj l (.loop { r with state := if j.isNone then .ready else .done, pending := j })) ∧
      (V.putObj l (.loop { r with state := if j.isNone then .ready else .done, pending := j })).heap[l]? = some (.loop { r with state := if j.isNone then .ready else .done, pending := j }) ∧
      (V.putObj l (.loop { r with state := if j.isNone then .ready else .done, pending := j })).heap[d]? = some (.deferred (some [])) := fun j V hk => by
    have h3 := hk.same _ _ hB hl2 rfl
    have h4 := run_endRound (P := P) j h3
    rw [hrb] at h4
    exact ⟨h3, h4, World.putObj_heap_same (Array.getElem?_eq_some_iff.1 h3).1, (World.putObj_heap_other (by omega)).trans (hk.same _ _ hBd hd2 rfl)⟩
  have off : ∀ (c : Code) (V : World), KeepsFrom B (W.putObj l (.loop rb)) V ∧ Ix c (k + 1) V → ∃ v V', (Instr.endRound l (some c)).run P V = .ok v V' ∧
      ((Ending.returned v = .returned (.bool true) ∧ (I (k + 1) V' ∧ V'.heap[l]? = some (.loop r) ∧ V'.heap[d]? = some (.deferred (some []))) ∧ Kp W V') ∨
      (Ending.returned v = .returned (.bool false) ∧ ∃ c, Ix c (k + 1) V' ∧ V'.heap[l]? = some (.loop { r with state := .done, pending := some c }) ∧ V'.heap[d]? = some (.deferred (some [])))) := fun c V h => by
    obtain ⟨h3, h4, h5, h6⟩ := out (some c) V h.1
    exact ⟨_, _, h4, .inr ⟨rfl, c, (hIx c _).putObj (s := ()) _ h.2 hB h3 rfl, h5, h6⟩⟩
  refine wpIn_mono (hbody _ ⟨_, hl2⟩ hi2) ?_
  intro e a3 V hp
  cases e with
  | normal =>
    obtain ⟨h1, h2, h7⟩ := hp
    obtain ⟨h3, h4, h5, h6⟩ := out none V h1
    have hrr : ({ r with state := if (none : Option Code).isNone then .ready else .done, pending := none } : Loop) = r := by
      cases r
      cases hr0
      cases hp0
      rfl
    rw [hrr] at h4 h5 h6
    exact ⟨_, _, h4, .inl ⟨rfl, ⟨(hI _).putObj (s := ()) _ h7 hB h3 rfl, h5, h6⟩, hKt (hKt hk2 h2) (hKb _ _ _ _ hB h3 rfl)⟩⟩
  | ret => exact off _ V hp
  | exit id => exact off _ V hp
  | goto t => exact off _ V hp
  | panic ch => exact hp.elim
  | outgrown => exact hp.elim

/-- The loop. -/
theorem rv_out {P : Program} {n : Nat} {g : Operand} {ps : Array Tmp} {assign body : Code} {Q : Exit → Act → World → Prop} {a : Act} {w : World}
    (h1 : 1 ≤ n) {gf : Nat} {lb : Array Value} (hg : a.eval g = .func (.func gf) #[] lb) (eg : ∀ args w, (callFunc gf args).run P w = .ok (.enter gf args) w)
    {vs : List (Array Value)} {Kp : World → World → Prop} (hseq : SeqL (n - 1) P gf lb vs Kp w) (hps : ∀ v ∈ vs, v.size = ps.size)
    (hKt : ∀ {A B C : World}, Kp A B → Kp B C → Kp A C) (hKb : ∀ (W : World) (l : Nat) (o o' : Obj), w.heap.size ≤ l → W.heap[l]? = some o → o.isCells = false → Kp W (W.putObj l o'))
    (I : Nat → World → Prop) (Ix : Code → Nat → World → Prop) (hI : ∀ k, OwnFrom w.heap.size (fun (_ : Unit) W => I k W)) (hIx : ∀ c k, OwnFrom w.heap.size (fun (_ : Unit) W => Ix c k W)) (h0 : I 0 w) (a₁ : Nat → Act)
    (hassign : ∀ (l k : Nat) (hk : k < vs.length) (W : World) (K : Act → World → Prop), K (a₁ k) W →
      assign.wpIn (Fence.wide.inRound l) (n - 1 - 1) P (Exit.then K (fun _ _ _ => False)) { tmps := (ps.zip vs[k]).foldl (fun t (p, v) => t.setIfInBounds p v) a.tmps, defers := [] } W)
    (hbody : ∀ (l k : Nat) (hk : k < vs.length) (W : World), w.heap.size ≤ l → (∃ r, W.heap[l]? = some (.loop r)) → I k W → body.wpIn (Fence.wide.inRound l) (n - 1 - 1) P (rvPost w.heap.size Kp (I (k + 1)) (fun c => Ix c (k + 1)) W) (a₁ k) W)
    (hdone : ∀ (D : Nat) (W : World), w.heap.size ≤ D → I vs.length W → W.heap[D]? = some (.deferred (some [])) → Q .normal { a with defers := { target := .collected D, args := #[] } :: a.defers } W)
    (hstop : ∀ (D : Nat) (c : Code) (k : Nat) (W : World), w.heap.size ≤ D → k ≤ vs.length → Ix c k W → W.heap[D]? = some (.deferred (some [])) → c.wpIn Fence.wide n P Q { a with defers := { target := .collected D, args := #[] } :: a.defers } W) :
    (Code.rangeFunc g ps assign body).wpIn Fence.wide n P Q a w := by
  refine wpIn_rangeFunc fun fn _ => ?_
  obtain ⟨r, hr⟩ : ∃ r : Loop, r = { state := .ready, pending := none, fn, tmps := a.tmps, params := ps, assign, body, defers := w.heap.size } := ⟨_, rfl⟩
  obtain ⟨W1, hW1⟩ : ∃ W1, W1 = (w.alloc (.deferred (some []))).alloc (.loop r) := ⟨_, rfl⟩
  have hz1 : W1.heap.size = w.heap.size + 1 + 1 := by rw [hW1]; simp
  have hl1 : W1.heap[w.heap.size + 1]? = some (.loop r) := by
    have := World.alloc_heap_new (w.alloc (.deferred (some []))) (.loop r)
    rw [World.size_alloc] at this
    rw [hW1]
    exact this
  have hd1 : W1.heap[w.heap.size]? = some (.deferred (some [])) := by
    rw [hW1]
    exact (Below.heap_alloc _ _ _ (by simp)).trans (World.alloc_heap_new w _)
  have hb1 : Below w.heap.size w W1 := by
    rw [hW1]
    exact ((Below.refl _ w).alloc (Nat.le_refl _) _).alloc (by simp) _
  have hi1 : I 0 W1 := by
    rw [hW1]
    exact (hI 0).alloc (s := ()) _ ((hI 0).alloc (s := ()) _ h0)
  have ab : ∀ {A C : World} {row : Option Nat}, (∀ b, row = some b → W1.heap.size ≤ b ∧ ∃ o : Obj, A.heap[b]? = some o ∧ o.isWalk = true) → A.grownBy C row →
      (∀ k, I k A → I k C) ∧ (∀ c k, Ix c k A → Ix c k C) ∧ (∀ (k : Nat) (o : Obj), A.heap[k]? = some o → o.isWalk = false → C.heap[k]? = some o) := fun {A C row} h hgr => by
    have h' : ∀ b, row = some b → w.heap.size ≤ b ∧ ∃ o : Obj, A.heap[b]? = some o ∧ o.isCells = false := fun b e => by
      obtain ⟨hb, o, ho, hw⟩ := h b e
      exact ⟨by omega, o, ho, Obj.not_cells_of_walk hw⟩
    exact ⟨fun k hk => hI k () A C row hk hgr h', fun c k hk => hIx c k () A C row hk hgr h', fun k o ho hw => (grownBy_keeps hgr (fun b e => (h b e).2) ho hw).trans ho⟩
  refine ⟨w.heap.size + 1, [{ target := .collected w.heap.size, args := #[] }], W1, { target := .fn (.func gf) lb, args := #[.func (.yield (w.heap.size + 1)) #[] #[]] }, W1, gf,
    #[.func (.yield (w.heap.size + 1)) #[] #[]] ++ lb, W1, ?_, ?_, fun _ _ => trivial, ?_, fun _ => h1, ?_⟩
  · rw [hW1, hr]
    exact run_enterLoop_outer _ _ _ _ _
  · simp only [resolve, hg]
    simp [go_sem]
  · simp [invoke, go_sem, eg]
  · refine (hseq (w.heap.size + 1)
      (fun k W => I k W ∧ W.heap[w.heap.size + 1]? = some (.loop r) ∧ W.heap[w.heap.size]? = some (.deferred (some [])))
      (fun k W => ∃ c, Ix c k W ∧ W.heap[w.heap.size + 1]? = some (.loop { r with state := .done, pending := some c }) ∧ W.heap[w.heap.size]? = some (.deferred (some [])))
      W1 hb1 (fun k A C row hs hgr h => ⟨(ab h hgr).1 k hs.1, (ab h hgr).2.2 _ _ hs.2.1 rfl, (ab h hgr).2.2 _ _ hs.2.2 rfl⟩) ?_ ⟨hi1, hl1, hd1⟩).mono ?_
    · rintro k hk W ⟨hi, hl, hd⟩
      have e1 : r.assign = assign := by rw [hr]
      have e2 : r.body = body := by rw [hr]
      have e3 : r.params = ps := by rw [hr]
      have e4 : r.tmps = a.tmps := by rw [hr]
      refine rv_round (d := w.heap.size) (Nat.le_succ _) (Nat.le_refl _) (by omega) (by rw [hr]) (by rw [hr]) (by rw [e3]; exact hps _ (List.getElem_mem hk)) hKt hKb hI hIx (a₁ k) hl hd hi (fun K hK => ?_) (fun V hV hv => ?_)
      · rw [e1, e3, e4]
        exact hassign _ k hk W K hK
      · rw [e2]
        exact hbody _ k hk V (by omega) hV hv
    · rintro e V ⟨⟨v, rfl⟩, ⟨hi, hl, hd⟩ | ⟨k, hk, c, hi, hl, hd⟩⟩
      · refine ⟨none, _, ?_, hdone _ _ (Nat.le_refl _) ((hI _).putObj (s := ()) (.loop { r with state := .exhausted }) hi (Nat.le_succ _) hl rfl) ((World.putObj_heap_other (by omega)).trans hd)⟩
        have := run_endLoop (P := P) hl (by rw [hr]; simp)
        rw [this]
        rw [hr]
      · refine ⟨some c, _, ?_, hstop _ c k _ (Nat.le_refl _) hk ((hIx c k).putObj (s := ()) (.loop { r with state := .exhausted, pending := some c }) hi (Nat.le_succ _) hl rfl) ((World.putObj_heap_other (by omega)).trans hd)⟩
        have := run_endLoop (P := P) hl (by simp)
        rw [this]
end Go.Proofs.YthkoionigdnhgabGreatDoor
/-
  The folds of a text, one by one.
-/
namespace Go.Proofs.YthkoionigdnhgabGreatDoor
open Go.RowKit Go.Shelf

attribute [local go_sem] Oper.semAt_some

/-- Blocks of G lie as they lay. -/
structure Kg (G : Nat → Prop) (W W' : World) : Prop where
  size : W.heap.size ≤ W'.heap.size
  same : ∀ (k : Nat) (o : Obj), G k → W.heap[k]? = some o → o.isCells = true → W'.heap[k]? = some o
theorem Kg.refl (G : Nat → Prop) (W : World) : Kg G W W := ⟨Nat.le_refl _, fun _ _ _ h _ => h⟩
theorem Kg.trans {G : Nat → Prop} {A B C : World} (h : Kg G A B) (k : Kg G B C) : Kg G A C := ⟨Nat.le_trans h.size k.size, fun i o hi ho hc => k.same i o hi (h.same i o hi ho hc) hc⟩
theorem Kg.book (G : Nat → Prop) (W : World) (l : Nat) (o o' : Obj) (hl : W.heap[l]? = some o) (ho : o.isCells = false) : Kg G W (W.putObj l o') :=
  ⟨(grownBy_putObj' W l o').size, fun k ob _ hk hc => by
    refine (World.putObj_heap_other (fun e => ?_)).trans hk
    subst e
    rw [hl] at hk
    cases hk
    rw [ho] at hc
    cases hc⟩
theorem Kg.of_chg {G F : Nat → Prop} {W W' : World} (h : Chg F W W') (hF : ∀ k, F k → ¬ G k) : Kg G W W' :=
  ⟨h.size, fun k _ hk ho _ => (h.block k (Array.getElem?_eq_some_iff.1 ho).1 (fun f => hF k f hk)).trans ho⟩
theorem Kg.lies {G : Nat → Prop} {W W' : World} (h : Kg G W W') {g t : Nat} {cs : Array Value} (hl : Lies W g cs t) (hg : G g) : Lies W' g cs t := h.same g _ hg hl rfl

end Go.Proofs.YthkoionigdnhgabGreatDoor
