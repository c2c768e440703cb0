/-
  What an iterator wants kept between two of its rounds.
-/
import Derived.Test.YtdgepnfgjgbkoaaDoorRv16
import Derived.Test.YtdgepnfgjgbkoaaDoorBx7
import Derived.Test.YtdgepnfgjgbkoaaDoorBase2
import Derived.Test.YtdgepnfgjgbkoaaDoorLate5
import Derived.OrdersIn
import Derived.TacticsIn
import Derived.RangeFuncIn
import Derived.RangeFuncCalls
namespace Go.Proofs.YtdgepnfgjgbkoaaDoor
open Go.RowKit Go.Shelf

/-- Blocks of G lie as they lay. -/
structure Kg (G : Nat → Prop) (W W' : World) : Prop where
  size : W.heap.size ≤ W'.heap.size
  same : ∀ (k : Nat) (o : Obj), G k → W.heap[k]? = some o → o.isCells = true → W'.heap[k]? = some o
theorem Kg.refl (G : Nat → Prop) (W : World) : Kg G W W := ⟨Nat.le_refl _, fun _ _ _ h _ => h⟩
theorem Kg.trans {G : Nat → Prop} {A B C : World} (h : Kg G A B) (k : Kg G B C) : Kg G A C := ⟨Nat.le_trans h.size k.size, fun i o hi ho hc => k.same i o hi (h.same i o hi ho hc) hc⟩
theorem Kg.book (G : Nat → Prop) (W : World) (l : Nat) (o o' : Obj) (hl : W.heap[l]? = some o) (ho : o.isCells = false) : Kg G W (W.putObj l o') :=
  ⟨(grownBy_putObj' W l o').size, fun k ob _ hk hc => by
    refine (World.putObj_heap_other (fun e => ?_)).trans hk
    subst e
    rw [hl] at hk
    cases hk
    rw [ho] at hc
    cases hc⟩
theorem Kg.of_chg {G F : Nat → Prop} {W W' : World} (h : Chg F W W') (hF : ∀ k, F k → ¬ G k) : Kg G W W' :=
  ⟨h.size, fun k _ hk ho _ => (h.block k (Array.getElem?_eq_some_iff.1 ho).1 (fun f => hF k f hk)).trans ho⟩
theorem Kg.of_below {G : Nat → Prop} {W W' : World} (h : Below W.heap.size W W') : Kg G W W' :=
  ⟨h.size, fun k _ _ ho _ => (h.block k (Array.getElem?_eq_some_iff.1 ho).1).trans ho⟩
theorem Kg.lies {G : Nat → Prop} {W W' : World} (h : Kg G W W') {g t : Nat} {cs : Array Value} (hl : Lies W g cs t) (hg : G g) : Lies W' g cs t := h.same g _ hg hl rfl
theorem lies_turn {W W' : World} {g t : Nat} {cs : Array Value} {row : Option Nat} (h : Lies W g cs t) (hg : W.grownBy W' row) (hr : ∀ r, row = some r → ∃ o : Obj, W.heap[r]? = some o ∧ o.isCells = false) : Lies W' g cs t := (grownBy_keeps_cells hg hr h rfl).trans h
theorem own_turn {W W' : World} {B n : Nat} {v : Value} {xs : List Value} {row : Option Nat} (h : W.ownsRow B 5 1 v n xs) (hg : W.grownBy W' row) (hr : ∀ r, row = some r → ∃ o : Obj, W.heap[r]? = some o ∧ o.isCells = false) : W'.ownsRow B 5 1 v n xs := own_keep h (fun k hk => by
  rcases h.2 with ⟨rfl, _⟩ | ⟨g, cap, cur, rfl, hB, hc, _⟩
  · cases hk
  · cases hk
    exact grownBy_keeps_cells hg hr hc rfl)
theorem below_turn {w W W' : World} {B C : Nat} {row : Option Nat} (h : Below B w W) (hB : B ≤ C) (hw : B ≤ w.heap.size) (hg : W.grownBy W' row) (hr : ∀ r, row = some r → C ≤ r ∧ ∃ o : Obj, W.heap[r]? = some o ∧ o.isCells = false) : Below B w W' := h.grown hg (Nat.le_trans hw h.size) (fun r e => Nat.le_trans hB (hr r e).1)
theorem keeps_cells {B : Nat} {F : Nat → Prop} {W W' : World} (h : Chg F W W') (hF : ∀ k, F k → ∃ o : Obj, W.heap[k]? = some o ∧ o.isCells = true) : KeepsFrom B W W' :=
  ⟨h.size, fun k o _ ho hc => (h.block k (Array.getElem?_eq_some_iff.1 ho).1 (fun f => by
    obtain ⟨o', h1, h2⟩ := hF k f
    rw [ho] at h1
    cases h1
    rw [hc] at h2
    cases h2)).trans ho⟩
end Go.Proofs.YtdgepnfgjgbkoaaDoor
/-
  A statement whose order is drawn, within a round of a loop over an iterator.
-/
namespace Go.Proofs.YtdgepnfgjgbkoaaDoor

def noDefer (ops : Array Oper) : Bool := ops.all fun o => match o.op with
  | .defer _ => false
  | _ => true
theorem noDefer_at {ops : Array Oper} (h : noDefer ops = true) (i : Nat) (o : Oper) (hi : ops[i]? = some o) : ∀ c, o.op ≠ .defer c := fun c e => by
  have := Array.all_eq_true'.1 h o (Array.mem_of_getElem? hi)
  rw [e] at this
  cases this
theorem upon_round {P : Program} {o : Oper} {a : Act} {K : Act → World → Prop} {Q : Exit → Act → World → Prop} (l n : Nat) (r : Result Next) (h : o.upon P a K Q r) : o.uponIn (Fence.wide.inRound l) n P a K Q r := by
  cases r with
  | ok x w' =>
    cases x with
    | value v => exact h
    | skip => exact h
    | defer d => exact h
    | enter f args => exact ⟨fun h => (by cases h), (callsIn_wide.2 h : CallsIn Fence.wide (n - 1) P f args w' _)⟩
    | row s args => exact ⟨fun h => (by cases h), fun c cs hr => (h c cs).imp fun v h => h.imp fun w'' h => ⟨h.1, stepsIn_wide.2 h.2⟩⟩
    | round l f tmps assign body => exact h.elim
    | _ => exact h.elim
  | halt x w' => cases x <;> exact h
theorem wpOp_round {P : Program} {ops : Array Oper} {Q : Exit → Act → World → Prop} (hd : noDefer ops = true) (hlo : ¬ LetsOut Q) (l n i : Nat) {K K' : Act → World → Prop} (hK : ∀ a w, K a w → K' a w) (a : Act) (w : World) (h : wpOp P ops Q i K a w) : wpOpIn (Fence.wide.inRound l) n P ops Q i K' a w := by
  refine wpOpIn_mono hK ?_
  unfold wpOp at h
  unfold wpOpIn
  cases hi : ops[i]? with
  | none =>
    rw [hi] at h
    exact h
  | some o =>
    rw [hi] at h
    simp only at h ⊢
    split at h
    · rename_i hw
      rw [if_pos hw]
      rcases h with h | ⟨_, h⟩
      · refine ⟨fun _ _ => trivial, ?_⟩
        rw [Fence.inRound_round, Oper.semAt_some l _ _ (noDefer_at hd i o hi)]
        exact upon_round l n _ h
      · exact absurd h hlo
    · rename_i hw
      rw [if_neg hw]
      exact ⟨fun _ _ => trivial, h⟩
theorem wpAny_round {P : Program} {ops : Array Oper} {Q : Exit → Act → World → Prop} {md : Region.Mode} (hd : noDefer ops = true) (hlo : ¬ LetsOut Q) (l n : Nat) : ∀ (fuel : Nat) (listed : Array Bool) (a : Act) (w : World), wpAny P md ops Q fuel listed a w → wpAnyIn (Fence.wide.inRound l) n P md ops Q fuel listed a w
  | 0, _, _, _, h => h
  | fuel + 1, _, a, w, h => ⟨h.1, fun i hi => wpOp_round hd hlo l n i (fun a' w' h' => wpAny_round hd hlo l n fuel _ a' w' h') a w (h.2 i hi)⟩
/-- A statement that neither leaves nor panics. -/
def OnlyN (S : Act → World → Prop) : Exit → Act → World → Prop
  | .normal, a, w => S a w
  | _, _, _ => False
theorem wp_onlyN {P : Program} {c : Code} {Q : Exit → Act → World → Prop} {a : Act} {w : World} (h : c.wp P (OnlyN (fun a w => Q .normal a w)) a w) : c.wp P Q a w :=
  Code.wp_mono (fun e a' w' h => by cases e <;> first | exact h | exact (h : False).elim) h
/-- The beginning, within a round. -/
theorem wpIn_region_late {P : Program} {ops : Array Oper} {Q : Exit → Act → World → Prop} (S : World → Prop) (L : Nat) {id l n : Nat} {a : Act} {w : World} (hm : P.follows .mixedOrders = true) (hd : noDefer ops = true) (hlo : ¬ LetsOut Q) (hS : S w.drew)
    (h : S w.drew → wpAnyE P .any ops Q S L ops.size (Array.replicate ops.size false) a w.drew) : (Code.region id ops true).wpIn (Fence.wide.inRound l) n P Q a w :=
  wpIn_region_any hm (wpAny_round hd hlo l n _ _ _ _ (wpAny_of_late _ _ _ _ (h hS)))
end Go.Proofs.YtdgepnfgjgbkoaaDoor
