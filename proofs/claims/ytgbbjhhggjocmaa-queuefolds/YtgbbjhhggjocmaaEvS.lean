/-
  A ring of numbers beside boxes.
-/
import Derived.Test.YtgbbjhhggjocmaaBx7
import Derived.Test.YtgbbjhhggjocmaaReI
import Derived.Test.YtgbbjhhggjocmaaFiS
namespace Go.Proofs.Ytgbbjhhggjocmaa
open Go.RowKit

theorem RgI.isCells {w : World} {p q : Option Nat} {most : Nat} {l : List Int} (h : RgI w p q most l) (k : Nat) (hk : Fq p q k) : ∃ o, w.heap[k]? = some o ∧ o.isCells = true := by
  cases h with
  | no => rcases hk with hk | hk <;> cases hk
  | zero b h => rcases hk with hk | hk <;> cases hk; exact lies_isCells h
  | made b q most A f c h =>
    rcases hk with hk | hk
    · cases hk; exact lies_isCells h.lies
    · by_cases e : A = []
      · rw [h.non e] at hk; cases hk
      · obtain ⟨g, k1, k2⟩ := h.som e
        rw [k1] at hk; cases hk; exact lies_isCells k2
structure Ev (w0 W : World) (b : Nat) (q : Option Nat) (most : Nat) (L : List Int) (bs : List (Nat × Value × Nat)) (Ds : List Nat) : Prop where
  bx : Bx w0 (fun _ => False) W (Fq (some b) q) bs Ds
  rg : RgI W (some b) q most L
theorem Ev.later {w0 W W' : World} {b : Nat} {q : Option Nat} {most : Nat} {L : List Int} {bs : List (Nat × Value × Nat)} {Ds : List Nat} (h : Ev w0 W b q most L bs Ds) (hb : Below W.heap.size W W') : Ev w0 W' b q most L bs Ds := ⟨h.bx.later hb, h.rg.below hb⟩
theorem Ev.set {w0 W : World} {b : Nat} {q : Option Nat} {most : Nat} {L : List Int} {bs : List (Nat × Value × Nat)} {Ds : List Nat} (h : Ev w0 W b q most L bs Ds) (i : Nat) {a t : Nat} {v : Value} (hi : bs[i]? = some (a, v, t)) (v' : Value) : Ev w0 (W.setCell ⟨a, 0, none⟩ v') b q most L (bs.set i (a, v', t)) Ds :=
  ⟨h.bx.set i hi v', h.rg.keep (fun k hk => Below.heap_setCell _ _ _ _ (fun e => (h.bx.nw _ (List.mem_of_getElem? hi)).2 (by have e' : k = a := e; rw [e'] at hk; exact hk)))⟩
theorem Ev.box {w0 W : World} {b : Nat} {q : Option Nat} {most : Nat} {L : List Int} {bs : List (Nat × Value × Nat)} {Ds : List Nat} (h : Ev w0 W b q most L bs Ds) (v : Value) (t : Nat) : Ev w0 (W.alloc (.cells #[v] t)) b q most L ((W.heap.size, v, t) :: bs) Ds := ⟨h.bx.box v t, h.rg.below ((Below.refl _ _).alloc (Nat.le_refl _) _)⟩
theorem Ev.sub {w0 W : World} {b : Nat} {q : Option Nat} {most : Nat} {L : List Int} {bs bs' : List (Nat × Value × Nat)} {Ds : List Nat} (h : Ev w0 W b q most L bs Ds) (hs : bs'.Sublist bs) : Ev w0 W b q most L bs' Ds := ⟨h.bx.sub hs, h.rg⟩
theorem Ev.step {w0 W W' : World} {b : Nat} {q q' : Option Nat} {most : Nat} {L L' : List Int} {bs : List (Nat × Value × Nat)} {Ds : List Nat} (h : Ev w0 W b q most L bs Ds) (hr : RgI W' (some b) q' most L') (hc : Chg (Fq (some b) q) W W') (hq : ∀ k, q' = some k → q = some k ∨ W.heap.size ≤ k) : Ev w0 W' b q' most L' bs Ds :=
  ⟨h.bx.step hc (fun k hk => by
    rcases hk with e | e
    · exact .inl (.inl e)
    · exact (hq k e).imp .inr id) hr.isCells, hr⟩
theorem Ev.bel {w0 W : World} {b : Nat} {q : Option Nat} {most : Nat} {L : List Int} {bs : List (Nat × Value × Nat)} {Ds : List Nat} (h : Ev w0 W b q most L bs Ds) : Below w0.heap.size w0 W := h.bx.chg.to_below (Nat.le_refl _) (fun _ hk => hk.elim)
theorem Ev.turn {w0 W W' : World} {b : Nat} {q : Option Nat} {most : Nat} {L : List Int} {bs : List (Nat × Value × Nat)} {Ds : List Nat} (h : Ev w0 W b q most L bs Ds) {B : Nat} (hB : w0.heap.size ≤ B) (hD : ∀ D ∈ Ds, D < B) {row : Option Nat} (hg : W.grownBy W' row) (hr : ∀ r, row = some r → B ≤ r ∧ ∃ o : Obj, W.heap[r]? = some o ∧ o.isCells = false) : Ev w0 W' b q most L bs Ds :=
  ⟨(h.bx.turn hB hD hg hr).1, h.rg.keep (h.bx.turn hB hD hg hr).2⟩
theorem Ev.mark {w0 W : World} {b : Nat} {q : Option Nat} {most : Nat} {L : List Int} {bs : List (Nat × Value × Nat)} {Ds : List Nat} (h : Ev w0 W b q most L bs Ds) (D : Nat) (hD : w0.heap.size ≤ D) (hk : W.heap[D]? = some (.deferred (some []))) (hn : D ∉ Ds) : Ev w0 W b q most L bs (D :: Ds) := ⟨h.bx.mark D hD hk hn, h.rg⟩
/-- Where the ring lies, at first. -/
theorem Ev.lt {w0 W : World} {b : Nat} {q : Option Nat} {most : Nat} {L : List Int} {bs : List (Nat × Value × Nat)} {Ds : List Nat} (h : Ev w0 W b q most L bs Ds) (k : Nat) (hk : Fq (some b) q k) : k < W.heap.size := h.bx.flt k hk
theorem push_cap {most : Nat} {L : List Int} (x : Int) (h : L.length < most) : pushLI most L x = L ++ [x] := if_pos h
end Go.Proofs.Ytgbbjhhggjocmaa
