/-
  A ring beside two rows of numbers that the call made.
-/
import Derived.Test.YtgbbjhhggjocmaaWak
import Derived.Test.YtgbbjhhggjocmaaOwn7
namespace Go.Proofs.Ytgbbjhhggjocmaa
open Go.RowKit

/-- The blocks of a row. -/
def Fv (v : Value) (k : Nat) : Prop := v.ownBlock = some k
abbrev OwI (w : World) (v : Value) (l : List Int) : Prop := Ow celI 3 1 w v l
structure FiS (w0 w : World) (b : Nat) (q : Option Nat) (most : Nat) (L I O : List Int) (vi vo : Value) : Prop where
  rg : RgI w (some b) q most L
  oi : OwI w vi I
  oo : OwI w vo O
  ai : ∀ k, Fq (some b) q k → ¬ Fv vi k
  ao : ∀ k, Fq (some b) q k → ¬ Fv vo k
  io : ∀ k, Fv vi k → ¬ Fv vo k
  bel : Below w0.heap.size w0 w
  fq : ∀ k, Fq (some b) q k → w0.heap.size ≤ k
  fi : ∀ k, Fv vi k → w0.heap.size ≤ k
  fo : ∀ k, Fv vo k → w0.heap.size ≤ k
theorem FiS.later {w0 w w' : World} {b : Nat} {q : Option Nat} {most : Nat} {L I O : List Int} {vi vo : Value} (h : FiS w0 w b q most L I O vi vo) (hb : Below w.heap.size w w') : FiS w0 w' b q most L I O vi vo :=
  ⟨h.rg.below hb, h.oi.below hb, h.oo.below hb, h.ai, h.ao, h.io, h.bel.trans (hb.mono h.bel.size), h.fq, h.fi, h.fo⟩
theorem FiS.ring {w0 w w' : World} {b : Nat} {q q' : Option Nat} {most : Nat} {L L' I O : List Int} {vi vo : Value} (h : FiS w0 w b q most L I O vi vo) (hr : RgI w' (some b) q' most L') (hc : Chg (Fq (some b) q) w w') (hq : ∀ k, q' = some k → q = some k ∨ w.heap.size ≤ k) : FiS w0 w' b q' most L' I O vi vo := by
  have hq2 : ∀ k, Fq (some b) q' k → Fq (some b) q k ∨ w.heap.size ≤ k := fun k hk => by
    rcases hk with hk | hk
    · exact .inl (.inl hk)
    · rcases hq k hk with h1 | h1
      · exact .inl (.inr h1)
      · exact .inr h1
  refine ⟨hr, h.oi.chg hc (fun g hg hf => h.ai g hf hg), h.oo.chg hc (fun g hg hf => h.ao g hf hg), fun k hk hv => ?_, fun k hk hv => ?_, h.io, h.bel.trans (hc.to_below h.bel.size h.fq), fun k hk => ?_, h.fi, h.fo⟩
  · rcases hq2 k hk with h1 | h1
    · exact h.ai k h1 hv
    · have := h.oi.lt k hv; omega
  · rcases hq2 k hk with h1 | h1
    · exact h.ao k h1 hv
    · have := h.oo.lt k hv; omega
  · rcases hq2 k hk with h1 | h1
    · exact h.fq k h1
    · exact Nat.le_trans h.bel.size h1
theorem FiS.inn {w0 w w' : World} {b : Nat} {q : Option Nat} {most : Nat} {L I I' O : List Int} {vi vo : Value} {g n c : Nat} (h : FiS w0 w b q most L I O vi vo) (hr : OwI w' (.slice (some ⟨g, 0, none⟩) n c) I') (hc : Chg (fun k => vi.ownBlock = some k) w w') (hq : vi.ownBlock = some g ∨ w.heap.size ≤ g) : FiS w0 w' b q most L I' O (.slice (some ⟨g, 0, none⟩) n c) vo := by
  refine ⟨h.rg.chg hc (fun k hk hf => h.ai k hk hf), hr, h.oo.chg hc (fun k hk hf => h.io k hf hk), fun k hk hv => ?_, h.ao, fun k hk hv => ?_, h.bel.trans (hc.to_below h.bel.size h.fi), h.fq, fun k hk => ?_, h.fo⟩
  · obtain rfl : g = k := Option.some.inj hv
    rcases hq with h1 | h1
    · exact h.ai _ hk h1
    · have := h.rg.lt _ hk; omega
  · obtain rfl : g = k := Option.some.inj hk
    rcases hq with h1 | h1
    · exact h.io _ h1 hv
    · have := h.oo.lt _ hv; omega
  · obtain rfl : g = k := Option.some.inj hk
    rcases hq with h1 | h1
    · exact h.fi _ h1
    · exact Nat.le_trans h.bel.size h1
theorem FiS.out {w0 w w' : World} {b : Nat} {q : Option Nat} {most : Nat} {L I O O' : List Int} {vi vo : Value} {g n c : Nat} (h : FiS w0 w b q most L I O vi vo) (hr : OwI w' (.slice (some ⟨g, 0, none⟩) n c) O') (hc : Chg (fun k => vo.ownBlock = some k) w w') (hq : vo.ownBlock = some g ∨ w.heap.size ≤ g) : FiS w0 w' b q most L I O' vi (.slice (some ⟨g, 0, none⟩) n c) := by
  refine ⟨h.rg.chg hc (fun k hk hf => h.ao k hk hf), h.oi.chg hc (fun k hk hf => h.io k hk hf), hr, h.ai, fun k hk hv => ?_, fun k hk hv => ?_, h.bel.trans (hc.to_below h.bel.size h.fo), h.fq, h.fi, fun k hk => ?_⟩
  · obtain rfl : g = k := Option.some.inj hv
    rcases hq with h1 | h1
    · exact h.ao _ hk h1
    · have := h.rg.lt _ hk; omega
  · obtain rfl : g = k := Option.some.inj hv
    rcases hq with h1 | h1
    · exact h.io _ hk h1
    · have := h.oi.lt _ hk; omega
  · obtain rfl : g = k := Option.some.inj hk
    rcases hq with h1 | h1
    · exact h.fo _ h1
    · exact Nat.le_trans h.bel.size h1
theorem FiS.start {w0 w : World} {b : Nat} {most : Nat} {L : List Int} (h : RnI w0.heap.size w0 w (some b) none most L) : FiS w0 w b none most L [] [] (.slice none 0 0) (.slice none 0 0) :=
  ⟨h.rg, Ow.nil _ _ _ _, Ow.nil _ _ _ _, (fun k _ hv => by cases hv), (fun k _ hv => by cases hv), (fun k hv => by cases hv), h.bel, h.own, (fun k hv => by cases hv), (fun k hv => by cases hv)⟩
/-- The length that a row's value tells. -/
def slLen : Value → Nat | .slice _ n _ => n | _ => 0
theorem Sg.cell {w : World} {a : Option Addr} {l : List Int} (h : Sg celI a l w) (k : Nat) (hk : k < l.length) : ∃ g o, a = some ⟨g, o, none⟩ ∧ g < w.heap.size ∧ w.cell? ⟨g, o + k, none⟩ = some (.int .i64 l[k]) := by
  rcases h with rfl | ⟨g, o, rfl, h⟩
  · simp at hk
  · have e := flat_at celI_length l k 0 hk (by decide)
    simp only [Nat.mul_one, Nat.add_zero] at e
    have := h k _ e
    exact ⟨g, o, rfl, lt_of_cell this, this⟩
theorem Sg.below {w w' : World} {a : Option Addr} {l : List Int} (h : Sg celI a l w) (hb : Below w.heap.size w w') : Sg celI a l w' := by
  rcases h with rfl | ⟨g, o, rfl, h⟩
  · exact .inl rfl
  · exact .inr ⟨g, o, rfl, fun j v hv => by
      have := h j v hv
      exact (hb.cell (p := ⟨g, o + j, none⟩) (lt_of_cell this)).trans this⟩
theorem infoI7 : (Try.prog.info? 3).map (fun i => (i.zero, i.size, i.bytes)) = some (some (Value.int .i64 0), 1, 8) := by kernel_rfl
end Go.Proofs.Ytgbbjhhggjocmaa
