/-
  A ring whose blocks all lie from N on; its calls.
-/
import Derived.Test.YtgbbjhhggjocmaaRuI
import Derived.Test.YtgbbjhhggjocmaaRdI
namespace Go.Proofs.Ytgbbjhhggjocmaa
open Go.RowKit

structure RnI (N : Nat) (w0 w : World) (p q : Option Nat) (most : Nat) (l : List Int) : Prop where
  rg : RgI w p q most l
  bel : Below N w0 w
  own : ∀ k, Fq p q k → N ≤ k
  hN : N ≤ w0.heap.size
theorem RnI.later {N : Nat} {w0 w w' : World} {p q : Option Nat} {most : Nat} {l : List Int} (h : RnI N w0 w p q most l) (hb : Below w.heap.size w w') : RnI N w0 w' p q most l :=
  ⟨h.rg.below hb, h.bel.trans (hb.mono (Nat.le_trans h.hN h.bel.size)), h.own, h.hN⟩
theorem RnI.chg {N : Nat} {w0 w w' : World} {p q q' : Option Nat} {most : Nat} {l l' : List Int} (h : RnI N w0 w p q most l) (hr : RgI w' p q' most l') (hc : Chg (Fq p q) w w') (hq : ∀ k, q' = some k → q = some k ∨ w.heap.size ≤ k) : RnI N w0 w' p q' most l' :=
  ⟨hr, h.bel.trans (hc.to_below (Nat.le_trans h.hN h.bel.size) h.own), fun k hk => by
    rcases hk with hk | hk
    · exact h.own k (.inl hk)
    · rcases hq k hk with h1 | h1
      · exact h.own k (.inr h1)
      · exact Nat.le_trans (Nat.le_trans h.hN h.bel.size) h1, h.hN⟩
theorem pushI_n {N : Nat} {w0 w : World} {p q : Option Nat} {most : Nat} {l : List Int} (h : RnI N w0 w p q most l) (x : Int) (l' : List Int) (E : Int) (hE : pushE most l.length = E) (hl : pushLI most l x = l') :
    Calls Try.prog 20 #[ptr p, valI x] w fun e w' => e = .returned (.int .i64 E) ∧ ∃ q', RnI N w0 w' p q' most l' :=
  (pushI_any p q most l x w h.rg).mono (fun e w' hh => by obtain ⟨h1, q', h2, h3, h4⟩ := hh; subst hE hl; exact ⟨h1, q', h.chg h2 h3 h4⟩)
theorem popI_n {N : Nat} {w0 w : World} {p q : Option Nat} {most : Nat} {l : List Int} (h : RnI N w0 w p q most l) :
    Calls Try.prog 21 #[ptr p] w fun e w' => e = .returned (.tuple #[valI (l.headD 0), .bool (!l.isEmpty)]) ∧ RnI N w0 w' p q most l.tail :=
  (popI_any p q most l w h.rg).mono (fun e w' hh => by obtain ⟨h1, h2, h3⟩ := hh; exact ⟨h1, h.chg h2 h3 (fun k e => .inl e)⟩)
theorem dropI_n {N : Nat} {w0 w : World} {p q : Option Nat} {most : Nat} {l : List Int} (h : RnI N w0 w p q most l) (n : Int) (D0 : Nat) (hD : D0 = dropN l.length n) :
    Calls Try.prog 34 #[ptr p, .int .i64 n] w fun e w' => e = .returned (.int .i64 (D0 : Int)) ∧ RnI N w0 w' p q most (l.drop D0) :=
  (dropI_any p q most l n w h.rg D0 hD).mono (fun e w' hh => by obtain ⟨h1, h2, h3⟩ := hh; exact ⟨h1, h.chg h2 h3 (fun k e => .inl e)⟩)
theorem newI_n (N : Nat) (w0 w : World) (hN : N ≤ w0.heap.size) (hb : Below N w0 w) (n : Nat) (hn : 1 ≤ n) (hn2 : n ≤ 1048576) :
    Calls Try.prog 9 #[.int .i64 (n : Int)] w fun e w' => e = .returned (.tuple #[ptr (some w.heap.size), .int .i64 0]) ∧ RnI N w0 w' (some w.heap.size) none n [] :=
  (newI_good n hn hn2 w).mono (fun e w' hh => by
    obtain ⟨h1, h2, h3⟩ := hh
    refine ⟨h1, h2, hb.trans (h3.mono (Nat.le_trans hN hb.size)), fun k hk => ?_, hN⟩
    rcases hk with hk | hk
    · cases hk; exact Nat.le_trans hN hb.size
    · cases hk)
end Go.Proofs.Ytgbbjhhggjocmaa
