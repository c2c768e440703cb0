/-
  A ring whose blocks all lie from N on; its calls.
-/
import Derived.Test.YtgbbjhhggjocmabRuB
import Derived.Test.YtgbbjhhggjocmabRdB
namespace Go.Proofs.Ytgbbjhhggjocmab
open Go.RowKit

structure RnB (N : Nat) (w0 w : World) (p q : Option Nat) (most : Nat) (l : List Int) : Prop where
  rg : RgB w p q most l
  bel : Below N w0 w
  own : ∀ k, Fq p q k → N ≤ k
  hN : N ≤ w0.heap.size
theorem RnB.later {N : Nat} {w0 w w' : World} {p q : Option Nat} {most : Nat} {l : List Int} (h : RnB N w0 w p q most l) (hb : Below w.heap.size w w') : RnB N w0 w' p q most l :=
  ⟨h.rg.below hb, h.bel.trans (hb.mono (Nat.le_trans h.hN h.bel.size)), h.own, h.hN⟩
theorem RnB.chg {N : Nat} {w0 w w' : World} {p q q' : Option Nat} {most : Nat} {l l' : List Int} (h : RnB N w0 w p q most l) (hr : RgB w' p q' most l') (hc : Chg (Fq p q) w w') (hq : ∀ k, q' = some k → q = some k ∨ w.heap.size ≤ k) : RnB N w0 w' p q' most l' :=
  ⟨hr, h.bel.trans (hc.to_below (Nat.le_trans h.hN h.bel.size) h.own), fun k hk => by
    rcases hk with hk | hk
    · exact h.own k (.inl hk)
    · rcases hq k hk with h1 | h1
      · exact h.own k (.inr h1)
      · exact Nat.le_trans (Nat.le_trans h.hN h.bel.size) h1, h.hN⟩
theorem pushB_n {N : Nat} {w0 w : World} {p q : Option Nat} {most : Nat} {l : List Int} (h : RnB N w0 w p q most l) (x : Int) (l' : List Int) (E : Int) (hE : pushE most l.length = E) (hl : pushLB most l x = l') :
    Calls Try.prog 43 #[ptr p, valB x] w fun e w' => e = .returned (.int .i64 E) ∧ ∃ q', RnB N w0 w' p q' most l' :=
  (pushB_any p q most l x w h.rg).mono (fun e w' hh => by obtain ⟨h1, q', h2, h3, h4⟩ := hh; subst hE hl; exact ⟨h1, q', h.chg h2 h3 h4⟩)
theorem dropB_n {N : Nat} {w0 w : World} {p q : Option Nat} {most : Nat} {l : List Int} (h : RnB N w0 w p q most l) (n : Int) (D0 : Nat) (hD : D0 = dropN l.length n) :
    Calls Try.prog 45 #[ptr p, .int .i64 n] w fun e w' => e = .returned (.int .i64 (D0 : Int)) ∧ RnB N w0 w' p q most (l.drop D0) :=
  (dropB_any p q most l n w h.rg D0 hD).mono (fun e w' hh => by obtain ⟨h1, h2, h3⟩ := hh; exact ⟨h1, h.chg h2 h3 (fun k e => .inl e)⟩)
theorem newB_n (N : Nat) (w0 w : World) (hN : N ≤ w0.heap.size) (hb : Below N w0 w) (n : Nat) (hn : 1 ≤ n) (hn2 : n ≤ 1048576) :
    Calls Try.prog 41 #[.int .i64 (n : Int)] w fun e w' => e = .returned (.tuple #[ptr (some w.heap.size), .int .i64 0]) ∧ RnB N w0 w' (some w.heap.size) none n [] :=
  (newB_good n hn hn2 w).mono (fun e w' hh => by
    obtain ⟨h1, h2, h3⟩ := hh
    refine ⟨h1, h2, hb.trans (h3.mono (Nat.le_trans hN hb.size)), fun k hk => ?_, hN⟩
    rcases hk with hk | hk
    · cases hk; exact Nat.le_trans hN hb.size
    · cases hk)
end Go.Proofs.Ytgbbjhhggjocmab
