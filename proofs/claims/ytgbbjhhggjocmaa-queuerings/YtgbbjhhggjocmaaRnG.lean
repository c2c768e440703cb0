/-
  A ring whose blocks all lie from N on; its calls.
-/
import Derived.Test.YtgbbjhhggjocmaaRuG
import Derived.Test.YtgbbjhhggjocmaaRdG
namespace Go.Proofs.Ytgbbjhhggjocmaa
open Go.RowKit

structure RnG (N : Nat) (w0 w : World) (p q : Option Nat) (most : Nat) (l : List (Int × Int)) : Prop where
  rg : RgG w p q most l
  bel : Below N w0 w
  own : ∀ k, Fq p q k → N ≤ k
  hN : N ≤ w0.heap.size
theorem RnG.later {N : Nat} {w0 w w' : World} {p q : Option Nat} {most : Nat} {l : List (Int × Int)} (h : RnG N w0 w p q most l) (hb : Below w.heap.size w w') : RnG N w0 w' p q most l :=
  ⟨h.rg.below hb, h.bel.trans (hb.mono (Nat.le_trans h.hN h.bel.size)), h.own, h.hN⟩
theorem RnG.chg {N : Nat} {w0 w w' : World} {p q q' : Option Nat} {most : Nat} {l l' : List (Int × Int)} (h : RnG N w0 w p q most l) (hr : RgG w' p q' most l') (hc : Chg (Fq p q) w w') (hq : ∀ k, q' = some k → q = some k ∨ w.heap.size ≤ k) : RnG N w0 w' p q' most l' :=
  ⟨hr, h.bel.trans (hc.to_below (Nat.le_trans h.hN h.bel.size) h.own), fun k hk => by
    rcases hk with hk | hk
    · exact h.own k (.inl hk)
    · rcases hq k hk with h1 | h1
      · exact h.own k (.inr h1)
      · exact Nat.le_trans (Nat.le_trans h.hN h.bel.size) h1, h.hN⟩
theorem pushG_n {N : Nat} {w0 w : World} {p q : Option Nat} {most : Nat} {l : List (Int × Int)} (h : RnG N w0 w p q most l) (x : (Int × Int)) (l' : List (Int × Int)) (E : Int) (hE : pushE most l.length = E) (hl : pushLG most l x = l') :
    Calls Try.prog 45 #[ptr p, valG x] w fun e w' => e = .returned (.int .i64 E) ∧ ∃ q', RnG N w0 w' p q' most l' :=
  (pushG_any p q most l x w h.rg).mono (fun e w' hh => by obtain ⟨h1, q', h2, h3, h4⟩ := hh; subst hE hl; exact ⟨h1, q', h.chg h2 h3 h4⟩)
theorem popG_n {N : Nat} {w0 w : World} {p q : Option Nat} {most : Nat} {l : List (Int × Int)} (h : RnG N w0 w p q most l) :
    Calls Try.prog 46 #[ptr p] w fun e w' => e = .returned (.tuple #[valG (l.headD (0, 0)), .bool (!l.isEmpty)]) ∧ RnG N w0 w' p q most l.tail :=
  (popG_any p q most l w h.rg).mono (fun e w' hh => by obtain ⟨h1, h2, h3⟩ := hh; exact ⟨h1, h.chg h2 h3 (fun k e => .inl e)⟩)
theorem dropG_n {N : Nat} {w0 w : World} {p q : Option Nat} {most : Nat} {l : List (Int × Int)} (h : RnG N w0 w p q most l) (n : Int) (D0 : Nat) (hD : D0 = dropN l.length n) :
    Calls Try.prog 48 #[ptr p, .int .i64 n] w fun e w' => e = .returned (.int .i64 (D0 : Int)) ∧ RnG N w0 w' p q most (l.drop D0) :=
  (dropG_any p q most l n w h.rg D0 hD).mono (fun e w' hh => by obtain ⟨h1, h2, h3⟩ := hh; exact ⟨h1, h.chg h2 h3 (fun k e => .inl e)⟩)
theorem newG_n (N : Nat) (w0 w : World) (hN : N ≤ w0.heap.size) (hb : Below N w0 w) (n : Nat) (hn : 1 ≤ n) (hn2 : n ≤ 1048576) :
    Calls Try.prog 10 #[.int .i64 (n : Int)] w fun e w' => e = .returned (.tuple #[ptr (some w.heap.size), .int .i64 0]) ∧ RnG N w0 w' (some w.heap.size) none n [] :=
  (newG_good n hn hn2 w).mono (fun e w' hh => by
    obtain ⟨h1, h2, h3⟩ := hh
    refine ⟨h1, h2, hb.trans (h3.mono (Nat.le_trans hN hb.size)), fun k hk => ?_, hN⟩
    rcases hk with hk | hk
    · cases hk; exact Nat.le_trans hN hb.size
    · cases hk)
end Go.Proofs.Ytgbbjhhggjocmaa
