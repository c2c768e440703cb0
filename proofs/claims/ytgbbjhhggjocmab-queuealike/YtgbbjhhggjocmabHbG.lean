/-
  A heap beside a ring.
-/
import Derived.Test.YtgbbjhhggjocmabHn
import Derived.Test.YtgbbjhhggjocmabRnG
namespace Go.Proofs.Ytgbbjhhggjocmab
open Go.RowKit

structure HbG (w0 w : World) (b cf : Nat) (kk : Bool) (M : List En) (np : Nat) (v : Value) (br : Nat) (q : Option Nat) (most : Nat) (l : List (Int × Int)) : Prop where
  ht : Ht w b cf kk M np v
  rg : RgG w (some br) q most l
  ap : ∀ k, Fh b v k → ¬ Fq (some br) q k
  bel : Below w0.heap.size w0 w
  fh : ∀ k, Fh b v k → w0.heap.size ≤ k
  fq : ∀ k, Fq (some br) q k → w0.heap.size ≤ k
theorem HbG.later {w0 w w' : World} {b cf : Nat} {kk : Bool} {M : List En} {np : Nat} {v : Value} {br : Nat} {q : Option Nat} {most : Nat} {l : List (Int × Int)} (h : HbG w0 w b cf kk M np v br q most l) (hb : Below w.heap.size w w') : HbG w0 w' b cf kk M np v br q most l :=
  ⟨h.ht.below hb, h.rg.below hb, h.ap, h.bel.trans (hb.mono h.bel.size), h.fh, h.fq⟩
theorem HbG.ring {w0 w w' : World} {b cf : Nat} {kk : Bool} {M : List En} {np : Nat} {v : Value} {br : Nat} {q q' : Option Nat} {most : Nat} {l l' : List (Int × Int)} (h : HbG w0 w b cf kk M np v br q most l) (hr : RgG w' (some br) q' most l') (hc : Chg (Fq (some br) q) w w') (hq : ∀ k, q' = some k → q = some k ∨ w.heap.size ≤ k) : HbG w0 w' b cf kk M np v br q' most l' := by
  have hq2 : ∀ k, Fq (some br) q' k → Fq (some br) q k ∨ w.heap.size ≤ k := fun k hk => by
    rcases hk with hk | hk
    · exact .inl (.inl hk)
    · exact (hq k hk).imp .inr id
  refine ⟨h.ht.chg hc (fun k hk hf => h.ap k hk hf), hr, fun k hk hf => ?_, h.bel.trans (hc.to_below h.bel.size h.fq), h.fh, fun k hk => ?_⟩
  · rcases hq2 k hf with h1 | h1
    · exact h.ap k hk h1
    · have := h.ht.lt k hk; omega
  · rcases hq2 k hk with h1 | h1
    · exact h.fq k h1
    · exact Nat.le_trans h.bel.size h1
theorem HbG.heap {w0 w w' : World} {b cf : Nat} {kk : Bool} {M M' : List En} {np np' : Nat} {v v' : Value} {br : Nat} {q : Option Nat} {most : Nat} {l : List (Int × Int)} (h : HbG w0 w b cf kk M np v br q most l) (hr : Ht w' b cf kk M' np' v') (hc : Chg (Fh b v) w w') (hq : ∀ k, v'.ownBlock = some k → v.ownBlock = some k ∨ w.heap.size ≤ k) : HbG w0 w' b cf kk M' np' v' br q most l := by
  have hq2 : ∀ k, Fh b v' k → Fh b v k ∨ w.heap.size ≤ k := fun k hk => by
    rcases hk with hk | hk
    · exact .inl (.inl hk)
    · exact (hq k hk).imp .inr id
  refine ⟨hr, h.rg.chg hc (fun k hk hf => h.ap k hf hk), fun k hk hf => ?_, h.bel.trans (hc.to_below h.bel.size h.fh), fun k hk => ?_, h.fq⟩
  · rcases hq2 k hk with h1 | h1
    · exact h.ap k h1 hf
    · have := h.rg.lt k hf; omega
  · rcases hq2 k hk with h1 | h1
    · exact h.fh k h1
    · exact Nat.le_trans h.bel.size h1
/-- The blocks of both. -/
def Fb (b : Nat) (v : Value) (br : Nat) (q : Option Nat) (k : Nat) : Prop := Fh b v k ∨ Fq (some br) q k
theorem HbG.lt {w0 w : World} {b cf : Nat} {kk : Bool} {M : List En} {np : Nat} {v : Value} {br : Nat} {q : Option Nat} {most : Nat} {l : List (Int × Int)} (h : HbG w0 w b cf kk M np v br q most l) (k : Nat) (hk : Fb b v br q k) : k < w.heap.size := by
  rcases hk with hk | hk
  · exact h.ht.lt k hk
  · exact h.rg.lt k hk
theorem hbG_hpush {w0 w : World} {b cf : Nat} {kk : Bool} {M : List En} {np : Nat} {v : Value} {br : Nat} {q : Option Nat} {most : Nat} {l : List (Int × Int)} (h : HbG w0 w b cf kk M np v br q most l) (x : Int × Int) (hr : M.length < 1048576) (hn : np < 4611686018427387904) :
    Calls Try.prog 10 #[.pointer (some ⟨b, 0, none⟩), vTh x] w fun e w' => e = .returned (.int .i64 0) ∧ ∃ v', HbG w0 w' b cf kk (M ++ [(x, np)]) (np + 1) v' br q most l ∧ Chg (Fb b v br q) w w' :=
  (hpush_t h.ht x hr hn).mono (fun e w' hh => by obtain ⟨q1, v', q2, q3, q4⟩ := hh; exact ⟨q1, v', h.heap q2 q3 q4, q3.mono (fun k hk => .inl hk)⟩)
theorem hbG_hpop {w0 w : World} {b cf : Nat} {kk : Bool} {M : List En} {np : Nat} {v : Value} {br : Nat} {q : Option Nat} {most : Nat} {l : List (Int × Int)} (h : HbG w0 w b cf kk M np v br q most l) :
    Calls Try.prog 13 #[.pointer (some ⟨b, 0, none⟩)] w fun e w' => e = .returned (.tuple #[vTh (topM kk M), .bool (!M.isEmpty)]) ∧ ∃ v', HbG w0 w' b cf kk (resM kk M) np v' br q most l ∧ Chg (Fb b v br q) w w' ∧ v'.ownBlock = v.ownBlock :=
  (hpop_t h.ht).mono (fun e w' hh => by obtain ⟨q1, v', q2, q3, q4⟩ := hh; exact ⟨q1, v', h.heap q2 q3 (fun k hk => .inl (by rw [← q4]; exact hk)), q3.mono (fun k hk => .inl hk), q4⟩)
theorem hbG_push {w0 w : World} {b cf : Nat} {kk : Bool} {M : List En} {np : Nat} {v : Value} {br : Nat} {q : Option Nat} {most : Nat} {l : List (Int × Int)} (h : HbG w0 w b cf kk M np v br q most l) (x : (Int × Int)) (l' : List (Int × Int)) (E : Int) (hE : pushE most l.length = E) (hl : pushLG most l x = l') :
    Calls Try.prog 11 #[ptr (some br), valG x] w fun e w' => e = .returned (.int .i64 E) ∧ ∃ q', HbG w0 w' b cf kk M np v br q' most l' :=
  (pushG_any (some br) q most l x w h.rg).mono (fun e w' hh => by obtain ⟨h1, q', h2, h3, h4⟩ := hh; subst hE hl; exact ⟨h1, q', h.ring h2 h3 h4⟩)
theorem hbG_pop {w0 w : World} {b cf : Nat} {kk : Bool} {M : List En} {np : Nat} {v : Value} {br : Nat} {q : Option Nat} {most : Nat} {l : List (Int × Int)} (h : HbG w0 w b cf kk M np v br q most l) :
    Calls Try.prog 14 #[ptr (some br)] w fun e w' => e = .returned (.tuple #[valG (l.headD (0, 0)), .bool (!l.isEmpty)]) ∧ HbG w0 w' b cf kk M np v br q most l.tail ∧ Chg (Fb b v br q) w w' :=
  (popG_any (some br) q most l w h.rg).mono (fun e w' hh => by obtain ⟨h1, h2, h3⟩ := hh; exact ⟨h1, h.ring h2 h3 (fun k e => .inl e), h3.mono (fun k hk => .inr hk)⟩)
theorem hbG_drop {w0 w : World} {b cf : Nat} {kk : Bool} {M : List En} {np : Nat} {v : Value} {br : Nat} {q : Option Nat} {most : Nat} {l : List (Int × Int)} (h : HbG w0 w b cf kk M np v br q most l) (n : Int) (D0 : Nat) (hD : D0 = dropN l.length n) :
    Calls Try.prog 55 #[ptr (some br), .int .i64 n] w fun e w' => e = .returned (.int .i64 (D0 : Int)) ∧ HbG w0 w' b cf kk M np v br q most (l.drop D0) :=
  (dropG_any (some br) q most l n w h.rg D0 hD).mono (fun e w' hh => by obtain ⟨h1, h2, h3⟩ := hh; exact ⟨h1, h.ring h2 h3 (fun k e => .inl e)⟩)
end Go.Proofs.Ytgbbjhhggjocmab
