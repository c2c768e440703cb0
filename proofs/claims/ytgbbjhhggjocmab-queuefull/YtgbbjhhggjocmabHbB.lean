/-
  A heap beside a ring.
-/
import Derived.Test.YtgbbjhhggjocmabHn
import Derived.Test.YtgbbjhhggjocmabRnB
namespace Go.Proofs.Ytgbbjhhggjocmab
open Go.RowKit

structure HbB (w0 w : World) (b cf : Nat) (kk : Bool) (M : List En) (np : Nat) (v : Value) (br : Nat) (q : Option Nat) (most : Nat) (l : List Int) : Prop where
  ht : Ht w b cf kk M np v
  rg : RgB w (some br) q most l
  ap : ∀ k, Fh b v k → ¬ Fq (some br) q k
  bel : Below w0.heap.size w0 w
  fh : ∀ k, Fh b v k → w0.heap.size ≤ k
  fq : ∀ k, Fq (some br) q k → w0.heap.size ≤ k
theorem HbB.later {w0 w w' : World} {b cf : Nat} {kk : Bool} {M : List En} {np : Nat} {v : Value} {br : Nat} {q : Option Nat} {most : Nat} {l : List Int} (h : HbB w0 w b cf kk M np v br q most l) (hb : Below w.heap.size w w') : HbB w0 w' b cf kk M np v br q most l :=
  ⟨h.ht.below hb, h.rg.below hb, h.ap, h.bel.trans (hb.mono h.bel.size), h.fh, h.fq⟩
theorem HbB.ring {w0 w w' : World} {b cf : Nat} {kk : Bool} {M : List En} {np : Nat} {v : Value} {br : Nat} {q q' : Option Nat} {most : Nat} {l l' : List Int} (h : HbB w0 w b cf kk M np v br q most l) (hr : RgB w' (some br) q' most l') (hc : Chg (Fq (some br) q) w w') (hq : ∀ k, q' = some k → q = some k ∨ w.heap.size ≤ k) : HbB w0 w' b cf kk M np v br q' most l' := by
  have hq2 : ∀ k, Fq (some br) q' k → Fq (some br) q k ∨ w.heap.size ≤ k := fun k hk => by
    rcases hk with hk | hk
    · exact .inl (.inl hk)
    · exact (hq k hk).imp .inr id
  refine ⟨h.ht.chg hc (fun k hk hf => h.ap k hk hf), hr, fun k hk hf => ?_, h.bel.trans (hc.to_below h.bel.size h.fq), h.fh, fun k hk => ?_⟩
  · rcases hq2 k hf with h1 | h1
    · exact h.ap k hk h1
    · have := h.ht.lt k hk; omega
  · rcases hq2 k hk with h1 | h1
    · exact h.fq k h1
    · exact Nat.le_trans h.bel.size h1
theorem HbB.heap {w0 w w' : World} {b cf : Nat} {kk : Bool} {M M' : List En} {np np' : Nat} {v v' : Value} {br : Nat} {q : Option Nat} {most : Nat} {l : List Int} (h : HbB w0 w b cf kk M np v br q most l) (hr : Ht w' b cf kk M' np' v') (hc : Chg (Fh b v) w w') (hq : ∀ k, v'.ownBlock = some k → v.ownBlock = some k ∨ w.heap.size ≤ k) : HbB w0 w' b cf kk M' np' v' br q most l := by
  have hq2 : ∀ k, Fh b v' k → Fh b v k ∨ w.heap.size ≤ k := fun k hk => by
    rcases hk with hk | hk
    · exact .inl (.inl hk)
    · exact (hq k hk).imp .inr id
  refine ⟨hr, h.rg.chg hc (fun k hk hf => h.ap k hf hk), fun k hk hf => ?_, h.bel.trans (hc.to_below h.bel.size h.fh), fun k hk => ?_, h.fq⟩
  · rcases hq2 k hk with h1 | h1
    · exact h.ap k h1 hf
    · have := h.rg.lt k hf; omega
  · rcases hq2 k hk with h1 | h1
    · exact h.fh k h1
    · exact Nat.le_trans h.bel.size h1
/-- The blocks of both. -/
def Fb (b : Nat) (v : Value) (br : Nat) (q : Option Nat) (k : Nat) : Prop := Fh b v k ∨ Fq (some br) q k
theorem HbB.lt {w0 w : World} {b cf : Nat} {kk : Bool} {M : List En} {np : Nat} {v : Value} {br : Nat} {q : Option Nat} {most : Nat} {l : List Int} (h : HbB w0 w b cf kk M np v br q most l) (k : Nat) (hk : Fb b v br q k) : k < w.heap.size := by
  rcases hk with hk | hk
  · exact h.ht.lt k hk
  · exact h.rg.lt k hk
theorem hbB_hpush {w0 w : World} {b cf : Nat} {kk : Bool} {M : List En} {np : Nat} {v : Value} {br : Nat} {q : Option Nat} {most : Nat} {l : List Int} (h : HbB w0 w b cf kk M np v br q most l) (x : Int × Int) (hr : M.length < 1048576) (hn : np < 4611686018427387904) :
    Calls Try.prog 10 #[.pointer (some ⟨b, 0, none⟩), vTh x] w fun e w' => e = .returned (.int .i64 0) ∧ ∃ v', HbB w0 w' b cf kk (M ++ [(x, np)]) (np + 1) v' br q most l ∧ Chg (Fb b v br q) w w' :=
  (hpush_t h.ht x hr hn).mono (fun e w' hh => by obtain ⟨q1, v', q2, q3, q4⟩ := hh; exact ⟨q1, v', h.heap q2 q3 q4, q3.mono (fun k hk => .inl hk)⟩)
theorem hbB_hpop {w0 w : World} {b cf : Nat} {kk : Bool} {M : List En} {np : Nat} {v : Value} {br : Nat} {q : Option Nat} {most : Nat} {l : List Int} (h : HbB w0 w b cf kk M np v br q most l) :
    Calls Try.prog 13 #[.pointer (some ⟨b, 0, none⟩)] w fun e w' => e = .returned (.tuple #[vTh (topM kk M), .bool (!M.isEmpty)]) ∧ ∃ v', HbB w0 w' b cf kk (resM kk M) np v' br q most l ∧ Chg (Fb b v br q) w w' ∧ v'.ownBlock = v.ownBlock :=
  (hpop_t h.ht).mono (fun e w' hh => by obtain ⟨q1, v', q2, q3, q4⟩ := hh; exact ⟨q1, v', h.heap q2 q3 (fun k hk => .inl (by rw [← q4]; exact hk)), q3.mono (fun k hk => .inl hk), q4⟩)
theorem hbB_push {w0 w : World} {b cf : Nat} {kk : Bool} {M : List En} {np : Nat} {v : Value} {br : Nat} {q : Option Nat} {most : Nat} {l : List Int} (h : HbB w0 w b cf kk M np v br q most l) (x : Int) (l' : List Int) (E : Int) (hE : pushE most l.length = E) (hl : pushLB most l x = l') :
    Calls Try.prog 43 #[ptr (some br), valB x] w fun e w' => e = .returned (.int .i64 E) ∧ ∃ q', HbB w0 w' b cf kk M np v br q' most l' :=
  (pushB_any (some br) q most l x w h.rg).mono (fun e w' hh => by obtain ⟨h1, q', h2, h3, h4⟩ := hh; subst hE hl; exact ⟨h1, q', h.ring h2 h3 h4⟩)
theorem hbB_drop {w0 w : World} {b cf : Nat} {kk : Bool} {M : List En} {np : Nat} {v : Value} {br : Nat} {q : Option Nat} {most : Nat} {l : List Int} (h : HbB w0 w b cf kk M np v br q most l) (n : Int) (D0 : Nat) (hD : D0 = dropN l.length n) :
    Calls Try.prog 45 #[ptr (some br), .int .i64 n] w fun e w' => e = .returned (.int .i64 (D0 : Int)) ∧ HbB w0 w' b cf kk M np v br q most (l.drop D0) :=
  (dropB_any (some br) q most l n w h.rg D0 hD).mono (fun e w' hh => by obtain ⟨h1, h2, h3⟩ := hh; exact ⟨h1, h.ring h2 h3 (fun k e => .inl e)⟩)
end Go.Proofs.Ytgbbjhhggjocmab
