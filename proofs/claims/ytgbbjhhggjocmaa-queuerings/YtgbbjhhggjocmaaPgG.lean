/-
  A ring, and the document's beside it.
-/
import Derived.Test.YtgbbjhhggjocmaaRrO
import Derived.Test.YtgbbjhhggjocmaaRnG
namespace Go.Proofs.Ytgbbjhhggjocmaa
open Go.RowKit

/-- The things as the document's ring holds them. -/
def embG (l : List (Int × Int)) : List (Int × Int) := l
def tkG (x : (Int × Int)) : Int × Int := x
theorem embG_len (l : List (Int × Int)) : (embG l).length = l.length := rfl
theorem embG_push (mo : Nat) (l : List (Int × Int)) (x : (Int × Int)) : pushLG mo (embG l) (tkG x) = embG (pushLG mo l x) := rfl
theorem embG_drop (l : List (Int × Int)) (n : Nat) : (embG l).drop n = embG (l.drop n) := by
  rfl
theorem embG_at (l : List (Int × Int)) (i : Int) : atXG (embG l) i = tkG (atXG l i) := by
  rfl
structure PgG (W : World) (p q y : Option Nat) (v : Value) (mo : Nat) (l : List (Int × Int)) : Prop where
  rg : RgG W p q mo l
  gr : Gr W y mo (embG l) v
  ap : ∀ k, Fq p q k → ¬ Fr y v k
theorem RgG.isCells' {w : World} {p q : Option Nat} {most : Nat} {l : List (Int × Int)} (h : RgG w p q most l) (k : Nat) (hk : Fq p q k) : ∃ o, w.heap[k]? = some o ∧ o.isCells = true := by
  cases h with
  | no => rcases hk with hk | hk <;> cases hk
  | zero b h => rcases hk with hk | hk <;> cases hk; exact lies_isCells h
  | made b q most A f c h =>
    rcases hk with hk | hk
    · cases hk; exact lies_isCells h.lies
    · by_cases e : A = []
      · rw [h.non e] at hk; cases hk
      · obtain ⟨g, k1, k2⟩ := h.som e
        rw [k1] at hk; cases hk; exact lies_isCells k2
theorem PgG.keep {W W' : World} {p q y : Option Nat} {v : Value} {mo : Nat} {l : List (Int × Int)} (h : PgG W p q y v mo l) (hk : ∀ k, Fp p q y v k → W'.heap[k]? = W.heap[k]?) : PgG W' p q y v mo l := ⟨h.rg.keep (fun k q => hk k (.inl q)), h.gr.keep (fun k q => hk k (.inr q)), h.ap⟩
theorem PgG.isCells {W : World} {p q y : Option Nat} {v : Value} {mo : Nat} {l : List (Int × Int)} (h : PgG W p q y v mo l) (k : Nat) (hk : Fp p q y v k) : ∃ o, W.heap[k]? = some o ∧ o.isCells = true := by
  rcases hk with hk | hk
  · exact h.rg.isCells' k hk
  · exact h.gr.isCells k hk
theorem PgG.lt {W : World} {p q y : Option Nat} {v : Value} {mo : Nat} {l : List (Int × Int)} (h : PgG W p q y v mo l) (k : Nat) (hk : Fp p q y v k) : k < W.heap.size := by
  obtain ⟨o, ho, _⟩ := h.isCells k hk
  exact (Array.getElem?_eq_some_iff.1 ho).1
theorem PgG.below {W W' : World} {p q y : Option Nat} {v : Value} {mo : Nat} {l : List (Int × Int)} (h : PgG W p q y v mo l) (hb : Below W.heap.size W W') : PgG W' p q y v mo l := h.keep (fun k hk => hb.block k (h.lt k hk))
theorem PgG.chg {W W' : World} {p q y : Option Nat} {v : Value} {mo : Nat} {l : List (Int × Int)} {F : Nat → Prop} (h : PgG W p q y v mo l) (hc : Chg F W W') (hn : ∀ k, Fp p q y v k → ¬ F k) : PgG W' p q y v mo l := h.keep (fun k hk => hc.block k (h.lt k hk) (hn k hk))
theorem PgG.none (W : World) : PgG W .none .none .none (.slice .none 0 0) 0 [] := ⟨.no, .no, fun k hk => by rcases hk with hk | hk <;> cases hk⟩
/-- Both steps, one behind the other. -/
theorem PgG.both {w w1 w1b w2 : World} {p q y q' : Option Nat} {v v' : Value} {mo : Nat} {l l' : List (Int × Int)} (h : PgG w p q y v mo l) (h1 : RgG w1 p q' mo l') (c1 : Chg (Fq p q) w w1) (q1 : ∀ k, q' = some k → q = some k ∨ w.heap.size ≤ k) (bb : Below w1.heap.size w1 w1b)
    (h2 : Gr w2 y mo (embG l') v') (c2 : Chg (Fr y v) w1b w2) (q2 : ∀ k, v'.ownBlock = some k → v.ownBlock = some k ∨ w1b.heap.size ≤ k) :
    PgG w2 p q' y v' mo l' ∧ Chg (Fp p q y v) w w2 ∧ ∀ k, Fp p q' y v' k → Fp p q y v k ∨ w.heap.size ≤ k := by
  have hz1 := c1.size
  have hz2 := bb.size
  have f1 : ∀ k, Fq p q' k → Fq p q k ∨ w.heap.size ≤ k := fun k hk => by
    rcases hk with e | e
    · exact .inl (.inl e)
    · exact (q1 k e).imp .inr id
  have f2 : ∀ k, Fr y v' k → Fr y v k ∨ w1b.heap.size ≤ k := fun k hk => by
    rcases hk with e | e
    · exact .inl (.inl e)
    · exact (q2 k e).imp .inr id
  have n1 : ∀ k, Fq p q' k → ¬ Fr y v k := fun k hk hk2 => by
    rcases f1 k hk with e | e
    · exact h.ap k e hk2
    · have := h.gr.lt k hk2; omega
  refine ⟨⟨(h1.below bb).chg c2 n1, h2, fun k hk hk2 => ?_⟩, ?_, fun k hk => ?_⟩
  · rcases f2 k hk2 with e | e
    · exact n1 k hk e
    · have := h1.lt k hk; omega
  · exact ((c1.mono (fun k hk => .inl hk)).below bb).then c2 (fun k hk => .inl (.inr hk))
  · rcases hk with hk | hk
    · exact (f1 k hk).imp .inl id
    · exact (f2 k hk).imp .inr (fun e => by omega)
/-- The document's ring stands ready for its step. -/
theorem PgG.mid {w w1 w1b : World} {p q y : Option Nat} {v : Value} {mo : Nat} {l : List (Int × Int)} (h : PgG w p q y v mo l) (c1 : Chg (Fq p q) w w1) (bb : Below w1.heap.size w1 w1b) : Gr w1b y mo (embG l) v := (h.gr.chg c1 (fun k hk hk2 => h.ap k hk2 hk)).below bb
end Go.Proofs.Ytgbbjhhggjocmaa
