/-
  Two rings, and beside each the document's.
-/
import Derived.Test.YtgbbjhhggjocmaaFeI
import Derived.Test.YtgbbjhhggjocmaaFeG
namespace Go.Proofs.Ytgbbjhhggjocmaa
open Go.RowKit

theorem fsI_any (p q y : Option Nat) (v : Value) (mo : Nat) (l : List Int) (who dd nn : Int) (w : World) (h : PgI w p q y v mo l) :
    Calls Try.prog 12 #[ptr p, ptr y, .agg #[.int .i64 who, .int .i64 dd, .int .i64 nn]] w fun e w' => e = .returned (.bool true) ∧ ∃ q' v' l', PgI w' p q' y v' mo l' ∧ Chg (Fp p q y v) w w' ∧ ∀ k, Fp p q' y v' k → Fp p q y v k ∨ w.heap.size ≤ k := by
  by_cases h0 : dd = 0
  · rw [h0]; exact fsI_0 p q y v mo l who nn w h
  by_cases h1 : dd = 1
  · rw [h1]; exact fsI_1 p q y v mo l who nn w h
  by_cases h2 : dd = 2
  · rw [h2]; exact fsI_2 p q y v mo l who nn w h
  by_cases h3 : dd = 3
  · rw [h3]; exact fsI_3 p q y v mo l who nn w h
  by_cases h5 : dd = 5
  · rw [h5]; exact fsI_5 p q y v mo l who nn w h
  exact fsI_else p q y v mo l who dd nn w h h0 h1 h2 h3 h5
theorem fsG_any (p q y : Option Nat) (v : Value) (mo : Nat) (l : List (Int × Int)) (who dd nn id : Int) (w : World) (h : PgG w p q y v mo l) :
    Calls Try.prog 13 #[ptr p, ptr y, .agg #[.int .i64 who, .int .i64 dd, .int .i64 nn], .int .i64 id] w fun e w' => e = .returned (.bool true) ∧ ∃ q' v' l', PgG w' p q' y v' mo l' ∧ Chg (Fp p q y v) w w' ∧ ∀ k, Fp p q' y v' k → Fp p q y v k ∨ w.heap.size ≤ k := by
  by_cases h0 : dd = 0
  · rw [h0]; exact fsG_0 p q y v mo l who nn id w h
  by_cases h1 : dd = 1
  · rw [h1]; exact fsG_1 p q y v mo l who nn id w h
  by_cases h2 : dd = 2
  · rw [h2]; exact fsG_2 p q y v mo l who nn id w h
  by_cases h3 : dd = 3
  · rw [h3]; exact fsG_3 p q y v mo l who nn id w h
  by_cases h5 : dd = 5
  · rw [h5]; exact fsG_5 p q y v mo l who nn id w h
  exact fsG_else p q y v mo l who dd nn id w h h0 h1 h2 h3 h5
/-- What New tells of a bound, thrice. -/
theorem news (n : Int) : ∃ (mo : Nat) (E : Int) (nb : Bool),
    (∀ w, Calls Try.prog 9 #[.int .i64 n] w fun e w' => ∃ p pa, ptr p = .pointer pa ∧ e = .returned (.tuple #[.pointer pa, .int .i64 E]) ∧ RgI w' p none mo [] ∧ Below w.heap.size w w' ∧ (∀ k, p = some k → w.heap.size ≤ k) ∧ pa.isNone = nb) ∧
    (∀ w, Calls Try.prog 10 #[.int .i64 n] w fun e w' => ∃ p pa, ptr p = .pointer pa ∧ e = .returned (.tuple #[.pointer pa, .int .i64 E]) ∧ RgG w' p none mo [] ∧ Below w.heap.size w w' ∧ (∀ k, p = some k → w.heap.size ≤ k) ∧ pa.isNone = nb) ∧
    (∀ w, Calls Try.prog 11 #[.int .i64 n] w fun e w' => ∃ p pa, ptr p = .pointer pa ∧ e = .returned (.tuple #[.pointer pa, .int .i64 E]) ∧ Gr w' p mo [] (.slice none 0 0) ∧ Below w.heap.size w w' ∧ (∀ k, p = some k → w.heap.size ≤ k) ∧ pa.isNone = nb) := by
  by_cases hn : n < 1 ∨ 1048576 < n
  · refine ⟨0, 2, true, fun w => (newI_bad n hn w).mono ?_, fun w => (newG_bad n hn w).mono ?_, fun w => (rnew_bad n hn w).mono ?_⟩
    · rintro e w' ⟨h1, rfl⟩; exact ⟨none, none, rfl, h1, .no, Below.refl _ _, fun k hk => (by cases hk), rfl⟩
    · rintro e w' ⟨h1, rfl⟩; exact ⟨none, none, rfl, h1, .no, Below.refl _ _, fun k hk => (by cases hk), rfl⟩
    · rintro e w' ⟨h1, rfl⟩; exact ⟨none, none, rfl, h1, .no, Below.refl _ _, fun k hk => (by cases hk), rfl⟩
  · obtain ⟨m, rfl⟩ : ∃ m : Nat, n = (m : Int) := ⟨n.toNat, by omega⟩
    have h1 : 1 ≤ m := by omega
    have h2 : m ≤ 1048576 := by omega
    refine ⟨m, 0, false, fun w => (newI_good m h1 h2 w).mono ?_, fun w => (newG_good m h1 h2 w).mono ?_, fun w => (rnew_good m h1 h2 w).mono ?_⟩
    · rintro e w' ⟨h1, h2, h3⟩; exact ⟨some w.heap.size, some ⟨w.heap.size, 0, none⟩, rfl, h1, h2, h3, fun k hk => (by cases hk; exact Nat.le_refl _), rfl⟩
    · rintro e w' ⟨h1, h2, h3⟩; exact ⟨some w.heap.size, some ⟨w.heap.size, 0, none⟩, rfl, h1, h2, h3, fun k hk => (by cases hk; exact Nat.le_refl _), rfl⟩
    · rintro e w' ⟨h1, h2, h3⟩; exact ⟨some w.heap.size, some ⟨w.heap.size, 0, none⟩, rfl, h1, h2, h3, fun k hk => (by cases hk; exact Nat.le_refl _), rfl⟩
/-- What is known of one ring and the document's. -/
structure Da (α : Type) where
  p : Option Nat
  q : Option Nat
  y : Option Nat
  v : Value
  mo : Nat
  l : List α
def Da.F {α : Type} (d : Da α) (k : Nat) : Prop := Fp d.p d.q d.y d.v k
structure Rs (w0 W : World) (a : Da Int) (b : Da (Int × Int)) : Prop where
  ia : PgI W a.p a.q a.y a.v a.mo a.l
  gb : PgG W b.p b.q b.y b.v b.mo b.l
  ap : ∀ k, a.F k → ¬ b.F k
  ow : ∀ k, a.F k ∨ b.F k → w0.heap.size ≤ k
  bel : Below w0.heap.size w0 W
theorem Rs.later {w0 W W' : World} {a : Da Int} {b : Da (Int × Int)} (h : Rs w0 W a b) (hb : Below W.heap.size W W') : Rs w0 W' a b := ⟨h.ia.below hb, h.gb.below hb, h.ap, h.ow, h.bel.trans (hb.mono h.bel.size)⟩
theorem Rs.stepA {w0 W W' : World} {a : Da Int} {b : Da (Int × Int)} (h : Rs w0 W a b) {q' : Option Nat} {v' : Value} {l' : List Int} (h1 : PgI W' a.p q' a.y v' a.mo l') (hc : Chg (Fp a.p a.q a.y a.v) W W') (hk : ∀ k, Fp a.p q' a.y v' k → Fp a.p a.q a.y a.v k ∨ W.heap.size ≤ k) : Rs w0 W' ⟨a.p, q', a.y, v', a.mo, l'⟩ b := by
  have hz := h.bel.size
  refine ⟨h1, h.gb.chg hc (fun k hb ha => h.ap k ha hb), fun k hf hb => ?_, fun k hf => ?_, h.bel.trans (hc.to_below hz (fun k hk => h.ow k (.inl hk)))⟩
  · rcases hk k hf with e | e
    · exact h.ap k e hb
    · have := h.gb.lt k hb; omega
  · rcases hf with hf | hf
    · rcases hk k hf with e | e
      · exact h.ow k (.inl e)
      · omega
    · exact h.ow k (.inr hf)
theorem Rs.stepB {w0 W W' : World} {a : Da Int} {b : Da (Int × Int)} (h : Rs w0 W a b) {q' : Option Nat} {v' : Value} {l' : List (Int × Int)} (h1 : PgG W' b.p q' b.y v' b.mo l') (hc : Chg (Fp b.p b.q b.y b.v) W W') (hk : ∀ k, Fp b.p q' b.y v' k → Fp b.p b.q b.y b.v k ∨ W.heap.size ≤ k) : Rs w0 W' a ⟨b.p, q', b.y, v', b.mo, l'⟩ := by
  have hz := h.bel.size
  refine ⟨h.ia.chg hc (fun k ha hb => h.ap k ha hb), h1, fun k hf hb => ?_, fun k hf => ?_, h.bel.trans (hc.to_below hz (fun k hk => h.ow k (.inr hk)))⟩
  · rcases hk k hb with e | e
    · exact h.ap k hf e
    · have := h.ia.lt k hf; omega
  · rcases hf with hf | hf
    · exact h.ow k (.inl hf)
    · rcases hk k hf with e | e
      · exact h.ow k (.inr e)
      · omega
theorem pgI_new {W W1 W2 : World} {p y : Option Nat} {mo : Nat} (h1 : RgI W1 p none mo []) (b1 : Below W.heap.size W W1) (n1 : ∀ k, p = some k → W.heap.size ≤ k) (h2 : Gr W2 y mo [] (.slice none 0 0)) (b2 : Below W1.heap.size W1 W2) (n2 : ∀ k, y = some k → W1.heap.size ≤ k) : PgI W2 p none y (.slice none 0 0) mo [] ∧ (∀ k, Fp p none y (.slice none 0 0) k → W.heap.size ≤ k) ∧ Below W.heap.size W W2 := by
  refine ⟨⟨h1.below b2, h2, fun k hk hk2 => ?_⟩, fun k hk => ?_, b1.trans (b2.mono b1.size)⟩
  · have hl := h1.lt k hk
    rcases hk2 with e | e
    · have := n2 k e; omega
    · cases e
  · have := b1.size
    rcases hk with (e | e) | (e | e)
    · exact n1 k e
    · cases e
    · have := n2 k e; omega
    · cases e
theorem pgG_new {W W1 W2 : World} {p y : Option Nat} {mo : Nat} (h1 : RgG W1 p none mo []) (b1 : Below W.heap.size W W1) (n1 : ∀ k, p = some k → W.heap.size ≤ k) (h2 : Gr W2 y mo [] (.slice none 0 0)) (b2 : Below W1.heap.size W1 W2) (n2 : ∀ k, y = some k → W1.heap.size ≤ k) : PgG W2 p none y (.slice none 0 0) mo [] ∧ (∀ k, Fp p none y (.slice none 0 0) k → W.heap.size ≤ k) ∧ Below W.heap.size W W2 := by
  refine ⟨⟨h1.below b2, h2, fun k hk hk2 => ?_⟩, fun k hk => ?_, b1.trans (b2.mono b1.size)⟩
  · have hl := h1.lt k hk
    rcases hk2 with e | e
    · have := n2 k e; omega
    · cases e
  · have := b1.size
    rcases hk with (e | e) | (e | e)
    · exact n1 k e
    · cases e
    · have := n2 k e; omega
    · cases e
theorem Rs.setA {w0 W W' : World} {a : Da Int} {b : Da (Int × Int)} (h : Rs w0 W a b) (a' : Da Int) (h1 : PgI W' a'.p a'.q a'.y a'.v a'.mo a'.l) (hn : ∀ k, a'.F k → W.heap.size ≤ k) (hb : Below W.heap.size W W') : Rs w0 W' a' b :=
  ⟨h1, h.gb.below hb, fun k hf hf2 => by have := hn k hf; have := h.gb.lt k hf2; omega, fun k hf => by
    have := h.bel.size
    rcases hf with e | e
    · have := hn k e; omega
    · exact h.ow k (.inr e), h.bel.trans (hb.mono h.bel.size)⟩
theorem Rs.setB {w0 W W' : World} {a : Da Int} {b : Da (Int × Int)} (h : Rs w0 W a b) (b' : Da (Int × Int)) (h1 : PgG W' b'.p b'.q b'.y b'.v b'.mo b'.l) (hn : ∀ k, b'.F k → W.heap.size ≤ k) (hb : Below W.heap.size W W') : Rs w0 W' a b' :=
  ⟨h.ia.below hb, h1, fun k hf hf2 => by have := hn k hf2; have := h.ia.lt k hf; omega, fun k hf => by
    have := h.bel.size
    rcases hf with e | e
    · exact h.ow k (.inl e)
    · have := hn k e; omega, h.bel.trans (hb.mono h.bel.size)⟩
theorem rs_new {w w1 w2 w3 w4 : World} {pa pb px py : Option Nat} {mo : Nat} (r1 : RgI w1 pa none mo []) (b1 : Below w.heap.size w w1) (n1 : ∀ k, pa = some k → w.heap.size ≤ k) (r2 : RgG w2 pb none mo []) (b2 : Below w1.heap.size w1 w2) (n2 : ∀ k, pb = some k → w1.heap.size ≤ k)
    (r3 : Gr w3 px mo [] (.slice none 0 0)) (b3 : Below w2.heap.size w2 w3) (n3 : ∀ k, px = some k → w2.heap.size ≤ k) (r4 : Gr w4 py mo [] (.slice none 0 0)) (b4 : Below w3.heap.size w3 w4) (n4 : ∀ k, py = some k → w3.heap.size ≤ k) :
    Rs w w4 ⟨pa, none, px, .slice none 0 0, mo, []⟩ ⟨pb, none, py, .slice none 0 0, mo, []⟩ := by
  have z1 := b1.size
  have z2 := b2.size
  have z3 := b3.size
  have z4 := b4.size
  have fa : ∀ k, Fq pa none k → w.heap.size ≤ k ∧ k < w1.heap.size := fun k hk => ⟨(by rcases hk with e | e; exact n1 k e; cases e), r1.lt k hk⟩
  have fb : ∀ k, Fq pb none k → w1.heap.size ≤ k ∧ k < w2.heap.size := fun k hk => ⟨(by rcases hk with e | e; exact n2 k e; cases e), r2.lt k hk⟩
  have fx : ∀ k, Fr px (.slice none 0 0) k → w2.heap.size ≤ k ∧ k < w3.heap.size := fun k hk => ⟨(by rcases hk with e | e; exact n3 k e; cases e), r3.lt k hk⟩
  have fy : ∀ k, Fr py (.slice none 0 0) k → w3.heap.size ≤ k := fun k hk => by rcases hk with e | e; exact n4 k e; cases e
  have b34 := b3.trans (b4.mono z3)
  refine ⟨⟨(r1.below b2).below b34, r3.below b4, fun k h1 h2 => by have := fa k h1; have := fx k h2; omega⟩, ⟨r2.below b34, r4, fun k h1 h2 => by have := fb k h1; have := fy k h2; omega⟩, fun k h1 h2 => ?_, fun k h => ?_, b1.trans ((b2.trans (b34.mono z2)).mono z1)⟩
  · rcases h1 with h1 | h1 <;> rcases h2 with h2 | h2
    · have := fa k h1; have := fb k h2; omega
    · have := fa k h1; have := fy k h2; omega
    · have := fx k h1; have := fb k h2; omega
    · have := fx k h1; have := fy k h2; omega
  · rcases h with (h | h) | (h | h)
    · exact (fa k h).1
    · have := fx k h; omega
    · have := fb k h; omega
    · have := fy k h; omega
end Go.Proofs.Ytgbbjhhggjocmaa
