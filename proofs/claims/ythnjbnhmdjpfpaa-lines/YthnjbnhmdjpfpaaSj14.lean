/-
  A scope in which the run jumps back to one label: what holds at each jump, with a bound on the jumps that are left.
-/
import Derived.Test.YthnjbnhmdjpfpaaTe14
import Derived.ScopeJumps
import Derived.WalkMore
namespace Go.Proofs.Ythnjbnhmdjpfpaa
open Go.RowKit

theorem wp_scope_fuel {P : Program} {a : Act} {w : World} {Q : Exit → Act → World → Prop} {c rest : Code} (l n : Nat) (J : Nat → Act → World → Prop) (hf : findLabel c l = some rest) (h0 : ∀ a w, ¬ J 0 a w)
    (first : c.wp P (Exit.jump l (J n) Q) a w) (pass : ∀ m a w, J (m + 1) a w → rest.wp P (Exit.jump l (J m) Q) a w) : (Code.scope c).wp P Q a w := by
  intro b k cs
  have hg : gotoIn l (.inScope c :: k) = some (.code rest :: .inScope c :: k) := by simp [gotoIn, hf]
  have key : ∀ n a w, J n a w → ∃ e a' w', Q e a' w' ∧ Arrives P (lone (b.at a (.code rest :: .inScope c :: k)) cs w) b k cs e a' w' := by
    intro n
    induction n with
    | zero => exact fun a w h => absurd h (h0 a w)
    | succ n ih =>
      intro a w hJ
      obtain ⟨e, a₁, w₁, hq, harr⟩ := pass n a w hJ b (.inScope c :: k) cs
      cases e with
      | normal => exact ⟨.normal, a₁, w₁, hq, Steps.trans harr (.one step_inScope)⟩
      | exit id => exact ⟨.exit id, a₁, w₁, hq, fun k' hk => harr k' (by simp [exitTo, hk])⟩
      | goto l' =>
        obtain ⟨rfl, hJ'⟩ := hq
        obtain ⟨e₂, a₂, w₂, hq₂, harr₂⟩ := ih a₁ w₁ hJ'
        exact ⟨e₂, a₂, w₂, hq₂, .of_steps (harr _ hg) harr₂⟩
      | ret => exact ⟨_, a₁, w₁, hq, harr⟩
      | panic ch => exact ⟨_, a₁, w₁, hq, harr⟩
      | outgrown => exact ⟨_, a₁, w₁, hq, harr⟩
  obtain ⟨e, a₁, w₁, hq, harr⟩ := first b (.inScope c :: k) cs
  cases e with
  | normal => exact ⟨.normal, a₁, w₁, hq, .head step_scope (Steps.trans harr (.one step_inScope))⟩
  | exit id => exact ⟨.exit id, a₁, w₁, hq, fun k' hk => .head step_scope (harr k' (by simp [exitTo, hk]))⟩
  | goto l' =>
    obtain ⟨rfl, hJ'⟩ := hq
    obtain ⟨e₂, a₂, w₂, hq₂, harr₂⟩ := key _ a₁ w₁ hJ'
    exact ⟨e₂, a₂, w₂, hq₂, .of_steps (.head step_scope (harr _ hg)) harr₂⟩
  | ret => exact ⟨_, a₁, w₁, hq, .of_steps (.one step_scope) harr⟩
  | panic ch => exact ⟨_, a₁, w₁, hq, .of_steps (.one step_scope) harr⟩
  | outgrown => exact ⟨_, a₁, w₁, hq, .of_steps (.one step_scope) harr⟩
/-- The same where the scope begins with its label. -/
theorem wp_scope_label {P : Program} {a : Act} {w : World} {Q : Exit → Act → World → Prop} {X : Code} (l n : Nat) (J : Nat → Act → World → Prop) (h0 : ∀ a w, ¬ J 0 a w) (start : J (n + 1) a w)
    (pass : ∀ m a w, J (m + 1) a w → X.wp P (Exit.jump l (J m) Q) a w) : (Code.scope ((Code.label l).seq X)).wp P Q a w :=
  wp_scope_fuel l n J (rest := Code.skip.seq X) (by simp [findLabel]) h0 (wp_seq (wp_label (pass n a w start))) (fun m a w h => wp_seq (wp_skip (pass m a w h)))
/-- The run's jump. -/
theorem jump_on {l n : Nat} {J : Nat → Act → World → Prop} {Q : Exit → Act → World → Prop} {a : Act} {w : World} (h : J n a w) : Exit.jump l (J n) Q (.goto l) a w := ⟨rfl, h⟩
theorem jump_ret {l : Nat} {J : Act → World → Prop} {Q : Exit → Act → World → Prop} {a : Act} {w : World} : Exit.jump l J Q .ret a w = Q .ret a w := rfl
/-- How many jumps are left. -/
def rank (p : Nat) : Nat := if p = 3 then 2 else if p = 4 then 0 else 1
/-- The places of a step's frame. -/
def stF (r c v : Value) (f : Nat → Value) : Act := { tmps := #[r, c, v, f 3, f 4, f 5, f 6, f 7, f 8, f 9, f 10, f 11, f 12, f 13, f 14, f 15, f 16, f 17, f 18, f 19, f 20, f 21, f 22, f 23, f 24, f 25, f 26, f 27, f 28, f 29, f 30, f 31, f 32, f 33, f 34, f 35, f 36, f 37, f 38, f 39, f 40, f 41, f 42, f 43, f 44, f 45, f 46, f 47, f 48, f 49, f 50, f 51, f 52, f 53, f 54, f 55, f 56, f 57, f 58, f 59, f 60, f 61, f 62, f 63, f 64, f 65, f 66, f 67, f 68, f 69, f 70, f 71, f 72, f 73, f 74, f 75, f 76, f 77, f 78, f 79, f 80, f 81, f 82, f 83, f 84, f 85, f 86, f 87, f 88, f 89, f 90, f 91, f 92, f 93, f 94, f 95, f 96, f 97, f 98, f 99, f 100, f 101, f 102, f 103, f 104, f 105, f 106, f 107, f 108, f 109, f 110, f 111, f 112, f 113, f 114, f 115], defers := [] }
/-- At the label: what the step comes to in all is S and L. -/
def Jst (b t a : Nat) (c : UInt8) (v0 : Value) (w0 : World) (S : Ds) (L : List UInt8) (n : Nat) (x : Act) (w : World) : Prop :=
  ∃ (f : Nat → Value) (s : Ds) (v : Value) (l : List UInt8), x = stF (.pointer (some ⟨b, 0, none⟩)) (.int .u8 (c.toNat : Int)) v f ∧ rank s.p < n ∧ 1 ≤ s.p ∧ s.p ≤ 5 ∧ Tl w b t a s v l ∧ l.length + rank s.p ≤ 70368744177664 ∧ s.size + rank s.p ≤ 4611686018427387904 ∧ s.row ≤ 4611686018427387904 ∧ s.stp t c = S ∧ l ++ s.out a c = L ∧ Mvd w0 v0 v ∧ Chg (Fb b v0) w0 w
theorem jst_mk {b t a : Nat} {c : UInt8} {v0 : Value} {w0 : World} {S : Ds} {L : List UInt8} {n : Nat} {T : Array Value} {w : World} (s : Ds) (v : Value) (l : List UInt8) (hT : ({ tmps := T, defers := [] } : Act) = stF (.pointer (some ⟨b, 0, none⟩)) (.int .u8 (c.toNat : Int)) v (fun i => T.getD i undef))
    (h : rank s.p < n ∧ 1 ≤ s.p ∧ s.p ≤ 5 ∧ Tl w b t a s v l ∧ l.length + rank s.p ≤ 70368744177664 ∧ s.size + rank s.p ≤ 4611686018427387904 ∧ s.row ≤ 4611686018427387904 ∧ s.stp t c = S ∧ l ++ s.out a c = L ∧ Mvd w0 v0 v ∧ Chg (Fb b v0) w0 w) : Jst b t a c v0 w0 S L n { tmps := T, defers := [] } w := ⟨_, s, v, l, hT, h⟩
theorem stp_1 {t a row size : Nat} {bare long high : Bool} {c : UInt8} (h : ¬ c = 46) : Ds.stp t ⟨1, row, size, bare, long, high⟩ c = Ds.stp t ⟨4, row, size, bare, long, high⟩ c ∧ Ds.out a ⟨1, row, size, bare, long, high⟩ c = Ds.out a ⟨4, row, size, bare, long, high⟩ c := by simp [Ds.stp, Ds.inn, Ds.mid, Ds.out, Ds.ou, h]
theorem stp_2 {t a row size : Nat} {bare long high : Bool} {c : UInt8} (h : ¬ c = 13) : Ds.stp t ⟨2, row, size, bare, long, high⟩ c = Ds.stp t ⟨4, row, size, bare, long, high⟩ c ∧ Ds.out a ⟨2, row, size, bare, long, high⟩ c = Ds.out a ⟨4, row, size, bare, long, high⟩ c := by simp [Ds.stp, Ds.inn, Ds.mid, Ds.out, Ds.ou, h]
theorem stp_3 {t a row size : Nat} {bare long high : Bool} {c : UInt8} (h : ¬ c = 10) : Ds.stp t ⟨3, row, size, bare, long, high⟩ c = Ds.stp t ⟨5, row, size + 1, bare, long, high⟩ c ∧ Ds.out a ⟨3, row, size, bare, long, high⟩ c = Ds.ou a ⟨3, row, size, bare, long, high⟩ 13 ++ Ds.out a ⟨5, row, size + 1, bare, long, high⟩ c := by
  simp [Ds.stp, Ds.inn, Ds.mid, Ds.out, Ds.ou, Ds.tl, h]
theorem stp_5 {t a row size : Nat} {bare long high : Bool} {c : UInt8} (h : ¬ c = 10) : Ds.stp t ⟨5, row, size, bare, long, high⟩ c = Ds.stp t ⟨4, row, size, true, long, high⟩ c ∧ Ds.out a ⟨5, row, size, bare, long, high⟩ c = Ds.out a ⟨4, row, size, true, long, high⟩ c := by simp [Ds.stp, Ds.inn, Ds.mid, Ds.out, Ds.ou, h]
theorem Mvd.trans {w w1 : World} {v v1 v2 : Value} (h : Mvd w1 v1 v2) (k : Mvd w v v1) (hs : w.heap.size ≤ w1.heap.size) : Mvd w v v2 := fun i e => by
  rcases h i e with h1 | h1
  · exact k i h1
  · exact .inr (Nat.le_trans hs h1)
theorem fb_then {w : World} {b : Nat} {v v1 : Value} (k : Mvd w v v1) : ∀ i, Fb b v1 i → Fb b v i ∨ w.heap.size ≤ i := fun i h => by
  rcases h with h | h
  · exact .inl (.inl h)
  · rcases k i h with h | h
    · exact .inl (.inr h)
    · exact .inr h
theorem stp_in {t row size : Nat} {bare long high : Bool} {c : UInt8} (h : ¬ c = 13) : Ds.stp t ⟨4, row, size, bare, long, high⟩ c = Ds.tl ⟨4, row + 1, size, bare || c == 10, long || decide (t < row + 1), high⟩ c := by simp [Ds.stp, Ds.inn, Ds.mid, h]
theorem out_in {a row row2 size : Nat} {bare long high bare2 long2 : Bool} {c : UInt8} : Ds.out a ⟨4, row, size, bare, long, high⟩ c = Ds.ou a ⟨4, row2, size, bare2, long2, high⟩ c := by simp [Ds.out, Ds.ou]
theorem u10 (c : UInt8) : (c == 10) = ((c.toNat : Int) == 10) := by
  by_cases h : c = 10
  · subst h; rfl
  · have h2 : ¬ (c.toNat : Int) = 10 := fun e => h (UInt8.toNat_inj.1 (by simp; omega))
    rw [beq_false_of_ne h, beq_false_of_ne h2]
theorem tlt (t row : Nat) : decide (t < row + 1) = decide ((t : Int) < (row : Int) + 1) := decide_eq_decide.2 (by omega)
end Go.Proofs.Ythnjbnhmdjpfpaa
