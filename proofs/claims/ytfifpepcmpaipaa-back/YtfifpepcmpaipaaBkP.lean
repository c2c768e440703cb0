/-
  A body, stuffed and read again, in plain words.
-/
import Derived.Test.YtfifpepcmpaipaaAgP
namespace Go.Proofs.Ytfifpepcmpaipaa

def anyHigh (l : List UInt8) : Bool := l.any fun c => decide (127 < c.toNat)
/-- Where a reader stands in a stuffed body: b: ahead of a line; h: behind a CR. -/
def Bks (b h : Bool) (x : Ds) : Prop := (b = true ∧ h = false ∧ x.p = 1) ∨ (b = false ∧ h = false ∧ x.p = 4) ∨ (b = false ∧ h = true ∧ x.p = 5)
/-- What the reader is at the end. -/
structure Bke (x y : Ds) (r : List UInt8) : Prop where
  p : y.p = 6
  bare : y.bare = false
  long : y.long = false
  high : y.high = (x.high || anyHigh r)
  size : y.size = x.size + r.length
theorem Bke.cons {x z y : Ds} {c : UInt8} {r : List UInt8} (h : Bke z y r) (h1 : z.high = (x.high || decide (127 < c.toNat))) (h2 : z.size = x.size + 1) : Bke x y (c :: r) :=
  ⟨h.p, h.bare, h.long, by rw [h.high, h1]; simp [anyHigh, Bool.or_assoc], by rw [h.size, h2, List.length_cons]; omega⟩
theorem Ds.inn_is {t : Nat} {x : Ds} {c : UInt8} (h10 : ¬ c = 10) (hb : x.bare = false) (hl : x.long = false) (hr : x.row + 1 ≤ t) : (x.inn t c).bare = false ∧ (x.inn t c).long = false ∧ (x.inn t c).high = (x.high || decide (127 < c.toNat)) ∧ (x.inn t c).size = x.size + 1 ∧ (x.inn t c).row ≤ x.row + 1 ∧ Bks false (c == 13) (x.inn t c) := by
  unfold inn mid tl
  by_cases h13 : c = 13
  · subst h13
    simp [hb, hl, Bks]
  · simp [h13, h10, hb, hl, Bks, beq_false_of_ne h13]
    omega
theorem back_go (t a : Nat) (m : List UInt8) : ∀ (r : List UInt8) (b h : Bool) (x : Ds), Bks b h x → x.bare = false → x.long = false → whE h r = false → (r = [] → b = true) → (r ≠ [] → r.getLast? = some 10) → x.size + r.length ≤ a → x.row + r.length ≤ t →
    ∃ y, x.run t a (stf b r ++ [46, 13, 10] ++ m) = ((stf b r).length + 3, r, y) ∧ Bke x y r
  | [], b, h, x, hx, hb, hl, hw, h0, _, _, _ => by
    have hbt := h0 rfl
    subst hbt
    have hp : x.p = 1 := by
      rcases hx with h | h | h
      · exact h.2.2
      · cases h.1
      · cases h.1
    have e1 : x.stp t 46 = { x with p := 2 } := by simp [Ds.stp, hp]
    have e2 : ({ x with p := 2 } : Ds).stp t 13 = { x with p := 3 } := by simp [Ds.stp]
    have e3 : ({ x with p := 3 } : Ds).stp t 10 = { x with p := 6 } := by simp [Ds.stp]
    have o1 : x.out a 46 = [] := by simp [Ds.out, hp]
    have o2 : ({ x with p := 2 } : Ds).out a 13 = [] := by simp [Ds.out]
    have o3 : ({ x with p := 3 } : Ds).out a 10 = [] := by simp [Ds.out]
    refine ⟨{ x with p := 6 }, ?_, ⟨rfl, hb, hl, by simp [anyHigh], by simp⟩⟩
    show x.run t a (46 :: 13 :: 10 :: m) = _
    rw [Ds.run_cons (by omega), e1, o1, Ds.run_cons (by simp), e2, o2, Ds.run_cons (by simp), e3, o3, Ds.run_over (by simp)]
    rfl
  | c :: r, b, h, x, hx, hb, hl, hw, _, h1, hs, hr => by
    rw [List.length_cons] at hs hr
    have hlast : (r = [] → (c == 10) = true) ∧ (r ≠ [] → r.getLast? = some 10) := by
      have := h1 (by simp)
      cases r with
      | nil => exact ⟨fun _ => (by simpa using this), fun h => absurd rfl h⟩
      | cons d r => exact ⟨fun h => (by cases h), fun _ => by simpa [List.getLast?_cons_cons] using this⟩
    rw [whE_cons] at hw
    split at hw
    · cases hw
    · rename_i hn
      have hou : x.ou a c = [c] := x.ou_one c (by omega)
      rcases hx with ⟨rfl, rfl, hp⟩ | ⟨rfl, rfl, hp⟩ | ⟨rfl, rfl, hp⟩
      · have h10 : ¬ c = 10 := fun e => by rw [e] at hn; simp at hn
        obtain ⟨k1, k2, k3, k4, k5, k6⟩ := x.inn_is (t := t) h10 hb hl (by omega)
        by_cases h46 : c = 46
        · subst h46
          have hrr : x.row + 1 + r.length ≤ t := by omega
          obtain ⟨k1, k2, k3, k4, k5, k6⟩ := ({ x with p := 2 } : Ds).inn_is (t := t) (c := 46) (by decide) hb hl (by show x.row + 1 ≤ t; omega)
          obtain ⟨y, e, hy⟩ := back_go t a m r false false _ k6 k1 k2 hw (fun e => by have := hlast.1 e; simp at this) hlast.2 (by rw [k4]; show x.size + 1 + _ ≤ a; omega) (Nat.le_trans (Nat.add_le_add_right k5 _) hrr)
          refine ⟨y, ?_, hy.cons k3 k4⟩
          have e1 : x.stp t 46 = { x with p := 2 } := by simp [Ds.stp, hp]
          have o1 : x.out a 46 = [] := by simp [Ds.out, hp]
          have e2 : ({ x with p := 2 } : Ds).stp t 46 = ({ x with p := 2 } : Ds).inn t 46 := by simp [Ds.stp]
          have o2 : ({ x with p := 2 } : Ds).out a 46 = [46] := by
            have : ({ x with p := 2 } : Ds).ou a 46 = [46] := Ds.ou_one 46 (by show x.size + 1 ≤ a; omega)
            simp [Ds.out, this]
          rw [stf_cons, if_pos (by rfl)]
          show x.run t a (46 :: 46 :: (stf false r ++ [46, 13, 10] ++ m)) = _
          rw [Ds.run_cons (by omega), e1, o1, Ds.run_cons (by simp), e2, o2, e]
          simp
        · have hst : x.stp t c = x.inn t c := by simp [Ds.stp, hp, h46]
          have ho : x.out a c = [c] := by simp [Ds.out, hp, h46, hou]
          obtain ⟨y, e, hy⟩ := back_go t a m r (c == 10) (c == 13) _ (by rw [beq_false_of_ne h10]; exact k6) k1 k2 hw (fun e => hlast.1 e) hlast.2 (by rw [k4]; omega) (by omega)
          refine ⟨y, ?_, hy.cons k3 k4⟩
          rw [stf_cons, if_neg (by simp [h46])]
          show x.run t a (c :: (stf (c == 10) r ++ [46, 13, 10] ++ m)) = _
          rw [Ds.run_cons (by omega), hst, ho, e]
          simp
      · have h10 : ¬ c = 10 := fun e => by rw [e] at hn; simp at hn
        obtain ⟨k1, k2, k3, k4, k5, k6⟩ := x.inn_is (t := t) h10 hb hl (by omega)
        have hst : x.stp t c = x.inn t c := by simp [Ds.stp, hp]
        have ho : x.out a c = [c] := by simp [Ds.out, hp, hou]
        obtain ⟨y, e, hy⟩ := back_go t a m r (c == 10) (c == 13) _ (by rw [beq_false_of_ne h10]; exact k6) k1 k2 hw (fun e => hlast.1 e) hlast.2 (by rw [k4]; omega) (by omega)
        refine ⟨y, ?_, hy.cons k3 k4⟩
        rw [stf_cons, if_neg (by simp)]
        show x.run t a (c :: (stf (c == 10) r ++ [46, 13, 10] ++ m)) = _
        rw [Ds.run_cons (by omega), hst, ho, e]
        simp
      · have h10 : c = 10 := by
          apply Classical.byContradiction
          intro h
          rw [beq_false_of_ne h] at hn
          exact hn rfl
        subst h10
        have hst : x.stp t 10 = ({ x with p := 1, row := 0 }).tl 10 := by simp [Ds.stp, hp]
        have ho : x.out a 10 = [10] := by simp [Ds.out, hp, hou]
        obtain ⟨y, e, hy⟩ := back_go t a m r true false (({ x with p := 1, row := 0 } : Ds).tl 10) (.inl ⟨rfl, rfl, rfl⟩) hb hl hw (fun _ => rfl) hlast.2 (by show x.size + 1 + _ ≤ a; omega) (by show 0 + _ ≤ t; omega)
        refine ⟨y, ?_, hy.cons rfl rfl⟩
        rw [stf_cons, if_neg (by simp)]
        show x.run t a (10 :: (stf true r ++ [46, 13, 10] ++ m)) = _
        rw [Ds.run_cons (by omega), hst, ho, e]
        simp
/-- There and back. -/
theorem back_all {t a : Nat} {l m : List UInt8} (hz : wholeI l = 0) (ha : l.length ≤ a) (ht : l.length ≤ t) : ∃ y, Ds.new.run t a (stuffL l ++ m) = ((stuffL l).length, l, y) ∧ y.p = 6 ∧ y.why a = 0 ∧ y.high = anyHigh l := by
  have hw : whE false l = false ∧ lastOk l = true := by
    unfold wholeI at hz
    split at hz
    · cases hz
    · rename_i h1
      split at hz
      · rename_i h2; exact ⟨by simpa using h1, h2⟩
      · cases hz
  obtain ⟨y, e, hy⟩ := back_go t a m l true false Ds.new (.inl ⟨rfl, rfl, rfl⟩) rfl rfl hw.1 (fun _ => rfl) (fun h => by
    have := hw.2
    unfold lastOk at this
    rw [Bool.or_eq_true, beq_iff_eq, beq_iff_eq] at this
    rcases this with e | e
    · exact absurd (List.getLast?_eq_none_iff.1 e) h
    · exact e) (by simpa [Ds.new] using ha) (by simpa [Ds.new] using ht)
  refine ⟨y, ?_, hy.p, ?_, by simpa [Ds.new] using hy.high⟩
  · unfold stuffL
    rw [e]
    simp
  · have hs := hy.size
    have hn : ¬ a < y.size := by rw [hs]; simp [Ds.new]; omega
    unfold Ds.why
    rw [hy.bare, hy.long, if_neg hn]
    rfl
theorem lgE_small {t : Nat} : ∀ (l : List UInt8) (i b : Nat), b ≤ i → i + l.length ≤ t + 2 + b → lgE t i b l = false
  | [], _, _, _, _ => rfl
  | c :: r, i, b, hb, h => by
    rw [List.length_cons] at h
    rw [lgE_cons]
    split
    · rw [if_neg (by omega), lgE_small r (i + 1) (i + 1) (Nat.le_refl _) (by omega)]
    · exact lgE_small r (i + 1) b (by omega) (by omega)
theorem check_small {t : Nat} {l : List UInt8} (h : l.length ≤ t) : checkI t l = wholeI l := by
  unfold checkI
  split
  · rename_i h0
    rw [lgE_small l 0 0 (Nat.le_refl _) (by omega), h0]
    rfl
  · rfl
end Go.Proofs.Ytfifpepcmpaipaa
