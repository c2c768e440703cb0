/-
  Single operations of a drawn region.
-/
import Derived.Test.YthkoionigdnhgabGreatDoorPureUp
import Derived.Test.YthkoionigdnhgabGreatDoorFh8
import Derived.Deep.DeepCutAuto
import Derived.Test.YthkoionigdnhgabGreatDoorPureBad
import Derived.Test.YthkoionigdnhgabGreatDoorPtL
import Derived.Test.YthkoionigdnhgabGreatDoorDmP
namespace Go.Proofs.YthkoionigdnhgabGreatDoor
open Go.RowKit

theorem oper_call {P : Program} {op : Oper} {a : Act} {w : World} {K : Act → World → Prop} {Q : Exit → Act → World → Prop} (d : Option Tmp) (f : FuncId) (args : Array Value) (R : Value → World → Prop) (hd : op.dst = d) (hy : (execOp a.eval op).run P w = .ok (.enter f args) w)
    (hc : Calls P f args w fun e w' => ∃ v, e = .returned v ∧ R v w') (h : ∀ v w', R v w' → K (a.put d v) w') : op.wp P a w K Q := by
  subst hd
  unfold Oper.wp
  rw [hy, Oper.upon_enter]
  refine hc.mono ?_
  rintro e w' ⟨v, rfl, hr⟩
  exact h v w' hr
end Go.Proofs.YthkoionigdnhgabGreatDoor
/-
  The document's Is, of the classes Atom and Quoted.
-/
namespace Go.Proofs.YthkoionigdnhgabGreatDoor
open Go.RowKit

/-- The document's classes Atom and Quoted. -/
def at5 (c : UInt8) : Bool := ldB c || [33, 35, 36, 37, 38, 39, 42, 43, 45, 47, 61, 63, 94, 95, 96, 123, 124, 125, 126].contains c
theorem atB_is (c : UInt8) : atB c = (at5 c || decide (128 ≤ c.toNat)) := rfl
end Go.Proofs.YthkoionigdnhgabGreatDoor
/-
  The document's Name, Tagged and Check in plain words; no Go in sight.
-/
namespace Go.Proofs.YthkoionigdnhgabGreatDoor

def letB (c : UInt8) : Bool := (decide (65 ≤ c.toNat) && decide (c.toNat ≤ 90)) || (decide (97 ≤ c.toNat) && decide (c.toNat ≤ 122))
theorem ld_let (c : UInt8) : ldB c = (letB c || dgB c) := by
  unfold ldB letB
  cases dgB c <;> simp
theorem let_not {c : UInt8} (h : c = 45) : letB c = false ∧ dgB c = false := by
  subst h
  exact ⟨by decide, by decide⟩
/-- May the byte at a place not stand there? n: how many bytes of its label stand ahead of it. -/
def pwC (F a n : Nat) (c : UInt8) : Bool :=
  if letB c = false ∧ dgB c = false ∧ ¬ c = 45 ∧ ¬ (128 ≤ c.toNat ∧ a < F) then true
  else decide (63 ≤ n) || (decide (c = 45) && decide (n = 0))
theorem pwC_is (F a n : Nat) (c : UInt8) (hn : n ≤ 63) : pwC F a n c = true ↔ (n = 63 ∨ stB F a n c = false) := by
  unfold pwC stB
  rw [ld_let]
  by_cases h45 : c = 45
  · obtain ⟨h1, h2⟩ := let_not h45
    have h3 : ¬ 128 ≤ c.toNat := by subst h45; decide
    rw [if_neg (by rintro ⟨-, -, h, -⟩; exact h h45), h1, h2, decide_eq_true h45, decide_eq_false h3]
    simp
    omega
  · rw [decide_eq_false h45]
    by_cases hh : 128 ≤ c.toNat ∧ a < F
    · rw [if_neg (by rintro ⟨-, -, -, h⟩; exact h hh), decide_eq_true hh.1, decide_eq_true hh.2]
      simp
      omega
    · have h4 : (decide (128 ≤ c.toNat) && decide (a < F)) = false := by
        rw [Bool.and_eq_false_iff, decide_eq_false_iff_not, decide_eq_false_iff_not]
        by_cases h : 128 ≤ c.toNat
        · exact .inr fun h' => hh ⟨h, h'⟩
        · exact .inl h
      rw [h4]
      cases h1 : letB c
      · cases h2 : dgB c
        · rw [if_pos ⟨rfl, rfl, h45, hh⟩]
          simp
        · rw [if_neg (by rintro ⟨-, h, -⟩; cases h)]
          simp
          omega
      · rw [if_neg (by rintro ⟨h, -⟩; cases h)]
        simp
        omega
/-- Whether a text's place i is wrong, its label beginning at b. -/
def pw (F : Nat) (s : List UInt8) (b i : Nat) : Bool :=
  match s[i]? with
  | none => decide (i = b) || decide (s[i - 1]? = some 45)
  | some c => if c = 46 then decide (i = b) || decide (s[i - 1]? = some 45) else pwC F i (i - b) c
/-- How far the document's search has come. -/
structure NmAt (F : Nat) (s : List UInt8) (b i : Nat) (h : Bool) : Prop where
  le : b ≤ i
  most : i - b ≤ 63
  hyp : b < i → h = decide (s[i - 1]? = some 45)
  is : wdGo F 0 0 false s = wdGo F i (i - b) h (s.drop i)
theorem NmAt.start (F : Nat) (s : List UInt8) : NmAt F s 0 0 false := ⟨Nat.le_refl _, Nat.zero_le _, fun h => absurd h (by omega), by rw [List.drop_zero]⟩
theorem pw_end {s : List UInt8} {b i : Nat} {h : Bool} (hb : b ≤ i) (hh : b < i → h = decide (s[i - 1]? = some 45)) : (decide (i = b) || decide (s[i - 1]? = some 45)) = false ↔ (0 < i - b ∧ h = false) := by
  by_cases e : i = b
  · rw [decide_eq_true e]
    simp
    omega
  · have := hh (by omega)
    rw [decide_eq_false e, Bool.false_or, ← this]
    constructor
    · intro h; exact ⟨by omega, h⟩
    · exact fun h => h.2
theorem NmAt.wrong {F : Nat} {s : List UInt8} {b i : Nat} {h : Bool} (H : NmAt F s b i h) (hw : pw F s b i = true) : wdGo F 0 0 false s = some i := by
  rw [H.is]
  rcases Nat.lt_or_ge i s.length with hl | hl
  · rw [List.drop_eq_getElem_cons hl, wdGo]
    unfold pw at hw
    rw [List.getElem?_eq_getElem hl] at hw
    dsimp only at hw
    split at hw
    · rename_i hc
      rw [if_pos hc, if_neg]
      intro h'
      rw [(pw_end H.le H.hyp).2 h'] at hw
      cases hw
    · rename_i hc
      rw [if_neg hc, if_pos ((pwC_is F i (i - b) _ H.most).1 hw)]
  · rw [List.drop_eq_nil_of_le hl, wdGo]
    unfold pw at hw
    rw [List.getElem?_eq_none hl] at hw
    dsimp only at hw
    rw [if_neg]
    intro h'
    rw [(pw_end H.le H.hyp).2 h'] at hw
    cases hw
theorem NmAt.last {F : Nat} {s : List UInt8} {b i : Nat} {h : Bool} (H : NmAt F s b i h) (hi : i = s.length) (hw : pw F s b i = false) : wdGo F 0 0 false s = none := by
  rw [H.is, List.drop_eq_nil_of_le (by omega), wdGo]
  unfold pw at hw
  rw [List.getElem?_eq_none (by omega)] at hw
  dsimp only at hw
  rw [if_pos ((pw_end H.le H.hyp).1 hw)]
theorem NmAt.dot {F : Nat} {s : List UInt8} {b i : Nat} {h : Bool} (H : NmAt F s b i h) (hi : i < s.length) (hc : s[i] = 46) (hw : pw F s b i = false) : NmAt F s (i + 1) (i + 1) false := by
  refine ⟨Nat.le_refl _, by omega, fun h => absurd h (by omega), ?_⟩
  rw [H.is, List.drop_eq_getElem_cons hi, wdGo, if_pos hc]
  unfold pw at hw
  rw [List.getElem?_eq_getElem hi] at hw
  dsimp only at hw
  rw [if_pos hc] at hw
  rw [if_pos ((pw_end H.le H.hyp).1 hw), Nat.sub_self]
theorem NmAt.next {F : Nat} {s : List UInt8} {b i : Nat} {h : Bool} (H : NmAt F s b i h) (hi : i < s.length) (hc : ¬ s[i] = 46) (hw : pw F s b i = false) : NmAt F s b (i + 1) (decide (s[i] = 45)) := by
  unfold pw at hw
  rw [List.getElem?_eq_getElem hi] at hw
  dsimp only at hw
  rw [if_neg hc] at hw
  have hn : ¬ (i - b = 63 ∨ stB F i (i - b) s[i] = false) := fun h' => by rw [(pwC_is F i (i - b) _ H.most).2 h'] at hw; cases hw
  have hle := H.le
  have hm := H.most
  refine ⟨by omega, by omega, fun _ => ?_, ?_⟩
  · rw [Nat.add_sub_cancel, List.getElem?_eq_getElem hi]
    rw [Bool.eq_iff_iff]
    simp
  · rw [H.is, List.drop_eq_getElem_cons hi, wdGo, if_neg hc, if_neg hn, show i + 1 - b = i - b + 1 from by omega]

theorem spB_stop (f : UInt8 → Bool) : ∀ (l : List UInt8) (h : spB f l < l.length), f l[spB f l] = false
  | [], h => by simp at h
  | c :: r, h => by
    cases hc : f c
    · have e : spB f (c :: r) = 0 := by rw [spB, if_neg (by rw [hc]; decide)]
      simp only [e]
      exact hc
    · have e : spB f (c :: r) = spB f r + 1 := by rw [spB, if_pos hc]
      simp only [e]
      rw [e, List.length_cons] at h
      exact spB_stop f r (by omega)
theorem spB_pre (f : UInt8 → Bool) : ∀ (l : List UInt8) (j : Nat) (h : j < l.length), j < spB f l → f l[j] = true
  | [], j, h, _ => by simp at h
  | c :: r, j, h, h' => by
    cases hc : f c
    · have e : spB f (c :: r) = 0 := by rw [spB, if_neg (by rw [hc]; decide)]
      omega
    · have e : spB f (c :: r) = spB f r + 1 := by rw [spB, if_pos hc]
      cases j with
      | zero => exact hc
      | succ j =>
        rw [List.getElem_cons_succ]
        exact spB_pre f r j _ (by omega)
theorem spB_eq (f : UInt8 → Bool) (l : List UInt8) (k : Nat) (hk : k ≤ l.length) (h1 : ∀ j (h : j < l.length), j < k → f l[j] = true) (h2 : ∀ h : k < l.length, f l[k] = false) : spB f l = k := by
  have hle := spB_le f l
  rcases Nat.lt_trichotomy (spB f l) k with h | h | h
  · have a := spB_stop f l (by omega)
    rw [h1 _ (by omega) h] at a
    cases a
  · exact h
  · have a := spB_pre f l k (by omega) h
    rw [h2 (by omega)] at a
    cases a
end Go.Proofs.YthkoionigdnhgabGreatDoor
