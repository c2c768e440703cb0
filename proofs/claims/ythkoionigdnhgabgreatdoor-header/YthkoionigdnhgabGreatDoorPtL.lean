/-
  What V6 reads is a whole address of the sixth kind, as the document has it.
-/
import Derived.Test.YthkoionigdnhgabGreatDoorAdE
import Derived.Test.YthkoionigdnhgabGreatDoorPtN
namespace Go.Proofs.YthkoionigdnhgabGreatDoor

/-- What is still to come, no two colons having stood. -/
def Rst (g : Gs) (s : List UInt8) (x : List Nat) : Prop :=
  (cut2 s = none ∧ ∃ b, dGrps true (splitB 58 s) = some b ∧ 2 * g.l.length + b.length = 16 ∧ x = twoB g.l ++ b) ∨
  ∃ h t b c, cut2 s = some (h, t) ∧ dGrps false (splitB 58 h) = some b ∧ groupsD t true = some c ∧ 2 * g.l.length + b.length + c.length ≤ 12 ∧ x = twoB g.l ++ b ++ List.replicate (16 - 2 * g.l.length - b.length - c.length) 0 ++ c
theorem Rst.room {g : Gs} {s : List UInt8} {x : List Nat} (h : Rst g s x) : g.l.length < 8 := by
  rcases h with ⟨_, b, h1, h2, _⟩ | ⟨h, t, b, c, _, h1, _, h2, _⟩
  · have := dGrps_len true _ b (splitB_ne 58 s) h1
    omega
  · have := dGrps_len false _ b (splitB_ne 58 h) h1
    omega
theorem twoB_put (g : Gs) (n : Nat) : twoB (g.put n).l = twoB g.l ++ [n / 256, n % 256] := by
  unfold Gs.put
  rw [twoB_appendP]
  rfl
theorem put_len (g : Gs) (n : Nat) : (g.put n).l.length = g.l.length + 1 := by simp [Gs.put]
/-- A group, a colon, and what follows. -/
theorem Rst.cons {g : Gs} {p r : List UInt8} {x b : List Nat} (hp : ∀ c ∈ p, c ≠ 58) (hd : dGrp p = some b) (hr : r.head? ≠ some 58) : Rst g (p ++ 58 :: r) x ↔ Rst (g.put (hexN 0 p)) r x := by
  have hb := (dGrp_some hd).2.2.2
  have hbl : b.length = 2 := by rw [hb]; rfl
  unfold Rst
  rw [cut2_one p r hp hr, splitB_at 58 p r hp, dGrps_cons true p _ (splitB_ne 58 r), hd, twoB_put, put_len, ← hb]
  dsimp only
  constructor
  · rintro (⟨h1, b', h2, h3, h4⟩ | ⟨h, t, b', c, h1, h2, h3, h4, h5⟩)
    · left
      have hcn : cut2 r = none := by
        cases hc : cut2 r with
        | none => rfl
        | some y => rw [hc] at h1; cases h1
      refine ⟨hcn, ?_⟩
      cases hrr : dGrps true (splitB 58 r) with
      | none => rw [hrr] at h2; cases h2
      | some c =>
        rw [hrr] at h2
        have e : some (b ++ c) = some b' := h2
        injection e with e
        subst e
        rw [List.length_append] at h3
        exact ⟨c, rfl, by omega, by rw [h4, List.append_assoc]⟩
    · right
      cases hc : cut2 r with
      | none => rw [hc] at h1; cases h1
      | some y =>
        obtain ⟨h', t'⟩ := y
        rw [hc] at h1
        have e : some (p ++ 58 :: h', t') = some (h, t) := h1
        injection e with e
        injection e with e1 e2
        subst e1 e2
        rw [splitB_at 58 p h' hp, dGrps_cons false p _ (splitB_ne 58 h'), hd] at h2
        dsimp only at h2
        cases hrr : dGrps false (splitB 58 h') with
        | none => rw [hrr] at h2; cases h2
        | some c' =>
          rw [hrr] at h2
          have e : some (b ++ c') = some b' := h2
          injection e with e
          subst e
          rw [List.length_append] at h4 h5
          refine ⟨h', t', c', c, rfl, hrr, h3, by omega, ?_⟩
          rw [h5, show 16 - 2 * (g.l.length + 1) - c'.length - c.length = 16 - 2 * g.l.length - (b.length + c'.length) - c.length from by omega]
          simp
  · rintro (⟨h1, c, h2, h3, h4⟩ | ⟨h, t, b', c, h1, h2, h3, h4, h5⟩)
    · left
      refine ⟨by rw [h1]; rfl, b ++ c, by rw [h2]; rfl, by rw [List.length_append]; omega, by rw [h4, List.append_assoc]⟩
    · right
      refine ⟨p ++ 58 :: h, t, b ++ b', c, by rw [h1]; rfl, ?_, h3, by rw [List.length_append]; omega, ?_⟩
      · rw [splitB_at 58 p h hp, dGrps_cons false p _ (splitB_ne 58 h), hd]
        dsimp only
        rw [h2]
        rfl
      · rw [h5, List.length_append, show 16 - 2 * (g.l.length + 1) - b'.length - c.length = 16 - 2 * g.l.length - (b.length + b'.length) - c.length from by omega]
        simp
/-- What is no group ahead of a colon. -/
theorem Rst.no {g : Gs} {p r : List UInt8} {x : List Nat} (hp : ∀ c ∈ p, c ≠ 58) (hd : dGrp p = none) : ¬ Rst g (p ++ 58 :: r) x := by
  rintro (⟨h1, b', h2, _⟩ | ⟨h, t, b', c, h1, h2, _⟩)
  · rw [splitB_at 58 p r hp, dGrps_cons true p _ (splitB_ne 58 r), hd] at h2
    cases h2
  · by_cases hr : r.head? = some 58
    · match r, hr with
      | d :: r', hr =>
        simp at hr
        subst hr
        rw [cut2_dd p r' hp] at h1
        injection h1 with h1
        injection h1 with e1 e2
        subst e1
        rw [splitB_none 58 p hp] at h2
        have : dGrp p = some b' := h2
        rw [hd] at this
        cases this
    · rw [cut2_one p r hp hr] at h1
      cases hc : cut2 r with
      | none => rw [hc] at h1; cases h1
      | some y =>
        obtain ⟨h', t'⟩ := y
        rw [hc] at h1
        have e : some (p ++ 58 :: h', t') = some (h, t) := h1
        injection e with e
        injection e with e1 e2
        subst e1
        rw [splitB_at 58 p h' hp, dGrps_cons false p _ (splitB_ne 58 h'), hd] at h2
        cases h2
theorem Rst.last {g : Gs} {p : List UInt8} {x : List Nat} (hp : ∀ c ∈ p, c ≠ 58) : Rst g p x ↔ ∃ b, dGrps true [p] = some b ∧ 2 * g.l.length + b.length = 16 ∧ x = twoB g.l ++ b := by
  unfold Rst
  rw [cut2_none p hp, splitB_none 58 p hp]
  constructor
  · rintro (⟨_, h⟩ | ⟨_, _, _, _, h, _⟩)
    · exact h
    · cases h
  · intro h
    exact Or.inl ⟨rfl, h⟩
end Go.Proofs.YthkoionigdnhgabGreatDoor
/-
  Paths made of any bytes, dressed ones, and mailboxes that are alike, in plain mathematics; what is read is written no longer.
-/
namespace Go.Proofs.YthkoionigdnhgabGreatDoor

theorem low_wf : ∀ {l : List UInt8}, Low l → Wf l := by
  intro l h
  rw [wf_iff]
  induction l with
  | nil => rfl
  | cons c r ih =>
    have := low_cons.1 h
    rw [runQ, show stepQ q0 c.toNat = some q0 from by rw [show q0 = (0, 0, 0) from rfl, stepQ_zero, begQ_one this.1], Option.bind_some]
    exact ih this.2
def shwn (s : List UInt8) (most : Nat) : List UInt8 := (s.filter shB).take most
theorem shwn_is (s : List UInt8) (m : Nat) : (shwn s m).length ≤ m ∧ ∀ c ∈ shwn s m, shB c = true := by
  unfold shwn
  exact ⟨by rw [List.length_take]; omega, fun c hc => (List.mem_filter.1 (List.mem_of_mem_take hc)).2⟩
theorem escL_two : ∀ l : List UInt8, (escL l).length ≤ 2 * l.length
  | [] => Nat.le_refl _
  | c :: r => by
    have := escL_two r
    rw [escL_cons]
    split <;> simp only [List.length_cons] <;> omega
theorem shw_ck {l : List UInt8} (hl : l.length ≤ 31) (h : ∀ c ∈ l, shB c = true) (wide : Bool) : ckL l wide = 0 ∧ (wrL l).length ≤ 64 := by
  have hw : (wrL l).length ≤ 64 := by
    unfold wrL
    have := escL_two l
    split
    · omega
    · simp only [List.length_cons, List.length_append, List.length_nil]
      omega
  have low : Low l := fun c hc => sh_low (h c hc)
  exact ⟨ckL_of (List.all_eq_true.2 fun c hc => sh_lp (h c hc)) hw (fun _ => low) (low_wf low), hw⟩
end Go.Proofs.YthkoionigdnhgabGreatDoor
/-
  Rows of atoms and quoted texts from any place on.
-/
namespace Go.Proofs.YthkoionigdnhgabGreatDoor

theorem rowG_shift (k : Nat) : ∀ (s : List UInt8) (e i : Nat) (b : Bool), rowG (e + k) (i + k) b s = rowG e i b s + k
  | [], _, _, _ => rfl
  | c :: r, e, i, b => by
    rw [rowG, rowG]
    have h1 := rowG_shift k r (i + 1) (i + 1) true
    have h2 := rowG_shift k r e (i + 1) false
    rw [show i + 1 + k = i + k + 1 from by omega] at h1 h2
    rw [h1, h2]
    split
    · rfl
    · split <;> rfl
end Go.Proofs.YthkoionigdnhgabGreatDoor
/-
  A local part as the program asks for it: what stands there as a whole, its quotation marks too. Plain mathematics.
-/
namespace Go.Proofs.YthkoionigdnhgabGreatDoor

theorem badU_low {c : UInt8} (h : c.toNat < 128) (r : List UInt8) : badU (c :: r) = 1 + badU r := by
  have h1 : oneN (c :: r) = some ((c.toNat : Int), 1) := by
    show (if c.toNat < 128 then _ else _) = _
    exact if_pos h
  rw [badU_some h1]
  rfl
theorem badU_lows : ∀ (l : List UInt8), spB loB l = l.length → badU l = l.length
  | [], _ => rfl
  | c :: r, h => by
    rw [spB, List.length_cons] at h
    by_cases hc : loB c = true
    · rw [if_pos hc] at h
      rw [badU_low (by unfold loB at hc; simpa using hc), badU_lows r (by omega), List.length_cons]
      omega
    · rw [if_neg hc] at h
      omega
end Go.Proofs.YthkoionigdnhgabGreatDoor
