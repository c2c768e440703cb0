/-
  A liner in plain words: what was taken since the last line's end, what is kept of it, and what it comes to.
-/
namespace Go.Proofs.Ythnjbnhmdjpfpaa

/-- Is the last byte a CR? -/
def hfB (s : List UInt8) : Bool := s.getLast? == some 13
/-- The bytes but a CR that is the last one. -/
def bdy (s : List UInt8) : List UInt8 := if hfB s then s.dropLast else s
def bareB (l : List UInt8) : Bool := l.any fun c => c == 13 || c == 10
/-- What is wrong with a line. -/
def whyI (m : Nat) (l : List UInt8) : Int := if bareB l then 130 else if m < l.length then 131 else 0
/-- What is kept of a line. -/
def txt (m : Nat) (l : List UInt8) : List UInt8 := if whyI m l = 0 then l else []
/-- A line, or a bad one; none. -/
inductive It where
  | no
  | line (l : List UInt8)
  | bad (y : Int)
def lineOf (m : Nat) (l : List UInt8) : It := if whyI m l = 0 then .line l else .bad (whyI m l)
/-- Taking of bytes. -/
def tk (m : Nat) : List UInt8 → List UInt8 → Nat × It × List UInt8
  | s, [] => (0, .no, s)
  | s, c :: r => if hfB s && c == 10 then (1, lineOf m (bdy s), []) else ((tk m (s ++ [c]) r).1 + 1, (tk m (s ++ [c]) r).2)

theorem hfB_nil : hfB [] = false := rfl
theorem hfB_snoc (s : List UInt8) (c : UInt8) : hfB (s ++ [c]) = (c == 13) := by
  simp [hfB]
theorem bdy_nil : bdy [] = [] := rfl
theorem bdy_snoc (s : List UInt8) (c : UInt8) : bdy (s ++ [c]) = if c == 13 then s else s ++ [c] := by
  unfold bdy
  rw [hfB_snoc]
  split <;> simp
theorem bdy_of {s : List UInt8} (h : hfB s = false) : bdy s = s := by simp [bdy, h]
theorem bdy_snoc13 {s : List UInt8} (h : hfB s = true) : s = bdy s ++ [13] := by
  unfold bdy
  rw [if_pos h]
  have h2 : s.getLast? = some 13 := by simpa [hfB] using h
  obtain ⟨l, rfl⟩ : ∃ l, s = l ++ [13] := by
    rw [List.getLast?_eq_some_iff] at h2
    exact h2
  simp
theorem bare_snoc (l : List UInt8) (c : UInt8) : bareB (l ++ [c]) = (bareB l || (c == 13 || c == 10)) := by simp [bareB]
theorem why_bare {m : Nat} {l : List UInt8} (h : bareB l = true) : whyI m l = 130 := by simp [whyI, h]
theorem why_lo (m : Nat) (l : List UInt8) : whyI m l = 0 ∨ whyI m l = 130 ∨ whyI m l = 131 := by
  unfold whyI
  split
  · exact .inr (.inl rfl)
  · split
    · exact .inr (.inr rfl)
    · exact .inl rfl
theorem why_zero {m : Nat} {l : List UInt8} (h : whyI m l = 0) : bareB l = false ∧ l.length ≤ m := by
  unfold whyI at h
  split at h
  · cases h
  · rename_i h1
    split at h
    · cases h
    · exact ⟨by simpa using h1, by omega⟩
theorem txt_len (m : Nat) (l : List UInt8) : (txt m l).length ≤ m := by
  unfold txt
  split
  · rename_i h; exact (why_zero h).2
  · exact Nat.zero_le _
theorem txt_ok {m : Nat} {l : List UInt8} (h : whyI m l = 0) : txt m l = l := by simp [txt, h]
theorem txt_bad {m : Nat} {l : List UInt8} (h : ¬ whyI m l = 0) : txt m l = [] := by simp [txt, h]

/-- What keep makes of the text and of what is wrong. -/
def kpT (m : Nat) (t : List UInt8) (y : Int) (c : UInt8) : List UInt8 := if y = 0 then (if t.length = m then [] else t ++ [c]) else t
def kpY (m : Nat) (t : List UInt8) (y : Int) : Int := if y = 0 then (if t.length = m then 131 else 0) else y

/-- A half line end and another byte: bad. -/
theorem step_bare {m : Nat} {s : List UInt8} {c : UInt8} (h : (hfB s || c == 10) = true) (hc : (hfB s && c == 10) = false) : whyI m (bdy (s ++ [c])) = 130 := by
  apply why_bare
  rw [bdy_snoc]
  cases hs : hfB s with
  | true =>
    have e := bdy_snoc13 hs
    have hb : bareB s = true := by rw [e, bare_snoc]; simp
    split
    · exact hb
    · rw [bare_snoc, hb]; rfl
  | false =>
    rw [hs, Bool.false_or] at h
    have h10 : c = 10 := by simpa using h
    subst h10
    rw [if_neg (by decide), bare_snoc]
    simp
theorem step_cr {s : List UInt8} (h : hfB s = false) : bdy (s ++ [13]) = bdy s := by
  rw [bdy_snoc, bdy_of h]
  simp
theorem step_keep {m : Nat} {s : List UInt8} {c : UInt8} (h : hfB s = false) (h10 : (c == 10) = false) (h13 : (c == 13) = false) :
    txt m (bdy (s ++ [c])) = kpT m (txt m (bdy s)) (whyI m (bdy s)) c ∧ whyI m (bdy (s ++ [c])) = kpY m (txt m (bdy s)) (whyI m (bdy s)) := by
  rw [bdy_snoc, bdy_of h, if_neg (by simp [h13])]
  have hb : bareB (s ++ [c]) = bareB s := by rw [bare_snoc, h10, h13]; simp
  by_cases h0 : whyI m s = 0
  · obtain ⟨h1, h2⟩ := why_zero h0
    rw [txt_ok h0, h0]
    by_cases hl : s.length = m
    · have : whyI m (s ++ [c]) = 131 := by
        unfold whyI
        rw [hb, h1]
        simp [hl]
      exact ⟨by rw [txt_bad (by rw [this]; decide)]; simp [kpT, hl], by rw [this]; simp [kpY, hl]⟩
    · have : whyI m (s ++ [c]) = 0 := by
        unfold whyI
        rw [hb, h1]
        simp
        omega
      exact ⟨by rw [txt_ok this]; simp [kpT, hl], by rw [this]; simp [kpY, hl]⟩
  · have : whyI m (s ++ [c]) = whyI m s := by
      unfold whyI at h0 ⊢
      rw [hb]
      split
      · rfl
      · rename_i h1
        rw [if_neg h1] at h0
        have : m < s.length := by
          by_cases h2 : m < s.length
          · exact h2
          · rw [if_neg h2] at h0
            exact absurd rfl h0
        rw [if_pos this, if_pos (by simp; omega)]
    exact ⟨by rw [txt_bad (by rw [this]; exact h0), txt_bad h0]; simp [kpT, h0], by rw [this]; simp [kpY, h0]⟩

/-- How many bytes are kept. -/
def heldN (m : Nat) (s : List UInt8) : Nat := (txt m (bdy s)).length + (if hfB s then 1 else 0)
theorem held_le (m : Nat) (s : List UInt8) : heldN m s ≤ m + 1 := by
  unfold heldN
  have := txt_len m (bdy s)
  split <;> omega
theorem held_all (m : Nat) (s : List UInt8) : heldN m s ≤ s.length := by
  unfold heldN
  have h1 : (txt m (bdy s)).length ≤ (bdy s).length := by
    unfold txt
    split <;> simp
  cases hs : hfB s with
  | true =>
    have e := bdy_snoc13 hs
    have : s.length = (bdy s).length + 1 := by conv => lhs; rw [e]; simp
    simp only [if_true]
    omega
  | false =>
    rw [bdy_of hs] at h1
    simp [bdy_of hs]
    exact h1
theorem held_nil (m : Nat) : heldN m [] = 0 := rfl

/-- Taking goes on to the end, or up to a line's end. -/
theorem tk_len (m : Nat) : ∀ (b s : List UInt8), (tk m s b).1 ≤ b.length
  | [], s => Nat.le_refl _
  | c :: r, s => by
    unfold tk
    split
    · simp
    · have := tk_len m r (s ++ [c])
      simp only [List.length_cons]
      omega
theorem tk_pos (m : Nat) : ∀ (b s : List UInt8), b ≠ [] → 1 ≤ (tk m s b).1
  | [], _, h => absurd rfl h
  | c :: r, s, _ => by
    unfold tk
    split
    · exact Nat.le_refl _
    · simp
theorem tk_no (m : Nat) : ∀ (b s : List UInt8), (tk m s b).2.1 = .no → (tk m s b).1 = b.length ∧ (tk m s b).2.2 = s ++ b
  | [], s, _ => ⟨rfl, by simp [tk]⟩
  | c :: r, s, h => by
    unfold tk at h ⊢
    split
    · rename_i h1
      rw [if_pos h1] at h
      simp only [lineOf] at h
      split at h <;> cases h
    · rename_i h1
      rw [if_neg h1] at h
      obtain ⟨e1, e2⟩ := tk_no m r (s ++ [c]) h
      exact ⟨by simp [e1], by simp [e2]⟩
theorem tk_yes (m : Nat) : ∀ (b s : List UInt8), (tk m s b).2.1 ≠ .no → (tk m s b).2.2 = []
  | [], s, h => absurd rfl h
  | c :: r, s, h => by
    unfold tk at h ⊢
    split
    · rfl
    · rename_i h1
      rw [if_neg h1] at h
      exact tk_yes m r (s ++ [c]) h
theorem tk_cons (m : Nat) (s : List UInt8) (c : UInt8) (r : List UInt8) : tk m s (c :: r) = if hfB s && c == 10 then (1, lineOf m (bdy s), []) else ((tk m (s ++ [c]) r).1 + 1, (tk m (s ++ [c]) r).2) := rfl
/-- One byte after the other. -/
theorem tk_at {m : Nat} {s b : List UInt8} {i : Nat} (hi : i < b.length) (h : tk m s b = ((tk m (s ++ b.take i) (b.drop i)).1 + i, (tk m (s ++ b.take i) (b.drop i)).2)) :
    ((hfB (s ++ b.take i) && b[i] == 10) = true → tk m s b = (i + 1, lineOf m (bdy (s ++ b.take i)), [])) ∧
    ((hfB (s ++ b.take i) && b[i] == 10) = false → tk m s b = ((tk m (s ++ b.take (i + 1)) (b.drop (i + 1))).1 + (i + 1), (tk m (s ++ b.take (i + 1)) (b.drop (i + 1))).2)) := by
  have hd : b.drop i = b[i] :: b.drop (i + 1) := List.drop_eq_getElem_cons hi
  have ht : b.take (i + 1) = b.take i ++ [b[i]] := List.take_succ_eq_append_getElem hi
  rw [hd, tk_cons] at h
  constructor
  · intro hc
    rw [if_pos hc] at h
    rw [h]
    simp [Nat.add_comm]
  · intro hc
    rw [if_neg (by simp [hc])] at h
    rw [h, ht, List.append_assoc]
    exact Prod.ext (by show _ + 1 + i = _ + (i + 1); omega) rfl
end Go.Proofs.Ythnjbnhmdjpfpaa
