/-
  The document's Name, Tagged and Check in plain words; no Go in sight.
-/
import Derived.Test.YtnlgbopdbihnjaaGreatDoorDmP
namespace Go.Proofs.YtnlgbopdbihnjaaGreatDoor

def letB (c : UInt8) : Bool := (decide (65 ≤ c.toNat) && decide (c.toNat ≤ 90)) || (decide (97 ≤ c.toNat) && decide (c.toNat ≤ 122))
theorem ld_let (c : UInt8) : ldB c = (letB c || dgB c) := by
  unfold ldB letB
  cases dgB c <;> simp
theorem let_not {c : UInt8} (h : c = 45) : letB c = false ∧ dgB c = false := by
  subst h
  exact ⟨by decide, by decide⟩
/-- May the byte at a place not stand there? n: how many bytes of its label stand ahead of it. -/
def pwC (F a n : Nat) (c : UInt8) : Bool :=
  if letB c = false ∧ dgB c = false ∧ ¬ c = 45 ∧ ¬ (128 ≤ c.toNat ∧ a < F) then true
  else decide (63 ≤ n) || (decide (c = 45) && decide (n = 0))
theorem pwC_is (F a n : Nat) (c : UInt8) (hn : n ≤ 63) : pwC F a n c = true ↔ (n = 63 ∨ stB F a n c = false) := by
  unfold pwC stB
  rw [ld_let]
  by_cases h45 : c = 45
  · obtain ⟨h1, h2⟩ := let_not h45
    have h3 : ¬ 128 ≤ c.toNat := by subst h45; decide
    rw [if_neg (by rintro ⟨-, -, h, -⟩; exact h h45), h1, h2, decide_eq_true h45, decide_eq_false h3]
    simp
    omega
  · rw [decide_eq_false h45]
    by_cases hh : 128 ≤ c.toNat ∧ a < F
    · rw [if_neg (by rintro ⟨-, -, -, h⟩; exact h hh), decide_eq_true hh.1, decide_eq_true hh.2]
      simp
      omega
    · have h4 : (decide (128 ≤ c.toNat) && decide (a < F)) = false := by
        rw [Bool.and_eq_false_iff, decide_eq_false_iff_not, decide_eq_false_iff_not]
        by_cases h : 128 ≤ c.toNat
        · exact .inr fun h' => hh ⟨h, h'⟩
        · exact .inl h
      rw [h4]
      cases h1 : letB c
      · cases h2 : dgB c
        · rw [if_pos ⟨rfl, rfl, h45, hh⟩]
          simp
        · rw [if_neg (by rintro ⟨-, h, -⟩; cases h)]
          simp
          omega
      · rw [if_neg (by rintro ⟨h, -⟩; cases h)]
        simp
        omega
/-- Whether a text's place i is wrong, its label beginning at b. -/
def pw (F : Nat) (s : List UInt8) (b i : Nat) : Bool :=
  match s[i]? with
  | none => decide (i = b) || decide (s[i - 1]? = some 45)
  | some c => if c = 46 then decide (i = b) || decide (s[i - 1]? = some 45) else pwC F i (i - b) c
/-- How far the document's search has come. -/
structure NmAt (F : Nat) (s : List UInt8) (b i : Nat) (h : Bool) : Prop where
  le : b ≤ i
  most : i - b ≤ 63
  hyp : b < i → h = decide (s[i - 1]? = some 45)
  is : wdGo F 0 0 false s = wdGo F i (i - b) h (s.drop i)
theorem NmAt.start (F : Nat) (s : List UInt8) : NmAt F s 0 0 false := ⟨Nat.le_refl _, Nat.zero_le _, fun h => absurd h (by omega), by rw [List.drop_zero]⟩
theorem pw_end {s : List UInt8} {b i : Nat} {h : Bool} (hb : b ≤ i) (hh : b < i → h = decide (s[i - 1]? = some 45)) : (decide (i = b) || decide (s[i - 1]? = some 45)) = false ↔ (0 < i - b ∧ h = false) := by
  by_cases e : i = b
  · rw [decide_eq_true e]
    simp
    omega
  · have := hh (by omega)
    rw [decide_eq_false e, Bool.false_or, ← this]
    constructor
    · intro h; exact ⟨by omega, h⟩
    · exact fun h => h.2
theorem NmAt.wrong {F : Nat} {s : List UInt8} {b i : Nat} {h : Bool} (H : NmAt F s b i h) (hw : pw F s b i = true) : wdGo F 0 0 false s = some i := by
  rw [H.is]
  rcases Nat.lt_or_ge i s.length with hl | hl
  · rw [List.drop_eq_getElem_cons hl, wdGo]
    unfold pw at hw
    rw [List.getElem?_eq_getElem hl] at hw
    dsimp only at hw
    split at hw
    · rename_i hc
      rw [if_pos hc, if_neg]
      intro h'
      rw [(pw_end H.le H.hyp).2 h'] at hw
      cases hw
    · rename_i hc
      rw [if_neg hc, if_pos ((pwC_is F i (i - b) _ H.most).1 hw)]
  · rw [List.drop_eq_nil_of_le hl, wdGo]
    unfold pw at hw
    rw [List.getElem?_eq_none hl] at hw
    dsimp only at hw
    rw [if_neg]
    intro h'
    rw [(pw_end H.le H.hyp).2 h'] at hw
    cases hw
theorem NmAt.last {F : Nat} {s : List UInt8} {b i : Nat} {h : Bool} (H : NmAt F s b i h) (hi : i = s.length) (hw : pw F s b i = false) : wdGo F 0 0 false s = none := by
  rw [H.is, List.drop_eq_nil_of_le (by omega), wdGo]
  unfold pw at hw
  rw [List.getElem?_eq_none (by omega)] at hw
  dsimp only at hw
  rw [if_pos ((pw_end H.le H.hyp).1 hw)]
theorem NmAt.dot {F : Nat} {s : List UInt8} {b i : Nat} {h : Bool} (H : NmAt F s b i h) (hi : i < s.length) (hc : s[i] = 46) (hw : pw F s b i = false) : NmAt F s (i + 1) (i + 1) false := by
  refine ⟨Nat.le_refl _, by omega, fun h => absurd h (by omega), ?_⟩
  rw [H.is, List.drop_eq_getElem_cons hi, wdGo, if_pos hc]
  unfold pw at hw
  rw [List.getElem?_eq_getElem hi] at hw
  dsimp only at hw
  rw [if_pos hc] at hw
  rw [if_pos ((pw_end H.le H.hyp).1 hw), Nat.sub_self]
theorem NmAt.next {F : Nat} {s : List UInt8} {b i : Nat} {h : Bool} (H : NmAt F s b i h) (hi : i < s.length) (hc : ¬ s[i] = 46) (hw : pw F s b i = false) : NmAt F s b (i + 1) (decide (s[i] = 45)) := by
  unfold pw at hw
  rw [List.getElem?_eq_getElem hi] at hw
  dsimp only at hw
  rw [if_neg hc] at hw
  have hn : ¬ (i - b = 63 ∨ stB F i (i - b) s[i] = false) := fun h' => by rw [(pwC_is F i (i - b) _ H.most).2 h'] at hw; cases hw
  have hle := H.le
  have hm := H.most
  refine ⟨by omega, by omega, fun _ => ?_, ?_⟩
  · rw [Nat.add_sub_cancel, List.getElem?_eq_getElem hi]
    rw [Bool.eq_iff_iff]
    simp
  · rw [H.is, List.drop_eq_getElem_cons hi, wdGo, if_neg hc, if_neg hn, show i + 1 - b = i - b + 1 from by omega]

/-- The place that is wrong with a tag, a colon and a text. -/
def tgD (t : List UInt8) : Option Nat :=
  if spB lbB t < t.length ∧ ¬ t[spB lbB t]? = some 58 then some (spB lbB t)
  else if spB lbB t = t.length ∨ spB lbB t = 0 ∨ t[spB lbB t - 1]? = some 45 then some (spB lbB t)
  else if spB lbB t + 1 + spB plB (t.drop (spB lbB t + 1)) < t.length then some (spB lbB t + 1 + spB plB (t.drop (spB lbB t + 1)))
  else if spB lbB t + 1 = t.length then some t.length
  else none
theorem spB_stop (f : UInt8 → Bool) : ∀ (l : List UInt8) (h : spB f l < l.length), f l[spB f l] = false
  | [], h => by simp at h
  | c :: r, h => by
    cases hc : f c
    · have e : spB f (c :: r) = 0 := by rw [spB, if_neg (by rw [hc]; decide)]
      simp only [e]
      exact hc
    · have e : spB f (c :: r) = spB f r + 1 := by rw [spB, if_pos hc]
      simp only [e]
      rw [e, List.length_cons] at h
      exact spB_stop f r (by omega)
theorem spB_pre (f : UInt8 → Bool) : ∀ (l : List UInt8) (j : Nat) (h : j < l.length), j < spB f l → f l[j] = true
  | [], j, h, _ => by simp at h
  | c :: r, j, h, h' => by
    cases hc : f c
    · have e : spB f (c :: r) = 0 := by rw [spB, if_neg (by rw [hc]; decide)]
      omega
    · have e : spB f (c :: r) = spB f r + 1 := by rw [spB, if_pos hc]
      cases j with
      | zero => exact hc
      | succ j =>
        rw [List.getElem_cons_succ]
        exact spB_pre f r j _ (by omega)
theorem spB_eq (f : UInt8 → Bool) (l : List UInt8) (k : Nat) (hk : k ≤ l.length) (h1 : ∀ j (h : j < l.length), j < k → f l[j] = true) (h2 : ∀ h : k < l.length, f l[k] = false) : spB f l = k := by
  have hle := spB_le f l
  rcases Nat.lt_trichotomy (spB f l) k with h | h | h
  · have a := spB_stop f l (by omega)
    rw [h1 _ (by omega) h] at a
    cases a
  · exact h
  · have a := spB_pre f l k (by omega) h
    rw [h2 (by omega)] at a
    cases a
theorem colon_some : ∀ {t : List UInt8} {k : Nat}, colonAt t = some k → ∃ h : k < t.length, t[k] = 58 ∧ ∀ j (h' : j < t.length), j < k → t[j] ≠ 58
  | [], k, h => by cases h
  | c :: r, k, h => by
    rw [colonAt] at h
    by_cases hc : c = 58
    · rw [if_pos hc] at h
      cases h
      exact ⟨by simp, hc, fun j _ h => absurd h (by omega)⟩
    · rw [if_neg hc] at h
      cases hr : colonAt r with
      | none => rw [hr] at h; cases h
      | some q =>
        rw [hr] at h
        obtain rfl : q + 1 = k := by simpa using h
        obtain ⟨h1, h2, h3⟩ := colon_some hr
        refine ⟨by simp; omega, by simpa using h2, fun j hj hjk => ?_⟩
        cases j with
        | zero => exact hc
        | succ j => exact h3 j (by simpa using hj) (by omega)
theorem colon_none : ∀ {t : List UInt8}, colonAt t = none → ∀ j (h' : j < t.length), t[j] ≠ 58
  | [], _, j, h => by simp at h
  | c :: r, h, j, hj => by
    rw [colonAt] at h
    by_cases hc : c = 58
    · rw [if_pos hc] at h; cases h
    · rw [if_neg hc] at h
      cases j with
      | zero => exact hc
      | succ j => exact colon_none (by simpa using h) j (by simpa using hj)
theorem tgD_none {t : List UInt8} (h : colonAt t = none) : ∃ p, tgD t = some p := by
  unfold tgD
  by_cases h1 : spB lbB t < t.length
  · refine ⟨_, if_pos ⟨h1, ?_⟩⟩
    rw [List.getElem?_eq_getElem h1]
    intro e
    exact colon_none h _ h1 (by simpa using e)
  · have := spB_le lbB t
    refine ⟨spB lbB t, ?_⟩
    rw [if_neg (fun h => h1 h.1), if_pos (.inl (by omega))]
theorem lb_colon : lbB 58 = false := by decide
theorem spB_colon {t : List UInt8} {k : Nat} (h : colonAt t = some k) : spB lbB (t.take k) = spB lbB t ∧ spB lbB t ≤ k := by
  obtain ⟨hk, h1, h2⟩ := colon_some h
  have hle : spB lbB t ≤ k := by
    rcases Nat.lt_or_ge k (spB lbB t) with h' | h'
    · have := spB_pre lbB t k hk h'
      rw [h1, lb_colon] at this
      cases this
    · exact h'
  refine ⟨spB_eq lbB _ _ (by rw [List.length_take]; omega) (fun j hj h' => ?_) (fun hh => ?_), hle⟩
  · rw [List.getElem_take]
    exact spB_pre lbB t j _ h'
  · rw [List.getElem_take]
    rw [List.length_take] at hh
    exact spB_stop lbB t (by omega)
/-- What is wrong, where there is a colon. -/
theorem tgD_some {t : List UInt8} {k : Nat} (h : colonAt t = some k) : tagged t k = match tgD t with
    | none => (0, 0)
    | some p => (83, p) := by
  obtain ⟨hk, h1, h2⟩ := colon_some h
  obtain ⟨h3, h4⟩ := spB_colon h
  unfold tagged tgD
  rw [h3]
  rcases Nat.lt_or_ge (spB lbB t) k with hlt | hge
  · rw [if_pos (.inl hlt), if_pos ⟨by omega, by rw [List.getElem?_eq_getElem (by omega)]; intro e; exact h2 _ (by omega) hlt (by simpa using e)⟩]
  · have e : spB lbB t = k := by omega
    have n1 : ¬ (k < t.length ∧ ¬ t[k]? = some 58) := fun h => h.2 (by rw [List.getElem?_eq_getElem hk, h1])
    rw [e, if_neg n1]
    by_cases ha : k = 0 ∨ t[k - 1]? = some 45
    · rw [if_pos (.inr ha), if_pos (.inr ha)]
    · have n2 : ¬ (k < k ∨ k = 0 ∨ t[k - 1]? = some 45) := fun h => h.elim (by omega) ha
      have n3 : ¬ (k = t.length ∨ k = 0 ∨ t[k - 1]? = some 45) := fun h => h.elim (by omega) ha
      rw [if_neg n2, if_neg n3]
      have hl := spB_le plB (t.drop (k + 1))
      rw [List.length_drop] at hl
      by_cases hb : k + 1 + spB plB (t.drop (k + 1)) < t.length
      · rw [if_pos (.inl hb), if_pos hb]
      · rw [if_neg hb]
        by_cases hz : k + 1 = t.length
        · have e0 : spB plB (t.drop (k + 1)) = 0 := by omega
          rw [if_pos (.inr e0), if_pos hz, e0, Nat.add_zero, hz]
        · have n4 : ¬ (k + 1 + spB plB (t.drop (k + 1)) < t.length ∨ spB plB (t.drop (k + 1)) = 0) := by omega
          rw [if_neg n4, if_neg hz]

/-- The document's Check. -/
def ckD (h : Ho) (wide : Bool) : Nat :=
  if h.k < 1 ∨ 4 < h.k then 2
  else if (h.k = 2 ∨ h.k = 3) ∧ ¬ h.n = [] then 2
  else if (h.k = 1 ∨ h.k = 4) ∧ ¬ h.a = z16 then 2
  else if h.k = 2 ∧ ¬ h.a.drop 4 = List.replicate 12 0 then 2
  else if h.k = 1 then (wd wide h.n).1
  else if h.k = 4 ∧ 253 < h.n.length then 82
  else if h.k = 4 ∧ (¬ tgD h.n = none ∨ sixB h.n = true) then 83
  else 0
theorem ckD_is (h : Ho) (hl : h.a.length = 16) (wide : Bool) : ckD h wide = check h wide := by
  unfold ckD check
  by_cases k1 : h.k = 1
  · have a1 : ¬ (h.k < 1 ∨ 4 < h.k) := by omega
    have a2 : ¬ ((h.k = 2 ∨ h.k = 3) ∧ ¬ h.n = []) := by omega
    have a4 : ¬ (h.k = 2 ∧ ¬ h.a.drop 4 = List.replicate 12 0) := by omega
    rw [if_neg a1, if_neg a2, if_neg a4]
    simp only [if_pos k1]
    by_cases ha : h.a = z16
    · rw [if_neg (fun h => h.2 ha), if_pos ha]
    · rw [if_pos ⟨.inl k1, ha⟩, if_neg ha]
  simp only [if_neg k1]
  by_cases k2 : h.k = 2
  · have a1 : ¬ (h.k < 1 ∨ 4 < h.k) := by omega
    have a3 : ¬ ((h.k = 1 ∨ h.k = 4) ∧ ¬ h.a = z16) := by omega
    have a5 : ¬ (h.k = 4 ∧ 253 < h.n.length) := by omega
    have a6 : ¬ (h.k = 4 ∧ (¬ tgD h.n = none ∨ sixB h.n = true)) := by omega
    rw [if_neg a1, if_neg a3, if_neg a5, if_neg a6, if_pos k2]
    by_cases hn : h.n = []
    · rw [if_neg (fun h => h.2 hn)]
      by_cases hd : h.a.drop 4 = List.replicate 12 0
      · rw [if_neg (fun h => h.2 hd), if_pos]
        obtain ⟨k, n, a⟩ := h
        dsimp only at k2 hn hd ⊢
        unfold fourH
        rw [k2, hn, ← hd, List.take_append_drop]
      · rw [if_pos ⟨k2, hd⟩, if_neg]
        intro e
        have : h.a = h.a.take 4 ++ List.replicate 12 0 := congrArg Ho.a e
        have e2 := congrArg (List.drop 4) this
        have hd4 : (h.a.take 4).drop 4 = [] := List.drop_eq_nil_of_le (by rw [List.length_take]; omega)
        rw [List.drop_append_of_le_length (by rw [List.length_take]; omega), hd4, List.nil_append] at e2
        exact hd e2
    · rw [if_pos ⟨.inl k2, hn⟩, if_neg]
      intro e
      exact hn (congrArg Ho.n e)
  simp only [if_neg k2]
  by_cases k3 : h.k = 3
  · have a1 : ¬ (h.k < 1 ∨ 4 < h.k) := by omega
    have a3 : ¬ ((h.k = 1 ∨ h.k = 4) ∧ ¬ h.a = z16) := by omega
    have a4 : ¬ (h.k = 2 ∧ ¬ h.a.drop 4 = List.replicate 12 0) := by omega
    have a5 : ¬ (h.k = 4 ∧ 253 < h.n.length) := by omega
    have a6 : ¬ (h.k = 4 ∧ (¬ tgD h.n = none ∨ sixB h.n = true)) := by omega
    rw [if_neg a1, if_neg a3, if_neg a4, if_neg a5, if_neg a6, if_pos k3]
    by_cases hn : h.n = []
    · rw [if_neg (fun h => h.2 hn), if_pos hn]
    · rw [if_pos ⟨.inr k3, hn⟩, if_neg hn]
  simp only [if_neg k3]
  by_cases k4 : h.k = 4
  · have a1 : ¬ (h.k < 1 ∨ 4 < h.k) := by omega
    have a2 : ¬ ((h.k = 2 ∨ h.k = 3) ∧ ¬ h.n = []) := by omega
    have a4 : ¬ (h.k = 2 ∧ ¬ h.a.drop 4 = List.replicate 12 0) := by omega
    rw [if_neg a1, if_neg a2, if_neg a4, if_pos k4]
    by_cases ha : h.a = z16
    · rw [if_neg (fun h => h.2 ha), if_pos ha]
      unfold chTag
      by_cases hz : 253 < h.n.length
      · rw [if_pos ⟨k4, hz⟩, if_pos hz]
      · rw [if_neg (fun h => hz h.2), if_neg hz]
        cases hc : colonAt h.n with
        | none =>
          obtain ⟨p, hp⟩ := tgD_none hc
          rw [if_pos ⟨k4, .inl (by rw [hp]; simp)⟩]
        | some k =>
          dsimp only
          rw [tgD_some hc]
          cases ht : tgD h.n with
          | none =>
            cases h6 : sixB h.n
            · rw [if_neg (fun h => h.2.elim (fun h => h rfl) (fun h => by cases h))]
              rfl
            · rw [if_pos ⟨k4, .inr rfl⟩]
              rfl
          | some p =>
            rw [if_pos ⟨k4, .inl (by simp)⟩]
            cases sixB h.n <;> rfl
    · rw [if_pos ⟨.inr k4, ha⟩, if_neg ha]
  have a1 : h.k < 1 ∨ 4 < h.k := by omega
  rw [if_pos a1, if_neg k4]
end Go.Proofs.YtnlgbopdbihnjaaGreatDoor
