/-
  The plain mathematics of counting marked places by stretches: no Go in sight.
-/
namespace Go.Proofs.YtnlgbopdbihnjaaGreatDoor

/-- The lowest bit of a number. -/
def lowb (k : Nat) : Nat := if k = 0 then 0 else if k % 2 = 1 then 1 else 2 * lowb (k / 2)
termination_by k
decreasing_by omega
theorem lowb_zero : lowb 0 = 0 := by rw [lowb]; simp
theorem lowb_odd {k : Nat} (h : k % 2 = 1) : lowb k = 1 := by rw [lowb, if_neg (by omega), if_pos h]
theorem lowb_even {k : Nat} (h : k % 2 = 0) : lowb k = 2 * lowb (k / 2) := by
  by_cases h0 : k = 0
  · subst h0; simp [lowb_zero]
  · rw [lowb, if_neg h0, if_neg (by omega)]
theorem lowb_pos {k : Nat} (h : 0 < k) : 0 < lowb k := by
  induction k using Nat.strongRecOn with
  | _ k ih =>
    by_cases h1 : k % 2 = 1
    · rw [lowb_odd h1]; omega
    · rw [lowb_even (by omega)]
      have := ih (k / 2) (by omega) (by omega)
      omega
theorem lowb_le (k : Nat) : lowb k ≤ k := by
  induction k using Nat.strongRecOn with
  | _ k ih =>
    by_cases h0 : k = 0
    · subst h0; rw [lowb_zero]; omega
    by_cases h1 : k % 2 = 1
    · rw [lowb_odd h1]; omega
    · rw [lowb_even (by omega)]
      have := ih (k / 2) (by omega)
      omega
theorem lowb_add (c : Nat) : ∀ d, 0 < d → d < lowb c → lowb (c + d) = lowb d := by
  induction c using Nat.strongRecOn with
  | _ c ih =>
    intro d h0 h1
    by_cases hc0 : c = 0
    · subst hc0; rw [Nat.zero_add]
    by_cases hc : c % 2 = 1
    · rw [lowb_odd hc] at h1; omega
    · rw [lowb_even (by omega)] at h1
      by_cases hd : d % 2 = 1
      · rw [lowb_odd hd, lowb_odd (by omega)]
      · rw [lowb_even (k := d) (by omega), lowb_even (k := c + d) (by omega), show (c + d) / 2 = c / 2 + d / 2 from by omega, ih (c / 2) (by omega) (d / 2) (by omega) (by omega)]
theorem lowb_next {c : Nat} (h : 0 < c) : 2 * lowb c ≤ lowb (c + lowb c) := by
  induction c using Nat.strongRecOn with
  | _ c ih =>
    by_cases hc : c % 2 = 1
    · rw [lowb_odd hc, lowb_even (by omega)]
      have := lowb_pos (k := (c + 1) / 2) (by omega)
      omega
    · have e := lowb_even (k := c) (by omega)
      have := ih (c / 2) (by omega) (by omega)
      have e2 := lowb_even (k := c + lowb c) (by omega)
      rw [show (c + lowb c) / 2 = c / 2 + lowb (c / 2) from by omega] at e2
      omega
theorem lowb_pow (a : Nat) : ∀ n, 2 ^ (a + 1) ∣ n → lowb (n + 2 ^ a) = 2 ^ a := by
  induction a with
  | zero =>
    intro n h
    obtain ⟨q, rfl⟩ := h
    exact lowb_odd (by omega)
  | succ a ih =>
    intro n h
    obtain ⟨q, rfl⟩ := h
    have e1 : (2 : Nat) ^ (a + 1 + 1) = 2 * 2 ^ (a + 1) := by rw [Nat.pow_succ]; omega
    have e2 : (2 : Nat) ^ (a + 1) = 2 * 2 ^ a := by rw [Nat.pow_succ]; omega
    have e3 : 2 ^ (a + 1 + 1) * q + 2 ^ (a + 1) = 2 * (2 ^ (a + 1) * q + 2 ^ a) := by rw [e1, Nat.mul_assoc]; omega
    rw [e3, lowb_even (by omega), show 2 * (2 ^ (a + 1) * q + 2 ^ a) / 2 = 2 ^ (a + 1) * q + 2 ^ a from by omega, ih _ ⟨q, rfl⟩, e2]

/-- How many are marked ahead of a place. -/
def pre (f : Nat → Int) : Nat → Int
  | 0 => 0
  | n + 1 => pre f n + f n
def put1 (f : Nat → Int) (at' : Nat) (by' : Int) : Nat → Int := fun j => if j = at' then f j + by' else f j
theorem pre_put (f : Nat → Int) (at' : Nat) (by' : Int) (n : Nat) : pre (put1 f at' by') n = pre f n + (if at' < n then by' else 0) := by
  induction n with
  | zero => simp [pre]
  | succ n ih =>
    simp only [pre, ih, put1]
    by_cases h : n = at'
    · subst h
      simp; omega
    · rw [if_neg h]
      by_cases h2 : at' < n
      · rw [if_pos h2, if_pos (by omega)]; omega
      · rw [if_neg h2, if_neg (by omega)]; omega
/-- What the entry at k counts. -/
def ent (f : Nat → Int) (k : Nat) : Int := pre f k - pre f (k - lowb k)
theorem ent_cover (f : Nat → Int) (at' : Nat) (by' : Int) (k : Nat) (h1 : k - lowb k ≤ at') (h2 : at' < k) : ent (put1 f at' by') k = ent f k + by' := by
  simp only [ent, pre_put]
  rw [if_pos h2, if_neg (by omega)]; omega
theorem ent_other (f : Nat → Int) (at' : Nat) (by' : Int) (k : Nat) (h : k ≤ at' ∨ at' < k - lowb k) : ent (put1 f at' by') k = ent f k := by
  simp only [ent, pre_put]
  have := lowb_le k
  rcases h with h | h
  · rw [if_neg (by omega), if_neg (by omega)]; omega
  · rw [if_pos (by omega), if_pos (by omega)]; omega
theorem cover_start (j : Nat) : (j + 1) - lowb (j + 1) ≤ j ∧ j < j + 1 := by
  have := lowb_pos (k := j + 1) (by omega)
  omega
theorem cover_next {c j : Nat} (h1 : c - lowb c ≤ j) (h2 : j < c) : (c + lowb c) - lowb (c + lowb c) ≤ j ∧ j < c + lowb c := by
  have := lowb_next (c := c) (by omega)
  omega
theorem cover_between {c k j : Nat} (h2 : j < c) (h3 : c < k) (h4 : k < c + lowb c) : j < k - lowb k := by
  have := lowb_add c (k - c) (by omega) (by omega)
  rw [show c + (k - c) = k from by omega] at this
  have := lowb_le (k - c)
  omega

theorem pre_mono (f : Nat → Int) (h : ∀ j, 0 ≤ f j) {a b : Nat} (hab : a ≤ b) : pre f a ≤ pre f b := by
  induction b with
  | zero => rw [show a = 0 from by omega]; exact Int.le_refl _
  | succ b ih =>
    by_cases e : a = b + 1
    · rw [e]; exact Int.le_refl _
    · have := ih (by omega)
      have := h b
      simp only [pre]; omega
theorem pre_le (f : Nat → Int) (h : ∀ j, f j ≤ 1) (n : Nat) : pre f n ≤ n := by
  induction n with
  | zero => simp [pre]
  | succ n ih => have := h n; simp only [pre]; omega
theorem pre_ext (f g : Nat → Int) (n : Nat) (h : ∀ j, j < n → f j = g j) : pre f n = pre g n := by
  induction n with
  | zero => rfl
  | succ n ih => simp only [pre]; rw [ih (fun j hj => h j (by omega)), h n (by omega)]
theorem pre_one (n : Nat) : pre (fun _ => 1) n = n := by
  induction n with
  | zero => rfl
  | succ n ih => simp only [pre, ih]; omega
theorem pre_zero (n : Nat) : pre (fun _ => 0) n = 0 := by
  induction n with
  | zero => rfl
  | succ n ih => simp only [pre, ih]; omega
theorem ent_one (k : Nat) : ent (fun _ => 1) k = lowb k := by
  have := lowb_le k
  simp only [ent, pre_one]; omega
theorem ent_zero (k : Nat) : ent (fun _ => 0) k = 0 := by simp [ent, pre_zero]
theorem ent_range (f : Nat → Int) (h0 : ∀ j, 0 ≤ f j) (h1 : ∀ j, f j ≤ 1) (k : Nat) : 0 ≤ ent f k ∧ ent f k ≤ k := by
  have a := pre_mono f h0 (a := k - lowb k) (b := k) (by omega)
  have b := pre_le f h1 k
  have c := pre_mono f h0 (a := 0) (b := k - lowb k) (by omega)
  simp only [pre] at c
  simp only [ent]; omega

/-- The search goes down by halves. -/
def FindAt (f : Nat → Int) (N : Nat) (n0 : Int) (at' w : Nat) : Prop :=
  at' ≤ N ∧ pre f at' ≤ n0 ∧ ((w = 0 ∧ (N < at' + 1 ∨ n0 < pre f (at' + 1))) ∨ (∃ a, w = 2 ^ a ∧ 2 ^ (a + 1) ∣ at' ∧ (N < at' + 2 ^ (a + 1) ∨ n0 < pre f (at' + 2 ^ (a + 1)))))
theorem find_entry {f : Nat → Int} {N : Nat} {n0 : Int} {at' w : Nat} (h : FindAt f N n0 at' w) (hw : 0 < w) : ent f (at' + w) = pre f (at' + w) - pre f at' := by
  obtain ⟨_, _, ⟨h, _⟩ | ⟨a, rfl, hd, _⟩⟩ := h
  · omega
  · simp only [ent]
    rw [lowb_pow a at' hd, Nat.add_sub_cancel]
theorem find_go {f : Nat → Int} {N : Nat} {n0 : Int} {at' w : Nat} (h : FindAt f N n0 at' w) (hw : 0 < w) (hN : at' + w ≤ N) (hp : pre f (at' + w) ≤ n0) : FindAt f N n0 (at' + w) (w / 2) := by
  obtain ⟨_, _, ⟨h, _⟩ | ⟨a, rfl, hd, hl⟩⟩ := h
  · omega
  · have e : (2 : Nat) ^ (a + 1) = 2 * 2 ^ a := by rw [Nat.pow_succ]; omega
    refine ⟨hN, hp, ?_⟩
    cases a with
    | zero =>
      left
      refine ⟨by simp, ?_⟩
      simpa using hl
    | succ a =>
      right
      have e2 : (2 : Nat) ^ (a + 1) = 2 * 2 ^ a := by rw [Nat.pow_succ]; omega
      refine ⟨a, by omega, ?_, ?_⟩
      · exact Nat.dvd_add (Nat.dvd_trans (Nat.pow_dvd_pow 2 (by omega)) hd) (Nat.dvd_refl _)
      · rw [show at' + 2 ^ (a + 1) + 2 ^ (a + 1) = at' + 2 ^ (a + 1 + 1) from by omega]; exact hl
theorem find_stay {f : Nat → Int} {N : Nat} {n0 : Int} {at' w : Nat} (h : FindAt f N n0 at' w) (hw : 0 < w) (hp : N < at' + w ∨ n0 < pre f (at' + w)) : FindAt f N n0 at' (w / 2) := by
  obtain ⟨h1, h2, ⟨h, _⟩ | ⟨a, rfl, hd, hl⟩⟩ := h
  · omega
  · refine ⟨h1, h2, ?_⟩
    cases a with
    | zero => left; exact ⟨by simp, by simpa using hp⟩
    | succ a =>
      right
      have e2 : (2 : Nat) ^ (a + 1) = 2 * 2 ^ a := by rw [Nat.pow_succ]; omega
      exact ⟨a, by omega, Nat.dvd_trans (Nat.pow_dvd_pow 2 (by omega)) hd, hp⟩
theorem find_end {f : Nat → Int} {N : Nat} {n0 : Int} {at' : Nat} (h : FindAt f N n0 at' 0) (h1 : ∀ j, f j ≤ 1) (h0 : ∀ j, 0 ≤ f j) (hn : n0 < pre f N) : at' < N ∧ f at' = 1 ∧ pre f at' = n0 := by
  obtain ⟨g1, g2, ⟨_, g3⟩ | ⟨a, g, _⟩⟩ := h
  · have : at' < N := by
      by_cases e : at' = N
      · subst e; omega
      · omega
    have g4 : n0 < pre f (at' + 1) := by
      rcases g3 with g3 | g3
      · omega
      · exact g3
    simp only [pre] at g4
    have a1 := h1 at'
    have a0 := h0 at'
    exact ⟨this, by omega, by omega⟩
  · have : 0 < 2 ^ a := Nat.two_pow_pos a
    omega

/-- Places of which some are taken, the others filled from a list, in order. -/
def fill : List (Option Int) → List Int → List Int
  | [], _ => []
  | some r :: t, l => r :: fill t l
  | none :: t, x :: l => x :: fill t l
  | none :: t, [] => 0 :: fill t []
/-- Is a place free? -/
def free (s : List (Option Int)) (j : Nat) : Int := if s[j]? = some none then 1 else 0
theorem free_cons (o : Option Int) (s : List (Option Int)) (n : Nat) : pre (free (o :: s)) (n + 1) = (if o = none then 1 else 0) + pre (free s) n := by
  induction n with
  | zero => simp [pre, free]
  | succ n ih =>
    rw [pre, ih, pre]
    have : free (o :: s) (n + 1) = free s n := by simp [free]
    omega
theorem fill_insert (s : List (Option Int)) : ∀ (l : List Int) (p at' : Nat) (r : Int), p ≤ l.length → s[at']? = some none → pre (free s) at' = p → fill s (l.insertIdx p r) = fill (s.set at' (some r)) l := by
  induction s with
  | nil => intro l p at' r _ h _; simp at h
  | cons o s ih =>
    intro l p at' r hp h1 h2
    cases at' with
    | zero =>
      simp at h1
      subst h1
      simp only [pre] at h2
      have : p = 0 := by omega
      subst this
      simp [fill, List.insertIdx_zero]
    | succ at' =>
      rw [free_cons] at h2
      simp at h1
      cases o with
      | none =>
        simp at h2
        obtain ⟨p, rfl⟩ : ∃ q, p = q + 1 := ⟨p - 1, by
          have := pre_mono (free s) (fun j => by unfold free; split <;> omega) (a := 0) (b := at') (by omega)
          simp only [pre] at this
          omega⟩
        cases l with
        | nil => simp at hp
        | cons x l =>
          simp only [List.insertIdx_succ_cons, List.set_cons_succ, fill]
          rw [ih l p at' r (by simpa using hp) h1 (by omega)]
      | some y =>
        simp at h2
        simp only [List.set_cons_succ]
        cases hl : l.insertIdx p r with
        | nil =>
          have := congrArg List.length hl
          rw [List.length_insertIdx_of_le_length hp] at this
          simp at this
        | cons z zs =>
          simp only [fill]
          rw [← hl, ih l p at' r hp h1 (by omega)]
theorem free_set (s : List (Option Int)) (at' : Nat) (r : Int) (h : s[at']? = some none) : ∀ j, free (s.set at' (some r)) j = put1 (free s) at' (-1) j := by
  intro j
  unfold free put1
  by_cases e : j = at'
  · subst e
    have hlt := (List.getElem?_eq_some_iff.1 h).1
    rw [if_pos rfl, List.getElem?_set_self hlt, if_neg (by simp)]
    show 0 = (if s[j]? = some none then (1 : Int) else 0) + -1
    rw [h, if_pos rfl]
    omega
  · rw [if_neg e, List.getElem?_set_ne (Ne.symm e)]
theorem free_none (n j : Nat) (h : j < n) : free (List.replicate n none) j = 1 := by
  unfold free
  rw [List.getElem?_replicate, if_pos h, if_pos rfl]
theorem fill_none (l : List Int) : fill (List.replicate l.length none) l = l := by
  induction l with
  | nil => rfl
  | cons x l ih => simp only [List.length_cons, List.replicate_succ, fill, ih]
end Go.Proofs.YtnlgbopdbihnjaaGreatDoor
