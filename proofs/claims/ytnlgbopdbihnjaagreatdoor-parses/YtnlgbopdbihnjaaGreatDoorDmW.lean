/-
  Well-formed bytes, their labels and their small letters: plain mathematics.
-/
import Derived.Test.YtnlgbopdbihnjaaGreatDoorUtfE
namespace Go.Proofs.YtnlgbopdbihnjaaGreatDoor

/-- All that may be due. -/
def qs8 : List Q := [(0, 0, 0), (1, 128, 191), (2, 160, 191), (2, 128, 191), (2, 128, 159), (3, 144, 191), (3, 128, 191), (3, 128, 143)]
theorem begQ_mem {b : Nat} {q : Q} (h : begQ b = some q) : q ∈ qs8 := by
  unfold begQ at h
  repeat' (split at h)
  all_goals (first | (injection h with h; subst h; decide) | cases h)
theorem stepQ_mem {q q' : Q} {b : Nat} (hq : q ∈ qs8) (h : stepQ q b = some q') : q' ∈ qs8 := by
  have h3 : q.1 ≤ 3 := by
    have : ∀ q ∈ qs8, q.1 ≤ 3 := by decide
    exact this q hq
  unfold stepQ at h
  split at h
  · exact begQ_mem h
  · rename_i h0
    split at h
    · cases h
    · split at h
      · injection h with h; subst h; decide
      · rename_i h1
        injection h with h
        subst h
        have : q.1 = 2 ∨ q.1 = 3 := by omega
        rcases this with e | e
        · rw [e]; decide
        · rw [e]; decide
theorem runQ_mem : ∀ (l : List UInt8) (q q' : Q), q ∈ qs8 → runQ q l = some q' → q' ∈ qs8
  | [], q, q', hq, h => by
    simp only [runQ] at h
    injection h with h
    rw [← h]
    exact hq
  | b :: t, q, q', hq, h => by
    simp only [runQ, Option.bind_eq_some_iff] at h
    obtain ⟨q1, h1, h2⟩ := h
    exact runQ_mem t q1 q' (stepQ_mem hq h1) h2

theorem badUA_whole : ∀ (l : List UInt8) (q : Q) (n w : Nat), l ≠ [] → w ≤ n → (badUA q n w l = n + l.length ↔ ∃ q', runQ q l = some q' ∧ q'.1 = 0)
  | [], _, _, _, h, _ => absurd rfl h
  | b :: t, q, n, w, _, hw => by
    simp only [badUA, runQ]
    cases hs : stepQ q b.toNat with
    | none =>
      simp only [Option.bind_none, List.length_cons]
      constructor
      · intro h; omega
      · intro ⟨q', h, _⟩; cases h
    | some q1 =>
      simp only [Option.bind_some, List.length_cons]
      cases t with
      | nil =>
        simp only [badUA, runQ, List.length_nil]
        constructor
        · intro h
          refine ⟨q1, rfl, ?_⟩
          by_cases h0 : q1.1 = 0
          · exact h0
          · rw [if_neg h0] at h; omega
        · intro ⟨q', h, h0⟩
          injection h with h
          subst h
          rw [if_pos h0]
      | cons c t =>
        have := badUA_whole (c :: t) q1 (n + 1) (if q1.1 = 0 then n + 1 else w) (by simp) (by split <;> omega)
        rw [← this]
        constructor <;> intro h <;> omega
/-- Bytes are well-formed where the machine ends whole. -/
theorem badU_whole (l : List UInt8) : badU l = l.length ↔ ∃ q', runQ q0 l = some q' ∧ q'.1 = 0 := by
  cases l with
  | nil => exact ⟨fun _ => ⟨q0, rfl, rfl⟩, fun _ => rfl⟩
  | cons b t =>
    have := badUA_whole (b :: t) q0 0 0 (by simp) (Nat.le_refl _)
    rw [Nat.zero_add] at this
    exact this
/-- Behind the well-formed beginning no rune stands, and the machine is where it was. -/
theorem bad_rest (l : List UInt8) : oneN (l.drop (badU l)) = none ∧ runQ q0 l = runQ q0 (l.drop (badU l)) := by
  generalize hk : l.length = k
  induction k using Nat.strongRecOn generalizing l with
  | _ k ih =>
    cases h : oneN l with
    | none =>
      rw [badU_none h, List.drop_zero]
      exact ⟨h, rfl⟩
    | some p =>
      obtain ⟨r, n⟩ := p
      obtain ⟨h1, h2, h3, h4⟩ := oneN_run l r n h
      have := ih (l.drop n).length (by rw [List.length_drop]; omega) (l.drop n) rfl
      rw [badU_some h, ← List.drop_drop, h4]
      exact this
theorem runQ_append : ∀ (x y : List UInt8) (q : Q), runQ q (x ++ y) = (runQ q x).bind fun q' => runQ q' y
  | [], y, q => rfl
  | b :: x, y, q => by
    rw [List.cons_append, runQ, runQ]
    cases stepQ q b.toNat with
    | none => rfl
    | some q' => exact runQ_append x y q'
theorem qs8_zero : ∀ q ∈ qs8, q.1 = 0 → q = q0 := by decide
theorem qs8_dot : ∀ q ∈ qs8, (stepQ q 46).isSome = true → q = q0 := by decide
/-- Well-formed. -/
def Wf (l : List UInt8) : Prop := badU l = l.length
theorem wf_iff (l : List UInt8) : Wf l ↔ runQ q0 l = some q0 := by
  unfold Wf
  rw [badU_whole]
  constructor
  · rintro ⟨q, h, h0⟩
    rw [h, qs8_zero q (runQ_mem l q0 q (by decide) h) h0]
  · intro h
    exact ⟨q0, h, rfl⟩
theorem wf_dot {x y : List UInt8} (h : Wf (x ++ 46 :: y)) : Wf x ∧ Wf y := by
  rw [wf_iff] at *
  rw [wf_iff]
  rw [runQ_append] at h
  cases h1 : runQ q0 x with
  | none => rw [h1] at h; cases h
  | some q =>
    rw [h1] at h
    have h2 : runQ q (46 :: y) = some q0 := h
    rw [runQ] at h2
    have hq := runQ_mem x q0 q (by decide) h1
    have e46 : (46 : UInt8).toNat = 46 := rfl
    rw [e46] at h2
    cases h3 : stepQ q 46 with
    | none => rw [h3] at h2; cases h2
    | some q' =>
      have := qs8_dot q hq (by rw [h3]; rfl)
      subst this
      have e : stepQ q0 46 = some q0 := by decide
      rw [e] at h2
      exact ⟨rfl, h2⟩
theorem smB_low {c : UInt8} (h : c.toNat < 128) : (smB c).toNat < 128 := by
  unfold smB
  split
  · rw [UInt8.toNat_ofNat_of_lt' (show c.toNat + 32 < 256 by omega)]
    omega
  · exact h
theorem smB_high {c : UInt8} (h : ¬ c.toNat < 128) : smB c = c := by
  unfold smB
  rw [if_neg (by omega)]
theorem qs8_low : ∀ q ∈ qs8, q.1 ≠ 0 → 128 ≤ q.2.1 := by decide
theorem stepQ_sml {q : Q} (hq : q ∈ qs8) (c : UInt8) : stepQ q (smB c).toNat = stepQ q c.toNat := by
  by_cases hc : c.toNat < 128
  · have hs := smB_low hc
    by_cases h0 : q.1 = 0
    · unfold stepQ
      rw [if_pos h0, if_pos h0, begQ_one hs, begQ_one hc]
    · have := qs8_low q hq h0
      unfold stepQ
      rw [if_neg h0, if_neg h0, if_pos (by omega), if_pos (by omega)]
  · rw [smB_high hc]
theorem runQ_sml : ∀ (l : List UInt8) (q : Q), q ∈ qs8 → runQ q (sml l) = runQ q l
  | [], _, _ => rfl
  | c :: r, q, hq => by
    show (stepQ q (smB c).toNat).bind _ = (stepQ q c.toNat).bind _
    rw [stepQ_sml hq]
    cases h : stepQ q c.toNat with
    | none => rfl
    | some q' => exact runQ_sml r q' (stepQ_mem hq h)
theorem wf_sml (l : List UInt8) : Wf (sml l) ↔ Wf l := by
  rw [wf_iff, wf_iff, runQ_sml l q0 (by decide)]

theorem splitD_none : ∀ x : List UInt8, (∀ c ∈ x, c ≠ 46) → splitD x = [x]
  | [], _ => rfl
  | c :: r, h => by
    rw [splitD, if_neg (h c (by simp)), splitD_none r fun x hx => h x (by simp [hx])]
theorem splitD_dot : ∀ (x y : List UInt8), (∀ c ∈ x, c ≠ 46) → splitD (x ++ 46 :: y) = x :: splitD y
  | [], y, _ => by rw [List.nil_append, splitD, if_pos rfl]
  | c :: r, y, h => by
    rw [List.cons_append, splitD, if_neg (h c (by simp)), splitD_dot r y fun x hx => h x (by simp [hx])]
theorem split_cases : ∀ s : List UInt8, (∀ c ∈ s, c ≠ 46) ∨ ∃ x y, (∀ c ∈ x, c ≠ 46) ∧ s = x ++ 46 :: y
  | [] => Or.inl fun c hc => by cases hc
  | c :: r => by
    by_cases hc : c = 46
    · exact Or.inr ⟨[], r, fun c hc => (by cases hc), by rw [hc]; rfl⟩
    · rcases split_cases r with h | ⟨x, y, h, e⟩
      · refine Or.inl fun d hd => ?_
        rcases List.mem_cons.1 hd with rfl | hd
        · exact hc
        · exact h d hd
      · refine Or.inr ⟨c :: x, y, fun d hd => ?_, by rw [e]; rfl⟩
        rcases List.mem_cons.1 hd with rfl | hd
        · exact hc
        · exact h d hd
theorem splitD_wf (s : List UInt8) (h : Wf s) : ∀ l ∈ splitD s, Wf l := by
  induction hn : s.length using Nat.strongRecOn generalizing s with
  | _ n ih =>
    rcases split_cases s with h0 | ⟨x, y, hx, rfl⟩
    · rw [splitD_none s h0]
      intro l hl
      rw [List.mem_singleton.1 hl]
      exact h
    · rw [splitD_dot x y hx]
      obtain ⟨h1, h2⟩ := wf_dot h
      intro l hl
      rcases List.mem_cons.1 hl with rfl | hl
      · exact h1
      · exact ih y.length (by rw [← hn]; simp; omega) y h2 rfl l hl
theorem splitD_ne : ∀ s : List UInt8, splitD s ≠ []
  | [] => by simp [splitD]
  | c :: r => by
    rw [splitD]
    split
    · simp
    · split <;> simp
theorem splitD_no46 (s : List UInt8) : ∀ l ∈ splitD s, ∀ c ∈ l, c ≠ 46 := by
  induction hn : s.length using Nat.strongRecOn generalizing s with
  | _ n ih =>
    rcases split_cases s with h0 | ⟨x, y, hx, rfl⟩
    · rw [splitD_none s h0]
      intro l hl
      rw [List.mem_singleton.1 hl]
      exact h0
    · rw [splitD_dot x y hx]
      intro l hl
      rcases List.mem_cons.1 hl with rfl | hl
      · exact hx
      · exact ih y.length (by rw [← hn]; simp; omega) y rfl l hl
theorem splitD_join : ∀ L : List (List UInt8), L ≠ [] → (∀ l ∈ L, ∀ c ∈ l, c ≠ 46) → splitD (joinL [46] L) = L
  | [], h, _ => absurd rfl h
  | [x], _, h => splitD_none x (h x (by simp))
  | x :: y :: r, _, h => by
    rw [joinL, List.append_assoc, List.singleton_append, splitD_dot x _ (h x (by simp)), splitD_join (y :: r) (by simp) fun l hl => h l (by simp [hl])]
theorem smB_dot (c : UInt8) : smB c = 46 ↔ c = 46 := by
  unfold smB
  split
  · rename_i h
    constructor
    · intro e
      have := congrArg UInt8.toNat e
      rw [UInt8.toNat_ofNat_of_lt' (show c.toNat + 32 < 256 by omega)] at this
      have e2 : (46 : UInt8).toNat = 46 := rfl
      omega
    · intro e
      exfalso
      rw [e] at h
      revert h
      decide
  · exact Iff.rfl
theorem splitD_sml : ∀ s : List UInt8, splitD (sml s) = (splitD s).map sml
  | [] => rfl
  | c :: r => by
    show splitD (smB c :: sml r) = _
    rw [splitD, splitD, splitD_sml r]
    by_cases hc : c = 46
    · rw [if_pos ((smB_dot c).2 hc), if_pos hc]
      rfl
    · rw [if_neg (fun h => hc ((smB_dot c).1 h)), if_neg hc]
      cases splitD r with
      | nil => rfl
      | cons x xs => rfl

/-- What a label may be: of more than ASCII, of ASCII. -/
structure LabW (l : List UInt8) : Prop where
  ne : l ≠ []
  le : l.length ≤ 63
  ch : ∀ c ∈ l, lbB c = true ∨ 128 ≤ c.toNat
  hd : l.head? ≠ some 45
  la : l.getLast? ≠ some 45
structure LabA (l : List UInt8) : Prop where
  ne : l ≠ []
  le : l.length ≤ 63
  ch : ∀ c ∈ l, lbB c = true
  hd : l.head? ≠ some 45
  la : l.getLast? ≠ some 45
structure RestW (n : Nat) (h : Bool) (x : List UInt8) : Prop where
  ch : ∀ c ∈ x, lbB c = true ∨ 128 ≤ c.toNat
  hd : n = 0 → x.head? ≠ some 45
  le : n + x.length ≤ 63
  ne : 0 < n + x.length
  em : x = [] → h = false
  la : x.getLast? ≠ some 45
theorem RestW.lab {x : List UInt8} {h : Bool} (r : RestW 0 h x) : LabW x :=
  ⟨fun e => by have := r.ne; rw [e] at this; simp at this, by have := r.le; omega, r.ch, r.hd rfl, r.la⟩
theorem stB_is {f a n : Nat} {c : UInt8} (h : stB f a n c = true) : (lbB c = true ∨ 128 ≤ c.toNat) ∧ (n = 0 → c ≠ 45) := by
  unfold stB at h
  unfold lbB
  simp only [Bool.or_eq_true, Bool.and_eq_true, decide_eq_true_eq] at h ⊢
  refine ⟨?_, fun hn e => ?_⟩
  · rcases h with (h | h) | h
    · exact Or.inl (Or.inl h)
    · exact Or.inl (Or.inr h.1)
    · exact Or.inr h.1
  · subst hn e
    rcases h with (h | h) | h
    · revert h; decide
    · omega
    · revert h
      intro h
      have : (45 : UInt8).toNat = 45 := rfl
      omega
theorem wd_labels (f : Nat) : ∀ (s : List UInt8) (a n : Nat) (h : Bool), n ≤ 63 → wdGo f a n h s = none → ∃ x xs, splitD s = x :: xs ∧ RestW n h x ∧ ∀ l ∈ xs, LabW l
  | [], a, n, h, hn, e => by
    rw [wdGo] at e
    split at e
    · rename_i h0
      exact ⟨[], [], rfl, ⟨fun c hc => (by cases hc), fun _ => (by simp), by simpa using hn, by simpa using h0.1, fun _ => h0.2, by simp⟩, fun l hl => by cases hl⟩
    · cases e
  | c :: r, a, n, h, hn, e => by
    rw [wdGo] at e
    by_cases hc : c = 46
    · rw [if_pos hc] at e
      split at e
      · rename_i h0
        obtain ⟨x, xs, h1, h2, h3⟩ := wd_labels f r _ _ _ (by omega) e
        refine ⟨[], splitD r, by rw [splitD, if_pos hc], ⟨fun c hc => (by cases hc), fun _ => (by simp), by simpa using hn, by simpa using h0.1, fun _ => h0.2, by simp⟩, fun l hl => ?_⟩
        rw [h1] at hl
        rcases List.mem_cons.1 hl with rfl | hl
        · exact h2.lab
        · exact h3 l hl
      · cases e
    · rw [if_neg hc] at e
      split at e
      · cases e
      · rename_i h0
        have hst : stB f a n c = true := by
          cases hh : stB f a n c
          · exact absurd (Or.inr hh) h0
          · rfl
        have hn3 : n ≠ 63 := fun h => h0 (Or.inl h)
        obtain ⟨c1, c2⟩ := stB_is hst
        obtain ⟨x, xs, h1, h2, h3⟩ := wd_labels f r _ _ _ (by omega) e
        refine ⟨c :: x, xs, by rw [splitD, if_neg hc, h1], ⟨fun d hd => ?_, fun h => (by simpa using c2 h), by have := h2.le; simp; omega, by rw [List.length_cons]; omega, fun h => (by cases h), ?_⟩, h3⟩
        · rcases List.mem_cons.1 hd with rfl | hd
          · exact c1
          · exact h2.ch d hd
        · cases x with
          | nil =>
            have := h2.em rfl
            simpa using this
          | cons y z =>
            have := h2.la
            rw [List.getLast?_cons_cons]
            exact this
structure RestA (n : Nat) (h : Bool) (x : List UInt8) : Prop where
  ch : ∀ c ∈ x, lbB c = true
  hd : n = 0 → x.head? ≠ some 45
  le : n + x.length ≤ 63
  ne : 0 < n + x.length
  em : x = [] → h = false
  la : x.getLast? ≠ some 45
theorem LabA.rest {x : List UInt8} (h : LabA x) : RestA 0 false x :=
  ⟨h.ch, fun _ => h.hd, by have := h.le; omega, by
    cases x with
    | nil => exact absurd rfl h.ne
    | cons c r => simp, fun _ => rfl, h.la⟩
theorem lbB_st {f a n : Nat} {c : UInt8} (h : lbB c = true) (h0 : n = 0 → c ≠ 45) : stB f a n c = true := by
  unfold lbB at h
  unfold stB
  simp only [Bool.or_eq_true, Bool.and_eq_true, decide_eq_true_eq] at h ⊢
  rcases h with h | h
  · exact Or.inl (Or.inl h)
  · refine Or.inl (Or.inr ⟨h, ?_⟩)
    rcases Nat.eq_zero_or_pos n with h1 | h1
    · exact absurd h (h0 h1)
    · exact h1
theorem wd_of_labels (f : Nat) : ∀ (s : List UInt8) (a n : Nat) (h : Bool) (x : List UInt8) (xs : List (List UInt8)), splitD s = x :: xs → RestA n h x → (∀ l ∈ xs, LabA l) → wdGo f a n h s = none
  | [], a, n, h, x, xs, e, r, _ => by
    have : x = [] := by
      have : [[]] = x :: xs := e
      injection this with h1 h2
      exact h1.symm
    subst this
    have h1 := r.ne
    have h2 := r.em rfl
    rw [wdGo, if_pos ⟨by simpa using h1, h2⟩]
  | c :: s, a, n, h, x, xs, e, r, hx => by
    rw [splitD] at e
    rw [wdGo]
    by_cases hc : c = 46
    · rw [if_pos hc] at e ⊢
      injection e with h1 h2
      subst h1
      have hne := r.ne
      have hem := r.em rfl
      rw [if_pos ⟨by simpa using hne, hem⟩]
      cases hs : splitD s with
      | nil => exact absurd hs (splitD_ne s)
      | cons y ys =>
        rw [hs] at h2
        subst h2
        exact wd_of_labels f s _ _ _ y ys hs (hx y (by simp)).rest fun l hl => hx l (by simp [hl])
    · rw [if_neg hc] at e ⊢
      cases hs : splitD s with
      | nil => exact absurd hs (splitD_ne s)
      | cons y ys =>
        rw [hs] at e
        have e' : (c :: y) :: ys = x :: xs := e
        injection e' with h1 h2
        subst h1 h2
        have hst : stB f a n c = true := lbB_st (r.ch c (by simp)) fun h0 => by simpa using r.hd h0
        have hle := r.le
        rw [List.length_cons] at hle
        have : ¬ (n = 63 ∨ stB f a n c = false) := fun h => by
          rcases h with h | h
          · omega
          · rw [hst] at h; cases h
        rw [if_neg this]
        refine wd_of_labels f s _ _ _ y ys hs ⟨fun d hd => r.ch d (by simp [hd]), fun h => (by omega), by omega, by omega, fun h => ?_, ?_⟩ hx
        · have := r.la
          rw [h] at this
          simpa using this
        · have := r.la
          cases y with
          | nil => simp
          | cons u v =>
            rw [List.getLast?_cons_cons] at this
            exact this
theorem wdGo_high (f : Nat) : ∀ (s : List UInt8) (a n : Nat) (h : Bool), wdGo f a n h s = none → ∀ i c, s[i]? = some c → f ≤ a + i → c.toNat < 128
  | [], _, _, _, _, i, c, hi, _ => by simp at hi
  | d :: r, a, n, h, e, i, c, hi, hf => by
    rw [wdGo] at e
    have hd : (d = 46 ∨ stB f a n d = true) ∧ ∃ n' h', wdGo f (a + 1) n' h' r = none := by
      by_cases hc : d = 46
      · rw [if_pos hc] at e
        split at e
        · exact ⟨Or.inl hc, _, _, e⟩
        · cases e
      · rw [if_neg hc] at e
        split at e
        · cases e
        · rename_i h0
          refine ⟨Or.inr ?_, _, _, e⟩
          cases hh : stB f a n d
          · exact absurd (Or.inr hh) h0
          · rfl
    obtain ⟨h1, n', h', h2⟩ := hd
    cases i with
    | zero =>
      simp at hi
      subst hi
      rcases h1 with rfl | h1
      · decide
      · unfold stB ldB dgB at h1
        simp only [Bool.or_eq_true, Bool.and_eq_true, decide_eq_true_eq] at h1
        rcases h1 with (h1 | h1) | h1
        · omega
        · rw [h1.1]; decide
        · omega
    | succ i =>
      rw [List.getElem?_cons_succ] at hi
      exact wdGo_high f r (a + 1) n' h' h2 i c hi (by omega)
theorem wd_wf {s : List UInt8} (h : (wd true s).1 = 0) : Wf s := by
  obtain ⟨_, h2, _⟩ := wd_ok h
  rw [if_pos rfl] at h2
  unfold Wf
  rcases Nat.lt_or_ge (badU s) s.length with hl | hl
  · have hc := wdGo_high (badU s) s 0 0 false h2 (badU s) s[badU s] (by rw [List.getElem?_eq_getElem hl]) (by omega)
    have hb := (bad_rest s).1
    rw [List.drop_eq_getElem_cons hl] at hb
    simp only [oneN, if_pos hc] at hb
    cases hb
  · exact Nat.le_antisymm (badU_le s) hl

theorem lbB_fin : ∀ b : Fin 256, lbB (UInt8.ofNat b.val) = lbB (smB (UInt8.ofNat b.val)) ∧ smB (smB (UInt8.ofNat b.val)) = smB (UInt8.ofNat b.val) ∧ (smB (UInt8.ofNat b.val) = 45 ↔ UInt8.ofNat b.val = 45) ∧ (lbB (UInt8.ofNat b.val) = true → b.val < 128) := by decide +kernel
theorem smB_facts (c : UInt8) : lbB c = lbB (smB c) ∧ smB (smB c) = smB c ∧ (smB c = 45 ↔ c = 45) ∧ (lbB c = true → c.toNat < 128) := by
  have := lbB_fin ⟨c.toNat, c.toNat_lt⟩
  simpa using this
theorem sml_twice (l : List UInt8) : sml (sml l) = sml l := by
  unfold sml
  rw [List.map_map]
  congr 1
  funext c
  exact (smB_facts c).2.1
theorem sml_head (l : List UInt8) : (sml l).head? = some 45 ↔ l.head? = some 45 := by
  cases l with
  | nil => simp [sml]
  | cons c r => simp [sml, (smB_facts c).2.2.1]
theorem sml_last (l : List UInt8) : (sml l).getLast? = some 45 ↔ l.getLast? = some 45 := by
  unfold sml
  rw [List.getLast?_map]
  cases l.getLast? with
  | none => simp
  | some c => simp [(smB_facts c).2.2.1]
theorem LabW.sml {l : List UInt8} (h : LabW l) : LabW (sml l) := by
  refine ⟨fun e => h.ne (by simpa [Go.Proofs.YtnlgbopdbihnjaaGreatDoor.sml] using e), by have := h.le; simpa [Go.Proofs.YtnlgbopdbihnjaaGreatDoor.sml] using this, fun c hc => ?_, fun e => h.hd ((sml_head l).1 e), fun e => h.la ((sml_last l).1 e)⟩
  obtain ⟨d, hd, rfl⟩ := List.mem_map.1 hc
  rcases h.ch d hd with h1 | h1
  · exact Or.inl ((smB_facts d).1 ▸ h1)
  · exact Or.inr (by rw [smB_high (by omega)]; exact h1)

/-- What is asked of what labels become. -/
structure Labs (f : List UInt8 → List UInt8) : Prop where
  ok : ∀ l, LabW l → sml l = l → Wf l → (f l).length ≤ 63 → LabA (f l) ∧ sml (f l) = f l ∧ f (f l) = f l
theorem joinL_sml : ∀ L : List (List UInt8), sml (joinL [46] L) = joinL [46] (L.map sml)
  | [] => rfl
  | [x] => rfl
  | x :: y :: r => by
    have := joinL_sml (y :: r)
    simp only [List.map_cons] at this ⊢
    rw [joinL, joinL, ← this]
    simp [sml, show smB 46 = 46 by decide]
theorem joinL_mem : ∀ (L : List (List UInt8)) (c : UInt8), c ∈ joinL [46] L → c = 46 ∨ ∃ l ∈ L, c ∈ l
  | [], c, h => by cases h
  | [x], c, h => Or.inr ⟨x, by simp, h⟩
  | x :: y :: r, c, h => by
    rw [joinL] at h
    simp only [List.mem_append] at h
    rcases h with (h | h) | h
    · exact Or.inr ⟨x, by simp, h⟩
    · exact Or.inl (by simpa using h)
    · rcases joinL_mem (y :: r) c h with h | ⟨l, h1, h2⟩
      · exact Or.inl h
      · exact Or.inr ⟨l, by simp [List.mem_cons.1 h1], h2⟩
/-- What Ascii tells of a domain. -/
theorem asciiD_ok {f : List UInt8 → List UInt8} (hf : Labs f) {s : List UInt8} (hs : (wd true s).1 = 0) (h : (asciiD f s).2 = 0) :
    (wd false (asciiD f s).1).1 = 0 ∧ asciiD f (asciiD f s).1 = ((asciiD f s).1, 0) ∧ (∀ c ∈ (asciiD f s).1, c.toNat < 128 ∧ ¬ (65 ≤ c.toNat ∧ c.toNat ≤ 90)) := by
  obtain ⟨_, h2, _⟩ := wd_ok hs
  have hwf := wd_wf hs
  obtain ⟨x, xs, e1, e2, e3⟩ := wd_labels _ s _ _ _ (by omega) h2
  have hlab : ∀ l ∈ splitD s, LabW l := fun l hl => by
    rw [e1] at hl
    rcases List.mem_cons.1 hl with rfl | hl
    · exact e2.lab
    · exact e3 l hl
  have hw := splitD_wf s hwf
  obtain ⟨L, hL⟩ : ∃ L, L = (splitD (sml s)).map f := ⟨_, rfl⟩
  unfold asciiD at h
  rw [← hL] at h
  by_cases hlong : longB L = true
  · rw [if_pos hlong] at h; cases h
  rw [if_neg hlong] at h
  by_cases h255 : 255 < (joinL [46] L).length
  · rw [if_pos h255] at h; cases h
  have hv : asciiD f s = (joinL [46] L, 0) := by
    unfold asciiD
    rw [← hL, if_neg hlong, if_neg h255]
  rw [hv]
  dsimp only
  have hshort : ∀ l ∈ L, l.length ≤ 63 := fun l hl => by
    rcases Nat.lt_or_ge 63 l.length with h | h
    · exact absurd (List.any_eq_true.2 ⟨l, hl, decide_eq_true h⟩) hlong
    · exact h
  have hall : ∀ l ∈ L, LabA l ∧ sml l = l ∧ f l = l := fun l hl => by
    have hl' := hshort l hl
    rw [hL, splitD_sml] at hl
    obtain ⟨m, hm, rfl⟩ := List.mem_map.1 hl
    obtain ⟨k, hk, rfl⟩ := List.mem_map.1 hm
    exact hf.ok (sml k) (hlab k hk).sml (sml_twice k) ((wf_sml k).2 (hw k hk)) hl'
  have hne : L ≠ [] := by rw [hL]; simp [splitD_ne]
  have h46 : ∀ l ∈ L, ∀ c ∈ l, c ≠ 46 := fun l hl c hc e => by
    have := (hall l hl).1.ch c hc
    rw [e] at this
    revert this
    decide
  have hsp := splitD_join L hne h46
  have hsm : sml (joinL [46] L) = joinL [46] L := by
    rw [joinL_sml]
    congr 1
    conv => rhs; rw [← List.map_id L]
    exact List.map_congr_left fun l hl => (hall l hl).2.1
  have hmf : L.map f = L := by
    conv => rhs; rw [← List.map_id L]
    exact List.map_congr_left fun l hl => (hall l hl).2.2
  refine ⟨?_, ?_, ?_⟩
  · rw [wd_is (by omega)]
    rw [if_neg (by decide)]
    cases L with
    | nil => exact absurd rfl hne
    | cons x xs => exact wd_of_labels 0 _ 0 0 false x xs hsp (hall x (by simp)).1.rest fun l hl => (hall l (by simp [hl])).1
  · unfold asciiD
    rw [hsm, hsp, hmf, if_neg hlong, if_neg h255]
  · intro c hc
    rcases joinL_mem L c hc with rfl | ⟨l, hl, hc⟩
    · decide
    · obtain ⟨h1, h2, _⟩ := hall l hl
      refine ⟨(smB_facts c).2.2.2 (h1.ch c hc), fun hcap => ?_⟩
      have e : smB c = c := by
        unfold sml at h2
        have : l.map smB = l.map id := by rw [h2, List.map_id]
        exact List.map_inj_left.1 this c hc
      unfold smB at e
      rw [if_pos hcap] at e
      have := congrArg UInt8.toNat e
      rw [UInt8.toNat_ofNat_of_lt' (show c.toNat + 32 < 256 by omega)] at this
      omega

end Go.Proofs.YtnlgbopdbihnjaaGreatDoor
