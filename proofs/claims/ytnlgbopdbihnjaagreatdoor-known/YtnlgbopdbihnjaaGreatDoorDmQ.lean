/-
  Hosts that are read, written and read again, in plain mathematics (P8.9).
-/
import Derived.Test.YtnlgbopdbihnjaaGreatDoorWd8
import Derived.Test.YtnlgbopdbihnjaaGreatDoorAdQ
namespace Go.Proofs.YtnlgbopdbihnjaaGreatDoor

theorem stB_mono {f a n : Nat} {c : UInt8} (h : stB 0 a n c = true) : stB f a n c = true := by
  unfold stB at *
  simp only [Nat.not_lt_zero, decide_false, Bool.and_false, Bool.or_false] at h
  rw [h, Bool.true_or]
theorem wdGo_mono (f : Nat) : ∀ (s : List UInt8) (a n : Nat) (h : Bool), wdGo 0 a n h s = none → wdGo f a n h s = none
  | [], _, _, _, e => e
  | c :: r, a, n, h, e => by
    rw [wdGo] at e ⊢
    by_cases h1 : c = 46
    · rw [if_pos h1] at e ⊢
      by_cases h2 : 0 < n ∧ h = false
      · rw [if_pos h2] at e ⊢
        exact wdGo_mono f r _ _ _ e
      · rw [if_neg h2] at e; cases e
    · rw [if_neg h1] at e ⊢
      by_cases h2 : n = 63 ∨ stB 0 a n c = false
      · rw [if_pos h2] at e; cases e
      · rw [if_neg h2] at e
        have h3 : stB 0 a n c = true := by
          cases hh : stB 0 a n c
          · exact absurd (Or.inr hh) h2
          · rfl
        have h4 : ¬ (n = 63 ∨ stB f a n c = false) := fun h => by
          rcases h with h | h
          · exact h2 (Or.inl h)
          · rw [stB_mono h3] at h; cases h
        rw [if_neg h4]
        exact wdGo_mono f r _ _ _ e
theorem wd_ok {wide : Bool} {s : List UInt8} (h : (wd wide s).1 = 0) : s.length ≤ 255 ∧ wdGo (if wide then badU s else 0) 0 0 false s = none ∧ wd wide s = (0, 0) := by
  unfold wd at *
  by_cases h1 : 255 < s.length
  · rw [if_pos h1] at h; cases h
  · rw [if_neg h1] at h ⊢
    generalize wdGo (if wide = true then badU s else 0) 0 0 false s = o at h ⊢
    cases o with
    | none => exact ⟨by omega, rfl, rfl⟩
    | some a => cases h
theorem wd_is {wide : Bool} {s : List UInt8} (h1 : s.length ≤ 255) (h2 : wdGo (if wide then badU s else 0) 0 0 false s = none) : wd wide s = (0, 0) := by
  unfold wd
  rw [if_neg (by omega), h2]
theorem wd_wide {wide : Bool} {s : List UInt8} (h : (wd wide s).1 = 0) : wd true s = (0, 0) := by
  cases wide with
  | true => exact (wd_ok h).2.2
  | false =>
    obtain ⟨h1, h2, _⟩ := wd_ok h
    exact wd_is h1 (wdGo_mono _ s _ _ _ h2)
theorem wd_head {wide : Bool} {s : List UInt8} (h : (wd wide s).1 = 0) : s.head? ≠ some 91 := by
  obtain ⟨_, h2, _⟩ := wd_ok h
  match s, h2 with
  | [], _ => simp
  | c :: r, h2 =>
    intro hc
    simp at hc
    subst hc
    rw [wdGo, if_neg (by decide), if_pos (Or.inr (by simp [stB, ldB, dgB]))] at h2
    cases h2
theorem wdGo_le (f : Nat) : ∀ (s : List UInt8) (a n : Nat) (h : Bool) (p : Nat), wdGo f a n h s = some p → p ≤ a + s.length
  | [], a, n, h, p, e => by
    rw [wdGo] at e
    split at e
    · cases e
    · injection e with e; omega
  | c :: r, a, n, h, p, e => by
    rw [wdGo] at e
    rw [List.length_cons]
    split at e
    · split at e
      · have := wdGo_le f r _ _ _ p e; omega
      · injection e with e; omega
    · split at e
      · injection e with e; omega
      · have := wdGo_le f r _ _ _ p e; omega
theorem wd_le (wide : Bool) (s : List UInt8) : (wd wide s).2 ≤ s.length := by
  unfold wd
  by_cases h1 : 255 < s.length
  · rw [if_pos h1]; exact Nat.le_of_lt h1
  · rw [if_neg h1]
    cases h : wdGo (if wide = true then badU s else 0) 0 0 false s with
    | none => exact Nat.zero_le _
    | some a =>
      have := wdGo_le _ _ _ _ _ _ h
      dsimp only
      omega

theorem u8_back (c : UInt8) (n : Nat) (h : c.toNat = n) : UInt8.ofNat n = c := by rw [← h, UInt8.ofNat_toNat]
theorem dgB_is {c : UInt8} (h : dgB c = true) : 48 ≤ c.toNat ∧ c.toNat ≤ 57 := by
  unfold dgB at h
  simp at h
  exact h
/-- A number that was read is its digits. -/
theorem num_back (s : List UInt8) (n k : Nat) (h : numGo 0 0 s = (n, k)) (hk : k ≠ 0) : s.take k = decD n := by
  match s, h with
  | [], h => rw [numGo_nil] at h; injection h with _ h; omega
  | c1 :: r1, h =>
    by_cases d1 : dgB c1 = true
    case neg => rw [numGo_no _ _ _ _ (by simpa using d1)] at h; injection h with _ h; omega
    obtain ⟨l1, u1⟩ := dgB_is d1
    rw [numGo_on _ _ _ _ d1 (by omega)] at h
    simp only [Nat.mul_zero, Nat.zero_add] at h
    have one : ∀ m, (c1.toNat - 48, 1) = (m, k) → (c1 :: r1).take k = decD m := fun m e => by
      injection e with e1 e2
      subst e1 e2
      rw [decD, if_pos (by omega), u8_back c1 _ (by omega)]
      rfl
    match r1, h, one with
    | [], h, one => exact one n h
    | c2 :: r2, h, one =>
      by_cases d2 : dgB c2 = true
      case neg => rw [numGo_no _ _ _ _ (by simpa using d2)] at h; exact one n h
      obtain ⟨l2, u2⟩ := dgB_is d2
      by_cases z1 : c1.toNat - 48 = 0
      · rw [numGo_stop _ _ _ _ d2 (Or.inr ⟨by omega, z1⟩)] at h; exact one n h
      rw [numGo_on _ _ _ _ d2 (by omega)] at h
      have two : ∀ m, (10 * (c1.toNat - 48) + (c2.toNat - 48), 1 + 1) = (m, k) → (c1 :: c2 :: r2).take k = decD m := fun m e => by
        injection e with e1 e2
        subst e1 e2
        rw [decD, if_neg (by omega), if_pos (by omega), u8_back c1 _ (by omega), u8_back c2 _ (by omega)]
        rfl
      match r2, h, two with
      | [], h, two => exact two n h
      | c3 :: r3, h, two =>
        by_cases d3 : dgB c3 = true
        case neg => rw [numGo_no _ _ _ _ (by simpa using d3)] at h; exact two n h
        obtain ⟨l3, u3⟩ := dgB_is d3
        by_cases z2 : 255 < 10 * (10 * (c1.toNat - 48) + (c2.toNat - 48)) + (c3.toNat - 48)
        · rw [numGo_stop _ _ _ _ d3 (Or.inl z2)] at h; exact two n h
        rw [numGo_on _ _ _ _ d3 (by omega)] at h
        have three : ∀ m, (10 * (10 * (c1.toNat - 48) + (c2.toNat - 48)) + (c3.toNat - 48), 1 + 1 + 1) = (m, k) → (c1 :: c2 :: c3 :: r3).take k = decD m := fun m e => by
          injection e with e1 e2
          subst e1 e2
          rw [decD, if_neg (by omega), if_neg (by omega), u8_back c1 _ (by omega), u8_back c2 _ (by omega), u8_back c3 _ (by omega)]
          rfl
        match r3, h, three with
        | [], h, three => exact three n h
        | c4 :: r4, h, three =>
          by_cases d4 : dgB c4 = true
          case neg => rw [numGo_no _ _ _ _ (by simpa using d4)] at h; exact three n h
          rw [numGo_stop _ _ _ _ d4 (Or.inl (by omega))] at h
          exact three n h
def dots (y : List Nat) : List UInt8 := y.flatMap fun n => 46 :: decD n
theorem v4Go_back : ∀ (k : Nat) (l : List Nat) (a : Nat) (s : List UInt8) (x : List Nat), l ≠ [] → v4Go k l a s = .ok x → ∃ y, x = l ++ y ∧ s = dots y
  | 0, l, a, s, x, _, h => by
    rw [v4Go] at h
    split at h
    · injection h with h
      exact ⟨[], by rw [List.append_nil, h], by assumption⟩
    · cases h
  | k + 1, l, a, s, x, hl, h => by
    rw [v4Go, if_neg hl] at h
    by_cases hd : s.head? = some 46
    · rw [if_pos hd] at h
      obtain ⟨n, len, hn⟩ : ∃ n len, numGo 0 0 (s.drop 1) = (n, len) := ⟨_, _, rfl⟩
      rw [hn] at h
      dsimp only at h
      by_cases h0 : len = 0
      · rw [if_pos h0] at h; cases h
      · rw [if_neg h0] at h
        obtain ⟨y, rfl, hy⟩ := v4Go_back k _ _ _ x (by simp) h
        have hb := num_back _ _ _ hn h0
        refine ⟨n :: y, by simp, ?_⟩
        match s, hd with
        | c :: r, hd =>
          simp at hd
          subst hd
          rw [List.drop_one, List.tail_cons] at hy hb
          rw [dots, List.flatMap_cons, ← hb]
          show _ = 46 :: List.take len r ++ dots y
          rw [← hy, List.cons_append, List.take_append_drop]
    · rw [if_neg hd] at h; cases h
theorem joinL_dots : ∀ (n : Nat) (y : List Nat), joinL [46] ((n :: y).map decD) = decD n ++ dots y
  | n, [] => by simp [joinL, dots]
  | n, m :: y => by
    have := joinL_dots m y
    simp only [List.map_cons] at this ⊢
    rw [joinL, this]
    simp [dots]
/-- What is read of the fourth kind is what would be written. -/
theorem v4_back (s : List UInt8) (x : List Nat) (h : v4 s = .ok x) : print4 x = s := by
  unfold v4 at h
  rw [v4Go, if_pos rfl] at h
  obtain ⟨n, len, hn⟩ : ∃ n len, numGo 0 0 s = (n, len) := ⟨_, _, rfl⟩
  rw [hn] at h
  dsimp only at h
  by_cases h0 : len = 0
  · rw [if_pos h0] at h; cases h
  · rw [if_neg h0] at h
    obtain ⟨y, rfl, hy⟩ := v4Go_back 3 _ _ _ x (by simp) h
    have hb := num_back _ _ _ hn h0
    show joinL [46] (([] ++ [n] ++ y).map decD) = s
    rw [List.nil_append, List.singleton_append, joinL_dots, ← hb, ← hy, List.take_append_drop]

theorem bracket_inner (x : List UInt8) : ((([91] ++ x ++ [93] : List UInt8)).drop 1).take (([91] ++ x ++ [93] : List UInt8).length - 2) = x := by
  simp
theorem bracket_last (x : List UInt8) : ([91] ++ x ++ [93] : List UInt8).getLast? = some 93 := by
  rw [List.getLast?_append]
  rfl
theorem colonAt_none : ∀ {l : List UInt8}, (∀ c ∈ l, c ≠ 58) → colonAt l = none
  | [], _ => rfl
  | c :: r, h => by
    rw [colonAt, if_neg (h c (by simp)), colonAt_none fun x hx => h x (by simp [hx])]
    rfl
theorem colonAt_some : ∀ {l : List UInt8} {k : Nat}, colonAt l = some k → k < l.length ∧ l[k]? = some 58 ∧ ∀ c ∈ l.take k, c ≠ 58
  | [], _, h => by cases h
  | c :: r, k, h => by
    rw [colonAt] at h
    by_cases hc : c = 58
    · rw [if_pos hc] at h
      injection h with h
      subst h hc
      exact ⟨by simp, rfl, fun x hx => by cases hx⟩
    · rw [if_neg hc] at h
      cases hr : colonAt r with
      | none => rw [hr] at h; cases h
      | some j =>
        rw [hr] at h
        simp at h
        subst h
        obtain ⟨h1, h2, h3⟩ := colonAt_some hr
        refine ⟨by simp; omega, by simpa using h2, fun x hx => ?_⟩
        rw [List.take_succ_cons] at hx
        rcases List.mem_cons.1 hx with rfl | hx
        · exact hc
        · exact h3 x hx
theorem decD_digits : ∀ n : Fin 256, ∀ c ∈ decD n.val, dgB c = true := by decide +kernel
theorem print4_mem (l : List Nat) (h : ∀ n ∈ l, n < 256) : ∀ c ∈ print4 l, dgB c = true ∨ c = 46 := by
  match l, h with
  | [], _ => intro c hc; cases hc
  | n :: y, h =>
    intro c hc
    unfold print4 at hc
    rw [joinL_dots] at hc
    rcases List.mem_append.1 hc with hc | hc
    · exact Or.inl (decD_digits ⟨n, h n (by simp)⟩ c hc)
    · unfold dots at hc
      obtain ⟨m, hm, hc⟩ := List.mem_flatMap.1 hc
      rcases List.mem_cons.1 hc with hc | hc
      · exact Or.inr hc
      · exact Or.inl (decD_digits ⟨m, h m (by simp [hm])⟩ c hc)
theorem not_six {l : List UInt8} (h : ∀ c ∈ l, dgB c = true ∨ c = 46) : sixB l = false := by
  match l, h with
  | [], _ => rfl
  | c :: r, h =>
    unfold sixB
    rw [Bool.and_eq_false_iff]
    right
    rw [decide_eq_false_iff_not, List.take_succ_cons]
    intro e
    unfold sml at e
    rw [List.map_cons] at e
    injection e with e _
    rcases h c (by simp) with hc | hc
    · obtain ⟨h1, h2⟩ := dgB_is hc
      unfold smB at e
      rw [if_neg (by omega)] at e
      rw [e] at h2
      revert h2
      decide
    · rw [hc] at e
      revert e
      decide
theorem decD_len (n : Nat) : (decD n).length ≤ 3 := by
  unfold decD
  split
  · simp
  · split <;> simp
theorem print4_len (a b c d : Nat) : (print4 [a, b, c, d]).length ≤ 15 := by
  have h1 := decD_len a
  have h2 := decD_len b
  have h3 := decD_len c
  have h4 := decD_len d
  simp [print4, joinL]
  omega

end Go.Proofs.YtnlgbopdbihnjaaGreatDoor
