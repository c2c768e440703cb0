/-
  Folding, plainly.
-/
import Derived.Test.YtpepjiocjcjeeabDoorFdP
namespace Go.Proofs.YtpepjiocjcjeeabDoor

theorem any_rev (p : UInt8 → Bool) : ∀ (m : List UInt8) (i : Nat), ((m.reverse.drop i).any fun c => !p c) = decide (i < (m.dropWhile p).length)
  | [], i => by simp
  | c :: r, i => by
    rw [List.reverse_cons, List.dropWhile_cons]
    have h := any_rev p r i
    cases hc : p c with
    | true =>
      rw [if_pos rfl, ← h]
      rcases Nat.le_total i r.reverse.length with h1 | h1
      · rw [List.drop_append_of_le_length h1, List.any_append]
        simp [hc]
      · rw [List.drop_append]
        rw [List.drop_eq_nil_of_le h1]
        have : ([c].drop (i - r.reverse.length)).any (fun c => !p c) = false := by
          cases i - r.reverse.length with
          | zero => simp [hc]
          | succ n => simp
        simpa using this
    | false =>
      rw [if_neg (by decide)]
      rcases Nat.lt_or_ge r.length i with h1 | h1
      · rw [List.drop_eq_nil_of_le (by simp; omega)]
        simp
        omega
      · rw [List.drop_append_of_le_length (by simpa using h1), List.any_append]
        have : decide (i < (c :: r).length) = true := by simp; omega
        rw [this]
        simp [hc]
/-- A joint of a text. -/
def jtB (l : List UInt8) (i : Nat) : Bool := decide (0 < i) && (match l[i]?, l[i - 1]? with
  | some c, some d => blB c && !blB d
  | _, _ => false) && (l.drop i).any fun c => !blB c
theorem jt_lt {l : List UInt8} {i : Nat} (h : jtB l i = true) : 0 < i ∧ i < l.length := by
  unfold jtB at h
  simp only [Bool.and_eq_true, decide_eq_true_eq] at h
  refine ⟨h.1.1, ?_⟩
  apply Classical.byContradiction
  intro hn
  have h2 := h.1.2
  rw [List.getElem?_eq_none (by omega)] at h2
  simp at h2
theorem jt_at (l : List UInt8) (i : Nat) (h0 : 0 < i) (h : i < l.length) : jtB l i = ((blB l[i] && !blB l[i - 1]) && (l.drop i).any fun c => !blB c) := by
  unfold jtB
  rw [List.getElem?_eq_getElem h, List.getElem?_eq_getElem (show i - 1 < l.length by omega), decide_eq_true h0, Bool.true_and]
/-- The joints below k. -/
def jts (l : List UInt8) (k : Nat) : List Nat := (List.range k).filter fun i => jtB l i
theorem jts_succ (l : List UInt8) (k : Nat) : jts l (k + 1) = jts l k ++ (if jtB l k then [k] else []) := by
  unfold jts
  rw [List.range_succ, List.filter_append]
  congr 1
  by_cases h : jtB l k = true <;> simp [h]
theorem jts_mem (l : List UInt8) (m j : Nat) : j ∈ jts l m ↔ j < m ∧ jtB l j = true := by
  unfold jts
  rw [List.mem_filter, List.mem_range]
theorem jts_sorted (l : List UInt8) (m : Nat) : (jts l m).Pairwise (· < ·) := List.Pairwise.filter _ (List.pairwise_lt_range)
theorem jts_stay (l : List UInt8) (k : Nat) : ∀ m, k ≤ m → (∀ j, k ≤ j → j < m → jtB l j = false) → jts l m = jts l k := by
  intro m hm h
  induction m with
  | zero =>
    obtain rfl : k = 0 := by omega
    rfl
  | succ m ih =>
    rcases Nat.lt_or_ge m k with hlt | hge
    · obtain rfl : k = m + 1 := by omega
      rfl
    · rw [jts_succ, h m hge (by omega), ih hge (fun j h1 h2 => h j h1 (by omega))]
      simp
theorem jts_pre (l : List UInt8) (k : Nat) : ∀ m, k ≤ m → ∃ t, jts l m = jts l k ++ t := by
  intro m hm
  induction m with
  | zero =>
    obtain rfl : k = 0 := by omega
    exact ⟨[], by simp⟩
  | succ m ih =>
    rcases Nat.lt_or_ge m k with hlt | hge
    · obtain rfl : k = m + 1 := by omega
      exact ⟨[], by simp⟩
    · obtain ⟨t, ht⟩ := ih hge
      rw [jts_succ, ht, List.append_assoc]
      exact ⟨_, rfl⟩
/-- Where what is no blank ends. -/
def tnd (l : List UInt8) : Nat := (l.reverse.dropWhile blB).length
theorem dropWhile_len (p : UInt8 → Bool) : ∀ l : List UInt8, (l.dropWhile p).length ≤ l.length
  | [] => Nat.le_refl _
  | a :: r => by
    simp only [List.dropWhile]
    split
    · exact Nat.le_succ_of_le (dropWhile_len p r)
    · exact Nat.le_refl _
theorem tnd_le (l : List UInt8) : tnd l ≤ l.length := by
  unfold tnd
  exact Nat.le_trans (dropWhile_len _ _) (by simp)
theorem tnd_any (l : List UInt8) (i : Nat) : ((l.drop i).any fun c => !blB c) = decide (i < tnd l) := by
  have := any_rev blB l.reverse i
  rw [List.reverse_reverse] at this
  exact this
theorem jt_in (l : List UInt8) (i : Nat) (h0 : 0 < i) (h : i < tnd l) (hl : i < l.length) : jtB l i = (blB l[i] && !blB l[i - 1]) := by
  rw [jt_at l i h0 hl, tnd_any, decide_eq_true h, Bool.and_true]
theorem jt_out (l : List UInt8) (i : Nat) (h : tnd l ≤ i) : jtB l i = false := by
  unfold jtB
  rw [tnd_any, decide_eq_false (p := i < tnd l) (by omega), Bool.and_false]
theorem jts_end (l : List UInt8) (k : Nat) (h : tnd l ≤ k) (hk : k ≤ l.length) : jts l l.length = jts l k := jts_stay l k _ hk (fun j h1 _ => jt_out l j (by omega))
theorem jts_one (l : List UInt8) : jts l 1 = [] := by
  rw [show jts l 1 = jts l 0 ++ (if jtB l 0 then [0] else []) from jts_succ l 0]
  have : jtB l 0 = false := by
    cases h : jtB l 0 with
    | false => rfl
    | true => exact absurd (jt_lt h).1 (by omega)
  rw [this]
  rfl
/-- The rows into which a text is cut: a row begins at f, could end at la, and a bytes count besides. -/
def pcs (most : Nat) : List Nat → Nat → Nat → Nat → List (Nat × Nat)
  | [], f, la, _ => [(f, la)]
  | t :: r, f, la, a => if f < la ∧ most < a + (t - f) then (f, la) :: pcs most r la t 0 else pcs most r f t a
/-- The places at which a row may end. -/
def stps (l : List UInt8) : List Nat := jts l l.length ++ [l.length]
def cuts (l : List UInt8) (a most : Nat) : List (Nat × Nat) := pcs most (stps l) 0 0 a
theorem stps_in (l : List UInt8) : ∀ t ∈ stps l, t ≤ l.length := fun t h => by
  rcases List.mem_append.1 h with h | h
  · exact Nat.le_of_lt (jt_lt ((jts_mem l _ t).1 h).2).2
  · rw [List.mem_singleton.1 h]
    exact Nat.le_refl _
theorem jts_fin (l : List UInt8) (k : Nat) (h : tnd l ≤ k) : jts l l.length = jts l k := by
  rcases Nat.le_total k l.length with h1 | h1
  · exact jts_end l k h h1
  · refine (jts_stay l l.length k h1 (fun j h2 _ => ?_)).symm
    cases hj : jtB l j with
    | false => rfl
    | true => exact absurd (jt_lt hj).2 (by omega)
/-- What a loop over the stops is handed. -/
def stK (l : List UInt8) (k : Nat) : Nat := (stps l).getD k 0
theorem stK_eq (l : List UInt8) (k : Nat) (h : k < (stps l).length) : (stps l)[k] = stK l k := by
  unfold stK
  rw [List.getD_eq_getElem?_getD, List.getElem?_eq_getElem h]
  rfl
theorem stK_last (l : List UInt8) : stK l (jts l l.length).length = l.length := by
  unfold stK stps
  rw [List.getD_eq_getElem?_getD, List.getElem?_append_right (Nat.le_refl _), Nat.sub_self]
  rfl
theorem stK_joint (l : List UInt8) (k : Nat) (h : jtB l k = true) : (jts l k).length < (jts l l.length).length ∧ stK l (jts l k).length = k ∧ (jts l (k + 1)).length = (jts l k).length + 1 := by
  have h1 : jts l (k + 1) = jts l k ++ [k] := by rw [jts_succ, if_pos h]
  obtain ⟨t, ht⟩ := jts_pre l (k + 1) l.length (jt_lt h).2
  have hlt : (jts l k).length < (jts l l.length).length := by rw [ht, h1]; simp
  refine ⟨hlt, ?_, by rw [h1]; simp⟩
  unfold stK stps
  rw [List.getD_eq_getElem?_getD, ht, h1]
  simp
theorem jts_skip (l : List UInt8) (k : Nat) (h : jtB l k = false) : jts l (k + 1) = jts l k := by
  rw [jts_succ, h]
  simp
theorem stps_len (l : List UInt8) : (stps l).length = (jts l l.length).length + 1 := by
  unfold stps
  simp
/-- Each row of the cut begins where the one ahead ends, within the text. -/
theorem pcs_in (n most : Nat) : ∀ (ts : List Nat) (f la a : Nat), f ≤ la → la ≤ n → (∀ t ∈ ts, t ≤ n) → (ts.Pairwise (· < ·)) → (∀ t ∈ ts, la ≤ t) → ∀ p ∈ pcs most ts f la a, p.1 ≤ p.2 ∧ p.2 ≤ n
  | [], f, la, a, h1, h2, _, _, _, p, hp => by
    rw [show pcs most [] f la a = [(f, la)] from rfl, List.mem_singleton] at hp
    subst hp
    exact ⟨h1, h2⟩
  | t :: r, f, la, a, h1, h2, h3, h4, h5, p, hp => by
    have ht := h3 t (List.mem_cons_self ..)
    have hlt := h5 t (List.mem_cons_self ..)
    have hr := fun q hq => h3 q (List.mem_cons_of_mem _ hq)
    have hp4 := List.pairwise_cons.1 h4
    rw [pcs] at hp
    split at hp
    · rcases List.mem_cons.1 hp with e | e
      · subst e
        exact ⟨h1, h2⟩
      · exact pcs_in n most r la t 0 hlt ht hr hp4.2 (fun q hq => Nat.le_of_lt (hp4.1 q hq)) p e
    · exact pcs_in n most r f t a (Nat.le_trans h1 hlt) ht hr hp4.2 (fun q hq => Nat.le_of_lt (hp4.1 q hq)) p hp
/-- What Fold lays down: ErrField, or the body. -/
def foldR (l : List UInt8) : List (Nat × Nat) → Nat → List UInt8 → Option (List UInt8)
  | [], _, out => some out
  | (f, t) :: r, a, out =>
    let a' := if 0 < f then 0 else a
    let o' := if 0 < f then out ++ [13, 10] else out
    if 998 < a' + t - f then none else foldR l r a' (o' ++ stE l f t)
theorem stps_sorted (l : List UInt8) : (stps l).Pairwise (· < ·) := by
  unfold stps
  refine List.pairwise_append.2 ⟨jts_sorted l _, List.pairwise_singleton _ _, fun a ha b hb => ?_⟩
  rw [List.mem_singleton.1 hb]
  exact ((jts_mem l _ a).1 ha).1
theorem cuts_in (l : List UInt8) (a most : Nat) : ∀ p ∈ cuts l a most, p.1 ≤ p.2 ∧ p.2 ≤ l.length :=
  pcs_in l.length most (stps l) 0 0 a (Nat.le_refl _) (Nat.zero_le _) (stps_in l) (stps_sorted l) (fun _ _ => Nat.zero_le _)
/-- The rows that are cut, told by their number. -/
def ctK (l : List UInt8) (a most k : Nat) : Nat × Nat := (cuts l a most).getD k (0, 0)
theorem ctK_of {l : List UInt8} {a most : Nat} {pre : List (Nat × Nat)} {p : Nat × Nat} {r : List (Nat × Nat)} (h : cuts l a most = pre ++ p :: r) : pre.length < (cuts l a most).length ∧ ctK l a most pre.length = p := by
  unfold ctK
  rw [h]
  refine ⟨by simp, ?_⟩
  rw [List.getD_eq_getElem?_getD, List.getElem?_append_right (Nat.le_refl _), Nat.sub_self]
  rfl
theorem ctK_eq (l : List UInt8) (a most k : Nat) (h : k < (cuts l a most).length) : (cuts l a most)[k] = ctK l a most k := by
  unfold ctK
  rw [List.getD_eq_getElem?_getD, List.getElem?_eq_getElem h]
  rfl
theorem stps_drop (l : List UInt8) (k : Nat) (h : k < (stps l).length) : (stps l).drop k = stK l k :: (stps l).drop (k + 1) := by
  rw [List.drop_eq_getElem_cons h, stK_eq l k h]
theorem stK_le (l : List UInt8) (k : Nat) (h : k < (stps l).length) : stK l k ≤ l.length := by
  rw [← stK_eq l k h]
  exact stps_in l _ (List.getElem_mem h)
theorem stK_mono (l : List UInt8) (j k : Nat) (hjk : j < k) (h : k < (stps l).length) : stK l j < stK l k := by
  rw [← stK_eq l k h, ← stK_eq l j (by omega)]
  exact List.pairwise_iff_getElem.1 (stps_sorted l) j k (by omega) h hjk
theorem pcs_len (most : Nat) : ∀ (ts : List Nat) (f la a : Nat), (pcs most ts f la a).length ≤ ts.length + 1
  | [], _, _, _ => Nat.le_refl _
  | t :: r, f, la, a => by
    rw [pcs]
    split
    · have := pcs_len most r la t 0
      simp only [List.length_cons]
      omega
    · have := pcs_len most r f t a
      simp only [List.length_cons]
      omega
theorem cuts_len (l : List UInt8) (a most : Nat) : (cuts l a most).length ≤ l.length + 2 := by
  have h1 := pcs_len most (stps l) 0 0 a
  have h2 := stps_len l
  have h3 : (jts l l.length).length ≤ l.length := by
    unfold jts
    have := List.length_filter_le (fun i => jtB l i) (List.range l.length)
    rw [List.length_range] at this
    exact this
  unfold cuts
  omega
theorem foldR_on (l : List UInt8) (f t : Nat) (r : List (Nat × Nat)) (a : Nat) (out : List UInt8) (a' : Nat) (o' : List UInt8) (ha : a' = if 0 < f then 0 else a) (ho : o' = if 0 < f then out ++ [13, 10] else out) :
    foldR l ((f, t) :: r) a out = if 998 < a' + t - f then none else foldR l r a' (o' ++ stE l f t) := by
  rw [foldR, ← ha, ← ho]
end Go.Proofs.YtpepjiocjcjeeabDoor
