/-
  What is printed is read as it was: plainly.
-/
import Derived.Test.YtpepjiocjcjeeabDoorQaP
import Derived.Test.YtpepjiocjcjeeabDoorDdP
import Derived.Test.YtpepjiocjcjeeabDoorPr16
namespace Go.Proofs.YtpepjiocjcjeeabDoor

/-- No CR and no LF. -/
def noCR (t : List UInt8) : Prop := ∀ c ∈ t, crB c = false
theorem rwE_app (P r Z : List UInt8) (hr : noCR r) (hZ : Z = [] ∨ ∃ c z, Z = c :: z ∧ crB c = true) : rwE (P ++ (r ++ Z)) P.length = P.length + r.length := by
  unfold rwE
  rw [List.drop_left]
  have : (r ++ Z).takeWhile (fun c => !crB c) = r := by
    rw [List.takeWhile_append_of_pos (fun c hc => by rw [hr c hc]; rfl)]
    rcases hZ with rfl | ⟨c, z, rfl, hc⟩
    · simp
    · rw [List.takeWhile_cons, hc]
      simp
  rw [this]
theorem leH_app (P Z : List UInt8) (n : Nat) (hn : n = P.length) : leH ((P ++ ([13, 10] ++ Z)).drop n) = true := by
  rw [hn, List.drop_left]
  rfl
theorem stE_mid (P t Z : List UInt8) (a b : Nat) (ha : a = P.length) (hb : b = P.length + t.length) : stE (P ++ (t ++ Z)) a b = t := by
  subst ha
  subst hb
  unfold stE
  rw [← List.append_assoc, List.take_append_of_le_length (by rw [List.length_append]; exact Nat.le_refl _), List.take_of_length_le (by rw [List.length_append]; exact Nat.le_refl _), List.drop_left]
/-- A row that goes on with a field. -/
def okR (r : List UInt8) : Prop := noCR r ∧ fldB r = true ∧ r.length ≤ 998
/-- A body made of rows. -/
def bdR (r0 : List UInt8) (rs : List (List UInt8)) : List UInt8 := r0 ++ rs.flatMap fun r => [13, 10] ++ r
theorem bdR_end (rs : List (List UInt8)) : (rs.flatMap fun r => [13, 10] ++ r) ++ [13, 10] = [13, 10] ++ rs.flatMap fun r => r ++ [13, 10] := by
  induction rs with
  | nil => rfl
  | cons r q ih =>
    rw [List.flatMap_cons, List.flatMap_cons, List.append_assoc, ih]
    simp
theorem bdR_head (rs : List (List UInt8)) : (rs.flatMap fun r => [13, 10] ++ r) = [] ∨ ∃ c z, (rs.flatMap fun r => [13, 10] ++ r) = c :: z ∧ crB c = true := by
  cases rs with
  | nil => exact .inl rfl
  | cons r q => exact .inr ⟨13, _, rfl, rfl⟩
theorem ck_told (nl : Nat) (bd : List UInt8) : ∀ (rows : List (Nat × Nat)) (told e : Nat), ckR nl bd rows told e = 0 → told = 0
  | [], told, e, h => by
    rw [ckR] at h
    split at h
    · cases h
    · exact h
  | (f, t) :: r, told, e, h => by
    rw [ckR] at h
    by_cases hb : 998 < (if f = 0 then t - f + (nl + 1) else t - f)
    · rw [if_pos hb] at h
      cases h
    · rw [if_neg hb] at h
      have h2 := ck_told nl bd r _ _ h
      by_cases hf : f = 0
      · rw [if_pos hf] at h2
        exact h2
      · rw [if_neg hf] at h2
        by_cases hk : fldB (stE bd f t) = true
        · rw [if_pos hk] at h2
          exact h2
        · rw [if_neg hk] at h2
          cases h2
theorem rwE_no (l : List UInt8) (a : Nat) : noCR (stE l a (rwE l a)) := by
  have : stE l a (rwE l a) = (l.drop a).takeWhile fun c => !crB c := by
    unfold rwE stE
    rw [List.drop_take]
    have h1 : a + ((l.drop a).takeWhile fun c => !crB c).length - a = ((l.drop a).takeWhile fun c => !crB c).length := by omega
    rw [h1]
    have := List.prefix_iff_eq_take.1 (List.takeWhile_prefix (p := fun c => !crB c) (l := l.drop a))
    exact this.symm
  intro c hc
  rw [this] at hc
  have h2 := List.all_takeWhile (p := fun c => !crB c) (l := l.drop a)
  rw [List.all_eq_true] at h2
  simpa using h2 c hc
theorem drop_row (l : List UInt8) (a t : Nat) (h1 : a ≤ t) (h2 : t ≤ l.length) : l.drop a = stE l a t ++ l.drop t := by
  rw [← stE_end l a, ← stE_end l t, stE_app l a t l.length h1 h2 (Nat.le_refl _)]
theorem drop_le (l : List UInt8) (t : Nat) (h : leH (l.drop t) = true) : l.drop t = [13, 10] ++ l.drop (t + 2) := by
  have h1 := leH_lt l t h
  rw [drop_row l t (t + 2) (by omega) (by omega), stE_crlf l t h]
theorem ck_split (nl : Nat) (bd : List UInt8) : ∀ (n g : Nat), bd.length - g = n → g ≤ bd.length → 0 < g → ∀ (told e : Nat), ckR nl bd (rws bd g) told e = 0 → ∃ r rs, bd.drop g = bdR r rs ∧ okR r ∧ ∀ q ∈ rs, okR q := by
  intro n
  induction n using Nat.strongRecOn with
  | ind n ih =>
    intro g hn hg h0 told e h
    have h1 := rwE_ge bd g
    have h2 := rwE_le bd g hg
    have hst : (stE bd g (rwE bd g)).length = rwE bd g - g := stE_len bd g _ h2
    cases hl : leH (bd.drop (rwE bd g)) with
    | false =>
      rw [rws_off bd g hl, ckR] at h
      rw [if_neg (show ¬ g = 0 by omega), if_neg (show ¬ g = 0 by omega)] at h
      by_cases hb : 998 < rwE bd g - g
      · rw [if_pos hb] at h; cases h
      · rw [if_neg hb] at h
        have ht := ck_told _ _ _ _ _ h
        rw [ht, ckR] at h
        have hend : rwE bd g = bd.length := by
          by_cases he : rwE bd g < bd.length
          · rw [if_pos he] at h; cases h
          · omega
        have hk : fldB (stE bd g (rwE bd g)) = true := by
          apply Classical.byContradiction
          intro hc
          rw [if_neg hc] at ht
          cases ht
        refine ⟨stE bd g (rwE bd g), [], ?_, ⟨rwE_no bd g, hk, by omega⟩, fun q hq => by cases hq⟩
        rw [drop_row bd g _ h1 h2, hend, List.drop_length]
        simp [bdR]
    | true =>
      have hlt := leH_lt bd _ hl
      rw [rws_on bd g hl, ckR] at h
      rw [if_neg (show ¬ g = 0 by omega), if_neg (show ¬ g = 0 by omega)] at h
      by_cases hb : 998 < rwE bd g - g
      · rw [if_pos hb] at h; cases h
      · rw [if_neg hb] at h
        have ht := ck_told _ _ _ _ _ h
        have hk : fldB (stE bd g (rwE bd g)) = true := by
          apply Classical.byContradiction
          intro hc
          rw [if_neg hc] at ht
          cases ht
        obtain ⟨r, rs, e1, e2, e3⟩ := ih (bd.length - (rwE bd g + 2)) (by omega) (rwE bd g + 2) rfl (by omega) (by omega) _ _ h
        refine ⟨stE bd g (rwE bd g), r :: rs, ?_, ⟨rwE_no bd g, hk, by omega⟩, fun q hq => ?_⟩
        · rw [drop_row bd g _ h1 h2, drop_le bd _ hl, e1]
          simp [bdR]
        · rcases List.mem_cons.1 hq with rfl | hq
          · exact e2
          · exact e3 q hq
/-- A field that may be, in its rows. -/
def OkB (nl : Nat) (bd : List UInt8) : Prop := ∃ r0 rs, bd = bdR r0 rs ∧ noCR r0 ∧ r0.length + (nl + 1) ≤ 998 ∧ ∀ q ∈ rs, okR q
theorem ck_ok (nl : Nat) (bd : List UInt8) (h : ckR nl bd (rws bd 0) 0 0 = 0) : OkB nl bd := by
  have h2 := rwE_le bd 0 (Nat.zero_le _)
  have hst : (stE bd 0 (rwE bd 0)).length = rwE bd 0 - 0 := stE_len bd 0 _ h2
  cases hl : leH (bd.drop (rwE bd 0)) with
  | false =>
    rw [rws_off bd 0 hl, ckR, if_pos rfl, if_pos rfl] at h
    by_cases hb : 998 < rwE bd 0 - 0 + (nl + 1)
    · rw [if_pos hb] at h; cases h
    · rw [if_neg hb, ckR] at h
      have hend : rwE bd 0 = bd.length := by
        by_cases he : rwE bd 0 < bd.length
        · rw [if_pos he] at h; cases h
        · omega
      refine ⟨stE bd 0 (rwE bd 0), [], ?_, rwE_no bd 0, by omega, fun q hq => by cases hq⟩
      rw [hend]
      simp [bdR, stE]
  | true =>
    have hlt := leH_lt bd _ hl
    rw [rws_on bd 0 hl, ckR, if_pos rfl, if_pos rfl] at h
    by_cases hb : 998 < rwE bd 0 - 0 + (nl + 1)
    · rw [if_pos hb] at h; cases h
    · rw [if_neg hb] at h
      obtain ⟨r, rs, e1, e2, e3⟩ := ck_split nl bd _ (rwE bd 0 + 2) rfl (by omega) (by omega) _ _ h
      refine ⟨stE bd 0 (rwE bd 0), r :: rs, ?_, rwE_no bd 0, by omega, fun q hq => ?_⟩
      · have := drop_row bd 0 _ (Nat.zero_le _) h2
        rw [List.drop_zero, drop_le bd _ hl, e1] at this
        rw [this, ← this]
        conv => lhs; rw [this]
        simp [bdR]
      · rcases List.mem_cons.1 hq with rfl | hq
        · exact e2
        · exact e3 q hq
theorem chk_ok {nm bd : List UInt8} (h : chkF nm bd = 0) : nmB nm = true ∧ OkB nm.length bd := by
  unfold chkF at h
  cases hn : nmB nm with
  | false => rw [hn] at h; cases h
  | true =>
    rw [hn, if_pos rfl] at h
    exact ⟨rfl, ck_ok _ _ h⟩
/-- The other way round. -/
theorem ck_rows (nl : Nat) : ∀ (rs : List (List UInt8)) (P r : List UInt8), 0 < P.length → okR r → (∀ q ∈ rs, okR q) → ∀ e, ckR nl (P ++ bdR r rs) (rws (P ++ bdR r rs) P.length) 0 e = 0 := by
  intro rs
  induction rs with
  | nil =>
    intro P r hP hr _ e
    have e1 : P ++ bdR r [] = P ++ (r ++ []) := by simp [bdR]
    rw [e1]
    have h1 := rwE_app P r [] hr.1 (.inl rfl)
    have h2 : leH ((P ++ (r ++ [])).drop (rwE (P ++ (r ++ [])) P.length)) = false := by
      rw [h1, List.drop_eq_nil_of_le (by simp)]
      rfl
    have hz : ¬ P.length = 0 := by omega
    rw [rws_off _ _ h2, ckR, if_neg hz, if_neg hz, h1, stE_mid P r [] _ _ rfl rfl, if_pos hr.2.1, if_neg (by have := hr.2.2; omega), ckR, if_neg (by simp)]
  | cons s q ih =>
    intro P r hP hr hrs e
    have e1 : P ++ bdR r (s :: q) = P ++ (r ++ ([13, 10] ++ bdR s q)) := by simp [bdR]
    have e2 : P ++ bdR r (s :: q) = (P ++ r ++ [13, 10]) ++ bdR s q := by simp [bdR]
    have h1 : rwE (P ++ bdR r (s :: q)) P.length = P.length + r.length := by
      rw [e1]
      exact rwE_app P r _ hr.1 (.inr ⟨13, _, rfl, rfl⟩)
    have h2 : leH ((P ++ bdR r (s :: q)).drop (rwE (P ++ bdR r (s :: q)) P.length)) = true := by
      rw [h1, e1, ← List.append_assoc]
      exact leH_app (P ++ r) _ _ (by simp)
    have h3 : stE (P ++ bdR r (s :: q)) P.length (P.length + r.length) = r := by
      rw [e1]
      exact stE_mid P r _ _ _ rfl rfl
    have hz : ¬ P.length = 0 := by omega
    rw [rws_on _ _ h2, ckR, if_neg hz, if_neg hz, h1, h3, if_pos hr.2.1, if_neg (by have := hr.2.2; omega)]
    have := ih (P ++ r ++ [13, 10]) s (by simp; omega) (hrs s (List.mem_cons_self ..)) (fun x hx => hrs x (List.mem_cons_of_mem _ hx)) (P.length + r.length)
    rw [← e2] at this
    have e4 : (P ++ r ++ [13, 10]).length = P.length + r.length + 2 := by simp; omega
    rw [e4] at this
    exact this
theorem ok_ck (nl : Nat) (bd : List UInt8) (h : OkB nl bd) : ckR nl bd (rws bd 0) 0 0 = 0 := by
  obtain ⟨r0, rs, rfl, h1, h2, h3⟩ := h
  cases rs with
  | nil =>
    have e1 : bdR r0 [] = [] ++ (r0 ++ []) := by simp [bdR]
    rw [e1]
    have k1 : rwE ([] ++ (r0 ++ [])) 0 = r0.length := by
      have := rwE_app [] r0 [] h1 (.inl rfl)
      simpa using this
    have k2 : leH (([] ++ (r0 ++ [])).drop (rwE ([] ++ (r0 ++ [])) 0)) = false := by
      rw [k1, List.drop_eq_nil_of_le (by simp)]
      rfl
    rw [rws_off _ _ k2, ckR, if_pos rfl, if_pos rfl, k1, if_neg (by omega), ckR, if_neg (by simp)]
  | cons s q =>
    have e1 : bdR r0 (s :: q) = [] ++ (r0 ++ ([13, 10] ++ bdR s q)) := by simp [bdR]
    have e2 : bdR r0 (s :: q) = (r0 ++ [13, 10]) ++ bdR s q := by simp [bdR]
    have k1 : rwE (bdR r0 (s :: q)) 0 = r0.length := by
      rw [e1]
      have := rwE_app [] r0 ([13, 10] ++ bdR s q) h1 (.inr ⟨13, _, rfl, rfl⟩)
      simpa using this
    have k2 : leH ((bdR r0 (s :: q)).drop (rwE (bdR r0 (s :: q)) 0)) = true := by
      rw [k1, e1, List.nil_append]
      exact leH_app r0 _ _ rfl
    rw [rws_on _ _ k2, ckR, if_pos rfl, if_pos rfl, k1, if_neg (by omega)]
    have := ck_rows nl q (r0 ++ [13, 10]) s (by simp) (h3 s (List.mem_cons_self ..)) (fun x hx => h3 x (List.mem_cons_of_mem _ hx)) r0.length
    rw [← e2] at this
    have e4 : (r0 ++ [13, 10]).length = r0.length + 2 := by simp
    rw [e4] at this
    exact this
theorem ok_chk {nm bd : List UInt8} (hn : nmB nm = true) (h : OkB nm.length bd) : chkF nm bd = 0 := by
  unfold chkF
  rw [hn, if_pos rfl]
  exact ok_ck _ _ h
end Go.Proofs.YtpepjiocjcjeeabDoor
