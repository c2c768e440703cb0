/-
  A round of the document's Fold, told plainly.
-/
import Derived.Test.YtpepjiocjcjeeaaDoorFqP
import Derived.Test.YtpepjiocjcjeeaaDoorFe16
namespace Go.Proofs.YtpepjiocjcjeeaaDoor

/-- What is told when the rows have been joined. -/
def foldE (nm : List UInt8) : Option (List UInt8) → Nat × Fd
  | none => (160, ⟨[], []⟩)
  | some b => (0, ⟨nm, b⟩)
/-- The document's Fold stands at b, a octets ahead, with o joined. -/
def StR (R : Nat × Fd) (nm l : List UInt8) (mo b a : Nat) (o : List UInt8) : Prop :=
  ∃ (ap : Nat) (out : List UInt8), a = (if 0 < b then 0 else ap) ∧ o = (if 0 < b then out ++ [13, 10] else out) ∧ R = foldE nm (foldR l (rwsF l mo a b) ap out)
theorem str_start {R : Nat × Fd} {nm l : List UInt8} {mo a : Nat} (h : R = foldE nm (foldR l (cuts l a mo) a [])) : StR R nm l mo 0 a [] :=
  ⟨a, [], rfl, rfl, by rw [h, cuts_is]⟩
theorem str_step {R : Nat × Fd} {nm l : List UInt8} {mo b a : Nat} {o : List UInt8} (h : StR R nm l mo b a o) (hb : b ≤ l.length) (h0 : b < l.length ∨ l.length = 0) :
    (998 < a + rowD l mo a b - b ∧ R = (160, ⟨[], []⟩)) ∨
    (¬ 998 < a + rowD l mo a b - b ∧ rowD l mo a b = l.length ∧ R = (0, ⟨nm, o ++ stE l b (rowD l mo a b)⟩)) ∨
    (¬ 998 < a + rowD l mo a b - b ∧ b < rowD l mo a b ∧ rowD l mo a b < l.length ∧ StR R nm l mo (rowD l mo a b) 0 (o ++ stE l b (rowD l mo a b) ++ [13, 10])) := by
  obtain ⟨ap, out, ha, ho, hR⟩ := h
  rcases rwsF_step l mo a b hb h0 with ⟨e1, e2⟩ | ⟨e1, e2, e3⟩
  · rw [e2, foldR] at hR
    simp only [← ha, ← ho] at hR
    rw [e1]
    by_cases hg : 998 < a + l.length - b
    · rw [if_pos hg] at hR
      exact .inl ⟨hg, hR⟩
    · rw [if_neg hg] at hR
      exact .inr (.inl ⟨hg, rfl, hR⟩)
  · rw [e3, foldR] at hR
    simp only [← ha, ← ho] at hR
    by_cases hg : 998 < a + rowD l mo a b - b
    · rw [if_pos hg] at hR
      exact .inl ⟨hg, hR⟩
    · rw [if_neg hg] at hR
      have hp : 0 < rowD l mo a b := by omega
      exact .inr (.inr ⟨hg, e1, e2, a, o ++ stE l b (rowD l mo a b), by rw [if_pos hp], by rw [if_pos hp], hR⟩)
theorem jbs_fin (l : List UInt8) (b i : Nat) (h : l.length ≤ i) : jbs l b i = jbs l b l.length := by
  unfold jbs
  rw [jts_stay l l.length i h (fun j h2 _ => by
    cases hj : jtB l j with
    | false => rfl
    | true => exact absurd (jt_lt hj).2 (by omega))]
theorem fst_fin (l : List UInt8) (b i : Nat) (h : l.length ≤ i) : fstJ l b i = fstJ l b l.length := by
  unfold fstJ
  rw [jbs_fin l b i h]
theorem lst_fin (l : List UInt8) (most a b i : Nat) (h : l.length ≤ i) : lstJ l most a b i = lstJ l most a b l.length := by
  unfold lstJ
  rw [jbs_fin l b i h]
theorem fst_new (l : List UInt8) (b : Nat) : fstJ l b (b + 1) = none := by
  unfold fstJ
  rw [jbs_start]
  rfl
theorem lst_new (l : List UInt8) (most a b : Nat) : lstJ l most a b (b + 1) = none := by
  unfold lstJ
  rw [jbs_start]
  rfl
theorem fst_no {l : List UInt8} {b i : Nat} (h : b < i) (hj : jtB l i = false) : fstJ l b (i + 1) = fstJ l b i := by
  rw [fstJ_succ l b i h, hj]; rfl
theorem lst_no {l : List UInt8} {most a b i : Nat} (h : b < i) (hj : jtB l i = false) : lstJ l most a b (i + 1) = lstJ l most a b i := by
  rw [lstJ_succ l most a b i h, hj]; rfl
theorem fst_some {l : List UInt8} {b i f : Nat} (h : b < i) (hf : fstJ l b i = some f) : fstJ l b (i + 1) = some f := by
  rw [fstJ_succ l b i h, hf]; split <;> rfl
theorem fst_none {l : List UInt8} {b i : Nat} (h : b < i) (hj : jtB l i = true) (hf : fstJ l b i = none) : fstJ l b (i + 1) = some i := by
  rw [fstJ_succ l b i h, hj, hf]; rfl
theorem lst_fit {l : List UInt8} {most a b i : Nat} (h : b < i) (hj : jtB l i = true) (hf : a + i - b ≤ most) : lstJ l most a b (i + 1) = some i := by
  have h2 : fitB most a b i = true := by unfold fitB; rw [decide_eq_true_eq]; omega
  rw [lstJ_succ l most a b i h, hj, h2]; rfl
theorem lst_far {l : List UInt8} {most a b i : Nat} (h : b < i) (hf : ¬ a + i - b ≤ most) : lstJ l most a b (i + 1) = lstJ l most a b i := by
  have h2 : fitB most a b i = false := by unfold fitB; rw [decide_eq_false_iff_not]; omega
  rw [lstJ_succ l most a b i h, h2, Bool.and_false]; rfl
theorem rowD_near {l : List UInt8} {most a b : Nat} (hb : b ≤ l.length) (h : ¬ most < a + l.length - b) : rowD l most a b = l.length := by
  unfold rowD
  rw [if_neg (by omega)]
theorem rowD_none {l : List UInt8} {most a b : Nat} (h : fstJ l b l.length = none) : rowD l most a b = l.length := by
  unfold rowD
  rw [h]
  split <;> rfl
theorem rowD_one {l : List UInt8} {most a b f : Nat} (hb : b ≤ l.length) (h : most < a + l.length - b) (hf : fstJ l b l.length = some f) (hl : lstJ l most a b l.length = none) : rowD l most a b = f := by
  unfold rowD
  rw [if_pos (by omega), hf, hl]
  exact Nat.max_eq_left (Nat.zero_le _)
theorem rowD_two {l : List UInt8} {most a b f g : Nat} (hb : b ≤ l.length) (h : most < a + l.length - b) (hf : fstJ l b l.length = some f) (hl : lstJ l most a b l.length = some g) : rowD l most a b = max f g := by
  unfold rowD
  rw [if_pos (by omega), hf, hl]
  rfl
end Go.Proofs.YtpepjiocjcjeeaaDoor
