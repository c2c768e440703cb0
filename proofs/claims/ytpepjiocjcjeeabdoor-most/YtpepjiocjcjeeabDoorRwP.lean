/-
  Rows of a text, plainly.
-/
import Derived.Test.YtpepjiocjcjeeabDoorFdP
namespace Go.Proofs.YtpepjiocjcjeeabDoor

def crB (c : UInt8) : Bool := c == 13 || c == 10
/-- Where the row that begins at a ends. -/
def rwE (l : List UInt8) (a : Nat) : Nat := a + ((l.drop a).takeWhile fun c => !crB c).length
theorem rwE_ge (l : List UInt8) (a : Nat) : a ≤ rwE l a := Nat.le_add_right _ _
theorem rwE_le (l : List UInt8) (a : Nat) (h : a ≤ l.length) : rwE l a ≤ l.length := by
  unfold rwE
  have := (List.takeWhile_prefix (p := fun c => !crB c) (l := l.drop a)).length_le
  rw [List.length_drop] at this
  omega
theorem rwE_end (l : List UInt8) (a : Nat) (h : l.length ≤ a) : rwE l a = a := by
  unfold rwE
  rw [List.drop_eq_nil_of_le h]
  rfl
theorem rwE_hit (l : List UInt8) (a : Nat) (h : a < l.length) (hc : crB l[a] = true) : rwE l a = a := by
  unfold rwE
  rw [List.drop_eq_getElem_cons h, List.takeWhile_cons, hc]
  rfl
theorem rwE_on (l : List UInt8) (a : Nat) (h : a < l.length) (hc : crB l[a] = false) : rwE l a = rwE l (a + 1) := by
  unfold rwE
  rw [List.drop_eq_getElem_cons h, List.takeWhile_cons, hc]
  simp
  omega
theorem rwE_stop (l : List UInt8) (a : Nat) (h : rwE l a < l.length) : crB l[rwE l a] = true := by
  generalize hn : l.length - a = n
  induction n generalizing a with
  | zero =>
    rw [rwE_end l a (by omega)] at h
    omega
  | succ n ih =>
    cases hc : crB (l[a]'(by omega)) with
    | true =>
      have := rwE_hit l a (by omega) hc
      simp only [this]
      exact hc
    | false =>
      have e := rwE_on l a (by omega) hc
      simp only [e]
      exact ih (a + 1) (by rw [← e]; exact h) (by omega)
theorem rwE_in (l : List UInt8) (a j : Nat) (h1 : a ≤ j) (h2 : j < rwE l a) (h3 : j < l.length) : crB l[j] = false := by
  generalize hn : j - a = n
  induction n generalizing a with
  | zero =>
    obtain rfl : a = j := by omega
    cases hc : crB l[a] with
    | true =>
      rw [rwE_hit l a h3 hc] at h2
      omega
    | false => rfl
  | succ n ih =>
    cases hc : crB (l[a]'(by omega)) with
    | true =>
      rw [rwE_hit l a (by omega) hc] at h2
      omega
    | false =>
      rw [rwE_on l a (by omega) hc] at h2
      exact ih (a + 1) (by omega) h2 (by omega)
theorem leH_lt (l : List UInt8) (a : Nat) (h : leH (l.drop a) = true) : a + 1 < l.length := by
  apply Classical.byContradiction
  intro hn
  rw [leH_at, List.getElem?_eq_none (i := a + 1) (by omega)] at h
  simp at h
/-- The rows from f on: where each begins and ends. -/
def rws (l : List UInt8) (f : Nat) : List (Nat × Nat) :=
  if h : leH (l.drop (rwE l f)) = true then (f, rwE l f) :: rws l (rwE l f + 2) else [(f, rwE l f)]
termination_by l.length - f
decreasing_by
  have h1 := leH_lt l _ h
  have h2 := rwE_ge l f
  omega
theorem rws_on (l : List UInt8) (f : Nat) (h : leH (l.drop (rwE l f)) = true) : rws l f = (f, rwE l f) :: rws l (rwE l f + 2) := by
  rw [rws, dif_pos h]
theorem rws_off (l : List UInt8) (f : Nat) (h : leH (l.drop (rwE l f)) = false) : rws l f = [(f, rwE l f)] := by
  rw [rws, dif_neg (by rw [h]; decide)]
/-- A row that may go on with the field ahead of it. -/
def fldB (r : List UInt8) : Bool := (match r with
  | [] => false
  | c :: _ => blB c) && r.any fun c => !blB c
end Go.Proofs.YtpepjiocjcjeeabDoor
