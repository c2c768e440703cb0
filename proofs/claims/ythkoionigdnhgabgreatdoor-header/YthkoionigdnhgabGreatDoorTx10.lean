/-
  Unfolding, plainly.
-/
import Derived.Test.YthkoionigdnhgabGreatDoorProg
import Derived.Test.YthkoionigdnhgabGreatDoorAdP
import Derived.Test.YthkoionigdnhgabGreatDoorBase
import Derived.Laws.Concat
import Derived.Deep.DeepCutAuto
namespace Go.Proofs.YthkoionigdnhgabGreatDoor

def blB (b : UInt8) : Bool := b == 32 || b == 9
/-- A line end begins the list. -/
def leH (l : List UInt8) : Bool := l[0]? == some 13 && l[1]? == some 10
/-- A fold begins the list: a line end, and a blank behind it. -/
def fdH (l : List UInt8) : Bool := leH l && (match l[2]? with
  | some b => blB b
  | none => false)
def unf (l : List UInt8) : List UInt8 := match l with
  | [] => []
  | c :: r => if fdH (c :: r) then unf (r.drop 1) else c :: unf r
termination_by l.length
decreasing_by
  all_goals simp
  all_goals omega
theorem unf_cons (c : UInt8) (r : List UInt8) : unf (c :: r) = if fdH (c :: r) then unf (r.drop 1) else c :: unf r := by rw [unf]
/-- What stands from a on, up to b. -/
def stE (l : List UInt8) (a b : Nat) : List UInt8 := (l.take b).drop a
theorem stE_nil (l : List UInt8) (a : Nat) : stE l a a = [] := by
  unfold stE
  rw [List.drop_eq_nil_of_le (by rw [List.length_take]; omega)]
theorem stE_len (l : List UInt8) (a b : Nat) (hb : b ≤ l.length) : (stE l a b).length = b - a := by
  unfold stE
  rw [List.length_drop, List.length_take]
  omega
theorem stE_next (l : List UInt8) (a b : Nat) (h1 : a ≤ b) (h2 : b < l.length) : stE l a (b + 1) = stE l a b ++ [l[b]] := by
  unfold stE
  rw [List.take_succ_eq_append_getElem h2, List.drop_append_of_le_length (by rw [List.length_take]; omega)]
theorem unf_at (l : List UInt8) (a : Nat) (h : a < l.length) : unf (l.drop a) = if fdH (l.drop a) then unf (l.drop (a + 2)) else l[a] :: unf (l.drop (a + 1)) := by
  have h2 := List.drop_eq_getElem_cons h
  rw [h2, unf_cons, ← h2, List.drop_drop]
theorem fdH_end (l : List UInt8) (a : Nat) (h : l.length ≤ a + 2) : fdH (l.drop a) = false := by
  unfold fdH
  rw [List.getElem?_drop, List.getElem?_eq_none (by omega)]
  simp
/-- Nothing folds from a up to b: it stays. -/
theorem unf_stay (l : List UInt8) (a b : Nat) (hab : a ≤ b) (hb : b ≤ l.length) (h : ∀ j, a ≤ j → j < b → fdH (l.drop j) = false) : unf (l.drop a) = stE l a b ++ unf (l.drop b) := by
  induction b with
  | zero =>
    obtain rfl : a = 0 := by omega
    rw [stE_nil]
    rfl
  | succ b ih =>
    rcases Nat.lt_or_ge b a with hlt | hge
    · obtain rfl : a = b + 1 := by omega
      rw [stE_nil]
      rfl
    · rw [ih hge (by omega) (fun j h1 h2 => h j h1 (by omega)), unf_at l b (by omega), h b hge (by omega), stE_next l a b hge (by omega)]
      simp
theorem leH_at (l : List UInt8) (a : Nat) : leH (l.drop a) = (l[a]? == some 13 && l[a + 1]? == some 10) := by
  unfold leH
  rw [List.getElem?_drop, List.getElem?_drop]
  rfl
theorem fdH_at (l : List UInt8) (a : Nat) : fdH (l.drop a) = (leH (l.drop a) && (match l[a + 2]? with
  | some b => blB b
  | none => false)) := by
  unfold fdH
  rw [List.getElem?_drop]
theorem fdH_next (l : List UInt8) (a : Nat) (h : fdH (l.drop a) = true) : fdH (l.drop (a + 1)) = false := by
  rw [fdH_at, leH_at, Bool.and_eq_true, Bool.and_eq_true, beq_iff_eq, beq_iff_eq] at h
  rw [fdH_at, leH_at, h.1.2]
  rfl
/-- The places of the folds. -/
def fps (l : List UInt8) (k : Nat) : List Nat := (List.range k).filter fun i => fdH (l.drop i)
/-- What the loop over the folds has laid down: out, up to from. -/
structure Ufs (l : List UInt8) (k : Nat) (out : List UInt8) (f : Nat) : Prop where
  eq : unf l = out ++ unf (l.drop f)
  le : f ≤ l.length
  sm : out.length ≤ f
  no : ∀ j, f ≤ j → fdH (l.drop j) = true → ∃ (h : k < (fps l l.length).length), (fps l l.length)[k] ≤ j
  nn : ∀ (h : k < (fps l l.length).length), f ≤ (fps l l.length)[k]
theorem fps_mem (l : List UInt8) (m j : Nat) : j ∈ fps l m ↔ j < m ∧ fdH (l.drop j) = true := by
  unfold fps
  rw [List.mem_filter, List.mem_range]
theorem fps_sorted (l : List UInt8) (m : Nat) : (fps l m).Pairwise (· < ·) := List.Pairwise.filter _ (List.pairwise_lt_range)
theorem fd_lt (l : List UInt8) (j : Nat) (h : fdH (l.drop j) = true) : j + 2 < l.length := by
  apply Classical.byContradiction
  intro hn
  rw [fdH_end l j (by omega)] at h
  cases h
theorem Ufs.start (l : List UInt8) : Ufs l 0 [] 0 := by
  refine ⟨by simp, Nat.zero_le _, Nat.le_refl _, fun j _ hj => ?_, fun _ => Nat.zero_le _⟩
  have hm := (fps_mem l l.length j).2 ⟨by have := fd_lt l j hj; omega, hj⟩
  obtain ⟨i, hi, e⟩ := List.getElem_of_mem hm
  have h : 0 < (fps l l.length).length := by omega
  refine ⟨h, ?_⟩
  rw [← e]
  rcases Nat.eq_zero_or_pos i with h0 | h0
  · subst h0
    exact Nat.le_refl _
  · exact Nat.le_of_lt (List.pairwise_iff_getElem.1 (fps_sorted l l.length) 0 i h hi h0)
theorem Ufs.step {l : List UInt8} {k : Nat} {out : List UInt8} {f : Nat} (h : Ufs l k out f) (hk : k < (fps l l.length).length) : Ufs l (k + 1) (out ++ stE l f (fps l l.length)[k]) ((fps l l.length)[k] + 2) := by
  have hp := ((fps_mem l l.length _).1 (List.getElem_mem hk)).2
  have hb := fd_lt l _ hp
  have hf := h.nn hk
  have hno := h.no
  generalize hP : (fps l l.length)[k] = p at *
  have hstay := unf_stay l f p hf (by omega) (fun j h1 h2 => by
    cases hj : fdH (l.drop j) with
    | false => rfl
    | true =>
      obtain ⟨hk', h3⟩ := hno j h1 hj
      rw [hP] at h3
      omega)
  have hge : ∀ j, p + 2 ≤ j ∨ p < j → fdH (l.drop j) = true → p + 2 ≤ j := fun j hj hd => by
    rcases hj with hj | hj
    · exact hj
    · rcases Nat.lt_or_ge j (p + 2) with h2 | h2
      · obtain rfl : j = p + 1 := by omega
        rw [fdH_next l p hp] at hd
        cases hd
      · exact h2
  refine ⟨?_, by omega, ?_, fun j h1 hj => ?_, fun hk1 => ?_⟩
  · rw [h.eq, hstay, unf_at l p (by omega), if_pos hp, List.append_assoc]
  · rw [List.length_append, stE_len _ _ _ (by omega)]
    have := h.sm
    omega
  · have hm := (fps_mem l l.length j).2 ⟨by have := fd_lt l j hj; omega, hj⟩
    obtain ⟨i, hi, e⟩ := List.getElem_of_mem hm
    have hik : k + 1 ≤ i := by
      apply Classical.byContradiction
      intro hc
      have : (fps l l.length)[i] ≤ p := by
        rw [← hP]
        rcases Nat.lt_or_ge i k with h3 | h3
        · exact Nat.le_of_lt (List.pairwise_iff_getElem.1 (fps_sorted l l.length) i k hi hk h3)
        · obtain rfl : i = k := by omega
          exact Nat.le_refl _
      omega
    have hk1 : k + 1 < (fps l l.length).length := by omega
    refine ⟨hk1, ?_⟩
    rw [← e]
    rcases Nat.lt_or_ge (k + 1) i with h3 | h3
    · exact Nat.le_of_lt (List.pairwise_iff_getElem.1 (fps_sorted l l.length) (k + 1) i hk1 hi h3)
    · obtain rfl : i = k + 1 := by omega
      exact Nat.le_refl _
  · have h2 := ((fps_mem l l.length _).1 (List.getElem_mem hk1)).2
    have h3 : p < (fps l l.length)[k + 1] := by
      rw [← hP]
      exact List.pairwise_iff_getElem.1 (fps_sorted l l.length) k (k + 1) hk hk1 (Nat.lt_succ_self _)
    exact hge _ (.inr h3) h2
end Go.Proofs.YthkoionigdnhgabGreatDoor
/-
  Small laws on texts, bytes and results.
-/
namespace Go.Proofs.YthkoionigdnhgabGreatDoor
open Go.RowKit

theorem beq_u8 (c : UInt8) (n : UInt8) (m : Int) (hm : m = (n.toNat : Int)) : ((c.toNat : Int) == m) = decide (c = n) ∧ ((c.toNat : Int) != m) = !decide (c = n) := by
  have : ((c.toNat : Int) == m) = decide (c = n) := by
    subst hm
    rw [Bool.eq_iff_iff, beq_iff_eq, decide_eq_true_eq, Int.natCast_inj, UInt8.toNat_inj]
  refine ⟨this, ?_⟩
  rw [bne, this]
/-- A text of bytes. -/
def tx (l : List UInt8) : ByteArray := ⟨l.toArray⟩
theorem tx_size (l : List UInt8) : (tx l).size = l.length := List.size_toArray ..
theorem tx_list (l : List UInt8) : (tx l).data.toList = l := by simp [tx]
theorem infoSp : (Tryz.prog.info? 41).map (·.size) = some 2 := by kernel_rfl
end Go.Proofs.YthkoionigdnhgabGreatDoor
