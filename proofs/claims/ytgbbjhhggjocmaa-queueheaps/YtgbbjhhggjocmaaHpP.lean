/-
  Things with their numbers in a row that is a heap: one brought up, one brought down, the first taken.
-/
import Derived.Test.YtgbbjhhggjocmaaProg
import Derived.WalkKit
namespace Go.Proofs.Ytgbbjhhggjocmaa
open Go.RowKit

/-- A thing with its number. -/
abbrev En := (Int × Int) × Nat
/-- What the order looks at: the key, or nothing. -/
def kap (kk : Bool) (e : Int × Int) : Int := if kk then e.1 else 0
/-- Is a told ahead of b? -/
def bf (kk : Bool) (a b : En) : Prop := kap kk a.1 < kap kk b.1 ∨ kap kk a.1 = kap kk b.1 ∧ a.2 < b.2
instance (kk : Bool) (a b : En) : Decidable (bf kk a b) := by unfold bf; exact inferInstance
theorem bf_trans {kk : Bool} {a b c : En} (h1 : ¬ bf kk b a) (h2 : ¬ bf kk c b) : ¬ bf kk c a := by unfold bf at *; omega
theorem bf_asym {kk : Bool} {a b : En} (h : bf kk a b) : ¬ bf kk b a := by unfold bf at *; omega
theorem bf_irr {kk : Bool} {a : En} : ¬ bf kk a a := by unfold bf; omega
/-- The one at place i. -/
def eA (L : List En) (i : Nat) : En := L.getD i ((0, 0), 0)
theorem eA_at {L : List En} {i : Nat} (h : i < L.length) : L[i]? = some (eA L i) := by unfold eA; rw [List.getD_eq_getElem?_getD, List.getElem?_eq_getElem h]; rfl
theorem eA_mem {L : List En} {i : Nat} (h : i < L.length) : eA L i ∈ L := List.mem_of_getElem? (eA_at h)
theorem eA_get {L : List En} {i : Nat} (h : i < L.length) : eA L i = L[i] := by have := eA_at h; rw [List.getElem?_eq_getElem h] at this; exact (Option.some.inj this).symm
theorem eA_set {L : List En} {i : Nat} (h : i < L.length) (x : En) (j : Nat) : eA (L.set i x) j = if i = j then x else eA L j := by
  unfold eA
  rw [List.getD_eq_getElem?_getD, List.getD_eq_getElem?_getD, List.getElem?_set]
  by_cases e : i = j
  · subst e
    simp [h]
  · simp [e]
def swL (L : List En) (i j : Nat) : List En := (L.set i (eA L j)).set j (eA L i)
theorem swL_length (L : List En) (i j : Nat) : (swL L i j).length = L.length := by simp [swL]
theorem eA_sw {L : List En} {i j : Nat} (hi : i < L.length) (hj : j < L.length) (x : Nat) : eA (swL L i j) x = if x = j then eA L i else if x = i then eA L j else eA L x := by
  unfold swL
  rw [eA_set (by simpa using hj), eA_set hi]
  by_cases e1 : j = x
  · subst e1; simp
  · by_cases e2 : i = x
    · subst e2; simp [e1, Ne.symm e1]
    · simp [e1, e2, Ne.symm e1, Ne.symm e2]
theorem swL_perm {L : List En} {i j : Nat} (hi : i < L.length) (hj : j < L.length) : (swL L i j).Perm L := by
  rw [List.perm_iff_count]
  intro a
  have hsw : swL L i j = (L.set i L[j]).set j L[i] := by unfold swL; rw [eA_get hi, eA_get hj]
  rw [hsw]
  have hj' : j < (L.set i L[j]).length := by simpa using hj
  have h1 : 0 < L.count L[i] := List.count_pos_iff.2 (List.getElem_mem hi)
  have h2 : 0 < L.count L[j] := List.count_pos_iff.2 (List.getElem_mem hj)
  rw [List.count_set hj', List.count_set hi, List.getElem_set]
  by_cases e : i = j
  · subst e
    by_cases e1 : L[i] = a
    · subst e1; simp
    · simp [e1]
  · simp only [e, if_false]
    by_cases e1 : L[i] = a
    · by_cases e2 : L[j] = a
      · simp only [e1, e2, beq_self_eq_true, if_true]; rw [e1] at h1; omega
      · have : (L[j] == a) = false := by simpa using e2
        simp only [e1, this, beq_self_eq_true, if_true]; rw [e1] at h1; simp; omega
    · have h3 : (L[i] == a) = false := by simpa using e1
      by_cases e2 : L[j] = a
      · simp only [h3, e2, beq_self_eq_true, if_true]; rw [e2] at h2; simp
      · have h4 : (L[j] == a) = false := by simpa using e2
        simp [h3, h4]
/-- A heap. -/
def Hq (kk : Bool) (L : List En) : Prop := ∀ j, 0 < j → j < L.length → ¬ bf kk (eA L j) (eA L ((j - 1) / 2))
/-- A heap but for the one at place i, which may have to go up. -/
structure Up (kk : Bool) (L : List En) (i : Nat) : Prop where
  lt : i < L.length
  r1 : ∀ j, 0 < j → j < L.length → j ≠ i → ¬ bf kk (eA L j) (eA L ((j - 1) / 2))
  r2 : 0 < i → ∀ j, 0 < j → j < L.length → (j - 1) / 2 = i → ¬ bf kk (eA L j) (eA L ((i - 1) / 2))
theorem Up.done {kk : Bool} {L : List En} {i : Nat} (h : Up kk L i) (h0 : i = 0 ∨ ¬ bf kk (eA L i) (eA L ((i - 1) / 2))) : Hq kk L := fun j hj hl => by
  by_cases e : j = i
  · subst e
    rcases h0 with h0 | h0
    · omega
    · exact h0
  · exact h.r1 j hj hl e
theorem Up.step {kk : Bool} {L : List En} {i : Nat} (h : Up kk L i) (h0 : 0 < i) (hb : bf kk (eA L i) (eA L ((i - 1) / 2))) : Up kk (swL L i ((i - 1) / 2)) ((i - 1) / 2) := by
  have hi := h.lt
  have hp : (i - 1) / 2 < L.length := by omega
  have hne : (i - 1) / 2 ≠ i := by omega
  have a1 : ∀ x, eA (swL L i ((i - 1) / 2)) x = if x = (i - 1) / 2 then eA L i else if x = i then eA L ((i - 1) / 2) else eA L x := eA_sw hi hp
  refine ⟨by rw [swL_length]; exact hp, fun j hj hl hn => ?_, fun hp0 j hj hl hpj => ?_⟩
  · rw [swL_length] at hl
    rw [a1 j, a1 ((j - 1) / 2), if_neg hn]
    by_cases e : j = i
    · subst e
      rw [if_pos rfl, if_pos rfl]
      exact bf_asym hb
    · rw [if_neg e]
      by_cases e1 : (j - 1) / 2 = (i - 1) / 2
      · rw [if_pos e1]
        have k1 := h.r1 j hj hl e
        rw [e1] at k1
        exact bf_trans (bf_asym hb) k1
      · rw [if_neg e1]
        by_cases e2 : (j - 1) / 2 = i
        · rw [if_pos e2]
          exact h.r2 h0 j hj hl e2
        · rw [if_neg e2]
          exact h.r1 j hj hl e
  · rw [swL_length] at hl
    rw [a1 j, a1 (((i - 1) / 2 - 1) / 2), if_neg (by omega), if_neg (show ((i - 1) / 2 - 1) / 2 ≠ (i - 1) / 2 by omega), if_neg (show ((i - 1) / 2 - 1) / 2 ≠ i by omega)]
    have k2 := h.r1 ((i - 1) / 2) hp0 hp hne
    by_cases e : j = i
    · rw [if_pos e]
      exact k2
    · rw [if_neg e]
      have k1 := h.r1 j hj hl e
      rw [hpj] at k1
      exact bf_trans k2 k1
/-- A heap but for the one at place i, which may have to go down. -/
structure Dn (kk : Bool) (L : List En) (i : Nat) : Prop where
  s1 : ∀ j, 0 < j → j < L.length → (j - 1) / 2 ≠ i → ¬ bf kk (eA L j) (eA L ((j - 1) / 2))
  s2 : 0 < i → ∀ j, 0 < j → j < L.length → (j - 1) / 2 = i → ¬ bf kk (eA L j) (eA L ((i - 1) / 2))
theorem Dn.done {kk : Bool} {L : List En} {i : Nat} (h : Dn kk L i) (h0 : ∀ j, 0 < j → j < L.length → (j - 1) / 2 = i → ¬ bf kk (eA L j) (eA L i)) : Hq kk L := fun j hj hl => by
  by_cases e : (j - 1) / 2 = i
  · rw [e]; exact h0 j hj hl e
  · exact h.s1 j hj hl e
theorem Dn.leaf {kk : Bool} {L : List En} {i : Nat} (h : Dn kk L i) (h0 : L.length ≤ 2 * i + 1) : Hq kk L := h.done (fun j hj hl e => by omega)
theorem Dn.step {kk : Bool} {L : List En} {i c : Nat} (h : Dn kk L i) (hc : c < L.length) (hp : c = 2 * i + 1 ∨ c = 2 * i + 2) (hb : bf kk (eA L c) (eA L i)) (ho : ∀ j, 0 < j → j < L.length → (j - 1) / 2 = i → ¬ bf kk (eA L j) (eA L c)) : Dn kk (swL L c i) c := by
  have hi : i < L.length := by omega
  have a1 : ∀ x, eA (swL L c i) x = if x = i then eA L c else if x = c then eA L i else eA L x := eA_sw hc hi
  refine ⟨fun j hj hl hn => ?_, fun _ j hj hl hpj => ?_⟩
  · rw [swL_length] at hl
    rw [a1 j, a1 ((j - 1) / 2)]
    by_cases e : j = i
    · rw [if_pos e, if_neg (by omega), if_neg (by omega)]
      subst e
      exact h.s2 hj c (by omega) hc (by omega)
    · rw [if_neg e]
      by_cases e1 : (j - 1) / 2 = i
      · rw [if_pos e1]
        by_cases e2 : j = c
        · rw [if_pos e2]; exact bf_asym hb
        · rw [if_neg e2]; exact ho j hj hl e1
      · rw [if_neg e1, if_neg (show j ≠ c by omega), if_neg hn]
        exact h.s1 j hj hl e1
  · rw [swL_length] at hl
    rw [a1 j, a1 ((c - 1) / 2), if_neg (by omega), if_neg (show j ≠ c by omega), if_pos (by omega)]
    have := h.s1 j hj hl (by omega)
    rw [hpj] at this
    exact this
theorem Dn.stay {kk : Bool} {L : List En} {i c : Nat} (h : Dn kk L i) (hb : ¬ bf kk (eA L c) (eA L i)) (ho : ∀ j, 0 < j → j < L.length → (j - 1) / 2 = i → ¬ bf kk (eA L j) (eA L c)) : Hq kk L := h.done (fun j hj hl e => bf_trans hb (ho j hj hl e))
/-- The first of a heap is the least. -/
theorem Hq.least {kk : Bool} {L : List En} (h : Hq kk L) : ∀ i, i < L.length → ¬ bf kk (eA L i) (eA L 0)
  | 0, _ => bf_irr
  | i + 1, hi => bf_trans (h.least ((i + 1 - 1) / 2) (by omega)) (h (i + 1) (by omega) hi)
termination_by i => i
decreasing_by omega
theorem Hq.pushed {kk : Bool} {L : List En} (h : Hq kk L) (e : En) : Up kk (L ++ [e]) L.length := by
  have a1 : ∀ x, x < L.length → eA (L ++ [e]) x = eA L x := fun x hx => by unfold eA; rw [List.getD_eq_getElem?_getD, List.getD_eq_getElem?_getD, List.getElem?_append_left hx]
  refine ⟨by simp, fun j hj hl hn => ?_, fun _ j hj hl hpj => ?_⟩
  · have hl' : j < L.length := by simp at hl; omega
    rw [a1 j hl', a1 _ (by omega)]
    exact h j hj hl'
  · simp at hl
    omega
/-- The last one brought to the head. -/
def popL (L : List En) : List En := (L.set 0 (eA L (L.length - 1))).take (L.length - 1)
theorem popL_length (L : List En) : (popL L).length = L.length - 1 := by simp [popL]
theorem eA_take {M : List En} {n x : Nat} (h : x < n) : eA (M.take n) x = eA M x := by unfold eA; rw [List.getD_eq_getElem?_getD, List.getD_eq_getElem?_getD, List.getElem?_take, if_pos h]
theorem eA_pop {L : List En} {x : Nat} (hx : x < L.length - 1) : eA (popL L) x = if x = 0 then eA L (L.length - 1) else eA L x := by
  have : eA (popL L) x = eA (L.set 0 (eA L (L.length - 1))) x := eA_take hx
  rw [this, eA_set (by omega)]
  by_cases e : x = 0
  · subst e; simp
  · rw [if_neg (Ne.symm e), if_neg e]
theorem Hq.popped {kk : Bool} {L : List En} (h : Hq kk L) : Dn kk (popL L) 0 := by
  refine ⟨fun j hj hl hn => ?_, fun h0 => by omega⟩
  rw [popL_length] at hl
  rw [eA_pop hl, eA_pop (show (j - 1) / 2 < L.length - 1 by omega), if_neg (by omega), if_neg hn]
  exact h j hj (by omega)
theorem popL_perm {L : List En} (h : 0 < L.length) : (eA L 0 :: popL L).Perm L := by
  obtain ⟨x, r, rfl⟩ : ∃ x r, L = x :: r := by cases L with | nil => cases h | cons x r => exact ⟨x, r, rfl⟩
  have e0 : eA (x :: r) 0 = x := rfl
  rw [e0]
  refine List.Perm.cons x ?_
  unfold popL
  rcases List.eq_nil_or_concat r with rfl | ⟨s, y, rfl⟩
  · simp
  · have e1 : eA (x :: (s ++ [y])) ((x :: (s ++ [y])).length - 1) = y := by unfold eA; simp [List.getD_eq_getElem?_getD]
    rw [List.concat_eq_append, e1]
    have e2 : (((x :: (s ++ [y])).set 0 y).take ((x :: (s ++ [y])).length - 1)) = y :: s := by simp
    rw [e2]
    exact List.perm_append_singleton y s |>.symm
end Go.Proofs.Ytgbbjhhggjocmaa
