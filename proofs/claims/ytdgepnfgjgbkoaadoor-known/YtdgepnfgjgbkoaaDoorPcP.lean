/-
  Texts cut at a byte: the library's words and the plain ones.
-/
import Derived.Test.YtdgepnfgjgbkoaaDoorWdP
import Derived.Lib.Split
import Derived.Lib.CutLaws
namespace Go.Proofs.YtdgepnfgjgbkoaaDoor

theorem cutC_none {c : UInt8} : ∀ {l : List UInt8}, (cutC c l).2 = none → (cutC c l).1 = l ∧ c ∉ l
  | [], _ => by simp [cutC]
  | a :: t, h => by
    unfold cutC at h ⊢
    by_cases e : a = c
    · rw [if_pos e] at h
      cases h
    · rw [if_neg e] at h ⊢
      obtain ⟨h1, h2⟩ := cutC_none h
      exact ⟨by rw [h1], by simp only [List.mem_cons, not_or]; exact ⟨fun q => e q.symm, h2⟩⟩
theorem cutC_some {c : UInt8} : ∀ {l t : List UInt8}, (cutC c l).2 = some t → l = (cutC c l).1 ++ c :: t ∧ c ∉ (cutC c l).1
  | [], t, h => by simp [cutC] at h
  | a :: l, t, h => by
    unfold cutC at h ⊢
    by_cases e : a = c
    · rw [if_pos e] at h ⊢
      injection h with h
      subst h e
      simp
    · rw [if_neg e] at h ⊢
      obtain ⟨h1, h2⟩ := cutC_some h
      refine ⟨?_, ?_⟩
      · simp only [List.cons_append]
        rw [← h1]
      · simp only [List.mem_cons, not_or]
        exact ⟨fun q => e q.symm, h2⟩
theorem cutC_hit {c : UInt8} : ∀ (a t : List UInt8), c ∉ a → cutC c (a ++ c :: t) = (a, some t)
  | [], t, _ => by simp [cutC]
  | b :: a, t, h => by
    simp only [List.mem_cons, not_or] at h
    rw [List.cons_append, cutC, if_neg (fun e => h.1 e.symm), cutC_hit a t h.2]
theorem cutC_miss {c : UInt8} : ∀ (a : List UInt8), c ∉ a → cutC c a = (a, none)
  | [], _ => by simp [cutC]
  | b :: a, h => by
    simp only [List.mem_cons, not_or] at h
    rw [cutC, if_neg (fun e => h.1 e.symm), cutC_miss a h.2]
theorem cutC_take {c : UInt8} {l t : List UInt8} (h : (cutC c l).2 = some t) : l.take (cutC c l).1.length = (cutC c l).1 ∧ l.drop ((cutC c l).1.length + 1) = t := by
  have h1 := (cutC_some h).1
  generalize (cutC c l).1 = a at h1
  subst h1
  simp
theorem index_cut (c : UInt8) : ∀ l : List UInt8, Lib.index l [c] = match (cutC c l).2 with | none => -1 | some _ => ((cutC c l).1.length : Int)
  | [] => by simp [Lib.index, cutC]
  | a :: t => by
    have ih := index_cut c t
    unfold Lib.index cutC
    by_cases e : a = c
    · subst e
      simp
    · have h1 : [c].isPrefixOf (a :: t) = false := by simp [List.isPrefixOf]; exact fun q => e q.symm
      rw [h1, if_neg e, ih]
      cases h2 : (cutC c t).2 with
      | none => simp
      | some x =>
        simp only [List.length_cons, Bool.false_eq_true, if_false]
        rw [if_neg (by simp)]
        push_cast
        rfl
theorem splitK_pcs : ∀ (k : Nat) (l : List UInt8), Lib.splitK [63] 0 k l = pcs k l
  | 0, _ => rfl
  | k + 1, l => by
    unfold Lib.splitK pcs
    rw [index_cut]
    cases h : (cutC 63 l).2 with
    | none => simp
    | some t =>
      dsimp only
      rw [if_neg (by simp)]
      have e1 : l.take (((cutC 63 l).1.length : Int).toNat + 0) = (cutC 63 l).1 := (cutC_take h).1
      have e2 : l.drop (((cutC 63 l).1.length : Int).toNat + [(63 : UInt8)].length) = t := (cutC_take h).2
      rw [e1, e2, splitK_pcs k t]
theorem pcs_len : ∀ (k : Nat) (l : List UInt8), l.length ≤ k → pcs k l = pcs l.length l
  | 0, l, h => by
    have : l = [] := List.eq_nil_of_length_eq_zero (by omega)
    subst this
    rfl
  | k + 1, l, h => by
    cases l with
    | nil => simp [pcs, cutC]
    | cons a t =>
      rw [List.length_cons]
      unfold pcs
      cases h2 : (cutC 63 (a :: t)).2 with
      | none => rfl
      | some x =>
        have h1 := congrArg List.length (cutC_some h2).1
        simp only [List.length_cons, List.length_append] at h1 h
        dsimp only
        rw [pcs_len k x (by omega), ← pcs_len t.length x (by omega)]
theorem pcs_le : ∀ (k : Nat) (l x : List UInt8), x ∈ pcs k l → x.length ≤ l.length
  | 0, l, x, h => by
    simp only [pcs, List.mem_singleton] at h
    rw [h]
    exact Nat.le_refl _
  | k + 1, l, x, h => by
    unfold pcs at h
    cases h2 : (cutC 63 l).2 with
    | none =>
      rw [h2] at h
      simp only [List.mem_singleton] at h
      rw [h]
      exact Nat.le_refl _
    | some t =>
      rw [h2] at h
      have h1 := congrArg List.length (cutC_some h2).1
      simp only [List.length_append, List.length_cons] at h1
      rcases List.mem_cons.1 h with rfl | h
      · omega
      · have := pcs_le k t x h
        omega
theorem pcs_tot : ∀ (k : Nat) (l : List UInt8), ((pcs k l).map List.length).sum + (pcs k l).length = l.length + 1
  | 0, l => by simp [pcs]
  | k + 1, l => by
    unfold pcs
    cases h2 : (cutC 63 l).2 with
    | none => simp
    | some t =>
      have h1 := congrArg List.length (cutC_some h2).1
      have ih := pcs_tot k t
      simp only [List.length_append, List.length_cons, List.map_cons, List.sum_cons] at h1 ih ⊢
      omega
theorem pcs_min (k : Nat) (l : List UInt8) : pcs (min k l.length) l = pcs k l := by
  by_cases h : k ≤ l.length
  · rw [Nat.min_eq_left h]
  · rw [Nat.min_eq_right (by omega), pcs_len k l (by omega)]
/-- strings.SplitN(s, "?", 5). -/
theorem split_pcs (s : ByteArray) : (Lib.splitB ⟨#[63]⟩ 0 (min 5 (s.size + 1) - 1) s).map (·.data.toList) = pcs 4 s.data.toList := by
  have e : min 5 (s.size + 1) - 1 = min 4 s.data.toList.length := by
    have : s.data.toList.length = s.size := by rw [Array.length_toList]; rfl
    omega
  rw [Lib.splitB_data, e]
  show Lib.splitK [63] 0 _ _ = _
  rw [splitK_pcs, pcs_min]
theorem cut_fst (c : UInt8) (l : List UInt8) : (Lib.cut l [c]).1 = (cutC c l).1 := by
  unfold Lib.cut
  rw [index_cut]
  cases h : (cutC c l).2 with
  | none => simp [(cutC_none h).1]
  | some t =>
    dsimp only
    rw [if_pos (by simp)]
    exact (cutC_take h).1
end Go.Proofs.YtdgepnfgjgbkoaaDoor
