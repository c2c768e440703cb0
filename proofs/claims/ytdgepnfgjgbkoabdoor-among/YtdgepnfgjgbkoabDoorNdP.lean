/-
  The document's Parts: the plain part.
-/
import Derived.Test.YtdgepnfgjgbkoabDoorEnP
namespace Go.Proofs.YtdgepnfgjgbkoabDoor

/-- The places of a text's question marks. -/
def mks : Nat → List UInt8 → List Nat
  | _, [] => []
  | n, c :: t => if c = 63 then n :: mks (n + 1) t else mks (n + 1) t
theorem mks_snoc (c : UInt8) : ∀ (l : List UInt8) (n : Nat), mks n (l ++ [c]) = mks n l ++ (if c = 63 then [n + l.length] else [])
  | [], n => by by_cases h : c = 63 <;> simp [mks, h]
  | a :: t, n => by
    have ih := mks_snoc c t (n + 1)
    show (if a = 63 then n :: mks (n + 1) (t ++ [c]) else mks (n + 1) (t ++ [c])) = (if a = 63 then n :: mks (n + 1) t else mks (n + 1) t) ++ _
    rw [ih, show n + 1 + t.length = n + (a :: t).length from by simp; omega]
    split <;> simp
theorem mks_len : ∀ (l : List UInt8) (n : Nat), (mks n l).length ≤ l.length
  | [], _ => Nat.zero_le _
  | a :: t, n => by
    have ih := mks_len t (n + 1)
    show (if a = 63 then n :: mks (n + 1) t else mks (n + 1) t).length ≤ _
    split <;> simp <;> omega
theorem mks_take (l : List UInt8) (k : Nat) (h : k < l.length) : mks 0 (l.take (k + 1)) = mks 0 (l.take k) ++ (if l[k] = 63 then [k] else []) := by
  rw [List.take_succ_eq_append_getElem h, mks_snoc, List.length_take, Nat.min_eq_left (by omega), Nat.zero_add]
theorem mks_none : ∀ (l : List UInt8) (n : Nat), 63 ∉ l → mks n l = []
  | [], _, _ => rfl
  | a :: t, n, h => by
    have h1 : a ≠ 63 := fun e => h (by simp [e])
    show (if a = 63 then n :: mks (n + 1) t else mks (n + 1) t) = _
    rw [if_neg h1, mks_none t (n + 1) (fun hc => h (by simp [hc]))]
theorem mks_some (t : List UInt8) : ∀ (a : List UInt8) (n : Nat), 63 ∉ a → mks n (a ++ 63 :: t) = (n + a.length) :: mks (n + a.length + 1) t
  | [], n, _ => by show (if (63 : UInt8) = 63 then n :: mks (n + 1) t else mks (n + 1) t) = _; rw [if_pos rfl]; rfl
  | x :: a, n, h => by
    have h1 : x ≠ 63 := fun e => h (by simp [e])
    show (if x = 63 then n :: mks (n + 1) (a ++ 63 :: t) else mks (n + 1) (a ++ 63 :: t)) = _
    rw [if_neg h1, mks_some t a (n + 1) (fun hc => h (by simp [hc])), show n + 1 + a.length = n + (x :: a).length from by simp; omega]
theorem mks_cut (l : List UInt8) (n : Nat) : mks n l = match (cutC 63 l).2 with | none => [] | some t => (n + (cutC 63 l).1.length) :: mks (n + (cutC 63 l).1.length + 1) t := by
  cases h : (cutC 63 l).2 with
  | none =>
    have := cutC_none h
    exact mks_none l n (by have h2 := this.2; exact h2)
  | some t =>
    have := cutC_some h
    have h1 := mks_some t (cutC 63 l).1 n this.2
    rw [← this.1] at h1
    exact h1
def good33 (c : UInt8) : Bool := decide (33 ≤ c.toNat) && decide (c.toNat ≤ 126)
def isBQ (b : List UInt8) : Bool := b == [66] || b == [98] || b == [81] || b == [113]
/-- The document's Parts. -/
def vP (l : List UInt8) : Option (List UInt8 × List UInt8 × List UInt8) :=
  if l.all good33 = true then match mks 0 l with
    | [a, b, c, d] => if a = 1 ∧ d + 2 = l.length ∧ l[0]? = some 61 ∧ l[l.length - 1]? = some 61 ∧ cutW l 2 b ≠ [] ∧ isBQ (cutW l (b + 1) c) = true then some (cutW l 2 b, cutW l (b + 1) c, cutW l (c + 1) d) else none
    | _ => none
  else none
theorem vP_bad {l : List UInt8} (k : Nat) (hk : k < l.length) (h : ¬ (33 ≤ l[k].toNat ∧ l[k].toNat ≤ 126)) : vP l = none := by
  unfold vP
  rw [if_neg]
  intro hall
  have := List.all_eq_true.1 hall _ (List.getElem_mem hk)
  simp only [good33, Bool.and_eq_true, decide_eq_true_eq] at this
  exact h this
theorem vP_gap {c : UInt8} {t : List UInt8} (h : blk c = true) : vP (c :: t) = none := by
  refine vP_bad 0 (by simp) ?_
  have := u8_all (p := fun c => decide (blk c = true → ¬ (33 ≤ c.toNat ∧ c.toNat ≤ 126))) (by decide +kernel) c
  exact (of_decide_eq_true this) h
theorem bq_up (b : List UInt8) : isBQ b = true ↔ (upL b = [66] ∨ upL b = [81]) := by
  match b with
  | [] => decide
  | [c] =>
    have := u8_all (p := fun c => decide (isBQ [c] = true ↔ (upL [c] = [66] ∨ upL [c] = [81]))) (by decide +kernel) c
    exact of_decide_eq_true this
  | _ :: _ :: _ => simp [isBQ, upL]
theorem good_bad {l : List UInt8} (hb : ∀ c ∈ l, blk c = false) : l.all good33 = true ↔ ¬ badN 12 l < l.length := by
  have key : ∀ c : UInt8, blk c = false → (good33 c = true ↔ isB 12 (c.toNat : Int) = true) := fun c => by
    have := u8_all (p := fun c => decide (blk c = false → (good33 c = true ↔ isB 12 (c.toNat : Int) = true))) (by decide +kernel) c
    exact of_decide_eq_true this
  induction l with
  | nil => simp [badN]
  | cons a t ih =>
    have ih := ih (fun c hc => hb c (by simp [hc]))
    have ha := key a (hb a (by simp))
    have hle := badN_le 12 t
    by_cases h : isB 12 (a.toNat : Int) = true
    · have := badN_yes 12 (a :: t) 0 (by simp) h
      simp only [List.drop_zero, List.drop_succ_cons] at this
      rw [List.all_cons, this, List.length_cons, ha.2 h, Bool.true_and]
      exact ⟨fun h => by have := ih.1 h; omega, fun h => ih.2 (by omega)⟩
    · have := badN_no 12 (a :: t) 0 (by simp) (by simpa using h)
      simp only [List.drop_zero] at this
      rw [List.all_cons, this, List.length_cons]
      have h2 : good33 a = false := by
        cases h3 : good33 a with
        | false => rfl
        | true => exact absurd (ha.1 h3) h
      simp [h2]
theorem vP_len {l : List UInt8} (h : (mks 0 l).length ≠ 4) : vP l = none := by
  unfold vP
  split
  · split
    · rename_i he; rw [he] at h; exact absurd rfl h
    · rfl
  · rfl
theorem mks_in : ∀ (l : List UInt8) (n : Nat), ∀ x ∈ mks n l, n ≤ x ∧ x < n + l.length
  | [], _, x, h => by cases h
  | a :: t, n, x, h => by
    have ih := mks_in t (n + 1) x
    unfold mks at h
    rw [List.length_cons]
    split at h
    · rcases List.mem_cons.1 h with rfl | h
      · omega
      · have := ih h; omega
    · have := ih h; omega
theorem mks_ord : ∀ (l : List UInt8) (n : Nat), (mks n l).Pairwise (· < ·)
  | [], _ => List.Pairwise.nil
  | a :: t, n => by
    unfold mks
    split
    · exact List.Pairwise.cons (fun x hx => by have := mks_in t (n + 1) x hx; omega) (mks_ord t (n + 1))
    · exact mks_ord t (n + 1)
theorem mks_four {l : List UInt8} {a b c d : Nat} (h : mks 0 l = [a, b, c, d]) : a < b ∧ b < c ∧ c < d ∧ d < l.length := by
  have h1 := mks_ord l 0
  have h2 := mks_in l 0 d (by rw [h]; simp)
  rw [h] at h1
  simp only [List.pairwise_cons, List.mem_cons, List.mem_nil_iff, or_false] at h1
  exact ⟨h1.1 b (.inl rfl), h1.2.1 c (.inl rfl), h1.2.2.1 d rfl, by omega⟩
theorem vP_four {l : List UInt8} {a b c d : Nat} (h : mks 0 l = [a, b, c, d]) (hall : l.all good33 = true) : vP l = if a = 1 ∧ d + 2 = l.length ∧ l[0]? = some 61 ∧ l[l.length - 1]? = some 61 ∧ cutW l 2 b ≠ [] ∧ isBQ (cutW l (b + 1) c) = true then some (cutW l 2 b, cutW l (b + 1) c, cutW l (c + 1) d) else none := by
  unfold vP
  rw [if_pos hall, h]
end Go.Proofs.YtdgepnfgjgbkoabDoor
/-
  The document's Parts and the words: the plain part.
-/
namespace Go.Proofs.YtdgepnfgjgbkoabDoor

/-- Cut at four question marks. -/
theorem four_cut (l : List UInt8) : (∃ p0 p1 p2 p3 t : List UInt8, l = p0 ++ 63 :: (p1 ++ 63 :: (p2 ++ 63 :: (p3 ++ 63 :: t))) ∧ 63 ∉ p0 ∧ 63 ∉ p1 ∧ 63 ∉ p2 ∧ 63 ∉ p3) ∨ ((mks 0 l).length < 4 ∧ (pcs 4 l).length < 5) := by
  have e0 := mks_cut l 0
  cases h0 : (cutC 63 l).2 with
  | none => right; rw [e0, h0]; simp [pcs, h0]
  | some t0 =>
    obtain ⟨q0, n0⟩ := cutC_some h0
    rw [h0] at e0
    dsimp only at e0
    have e1 := mks_cut t0 (0 + (cutC 63 l).1.length + 1)
    cases h1 : (cutC 63 t0).2 with
    | none => right; rw [h1] at e1; dsimp only at e1; rw [e0, e1]; simp [pcs, h0, h1]
    | some t1 =>
      obtain ⟨q1, n1⟩ := cutC_some h1
      rw [h1] at e1
      dsimp only at e1
      have e2 := mks_cut t1 (0 + (cutC 63 l).1.length + 1 + (cutC 63 t0).1.length + 1)
      cases h2 : (cutC 63 t1).2 with
      | none => right; rw [h2] at e2; dsimp only at e2; rw [e0, e1, e2]; simp [pcs, h0, h1, h2]
      | some t2 =>
        obtain ⟨q2, n2⟩ := cutC_some h2
        rw [h2] at e2
        dsimp only at e2
        have e3 := mks_cut t2 (0 + (cutC 63 l).1.length + 1 + (cutC 63 t0).1.length + 1 + (cutC 63 t1).1.length + 1)
        cases h3 : (cutC 63 t2).2 with
        | none => right; rw [h3] at e3; dsimp only at e3; rw [e0, e1, e2, e3]; simp [pcs, h0, h1, h2, h3]
        | some t3 =>
          obtain ⟨q3, n3⟩ := cutC_some h3
          left
          refine ⟨(cutC 63 l).1, (cutC 63 t0).1, (cutC 63 t1).1, (cutC 63 t2).1, t3, ?_, n0, n1, n2, n3⟩
          rw [← q3, ← q2, ← q1, ← q0]
theorem four_mks {p0 p1 p2 p3 t : List UInt8} (n0 : 63 ∉ p0) (n1 : 63 ∉ p1) (n2 : 63 ∉ p2) (n3 : 63 ∉ p3) : mks 0 (p0 ++ 63 :: (p1 ++ 63 :: (p2 ++ 63 :: (p3 ++ 63 :: t)))) =
    p0.length :: (p0.length + 1 + p1.length) :: (p0.length + 1 + p1.length + 1 + p2.length) :: (p0.length + 1 + p1.length + 1 + p2.length + 1 + p3.length) :: mks (p0.length + 1 + p1.length + 1 + p2.length + 1 + p3.length + 1) t := by
  rw [mks_some _ _ _ n0, mks_some _ _ _ n1, mks_some _ _ _ n2, mks_some _ _ _ n3, Nat.zero_add]
theorem four_pcs {p0 p1 p2 p3 t : List UInt8} (n0 : 63 ∉ p0) (n1 : 63 ∉ p1) (n2 : 63 ∉ p2) (n3 : 63 ∉ p3) : pcs 4 (p0 ++ 63 :: (p1 ++ 63 :: (p2 ++ 63 :: (p3 ++ 63 :: t)))) = [p0, p1, p2, p3, t] := by
  have h0 := cutC_hit (c := 63) p0 (p1 ++ 63 :: (p2 ++ 63 :: (p3 ++ 63 :: t))) n0
  have h1 := cutC_hit (c := 63) p1 (p2 ++ 63 :: (p3 ++ 63 :: t)) n1
  have h2 := cutC_hit (c := 63) p2 (p3 ++ 63 :: t) n2
  have h3 := cutC_hit (c := 63) p3 t n3
  simp only [pcs, h0, h1, h2, h3]
theorem mks_mem {t : List UInt8} {n : Nat} (h : mks n t = []) : 63 ∉ t := by
  intro hm
  have := mks_cut t n
  cases hc : (cutC 63 t).2 with
  | none => exact (cutC_none hc).2 hm
  | some x => rw [hc, h] at this; cases this
theorem cut_mid3 (a b c : List UInt8) : cutW (a ++ b ++ c) a.length (a.length + b.length) = b := by
  unfold cutW
  rw [List.append_assoc, List.drop_left, Nat.add_sub_cancel_left, List.take_left]
theorem last_cut {p t : List UInt8} (h : t.length = 1) (hl : (p ++ t)[(p ++ t).length - 1]? = some 61) : t = [61] := by
  match t, h with
  | [x], _ =>
    have e : (p ++ [x]).length - 1 = p.length := by simp
    rw [e] at hl
    simp at hl
    rw [hl]
theorem vP_pW {l : List UInt8} (hb : ∀ c ∈ l, blk c = false) : pW l = (vP l).map fun p => (p.1, decide (upL p.2.1 = [81]), p.2.2) := by
  by_cases hg : l.all good33 = true
  · have hbad := (good_bad hb).1 hg
    rcases four_cut l with ⟨p0, p1, p2, p3, t, hl, n0, n1, n2, n3⟩ | ⟨h1, h2⟩
    · have hm := four_mks n0 n1 n2 n3 (t := t)
      have hp := four_pcs n0 n1 n2 n3 (t := t)
      rw [← hl] at hm hp
      by_cases ht : mks (p0.length + 1 + p1.length + 1 + p2.length + 1 + p3.length + 1) t = []
      · rw [ht] at hm
        rw [vP_four hm hg]
        have hlen : l.length = p0.length + 1 + p1.length + 1 + p2.length + 1 + p3.length + 1 + t.length := by rw [hl]; simp; omega
        unfold pW
        rw [if_neg hbad, hp]
        dsimp only
        by_cases h0 : p0 = [61]
        · subst h0
          by_cases hte : t = [61]
          · subst hte
            have hl0 : l[0]? = some 61 := by rw [hl]; rfl
            have hlz : l[l.length - 1]? = some 61 := by
              have e : l = ([61] ++ 63 :: (p1 ++ 63 :: (p2 ++ 63 :: (p3 ++ [63])))) ++ [61] := by rw [hl]; simp
              rw [e, List.length_append, List.length_singleton, Nat.add_sub_cancel]
              simp
            have c1 : cutW l 2 (([61] : List UInt8).length + 1 + p1.length) = p1 := by
              have := cut_mid3 [61, 63] p1 (63 :: (p2 ++ 63 :: (p3 ++ 63 :: [61])))
              rw [← show l = [61, 63] ++ p1 ++ (63 :: (p2 ++ 63 :: (p3 ++ 63 :: [61]))) from by rw [hl]; simp] at this
              exact this
            have c2 : cutW l (([61] : List UInt8).length + 1 + p1.length + 1) (([61] : List UInt8).length + 1 + p1.length + 1 + p2.length) = p2 := by
              have := cut_mid3 ([61, 63] ++ p1 ++ [63]) p2 (63 :: (p3 ++ 63 :: [61]))
              rw [← show l = ([61, 63] ++ p1 ++ [63]) ++ p2 ++ (63 :: (p3 ++ 63 :: [61])) from by rw [hl]; simp] at this
              rw [show ([61, 63] ++ p1 ++ [63] : List UInt8).length = ([61] : List UInt8).length + 1 + p1.length + 1 from by simp; omega] at this
              exact this
            have c3 : cutW l (([61] : List UInt8).length + 1 + p1.length + 1 + p2.length + 1) (([61] : List UInt8).length + 1 + p1.length + 1 + p2.length + 1 + p3.length) = p3 := by
              have := cut_mid3 ([61, 63] ++ p1 ++ [63] ++ p2 ++ [63]) p3 (63 :: [61])
              rw [← show l = ([61, 63] ++ p1 ++ [63] ++ p2 ++ [63]) ++ p3 ++ (63 :: [61]) from by rw [hl]; simp] at this
              rw [show ([61, 63] ++ p1 ++ [63] ++ p2 ++ [63] : List UInt8).length = ([61] : List UInt8).length + 1 + p1.length + 1 + p2.length + 1 from by simp; omega] at this
              exact this
            rw [c1, c2, c3]
            have hbq := bq_up p2
            by_cases hc : p1 ≠ [] ∧ isBQ p2 = true
            · rw [if_pos ⟨rfl, hc.1, rfl, hbq.1 hc.2⟩, if_pos ⟨rfl, by simp only [List.length_singleton] at hlen ⊢; omega, hl0, hlz, hc.1, hc.2⟩]
              rfl
            · rw [if_neg (fun h => hc ⟨h.2.1, hbq.2 h.2.2.2⟩), if_neg (fun h => hc ⟨h.2.2.2.2.1, h.2.2.2.2.2⟩)]
              rfl
          · rw [if_neg (fun h => hte h.2.2.1), if_neg (fun h => hte ?_)]
            · rfl
            · have h2 := h.2.2.2.1
              have hd := h.2.1
              have e : l = ([61] ++ 63 :: (p1 ++ 63 :: (p2 ++ 63 :: (p3 ++ [63])))) ++ t := by rw [hl]; simp
              rw [e] at h2
              exact last_cut (by omega) h2
        · rw [if_neg (fun h => h0 h.1), if_neg (fun h => h0 ?_)]
          · rfl
          · have h2 := h.2.2.1
            rw [hl] at h2
            match p0, h.1 with
            | [x], _ => simp at h2; rw [h2]
      · have hx : (mks 0 l).length ≠ 4 := by rw [hm]; cases hy : mks (p0.length + 1 + p1.length + 1 + p2.length + 1 + p3.length + 1) t with
          | nil => exact absurd hy ht
          | cons a b => simp
        rw [vP_len hx]
        unfold pW
        rw [if_neg hbad, hp]
        refine if_neg (fun h => ht ?_)
        rw [h.2.2.1]
        rfl
    · rw [vP_len (by omega)]
      unfold pW
      rw [if_neg hbad]
      split
      · rename_i e; rw [e] at h2; simp at h2
      · rfl
  · have hbad : badN 12 l < l.length := by
      have := (good_bad hb).2
      rcases Nat.lt_or_ge (badN 12 l) l.length with h | h
      · exact h
      · exact absurd (this (by omega)) hg
    unfold pW vP
    rw [if_pos hbad, if_neg hg]
    rfl
end Go.Proofs.YtdgepnfgjgbkoabDoor
