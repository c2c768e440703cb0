/-
  The document's Unpuny.
-/
import Derived.Test.YtedgimkffkflbabGreatDoorRStp
import Derived.Test.YtedgimkffkflbabGreatDoorUnp
namespace Go.Proofs.YtedgimkffkflbabGreatDoor
open Go.RowKit

theorem nts_take {k : IntKind} {a : Option Addr} {l : List Int} {w : World} (h : Nts k a l w) (n : Nat) : Nts k a (l.take n) w := by
  rcases h with rfl | ⟨g, o, e, hg, hr⟩
  · exact .inl (by simp)
  · exact .inr ⟨g, o, e, hg, fun j hj => by rw [List.length_take] at hj; rw [hr j (by omega), List.getElem_take]⟩
theorem nts_drop {k : IntKind} {g o : Nat} {l : List Int} {w : World} (h : Nts k (some ⟨g, o, none⟩) l w) (n : Nat) : Nts k (some ⟨g, o + n, none⟩) (l.drop n) w := by
  rcases h with rfl | ⟨g', o', e, hg, hr⟩
  · exact .inl (by simp)
  · injection e with e
    injection e with e1 e2
    subst e1 e2
    refine .inr ⟨g, o + n, rfl, hg, fun j hj => ?_⟩
    rw [List.length_drop] at hj
    rw [Nat.add_assoc, hr (n + j) (by omega), List.getElem_drop]
/-- Numbers more behind a row of the call's own. -/
theorem wpList_append_nums {ops : Array Oper} {rest : List Oper} {o : Oper} {a : Act} {w : World} {Q : Exit → Act → World → Prop} (hgd : o.guard = none) (s x : Operand) (T e by' : Nat) (k : IntKind)
    (hT : Tryz.prog.underlying T = some (.slice e)) (hI : (Tryz.prog.info? e).map (fun i => (i.zero, i.size, i.bytes)) = some (some (.int k 0), 1, by')) (hby : 0 < by')
    (ho : o.op = .call { callee := .builtin .append, args := #[s, x], argTypes := #[T, T] }) (base : Nat) (v : Value) (n : Nat) (xs : List Int) (hs : a.eval s = v) (hown : w.ownsRow base e 1 v n (cellsN k xs))
    (sp : Option Addr) (l : List Int) (m c : Nat) (hx : a.eval x = .slice sp m c) (hm : m = l.length) (hb : Nts k sp l w) (hnc : sp = none → c = 0) (hbytes : (n + m) * by' ≤ 140737488355328) (hbase : base ≤ w.heap.size)
    (h : ∀ v' w', w'.ownsRow base e 1 v' (n + m) (cellsN k (xs ++ l)) → w.grownBy w' v.ownBlock → wpList Tryz.prog ops Q rest (a.put o.dst v') w') : wpList Tryz.prog ops Q (o :: rest) a w := by
  obtain ⟨i0, hi, hz0, hz1, hz2⟩ := info_parts hI
  subst hm
  have hn : n + l.length ≤ 140737488355328 := Nat.le_trans (Nat.le_mul_of_pos_right _ hby) hbytes
  cases sp with
  | none =>
    obtain rfl := nts_none hb
    obtain rfl := hnc rfl
    refine wpList_append_own_none hgd s x T ho base e i0 1 hT hi v n _ hs hown hx ?_
    exact h v w (by simpa using hown) (World.grownBy.refl w _)
  | some ad =>
    refine wpList_append_own _ hgd s x T ho base e i0 (.int k 0) 1 by' hT hi hz0 hz1 hz2 rfl (by decide) v n _ hs hown ad l.length c (cellsN k l) hx (by rw [cellsN_length]; omega) (nts_news hb) (cellsN_one k _) (by unfold maxLen; omega) hbytes hbase ?_
    intro v' w' hown' hgrow _
    exact h v' w' (by rw [cellsN_append]; exact hown') hgrow

/-- What comes of a list and of the steps that are left. -/
def finU (acc : List Int) (r : (Nat × Nat) ⊕ List (Int × Nat)) : List Int × (Nat × Nat) := match r with
  | .inl e => ([], e)
  | .inr ps => (insAll acc ps, (0, 0))
def mkP (l : List UInt8) (p : Nat) : Nat := if 0 < lastI l p then (lastI l p).toNat + 1 else 0
theorem mkP_one (l : List UInt8) : mkP l 1 = 0 := by
  have := lastI_lt l 1
  unfold mkP
  rw [if_neg (by omega)]
theorem mkP_yes (l : List UInt8) (p : Nat) (h1 : 1 ≤ p) (h : l[p]? = some 45) : mkP l (p + 1) = p + 1 := by
  have e : lastI l (p + 1) = p := if_pos h
  unfold mkP
  rw [e, if_pos (by omega)]
  omega
theorem mkP_no (l : List UInt8) (p : Nat) (h : l[p]? ≠ some 45) : mkP l (p + 1) = mkP l p := by
  have e : lastI l (p + 1) = lastI l p := if_neg h
  unfold mkP
  rw [e]
theorem mkP_end (l : List UInt8) (p : Nat) (h : p = max l.length 1) : mkP l p = mrkS l := by
  rcases Nat.eq_zero_or_pos l.length with h0 | h0
  · have e : p = 1 := by omega
    rw [e, mkP_one]
    unfold mrkS
    rw [h0]
    simp [lastI]
  · have e : p = l.length := by omega
    rw [e]
    rfl
theorem mrk_rel (l : List UInt8) : (mrkS l = 0 ∧ mrkN l = 0) ∨ mrkS l = mrkN l + 1 := by
  unfold mrkS mrkN
  split
  · exact .inr rfl
  · exact .inl ⟨rfl, rfl⟩
theorem hiN_at (l : List UInt8) (k : Nat) (hk : k < l.length) (h : ∀ j (hj : j < l.length), j < k → l[j].toNat < 128) (hr : ¬ l[k].toNat < 128) : hiN l = k := by
  induction l generalizing k with
  | nil => simp at hk
  | cons x t ih =>
    cases k with
    | zero => simp only [hiN]; rw [if_neg (by simpa using hr)]
    | succ k =>
      simp only [hiN]
      rw [if_pos (show x.toNat < 128 from h 0 (by simp) (by omega))]
      congr 1
      exact ih k (by simpa using hk) (fun j hj hjk => h (j + 1) (by simp; omega) (by omega)) (by simpa using hr)
theorem hiN_full (l : List UInt8) (h : ∀ j (hj : j < l.length), l[j].toNat < 128) : hiN l = l.length := by
  induction l with
  | nil => rfl
  | cons x t ih =>
    simp only [hiN, List.length_cons]
    rw [if_pos (show x.toNat < 128 from h 0 (by simp)), ih (fun j hj => h (j + 1) (by simp; omega))]
theorem finU_end (l : List UInt8) (acc : List Int) (fuel at' : Nat) (n : Int) (i h bias : Nat) (first : Bool) (hl : l.length ≤ at') : finU acc (unL l fuel at' n i h bias first) = (acc, (0, 0)) := by
  have : unL l fuel at' n i h bias first = .inr [] := by
    cases fuel with
    | zero => rfl
    | succ f => simp only [unL]; rw [if_pos hl]
  rw [this]
  rfl
theorem finU_inl (l : List UInt8) (acc : List Int) (fuel at' : Nat) (n : Int) (i h bias : Nat) (first : Bool) (hl : at' < l.length) (e : Nat × Nat) (he : rdS bias (l.drop at') 0 at' 0 1 = .inl e) : finU acc (unL l (fuel + 1) at' n i h bias first) = ([], e) := by
  simp only [unL]
  rw [if_neg (by omega), he]
  rfl
theorem finU_utf (l : List UInt8) (acc : List Int) (fuel at' : Nat) (n : Int) (i h bias : Nat) (first : Bool) (hl : at' < l.length) (s b : Nat) (he : rdS bias (l.drop at') 0 at' 0 1 = .inr (s, b)) (hr : ¬ isR (n + ((i + s) / (h + 1) : Nat))) : finU acc (unL l (fuel + 1) at' n i h bias first) = ([], (50, b - 1)) := by
  simp only [unL]
  rw [if_neg (by omega), he]
  simp only
  rw [if_neg hr]
  rfl
theorem finU_go (l : List UInt8) (acc : List Int) (fuel at' : Nat) (n : Int) (i h bias : Nat) (first : Bool) (hl : at' < l.length) (s b : Nat) (he : rdS bias (l.drop at') 0 at' 0 1 = .inr (s, b)) (hr : isR (n + ((i + s) / (h + 1) : Nat))) : finU acc (unL l (fuel + 1) at' n i h bias first) = finU (acc.insertIdx ((i + s) % (h + 1)) (n + ((i + s) / (h + 1) : Nat))) (unL l fuel b (n + ((i + s) / (h + 1) : Nat)) ((i + s) % (h + 1) + 1) (h + 1) (biasB s (h + 1) first) false) := by
  conv => lhs; simp only [unL]
  rw [if_neg (by omega), he]
  simp only
  rw [if_pos hr]
  cases unL l fuel b (n + ((i + s) / (h + 1) : Nat)) ((i + s) % (h + 1) + 1) (h + 1) (biasB s (h + 1) first) false with
  | inl e => rfl
  | inr ps => rfl
theorem ins_parts (acc : List Int) (p : Nat) (r : Int) (hp : p ≤ acc.length) : acc.take p ++ [r] ++ acc.drop p = acc.insertIdx p r := by
  induction acc generalizing p with
  | nil =>
    obtain rfl : p = 0 := by simpa using hp
    rfl
  | cons x t ih =>
    cases p with
    | zero => rfl
    | succ p =>
      have := ih p (by simpa using hp)
      simp only [List.take_succ_cons, List.drop_succ_cons, List.cons_append, List.insertIdx_succ_cons, List.cons.injEq, true_and]
      exact this
end Go.Proofs.YtedgimkffkflbabGreatDoor
