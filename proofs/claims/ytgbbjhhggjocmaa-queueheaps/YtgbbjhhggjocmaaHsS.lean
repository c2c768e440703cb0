/-
  Two heaps, and beside each the document's.
-/
import Derived.Test.YtgbbjhhggjocmaaRhO
import Derived.Test.YtgbbjhhggjocmaaOpen7
namespace Go.Proofs.Ytgbbjhhggjocmaa
open Go.RowKit

theorem Sg.cell3 {w : World} {a : Option Addr} {l : List (Int × Int × Int)} (h : Sg cel3 a l w) (k : Nat) (hk : k < l.length) : ∃ g o, a = some ⟨g, o, none⟩ ∧ g < w.heap.size ∧ w.cell? ⟨g, o + k * 3, none⟩ = some (.int .i64 l[k].1) ∧ w.cell? ⟨g, o + k * 3 + 1, none⟩ = some (.int .i64 l[k].2.1) ∧ w.cell? ⟨g, o + k * 3 + 2, none⟩ = some (.int .i64 l[k].2.2) := by
  rcases h with rfl | ⟨g, o, rfl, h⟩
  · simp at hk
  · have e0 := h _ _ (flat_at cel3_length l k 0 hk (by decide))
    have e1 := h _ _ (flat_at cel3_length l k 1 hk (by decide))
    have e2 := h _ _ (flat_at cel3_length l k 2 hk (by decide))
    exact ⟨g, o, rfl, lt_of_cell e0, e0, e1, e2⟩
theorem Sg.later3 {w w' : World} {a : Option Addr} {l : List (Int × Int × Int)} (h : Sg cel3 a l w) (hb : Below w.heap.size w w') : Sg cel3 a l w' := by
  rcases h with rfl | ⟨g, o, rfl, h⟩
  · exact .inl rfl
  · exact .inr ⟨g, o, rfl, fun j v hv => by
      have := h j v hv
      exact (hb.cell (p := ⟨g, o + j, none⟩) (lt_of_cell this)).trans this⟩
def upd7 {α : Type} (f : Nat → α) (i : Nat) (x : α) : Nat → α := fun j => if j = i then x else f j
theorem upd7_same {α : Type} (f : Nat → α) (i : Nat) (x : α) : upd7 f i x i = x := if_pos rfl
theorem upd7_other {α : Type} (f : Nat → α) (i j : Nat) (x : α) (h : j ≠ i) : upd7 f i x j = f j := if_neg h
/-- A heap and the document's beside it. -/
structure Dt where
  h : Nat
  g : Nat
  np : Nat
  M : List En
  v : Value
  u : Value
def Fd (d : Dt) (k : Nat) : Prop := Fh d.h d.v k ∨ Fh d.g d.u k
structure Pr (w : World) (d : Dt) : Prop where
  ht : Ht w d.h 23 true d.M d.np d.v
  gh : Gh w d.g (d.M.map (·.1)) d.u
  ap : ∀ k, Fh d.h d.v k → ¬ Fh d.g d.u k
theorem Pr.keep {w w' : World} {d : Dt} (h : Pr w d) (hk : ∀ k, Fd d k → w'.heap[k]? = w.heap[k]?) : Pr w' d := ⟨h.ht.keep (fun k q => hk k (.inl q)), h.gh.keep (fun k q => hk k (.inr q)), h.ap⟩
theorem Pr.lt {w : World} {d : Dt} (h : Pr w d) (k : Nat) (hk : Fd d k) : k < w.heap.size := by
  rcases hk with hk | hk
  · exact h.ht.lt k hk
  · exact h.gh.lt k hk
theorem Pr.below {w w' : World} {d : Dt} (h : Pr w d) (hb : Below w.heap.size w w') : Pr w' d := h.keep (fun k hk => hb.block k (h.lt k hk))
theorem Pr.chg {w w' : World} {d : Dt} {F : Nat → Prop} (h : Pr w d) (hc : Chg F w w') (hn : ∀ k, Fd d k → ¬ F k) : Pr w' d := h.keep (fun k hk => hc.block k (h.lt k hk) (hn k hk))
/-- Both steps, one behind the other. -/
theorem Pr.both {w w1 w1b w2 : World} {d : Dt} (h : Pr w d) {M' : List En} {np' : Nat} {v' u' : Value} (h1 : Ht w1 d.h 23 true M' np' v') (c1 : Chg (Fh d.h d.v) w w1) (q1 : ∀ k, v'.ownBlock = some k → d.v.ownBlock = some k ∨ w.heap.size ≤ k) (bb : Below w1.heap.size w1 w1b)
    (h2 : Gh w2 d.g (M'.map (·.1)) u') (c2 : Chg (Fh d.g d.u) w1b w2) (q2 : ∀ k, u'.ownBlock = some k → d.u.ownBlock = some k ∨ w1b.heap.size ≤ k) :
    Pr w2 ⟨d.h, d.g, np', M', v', u'⟩ ∧ Chg (Fd d) w w2 ∧ ∀ k, Fd ⟨d.h, d.g, np', M', v', u'⟩ k → Fd d k ∨ w.heap.size ≤ k := by
  have hz1 := c1.size
  have hz2 := bb.size
  have f1 : ∀ k, Fh d.h v' k → Fh d.h d.v k ∨ w.heap.size ≤ k := fun k hk => by
    rcases hk with e | e
    · exact .inl (.inl e)
    · exact (q1 k e).imp .inr id
  have f2 : ∀ k, Fh d.g u' k → Fh d.g d.u k ∨ w1b.heap.size ≤ k := fun k hk => by
    rcases hk with e | e
    · exact .inl (.inl e)
    · exact (q2 k e).imp .inr id
  have n1 : ∀ k, Fh d.h v' k → ¬ Fh d.g d.u k := fun k hk hk2 => by
    rcases f1 k hk with e | e
    · exact h.ap k e hk2
    · have := h.gh.lt k hk2; omega
  refine ⟨⟨(h1.below bb).chg c2 n1, h2, fun k hk hk2 => ?_⟩, ?_, fun k hk => ?_⟩
  · rcases f2 k hk2 with e | e
    · exact n1 k hk e
    · have := h1.lt k hk; omega
  · exact ((c1.mono (fun k hk => .inl hk)).below bb).then c2 (fun k hk => .inl (.inr hk))
  · rcases hk with hk | hk
    · exact (f1 k hk).imp .inl id
    · exact (f2 k hk).imp .inr (fun e => by omega)
def hvD (d : Dt) : Value := .pointer (some ⟨d.h, 0, none⟩)
def gvD (d : Dt) : Value := .pointer (some ⟨d.g, 0, none⟩)
/-- What the arrays hold: the first m are made. -/
def clA (D : Nat → Dt) (m i : Nat) : Value := if i < m then hvD (D i) else .pointer none
def clM (D : Nat → Dt) (m i : Nat) : Value := if i < m then gvD (D i) else .pointer none
structure Hs (w0 w : World) (BL BM : Nat) (D : Nat → Dt) (K m : Nat) : Prop where
  la : Lies w BL #[clA D m 0, clA D m 1] 45
  lm : Lies w BM #[clM D m 0, clM D m 1] 47
  pr : ∀ i, i < m → Pr w (D i)
  ap : ∀ i j, i < m → j < m → i ≠ j → ∀ k, Fd (D i) k → ¬ Fd (D j) k
  own : ∀ i, i < m → ∀ k, Fd (D i) k → w0.heap.size ≤ k ∧ k ≠ BL ∧ k ≠ BM
  bel : Below w0.heap.size w0 w
  nb : ∀ i, i < m → (D i).np ≤ K
  ba : w0.heap.size ≤ BL
  bm : w0.heap.size ≤ BM
  bn : BL ≠ BM
  m2 : m ≤ 2
theorem Hs.later {w0 w w' : World} {BL BM : Nat} {D : Nat → Dt} {K m : Nat} (h : Hs w0 w BL BM D K m) (hb : Below w.heap.size w w') : Hs w0 w' BL BM D K m := ⟨h.la.below hb h.la.lt, h.lm.below hb h.lm.lt, fun i hi => (h.pr i hi).below hb, h.ap, h.own, h.bel.trans (hb.mono h.bel.size), h.nb, h.ba, h.bm, h.bn, h.m2⟩
theorem Hs.cellA {w0 w : World} {BL BM : Nat} {D : Nat → Dt} {K m : Nat} (h : Hs w0 w BL BM D K m) (i : Nat) (hi : i < 2) : w.cell? ⟨BL, i, none⟩ = some (clA D m i) := by
  match i, hi with
  | 0, _ => exact h.la.cell 0
  | 1, _ => exact h.la.cell 1
theorem Hs.cellM {w0 w : World} {BL BM : Nat} {D : Nat → Dt} {K m : Nat} (h : Hs w0 w BL BM D K m) (i : Nat) (hi : i < 2) : w.cell? ⟨BM, i, none⟩ = some (clM D m i) := by
  match i, hi with
  | 0, _ => exact h.lm.cell 0
  | 1, _ => exact h.lm.cell 1
theorem clA_at (D : Nat → Dt) (m i : Nat) (h : i < m) : clA D m i = .pointer (some ⟨(D i).h, 0, none⟩) := if_pos h
theorem clM_at (D : Nat → Dt) (m i : Nat) (h : i < m) : clM D m i = .pointer (some ⟨(D i).g, 0, none⟩) := if_pos h
/-- A step of the pair i. -/
theorem Hs.step {w0 w w' : World} {BL BM : Nat} {D : Nat → Dt} {K m : Nat} (h : Hs w0 w BL BM D K m) (i : Nat) (hi : i < m) (d' : Dt) (eh : d'.h = (D i).h) (eg : d'.g = (D i).g) (hp : Pr w' d') (hc : Chg (Fd (D i)) w w') (hF : ∀ k, Fd d' k → Fd (D i) k ∨ w.heap.size ≤ k) (K' : Nat) (hK : K ≤ K') (hn : d'.np ≤ K') : Hs w0 w' BL BM (upd7 D i d') K' m := by
  have eA : ∀ j, clA (upd7 D i d') m j = clA D m j := fun j => by
    unfold clA hvD
    by_cases e : j = i
    · subst e; rw [upd7_same, eh]
    · rw [upd7_other _ _ _ _ e]
  have eM : ∀ j, clM (upd7 D i d') m j = clM D m j := fun j => by
    unfold clM gvD
    by_cases e : j = i
    · subst e; rw [upd7_same, eg]
    · rw [upd7_other _ _ _ _ e]
  refine ⟨by rw [eA, eA]; exact hc.lies h.la (fun hk => (h.own i hi _ hk).2.1 rfl), by rw [eM, eM]; exact hc.lies h.lm (fun hk => (h.own i hi _ hk).2.2 rfl), fun j hj => ?_, fun j j' hj hj' hne k hk => ?_, fun j hj k hk => ?_, h.bel.trans (hc.to_below h.bel.size (fun k hk => (h.own i hi k hk).1)), fun j hj => ?_, h.ba, h.bm, h.bn, h.m2⟩
  · by_cases e : j = i
    · rw [e, upd7_same]; exact hp
    · rw [upd7_other _ _ _ _ e]; exact (h.pr j hj).chg hc (h.ap j i hj hi e)
  · by_cases e : j = i
    · subst e
      rw [upd7_same] at hk
      rw [upd7_other _ _ _ _ (Ne.symm hne)]
      intro hk2
      rcases hF k hk with h1 | h1
      · exact h.ap j j' hj hj' hne k h1 hk2
      · have := (h.pr j' hj').lt k hk2; omega
    · rw [upd7_other _ _ _ _ e] at hk
      by_cases e2 : j' = i
      · subst e2
        rw [upd7_same]
        intro hk2
        rcases hF k hk2 with h1 | h1
        · exact h.ap j j' hj hj' hne k hk h1
        · have := (h.pr j hj).lt k hk; omega
      · rw [upd7_other _ _ _ _ e2]; exact h.ap j j' hj hj' hne k hk
  · by_cases e : j = i
    · subst e
      rw [upd7_same] at hk
      rcases hF k hk with h1 | h1
      · exact h.own j hj k h1
      · have h2 := h.la.lt
        have h3 := h.lm.lt
        have h4 := h.bel.size
        exact ⟨by omega, by omega, by omega⟩
    · rw [upd7_other _ _ _ _ e] at hk; exact h.own j hj k hk
  · by_cases e : j = i
    · rw [e, upd7_same]; exact hn
    · rw [upd7_other _ _ _ _ e]; exact Nat.le_trans (h.nb j hj) hK
/-- Two new ones in place i. -/
theorem Hs.put {w0 w wa wc wd : World} {BL BM : Nat} {D : Nat → Dt} {K m : Nat} (h : Hs w0 w BL BM D K m) (i : Nat) (hi : i ≤ m) (hi2 : i < 2) (ha : Nat) (hc : Nat) (m' : Nat) (hm' : m' = max m (i + 1))
    (ba : Below w.heap.size w wa) (hta : Ht wa ha 23 true [] 0 (.slice none 0 0)) (la : w.heap.size ≤ ha)
    (bc : Below (wa.setCell ⟨BL, i, none⟩ (.pointer (some ⟨ha, 0, none⟩))).heap.size (wa.setCell ⟨BL, i, none⟩ (.pointer (some ⟨ha, 0, none⟩))) wc) (hgc : Gh wc hc [] (.slice none 0 0)) (lc : wa.heap.size ≤ hc) (hd : wd = wc.setCell ⟨BM, i, none⟩ (.pointer (some ⟨hc, 0, none⟩))) :
    Hs w0 wd BL BM (upd7 D i ⟨ha, hc, 0, [], .slice none 0 0, .slice none 0 0⟩) K m' := by
  subst hd
  have hzA := h.la.lt
  have hzM := h.lm.lt
  have hz0 := h.bel.size
  have hzb := ba.size
  have hzc := bc.size
  rw [World.size_setCell] at hzc
  have hha : ha < wa.heap.size := hta.lt ha (.inl rfl)
  have keepB : ∀ k, k < w.heap.size → k ≠ BL → k ≠ BM → (wc.setCell ⟨BM, i, none⟩ (.pointer (some ⟨hc, 0, none⟩))).heap[k]? = w.heap[k]? := fun k hk h1 h2 => (Below.heap_setCell _ _ _ _ h2).trans ((bc.block k (by rw [World.size_setCell]; omega)).trans ((Below.heap_setCell _ _ _ _ h1).trans (ba.block k hk)))
  have fa : ∀ k, Fh ha (.slice none 0 0) k → k = ha := fun k hk => by rcases hk with e | e; exact e; cases e
  have fc : ∀ k, Fh hc (.slice none 0 0) k → k = hc := fun k hk => by rcases hk with e | e; exact e; cases e
  have hne : ha ≠ hc := by omega
  have hnewP : Pr (wc.setCell ⟨BM, i, none⟩ (.pointer (some ⟨hc, 0, none⟩))) ⟨ha, hc, 0, [], .slice none 0 0, .slice none 0 0⟩ := by
    refine ⟨hta.keep (fun k hk => ?_), hgc.keep (fun k hk => ?_), fun k hk hk2 => hne ((fa k hk).symm.trans (fc k hk2))⟩
    · obtain rfl := fa k hk
      exact (Below.heap_setCell _ _ _ _ (by show _ ≠ BM; omega)).trans ((bc.block k (by rw [World.size_setCell]; omega)).trans (Below.heap_setCell _ _ _ _ (by show _ ≠ BL; omega)))
    · obtain rfl := fc k hk
      exact Below.heap_setCell _ _ _ _ (by show _ ≠ BM; omega)
  have hold : ∀ j, j < m' → j ≠ i → j < m := fun j hj hne => by omega
  have cA : ∀ j, j < 2 → clA (upd7 D i ⟨ha, hc, 0, [], .slice none 0 0, .slice none 0 0⟩) m' j = if j = i then .pointer (some ⟨ha, 0, none⟩) else clA D m j := fun j hj => by
    by_cases e : j = i
    · subst e; rw [if_pos rfl]; unfold clA hvD; rw [if_pos (by omega), upd7_same]
    · rw [if_neg e]; unfold clA hvD; rw [upd7_other _ _ _ _ e]
      by_cases e2 : j < m
      · rw [if_pos e2, if_pos (by omega)]
      · rw [if_neg e2, if_neg (by omega)]
  have cM : ∀ j, j < 2 → clM (upd7 D i ⟨ha, hc, 0, [], .slice none 0 0, .slice none 0 0⟩) m' j = if j = i then .pointer (some ⟨hc, 0, none⟩) else clM D m j := fun j hj => by
    by_cases e : j = i
    · subst e; rw [if_pos rfl]; unfold clM gvD; rw [if_pos (by omega), upd7_same]
    · rw [if_neg e]; unfold clM gvD; rw [upd7_other _ _ _ _ e]
      by_cases e2 : j < m
      · rw [if_pos e2, if_pos (by omega)]
      · rw [if_neg e2, if_neg (by omega)]
  have sA : ∀ (x y z : Value), (#[x, y] : Array Value).setIfInBounds i z = #[if 0 = i then z else x, if 1 = i then z else y] := fun x y z => by
    match i, hi2 with
    | 0, _ => rfl
    | 1, _ => rfl
  refine ⟨?_, ?_, fun j hj => ?_, fun j j' hj hj' hne k hk => ?_, fun j hj k hk => ?_, ?_, fun j hj => ?_, h.ba, h.bm, h.bn, by have := h.m2; omega⟩
  · rw [cA 0 (by omega), cA 1 (by omega), ← sA]
    have h1 := (h.la.below ba hzA).set i (.pointer (some ⟨ha, 0, none⟩))
    have h2 := h1.below bc (by rw [World.size_setCell]; omega)
    exact h2.set_other (a := ⟨BM, i, none⟩) h.bn _
  · rw [cM 0 (by omega), cM 1 (by omega), ← sA]
    have h1 := (h.lm.below ba hzM).set_other (a := ⟨BL, i, none⟩) (Ne.symm h.bn) (.pointer (some ⟨ha, 0, none⟩))
    have h2 := h1.below bc (by rw [World.size_setCell]; omega)
    exact h2.set i _
  · by_cases e : j = i
    · rw [e, upd7_same]; exact hnewP
    · rw [upd7_other _ _ _ _ e]
      exact (h.pr j (hold j hj e)).keep (fun k hk => by obtain ⟨_, q1, q2⟩ := h.own j (hold j hj e) k hk; exact keepB k ((h.pr j (hold j hj e)).lt k hk) q1 q2)
  · have nw : ∀ q, Fd ⟨ha, hc, 0, [], .slice none 0 0, .slice none 0 0⟩ q → w.heap.size ≤ q := fun q hq => by
      rcases hq with hq | hq
      · rw [fa q hq]; exact la
      · rw [fc q hq]; omega
    by_cases e : j = i
    · subst e
      rw [upd7_same] at hk
      rw [upd7_other _ _ _ _ (Ne.symm hne)]
      intro hk2
      have h1 := nw k hk
      have h2 := (h.pr j' (hold j' hj' (Ne.symm hne))).lt k hk2
      omega
    · rw [upd7_other _ _ _ _ e] at hk
      have h2 := (h.pr j (hold j hj e)).lt k hk
      by_cases e2 : j' = i
      · subst e2
        rw [upd7_same]
        intro hk2
        have h1 := nw k hk2
        omega
      · rw [upd7_other _ _ _ _ e2]; exact h.ap j j' (hold j hj e) (hold j' hj' e2) hne k hk
  · by_cases e : j = i
    · subst e
      rw [upd7_same] at hk
      rcases hk with hk | hk
      · rw [fa k hk]; exact ⟨by omega, by omega, by omega⟩
      · rw [fc k hk]; exact ⟨by omega, by omega, by omega⟩
    · rw [upd7_other _ _ _ _ e] at hk; exact h.own j (hold j hj e) k hk
  · have h1 : Below w0.heap.size w0 wa := h.bel.trans (ba.mono h.bel.size)
    have h2 := h1.setCell (p := ⟨BL, i, none⟩) h.ba (.pointer (some ⟨ha, 0, none⟩))
    have h3 := h2.trans (bc.mono h2.size)
    exact h3.setCell (p := ⟨BM, i, none⟩) h.bm _
  · by_cases e : j = i
    · rw [e, upd7_same]; exact Nat.zero_le _
    · rw [upd7_other _ _ _ _ e]; exact h.nb j (hold j hj e)
theorem lies_two {w : World} {B t : Nat} {x : Nat → Value} (h : Lies w B #[x 0, x 1] t) (i : Nat) (hi : i < 2) : w.cell? ⟨B, i, none⟩ = some (x i) := by
  match i, hi with
  | 0, _ => exact h.cell 0
  | 1, _ => exact h.cell 1
theorem Hs.more {w0 w : World} {BL BM : Nat} {D : Nat → Dt} {K m : Nat} (h : Hs w0 w BL BM D K m) : Hs w0 w BL BM D (K + 1) m := ⟨h.la, h.lm, h.pr, h.ap, h.own, h.bel, fun i hi => Nat.le_succ_of_le (h.nb i hi), h.ba, h.bm, h.bn, h.m2⟩
end Go.Proofs.Ytgbbjhhggjocmaa
