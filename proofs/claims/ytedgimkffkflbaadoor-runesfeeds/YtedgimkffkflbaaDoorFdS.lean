/-
  Five checkers and what the document says of them: the state of a script.
-/
import Derived.Test.YtedgimkffkflbaaDoorDfd
import Derived.Test.YtedgimkffkflbaaDoorCutF
namespace Go.Proofs.YtedgimkffkflbaaDoor
open Go.RowKit

/-- A checker, or none, or one that New did not make; and the bytes that it took. -/
def Got (w : World) (pv : Value) (is : Bool) (C : List UInt8) : Prop :=
  (is = true ∧ ∃ p, pv = .pointer (some ⟨p, 0, none⟩) ∧ CkAt w p (runM (some q0) C)) ∨ (is = false ∧ (pv = .pointer none ∨ ∃ z cs, pv = .pointer (some ⟨z, 0, none⟩) ∧ Lies w z (#[.bool false] ++ cs) 52))
theorem Got.of {w w' : World} {pv : Value} {is : Bool} {C : List UInt8} (h : Got w pv is C) (hb : ∀ p, pv = .pointer (some ⟨p, 0, none⟩) → p < w.heap.size → w'.heap[p]? = w.heap[p]?) : Got w' pv is C := by
  rcases h with ⟨h1, p, h2, h3⟩ | ⟨h1, h2 | ⟨z, cs, h2, h3⟩⟩
  · obtain ⟨left, low, high, wrong, h4, h5⟩ := h3
    exact .inl ⟨h1, p, h2, left, low, high, wrong, (hb p h2 h4.lt).trans h4, h5⟩
  · exact .inr ⟨h1, .inl h2⟩
  · exact .inr ⟨h1, .inr ⟨z, cs, h2, (hb z h2 h3.lt).trans h3⟩⟩
theorem Got.below {w w' : World} {pv : Value} {is : Bool} {C : List UInt8} (h : Got w pv is C) (hb : Below w.heap.size w w') : Got w' pv is C := h.of (fun p _ hp => hb.block p hp)
theorem got_whole {w : World} {pv : Value} {is : Bool} {C : List UInt8} (h : Got w pv is C) : Calls Tryd.prog 26 #[pv] w fun e w' => e = .returned (.bool (is && wholeM (runM (some q0) C))) ∧ w' = w := by
  rcases h with ⟨rfl, p, rfl, h3⟩ | ⟨rfl, rfl | ⟨z, cs, rfl, h3⟩⟩
  · exact whole_any p _ w h3
  · exact whole_no _ w (there_nil w)
  · exact whole_no _ w (there_any z false w (by rw [h3.cell 0, Array.getElem?_append_left (by simp)]; rfl))
theorem got_feed {w : World} {pv : Value} {is : Bool} {C : List UInt8} (h : Got w pv is C) (a : Option Addr) (P : List UInt8) (m cap : Nat) (hm : m = P.length) (hf : Fst w) (hb : Bts a P w) (hne : P ≠ [] → ∀ ad, a = some ad → pv = .pointer (some ⟨ad.block, 0, none⟩) → False) (hs : m ≤ 9223372036854775806) :
    Calls Tryd.prog 24 #[pv, .slice a m cap] w fun e w' => e = .returned (.bool (is && okM (runM (some q0) (C ++ P)))) ∧ Got w' pv is (C ++ P) ∧ (w' = w ∨ ∃ p, pv = .pointer (some ⟨p, 0, none⟩) ∧ But p w w') := by
  subst hm
  rcases h with ⟨rfl, p, rfl, h3⟩ | ⟨rfl, h2⟩
  · refine (feed_ne p (runM (some q0) C) a P cap w h3 hf hb (fun hP ad e e2 => hne hP ad e (by rw [e2])) hs).mono ?_
    rintro e w' ⟨rfl, h1, h2⟩
    rw [← runM_append] at h2 ⊢
    exact ⟨rfl, .inl ⟨rfl, p, rfl, h2⟩, .inr ⟨p, rfl, h1⟩⟩
  · have ht : Calls Tryd.prog 55 #[pv] w fun e w' => e = .returned (.bool false) ∧ w' = w := by
      rcases h2 with rfl | ⟨z, cs, rfl, h3⟩
      · exact there_nil w
      · exact there_any z false w (by rw [h3.cell 0, Array.getElem?_append_left (by simp)]; rfl)
    refine (feed_no pv _ w ht).mono ?_
    rintro e w' ⟨rfl, rfl⟩
    exact ⟨rfl, .inr ⟨rfl, h2⟩, .inl rfl⟩

/-- What the document's checkers are, as cells. -/
def wantC : List Bool → List Value → List Value
  | b :: bs, v :: vs => .bool b :: v :: wantC bs vs
  | _, _ => []
theorem wantC_at : ∀ (bs : List Bool) (vs : List Value) (i : Nat) (h1 : i < bs.length) (h2 : i < vs.length), (wantC bs vs)[i * 2]? = some (.bool bs[i]) ∧ (wantC bs vs)[i * 2 + 1]? = some vs[i]
  | b :: bs, v :: vs, 0, _, _ => ⟨rfl, rfl⟩
  | b :: bs, v :: vs, i + 1, h1, h2 => by
    have := wantC_at bs vs i (by simpa using h1) (by simpa using h2)
    rw [show (i + 1) * 2 = i * 2 + 1 + 1 from by omega]
    simpa [wantC] using this
  | [], _, _, h1, _ => by simp at h1
  | _ :: _, [], _, _, h2 => by simp at h2
theorem wantC_set : ∀ (bs : List Bool) (vs : List Value) (i : Nat) (b : Bool) (v : Value) (_ : i < bs.length) (_ : i < vs.length), ((wantC bs vs).set (i * 2) (.bool b)).set (i * 2 + 1) v = wantC (bs.set i b) (vs.set i v)
  | b0 :: bs, v0 :: vs, 0, b, v, _, _ => rfl
  | b0 :: bs, v0 :: vs, i + 1, b, v, h1, h2 => by
    have := wantC_set bs vs i b v (by simpa using h1) (by simpa using h2)
    rw [show (i + 1) * 2 = i * 2 + 1 + 1 from by omega]
    simp only [wantC, List.set_cons_succ]
    rw [this]
  | [], _, _, _, _, h1, _ => by simp at h1
  | _ :: _, [], _, _, _, _, h2 => by simp at h2
def is5 : List Bool := [true, true, true, false, false]
/-- The state: the checkers (their bytes: Cs), the document's (theirs: Ds). -/
structure Fd (w0 w : World) (gg gw : Nat) (pvs vs : List Value) (Cs Ds : List (List UInt8)) : Prop where
  below : Below w0.heap.size w0 w
  hgg : w0.heap.size ≤ gg
  hgw : w0.heap.size ≤ gw
  got : Lies w gg pvs.toArray 47
  want : Lies w gw (wantC is5 vs).toArray 55
  nd : pvs.Nodup
  lp : pvs.length = 5
  lv : vs.length = 5
  lc : Cs.length = 5
  ld : Ds.length = 5
  ck : ∀ i (h : i < 5), Got w (pvs[i]'(by omega)) (is5[i]'(by simpa [is5] using h)) (Cs[i]'(by omega)) ∧ (∀ p, pvs[i]'(by omega) = .pointer (some ⟨p, 0, none⟩) → w0.heap.size ≤ p ∧ p ≠ gg ∧ p ≠ gw ∧ p < w.heap.size)
  own : ∀ i (h : i < 5), w.ownsRow w0.heap.size 5 1 (vs[i]'(by omega)) (Ds[i]'(by omega)).length (cellsB (Ds[i]'(by omega)))
theorem Fd.keep {w0 w w' : World} {gg gw : Nat} {pvs vs : List Value} {Cs Ds : List (List UInt8)} (h : Fd w0 w gg gw pvs vs Cs Ds) (hb : Below w.heap.size w w') : Fd w0 w' gg gw pvs vs Cs Ds :=
  ⟨h.below.trans (hb.mono h.below.size), h.hgg, h.hgw, h.got.below hb h.got.lt, h.want.below hb h.want.lt, h.nd, h.lp, h.lv, h.lc, h.ld, fun i hi => ⟨(h.ck i hi).1.below hb, fun p hp => by have := (h.ck i hi).2 p hp; have := hb.size; omega⟩, fun i hi => own_below (h.own i hi) hb⟩
/-- The document's checker i is another. -/
theorem Fd.store {w0 w : World} {gg gw : Nat} {pvs vs : List Value} {Cs Ds : List (List UInt8)} (h : Fd w0 w gg gw pvs vs Cs Ds) (i : Nat) (hi : i < 5) (v : Value) (D : List UInt8) (ho : w.ownsRow w0.heap.size 5 1 v D.length (cellsB D)) :
    Fd w0 ((w.setCell ⟨gw, i * 2, none⟩ (.bool (is5[i]'(by simpa [is5] using hi)))).setCell ⟨gw, i * 2 + 1, none⟩ v) gg gw pvs (vs.set i v) Cs (Ds.set i D) := by
  have hl5 : is5.length = 5 := rfl
  have hself : is5.set i (is5[i]'(by omega)) = is5 := List.set_getElem_self _
  have hgne : gg ≠ gw := fun e => by
    have h1 := h.got
    rw [e] at h1
    exact absurd (lies_kind h1 h.want) (by decide)
  have hk : ∀ q, q ≠ gw → ((w.setCell ⟨gw, i * 2, none⟩ (.bool (is5[i]'(by omega)))).setCell ⟨gw, i * 2 + 1, none⟩ v).heap[q]? = w.heap[q]? := fun q hq => (Below.heap_setCell _ _ _ q hq).trans (Below.heap_setCell _ _ _ q hq)
  have hown : ∀ u n xs, w.ownsRow w0.heap.size 5 1 u n xs → ((w.setCell ⟨gw, i * 2, none⟩ (.bool (is5[i]'(by omega)))).setCell ⟨gw, i * 2 + 1, none⟩ v).ownsRow w0.heap.size 5 1 u n xs := fun u n xs hu => own_keep hu (fun q hq => hk q (own_apart hu h.want (by decide) q hq))
  refine ⟨(h.below.setCell (p := ⟨gw, i * 2, none⟩) h.hgw _).setCell (p := ⟨gw, i * 2 + 1, none⟩) h.hgw _, h.hgg, h.hgw, (hk gg hgne).trans h.got, ?_, h.nd, h.lp, by simpa using h.lv, h.lc, by simpa using h.ld, fun j hj => ⟨?_, ?_⟩, fun j hj => ?_⟩
  · have := (h.want.set (i * 2) (.bool (is5[i]'(by omega)))).set (i * 2 + 1) v
    simp only [List.setIfInBounds_toArray] at this
    rw [wantC_set is5 vs i _ v (by omega) (by have := h.lv; omega), hself] at this
    exact this
  · exact (h.ck j hj).1.of (fun p hp _ => hk p ((h.ck j hj).2 p hp).2.2.1)
  · intro p hp
    have := (h.ck j hj).2 p hp
    simp only [World.size_setCell]
    exact this
  · by_cases e : i = j
    · subst e
      simp only [List.getElem_set_self]
      exact hown _ _ _ ho
    · simp only [List.getElem_set_ne e]
      exact hown _ _ _ (h.own j hj)
theorem nodup_ne {pvs : List Value} (h : pvs.Nodup) (i j : Nat) (hi : i < pvs.length) (hj : j < pvs.length) (hne : i ≠ j) : pvs[i] ≠ pvs[j] := fun e => hne ((List.getElem_inj h).1 e)
/-- The checker i took more bytes. -/
theorem Fd.fed {w0 w w' : World} {gg gw : Nat} {pvs vs : List Value} {Cs Ds : List (List UInt8)} (h : Fd w0 w gg gw pvs vs Cs Ds) (i : Nat) (hi : i < 5) (C : List UInt8) (hg : Got w' (pvs[i]'(by have := h.lp; omega)) (is5[i]'(by simpa [is5] using hi)) C) (hb : w' = w ∨ ∃ p, (pvs[i]'(by have := h.lp; omega)) = .pointer (some ⟨p, 0, none⟩) ∧ But p w w') :
    Fd w0 w' gg gw pvs vs (Cs.set i C) Ds := by
  have hlp := h.lp
  have hlc := h.lc
  rcases hb with rfl | ⟨p, hp, hb⟩
  · refine ⟨h.below, h.hgg, h.hgw, h.got, h.want, h.nd, h.lp, h.lv, by simpa using h.lc, h.ld, fun j hj => ⟨?_, (h.ck j hj).2⟩, h.own⟩
    by_cases e : i = j
    · subst e
      simp only [List.getElem_set_self]
      exact hg
    · simp only [List.getElem_set_ne e]
      exact (h.ck j hj).1
  · obtain ⟨p1, p2, p3, p4⟩ := (h.ck i hi).2 p hp
    have hap : ∀ u n xs, w.ownsRow w0.heap.size 5 1 u n xs → ∀ q, u.ownBlock = some q → q ≠ p := fun u n xs hu q hq e => by
      subst e
      rcases (h.ck i hi).1 with ⟨_, p', e1, left, low, high, wrong, h4, _⟩ | ⟨_, e1 | ⟨z, cs, e1, h4⟩⟩
      · rw [hp] at e1
        injection e1 with e1
        injection e1 with e1
        injection e1 with e1
        subst e1
        exact own_apart hu h4 (by decide) q hq rfl
      · rw [hp] at e1
        cases e1
      · rw [hp] at e1
        injection e1 with e1
        injection e1 with e1
        injection e1 with e1
        subst e1
        exact own_apart hu h4 (by decide) q hq rfl
    refine ⟨h.below.trans (hb.below p1 h.below.size), h.hgg, h.hgw, hb.lies h.got (Ne.symm p2), hb.lies h.want (Ne.symm p3), h.nd, h.lp, h.lv, by simpa using h.lc, h.ld, fun j hj => ⟨?_, fun p' hp' => ?_⟩, fun j hj => own_keep (h.own j hj) (fun q hq => hb.block q ((h.own j hj).lt q hq).2 (hap _ _ _ (h.own j hj) q hq))⟩
    · by_cases e : i = j
      · subst e
        simp only [List.getElem_set_self]
        exact hg
      · simp only [List.getElem_set_ne e]
        refine (h.ck j hj).1.of (fun p' hp' hlt => hb.block p' hlt (fun e2 => ?_))
        subst e2
        exact nodup_ne h.nd i j (by omega) (by omega) e (hp.trans hp'.symm)
    · have := (h.ck j hj).2 p' hp'
      have := hb.size
      omega
/-- The checker i is a new one. -/
theorem Fd.swap {w0 w : World} {gg gw : Nat} {pvs vs : List Value} {Cs Ds : List (List UInt8)} (h : Fd w0 w gg gw pvs vs Cs Ds) (i : Nat) (hi : i < 3) (p : Nat) (hp : CkAt w p (some q0)) (hp0 : w0.heap.size ≤ p) (hg1 : p ≠ gg) (hg2 : p ≠ gw) (hnew : ∀ j (hj : j < 5), (pvs[j]'(by have := h.lp; omega)) ≠ .pointer (some ⟨p, 0, none⟩)) :
    Fd w0 (w.setCell ⟨gg, i, none⟩ (.pointer (some ⟨p, 0, none⟩))) gg gw (pvs.set i (.pointer (some ⟨p, 0, none⟩))) vs (Cs.set i []) Ds := by
  have hlp := h.lp
  have hlc := h.lc
  have hgne : gw ≠ gg := fun e => by
    have h1 := h.want
    rw [e] at h1
    exact absurd (lies_kind h1 h.got) (by decide)
  have hk : ∀ q, q ≠ gg → (w.setCell ⟨gg, i, none⟩ (.pointer (some ⟨p, 0, none⟩))).heap[q]? = w.heap[q]? := fun q hq => Below.heap_setCell _ _ _ q hq
  have hmem : Value.pointer (some ⟨p, 0, none⟩) ∉ pvs := fun hm => by
    obtain ⟨j, hj, e⟩ := List.getElem_of_mem hm
    exact hnew j (by omega) e
  have hset := h.got.set i (.pointer (some ⟨p, 0, none⟩))
  simp only [List.setIfInBounds_toArray] at hset
  have hnd : (pvs.set i (.pointer (some ⟨p, 0, none⟩))).Nodup := by
    refine List.pairwise_iff_getElem.2 (fun a b ha hb hab => ?_)
    rw [List.length_set] at ha hb
    rw [List.getElem_set, List.getElem_set]
    by_cases e1 : i = a
    · rw [if_pos e1, if_neg (by omega)]
      exact fun e => hmem (e ▸ List.getElem_mem hb)
    · rw [if_neg e1]
      by_cases e2 : i = b
      · rw [if_pos e2]
        exact fun e => hmem (e ▸ List.getElem_mem ha)
      · rw [if_neg e2]
        exact nodup_ne h.nd a b ha hb (by omega)
  refine ⟨h.below.setCell (p := ⟨gg, i, none⟩) h.hgg _, h.hgg, h.hgw, hset, (hk gw hgne).trans h.want, hnd, by simpa using h.lp, h.lv, by simpa using h.lc, h.ld, fun j hj => ?_, fun j hj => own_keep (h.own j hj) (fun q hq => hk q (own_apart (h.own j hj) h.got (by decide) q hq))⟩
  by_cases e : i = j
  · subst e
    simp only [List.getElem_set_self]
    refine ⟨.inl ⟨?_, p, rfl, ?_⟩, fun p' hp' => ?_⟩
    · match i, hi with
      | 0, _ => rfl
      | 1, _ => rfl
      | 2, _ => rfl
    · obtain ⟨left, low, high, wrong, h4, h5⟩ := hp
      exact ⟨left, low, high, wrong, (hk p hg1).trans h4, h5⟩
    · injection hp' with hp'
      injection hp' with hp'
      injection hp' with hp'
      subst hp'
      exact ⟨hp0, hg1, hg2, by simpa using hp.lt⟩
  · simp only [List.getElem_set_ne e]
    refine ⟨(h.ck j hj).1.of (fun p' hp' _ => hk p' ((h.ck j hj).2 p' hp').2.1), fun p' hp' => ?_⟩
    have := (h.ck j hj).2 p' hp'
    simpa using this
end Go.Proofs.YtedgimkffkflbaaDoor
