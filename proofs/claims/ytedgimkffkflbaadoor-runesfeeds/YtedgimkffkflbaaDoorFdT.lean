/-
  The state of a script of checkers, at one place.
-/
import Derived.Test.YtedgimkffkflbaaDoorFdS
namespace Go.Proofs.YtedgimkffkflbaaDoor
open Go.RowKit

theorem Fd.at' {w0 w : World} {gg gw : Nat} {pvs vs : List Value} {Cs Ds : List (List UInt8)} (h : Fd w0 w gg gw pvs vs Cs Ds) (i : Nat) (hi : i < 5) :
    ∃ (b : Bool) (pv : Value) (av : Option Addr) (cv n : Nat) (C D : List UInt8), is5[i]? = some b ∧ pvs[i]? = some pv ∧ Cs[i]? = some C ∧ Ds[i]? = some D ∧ n = D.length ∧ n ≤ cv ∧ (av = none → cv = 0) ∧
      w.cell? ⟨gg, i, none⟩ = some pv ∧ w.cell? ⟨gw, i * 2, none⟩ = some (.bool b) ∧ w.cell? ⟨gw, i * 2 + 1, none⟩ = some (.slice av n cv) ∧ Got w pv b C ∧ w.ownsRow w0.heap.size 5 1 (.slice av n cv) n (cellsB D) ∧ (∀ p, pv = .pointer (some ⟨p, 0, none⟩) → w0.heap.size ≤ p) := by
  have hlp := h.lp
  have hlv := h.lv
  have hlc := h.lc
  have hld := h.ld
  have hl5 : is5.length = 5 := rfl
  obtain ⟨e1, e2⟩ := wantC_at is5 vs i (by omega) (by omega)
  have ho := h.own i hi
  obtain ⟨av, cv, ev, _, hl, hn, hc, _⟩ := own_bts ho
  rw [ev] at ho e2
  refine ⟨is5[i]'(by omega), pvs[i]'(by omega), av, cv, (Ds[i]'(by omega)).length, Cs[i]'(by omega), Ds[i]'(by omega), List.getElem?_eq_getElem _, List.getElem?_eq_getElem _, List.getElem?_eq_getElem _, List.getElem?_eq_getElem _, rfl, hc, hn, ?_, ?_, ?_, (h.ck i hi).1, ho, fun p hp => ((h.ck i hi).2 p hp).1⟩
  · rw [h.got.cell i]
    simp [hlp, hi]
  · rw [h.want.cell (i * 2)]
    simpa using e1
  · rw [h.want.cell (i * 2 + 1)]
    simpa using e2
theorem Fd.store' {w0 w : World} {gg gw : Nat} {pvs vs : List Value} {Cs Ds : List (List UInt8)} (h : Fd w0 w gg gw pvs vs Cs Ds) (i : Nat) (hi : i < 5) (b : Bool) (hb : is5[i]? = some b) (v : Value) (D : List UInt8) (ho : w.ownsRow w0.heap.size 5 1 v D.length (cellsB D)) :
    Fd w0 ((w.setCell ⟨gw, i * 2, none⟩ (.bool b)).setCell ⟨gw, i * 2 + 1, none⟩ v) gg gw pvs (vs.set i v) Cs (Ds.set i D) := by
  obtain ⟨h1, h2⟩ := List.getElem?_eq_some_iff.1 hb
  have := h.store i hi v D ho
  rw [h2] at this
  exact this
theorem Fd.fed' {w0 w w' : World} {gg gw : Nat} {pvs vs : List Value} {Cs Ds : List (List UInt8)} (h : Fd w0 w gg gw pvs vs Cs Ds) (i : Nat) (hi : i < 5) (b : Bool) (hb : is5[i]? = some b) (pv : Value) (hp : pvs[i]? = some pv) (C : List UInt8) (hg : Got w' pv b C) (hbut : w' = w ∨ ∃ p, pv = .pointer (some ⟨p, 0, none⟩) ∧ But p w w') :
    Fd w0 w' gg gw pvs vs (Cs.set i C) Ds := by
  obtain ⟨h1, h2⟩ := List.getElem?_eq_some_iff.1 hb
  obtain ⟨h3, h4⟩ := List.getElem?_eq_some_iff.1 hp
  refine h.fed i hi C ?_ ?_
  · rw [h4, h2]
    exact hg
  · rw [h4]
    exact hbut
theorem set_self {α : Type} (l : List α) (i : Nat) (x : α) (h : l[i]? = some x) : l.set i x = l := by
  obtain ⟨h1, h2⟩ := List.getElem?_eq_some_iff.1 h
  rw [← h2]
  exact List.set_getElem_self _
theorem mem_set {α : Type} {l : List α} {i : Nat} {x y : α} (h : y ∈ l.set i x) : y ∈ l ∨ y = x := List.mem_or_eq_of_mem_set h
theorem Fd.other {w0 w w' : World} {gg gw : Nat} {pvs vs : List Value} {Cs Ds : List (List UInt8)} (h : Fd w0 w gg gw pvs vs Cs Ds) {pv : Value} {i : Nat} (hi : i < 5) (hp : pvs[i]? = some pv) (hbut : w' = w ∨ ∃ p, pv = .pointer (some ⟨p, 0, none⟩) ∧ But p w w') : w.heap.size ≤ w'.heap.size ∧ w'.heap[gg]? = w.heap[gg]? ∧ w'.heap[gw]? = w.heap[gw]? ∧ Below w0.heap.size w w' := by
  obtain ⟨h3, h4⟩ := List.getElem?_eq_some_iff.1 hp
  rcases hbut with rfl | ⟨p, e, hb⟩
  · exact ⟨Nat.le_refl _, rfl, rfl, Below.refl _ _⟩
  · obtain ⟨h5, h6, h7, h8⟩ := (h.ck i hi).2 p (h4.trans e)
    exact ⟨hb.size, hb.block gg h.got.lt (Ne.symm h6), hb.block gw h.want.lt (Ne.symm h7), hb.below h5 h.below.size⟩
theorem got_lies {w w' : World} {pv : Value} {b : Bool} {C : List UInt8} (h : Got w pv b C) (hbut : w' = w ∨ ∃ p, pv = .pointer (some ⟨p, 0, none⟩) ∧ But p w w') {g : Nat} {cs : Array Value} {t : TypeId} (hl : Lies w g cs t) (ht : t ≠ 52) : Lies w' g cs t := by
  rcases hbut with rfl | ⟨p, e, hb⟩
  · exact hl
  · refine hb.lies hl (fun e2 => ?_)
    subst e2
    rcases h with ⟨_, p', e1, left, low, high, wrong, h4, _⟩ | ⟨_, e1 | ⟨z, cs', e1, h4⟩⟩
    · rw [e] at e1
      injection e1 with e1
      injection e1 with e1
      injection e1 with e1
      subst e1
      exact ht (lies_kind hl h4)
    · rw [e] at e1
      cases e1
    · rw [e] at e1
      injection e1 with e1
      injection e1 with e1
      injection e1 with e1
      subst e1
      exact ht (lies_kind hl h4)
theorem got_own {w w' : World} {pv : Value} {b : Bool} {C : List UInt8} (h : Got w pv b C) (hbut : w' = w ∨ ∃ p, pv = .pointer (some ⟨p, 0, none⟩) ∧ But p w w') {B n : Nat} {v : Value} {xs : List Value} (ho : w.ownsRow B 5 1 v n xs) : w'.ownsRow B 5 1 v n xs := by
  obtain ⟨h1, h2 | ⟨g, cap, cur, rfl, hB, hg, hr⟩⟩ := ho
  · exact ⟨h1, .inl h2⟩
  · exact ⟨h1, .inr ⟨g, cap, cur, rfl, hB, got_lies h hbut hg (by decide), hr⟩⟩
end Go.Proofs.YtedgimkffkflbaaDoor
