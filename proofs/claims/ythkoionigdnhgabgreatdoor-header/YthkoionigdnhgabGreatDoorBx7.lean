/-
  Boxes beside objects that change, and marks of what is put off.
-/
import Derived.Test.YthkoionigdnhgabGreatDoorKr7
namespace Go.Proofs.YthkoionigdnhgabGreatDoor
open Go.RowKit

/-- The boxes bs hold their values; F is where the objects lie that may change, F0 what of it lay there at first. -/
structure Bx (w0 : World) (F0 : Nat → Prop) (W : World) (F : Nat → Prop) (bs : List (Nat × Value × Nat)) (Ds : List Nat) : Prop where
  bx : ∀ x ∈ bs, Lies W x.1 #[x.2.1] x.2.2
  nw : ∀ x ∈ bs, w0.heap.size ≤ x.1 ∧ ¬ F x.1
  nd : (bs.map (·.1)).Nodup
  fc : ∀ k, F k → ∃ o, W.heap[k]? = some o ∧ o.isCells = true
  own : ∀ k, F k → F0 k ∨ w0.heap.size ≤ k
  chg : Chg F0 w0 W
  ds : ∀ D ∈ Ds, w0.heap.size ≤ D ∧ W.heap[D]? = some (.deferred (some []))
  dn : Ds.Nodup
theorem Bx.flt {w0 W : World} {F0 F : Nat → Prop} {bs : List (Nat × Value × Nat)} {Ds : List Nat} (h : Bx w0 F0 W F bs Ds) (k : Nat) (hk : F k) : k < W.heap.size := by
  obtain ⟨o, ho, _⟩ := h.fc k hk
  exact (Array.getElem?_eq_some_iff.1 ho).1
theorem Bx.dlt {w0 W : World} {F0 F : Nat → Prop} {bs : List (Nat × Value × Nat)} {Ds : List Nat} (h : Bx w0 F0 W F bs Ds) (D : Nat) (hD : D ∈ Ds) : D < W.heap.size := (Array.getElem?_eq_some_iff.1 (h.ds D hD).2).1
theorem Bx.dnf {w0 W : World} {F0 F : Nat → Prop} {bs : List (Nat × Value × Nat)} {Ds : List Nat} (h : Bx w0 F0 W F bs Ds) (D : Nat) (hD : D ∈ Ds) : ¬ F D := fun hf => by
  obtain ⟨o, ho, hc⟩ := h.fc D hf
  rw [(h.ds D hD).2] at ho
  cases ho
  cases hc
theorem Bx.at {w0 W : World} {F0 F : Nat → Prop} {bs : List (Nat × Value × Nat)} {Ds : List Nat} (h : Bx w0 F0 W F bs Ds) (i : Nat) {b t : Nat} {v : Value} (hi : bs[i]? = some (b, v, t)) : Lies W b #[v] t := h.bx _ (List.mem_of_getElem? hi)
theorem Bx.cell {w0 W : World} {F0 F : Nat → Prop} {bs : List (Nat × Value × Nat)} {Ds : List Nat} (h : Bx w0 F0 W F bs Ds) (i : Nat) {b t : Nat} {v : Value} (hi : bs[i]? = some (b, v, t)) : W.cell? ⟨b, 0, none⟩ = some v := (h.at i hi).cell 0
theorem Bx.frozen {w0 W : World} {F0 F : Nat → Prop} {bs : List (Nat × Value × Nat)} {Ds : List Nat} (h : Bx w0 F0 W F bs Ds) (i : Nat) {b t : Nat} {v : Value} (hi : bs[i]? = some (b, v, t)) : W.frozen? ⟨b, 0, none⟩ = false := (h.at i hi).frozen 0
theorem Bx.ne {w0 W : World} {F0 F : Nat → Prop} {bs : List (Nat × Value × Nat)} {Ds : List Nat} (h : Bx w0 F0 W F bs Ds) (i j : Nat) (hij : i ≠ j) {b t b' t' : Nat} {v v' : Value} (hi : bs[i]? = some (b, v, t)) (hj : bs[j]? = some (b', v', t')) : b ≠ b' := fun e => by
  subst e
  have h1 : (bs.map (·.1))[i]? = some b := by rw [List.getElem?_map, hi]; rfl
  have h2 : (bs.map (·.1))[j]? = some b := by rw [List.getElem?_map, hj]; rfl
  exact hij ((List.getElem?_inj (List.getElem?_eq_some_iff.1 h1).1 h.nd).1 (h1.trans h2.symm))
theorem Bx.later {w0 W W' : World} {F0 F : Nat → Prop} {bs : List (Nat × Value × Nat)} {Ds : List Nat} (h : Bx w0 F0 W F bs Ds) (hb : Below W.heap.size W W') : Bx w0 F0 W' F bs Ds :=
  ⟨fun x hx => (h.bx x hx).below hb (h.bx x hx).lt, h.nw, h.nd, fun k hk => by obtain ⟨o, ho, hc⟩ := h.fc k hk; exact ⟨o, (hb.block k (h.flt k hk)).trans ho, hc⟩, h.own, h.chg.below hb, fun D hD => ⟨(h.ds D hD).1, (hb.block D (h.dlt D hD)).trans (h.ds D hD).2⟩, h.dn⟩
theorem Bx.step {w0 W W' : World} {F0 F F' : Nat → Prop} {bs : List (Nat × Value × Nat)} {Ds : List Nat} (h : Bx w0 F0 W F bs Ds) (hc : Chg F W W') (hF : ∀ k, F' k → F k ∨ W.heap.size ≤ k) (hfc : ∀ k, F' k → ∃ o, W'.heap[k]? = some o ∧ o.isCells = true) : Bx w0 F0 W' F' bs Ds :=
  ⟨fun x hx => hc.lies (h.bx x hx) (h.nw x hx).2, fun x hx => ⟨(h.nw x hx).1, fun hf => by
      rcases hF _ hf with e | e
      · exact (h.nw x hx).2 e
      · have := (h.bx x hx).lt; omega⟩, h.nd, hfc, fun k hk => by
      rcases hF k hk with e | e
      · exact h.own k e
      · have := h.chg.size; exact .inr (by omega), h.chg.then hc h.own, fun D hD => ⟨(h.ds D hD).1, (hc.block D (h.dlt D hD) (h.dnf D hD)).trans (h.ds D hD).2⟩, h.dn⟩
theorem Bx.set {w0 W : World} {F0 F : Nat → Prop} {bs : List (Nat × Value × Nat)} {Ds : List Nat} (h : Bx w0 F0 W F bs Ds) (i : Nat) {b t : Nat} {v : Value} (hi : bs[i]? = some (b, v, t)) (v' : Value) : Bx w0 F0 (W.setCell ⟨b, 0, none⟩ v') F (bs.set i (b, v', t)) Ds := by
  have hil := (List.getElem?_eq_some_iff.1 hi).1
  have hmem : ∀ y ∈ bs.set i (b, v', t), y = (b, v', t) ∨ y ∈ bs ∧ y.1 ≠ b := fun y hy => by
    obtain ⟨j, hj⟩ := List.getElem?_of_mem hy
    by_cases e : i = j
    · subst e
      rw [List.getElem?_set_self hil] at hj
      exact .inl (Option.some.inj hj).symm
    · rw [List.getElem?_set_ne e] at hj
      exact .inr ⟨List.mem_of_getElem? hj, h.ne j i (Ne.symm e) (b := y.1) (v := y.2.1) (t := y.2.2) hj hi⟩
  have hb := h.nw _ (List.mem_of_getElem? hi)
  refine ⟨fun y hy => ?_, fun y hy => ?_, ?_, fun k hk => ?_, h.own, h.chg.set (p := ⟨b, 0, none⟩) (.inr hb.1) v', fun D hD => ⟨(h.ds D hD).1, (Below.heap_setCell _ _ _ _ (fun e => ?_)).trans (h.ds D hD).2⟩, h.dn⟩
  · rcases hmem y hy with rfl | ⟨hy, hne⟩
    · exact (h.at i hi).set 0 v'
    · exact (h.bx y hy).set_other (a := ⟨b, 0, none⟩) hne v'
  · rcases hmem y hy with rfl | ⟨hy, _⟩
    · exact hb
    · exact h.nw y hy
  · have : (bs.set i (b, v', t)).map (·.1) = bs.map (·.1) := by
      rw [List.map_set]
      refine List.ext_getElem? fun j => ?_
      by_cases e : i = j
      · subst e
        rw [List.getElem?_set_self (by simpa using hil), List.getElem?_map, hi]
        rfl
      · rw [List.getElem?_set_ne e]
    rw [this]
    exact h.nd
  · obtain ⟨o, ho, hc⟩ := h.fc k hk
    exact ⟨o, (Below.heap_setCell _ _ _ _ (fun e => hb.2 (by have e' : k = b := e; rw [e'] at hk; exact hk))).trans ho, hc⟩
  · have hl := h.at i hi
    have e' : D = b := e
    have h2 := (h.ds D hD).2
    rw [e'] at h2
    have h3 : W.heap[b]? = some (.cells #[v] t (0, 0)) := hl
    rw [h2] at h3
    cases h3
theorem Bx.box {w0 W : World} {F0 F : Nat → Prop} {bs : List (Nat × Value × Nat)} {Ds : List Nat} (h : Bx w0 F0 W F bs Ds) (v : Value) (t : Nat) : Bx w0 F0 (W.alloc (.cells #[v] t)) F ((W.heap.size, v, t) :: bs) Ds := by
  have hl := h.later ((Below.refl _ W).alloc (Nat.le_refl _) (.cells #[v] t))
  refine ⟨fun x hx => ?_, fun x hx => ?_, ?_, hl.fc, hl.own, hl.chg, hl.ds, hl.dn⟩
  · rcases List.mem_cons.1 hx with rfl | hx
    · exact Lies.new W _ _
    · exact hl.bx x hx
  · rcases List.mem_cons.1 hx with rfl | hx
    · exact ⟨h.chg.size, fun hf => by have := h.flt _ hf; dsimp only at this; omega⟩
    · exact hl.nw x hx
  · rw [List.map_cons, List.nodup_cons]
    refine ⟨fun hm => ?_, hl.nd⟩
    obtain ⟨x, hx, e⟩ := List.mem_map.1 hm
    have := (h.bx x hx).lt
    dsimp only at e
    omega
/-- What the laws of loops do to memory. -/
theorem Bx.turn {w0 W W' : World} {F0 F : Nat → Prop} {bs : List (Nat × Value × Nat)} {Ds : List Nat} (h : Bx w0 F0 W F bs Ds) {B : Nat} (hB : w0.heap.size ≤ B) (hD : ∀ D ∈ Ds, D < B) {row : Option Nat} (hg : W.grownBy W' row) (hr : ∀ r, row = some r → B ≤ r ∧ ∃ o : Obj, W.heap[r]? = some o ∧ o.isCells = false) :
    Bx w0 F0 W' F bs Ds ∧ ∀ k, F k → W'.heap[k]? = W.heap[k]? := by
  have hk : ∀ (k : Nat) (o : Obj), W.heap[k]? = some o → o.isCells = true → W'.heap[k]? = some o := fun k o ho hc => (hg.block k (Array.getElem?_eq_some_iff.1 ho).1 (fun e => by
    obtain ⟨_, o', h1, h2⟩ := hr k e.symm
    rw [ho] at h1
    cases h1
    rw [hc] at h2
    cases h2)).trans ho
  refine ⟨⟨fun x hx => hk _ _ (h.bx x hx) rfl, h.nw, h.nd, fun k hf => by obtain ⟨o, ho, hc⟩ := h.fc k hf; exact ⟨o, hk k o ho hc, hc⟩, h.own, h.chg.grown hg (fun k e => .inr (by have := (hr k e).1; omega)), fun D hm => ⟨(h.ds D hm).1, (hg.block D (h.dlt D hm) (fun e => by have := (hr D e.symm).1; have := hD D hm; omega)).trans (h.ds D hm).2⟩, h.dn⟩, fun k hf => ?_⟩
  obtain ⟨o, ho, hc⟩ := h.fc k hf
  exact (hk k o ho hc).trans ho.symm
theorem Bx.mark {w0 W : World} {F0 F : Nat → Prop} {bs : List (Nat × Value × Nat)} {Ds : List Nat} (h : Bx w0 F0 W F bs Ds) (D : Nat) (hD : w0.heap.size ≤ D) (hk : W.heap[D]? = some (.deferred (some []))) (hn : D ∉ Ds) : Bx w0 F0 W F bs (D :: Ds) :=
  ⟨h.bx, h.nw, h.nd, h.fc, h.own, h.chg, fun D' hD' => by
    rcases List.mem_cons.1 hD' with rfl | hD'
    · exact ⟨hD, hk⟩
    · exact h.ds D' hD', List.nodup_cons.2 ⟨hn, h.dn⟩⟩
/-- A mark taken. -/
theorem Bx.take {w0 W : World} {F0 F : Nat → Prop} {bs : List (Nat × Value × Nat)} {Ds : List Nat} {D : Nat} (h : Bx w0 F0 W F bs (D :: Ds)) : W.heap[D]? = some (.deferred (some [])) ∧ Bx w0 F0 (W.putObj D (.deferred none)) F bs Ds := by
  have hd := h.ds D (List.mem_cons_self ..)
  have hnd := List.nodup_cons.1 h.dn
  have h' : Bx w0 F0 W F bs [] := ⟨h.bx, h.nw, h.nd, h.fc, h.own, h.chg, fun D' hD' => (by cases hD'), List.nodup_nil⟩
  have h2 := (h'.turn (B := D) hd.1 (fun D' hD' => by cases hD') (grownBy_putObj' W D (.deferred none)) (fun r e => by cases e; exact ⟨Nat.le_refl _, _, hd.2, rfl⟩)).1
  exact ⟨hd.2, h2.bx, h2.nw, h2.nd, h2.fc, h2.own, h2.chg, fun D' hD' => ⟨(h.ds D' (List.mem_cons_of_mem _ hD')).1, (World.putObj_heap_other (fun e => hnd.1 (by first | (rw [e]; exact hD') | (rw [← e]; exact hD')))).trans (h.ds D' (List.mem_cons_of_mem _ hD')).2⟩, hnd.2⟩
theorem Bx.start (w0 : World) (F0 : Nat → Prop) (hF : ∀ k, F0 k → ∃ o, w0.heap[k]? = some o ∧ o.isCells = true) : Bx w0 F0 w0 F0 [] [] := ⟨fun x hx => (by cases hx), fun x hx => (by cases hx), by simp, hF, fun k hk => .inl hk, Chg.refl _ _, fun D hD => (by cases hD), List.nodup_nil⟩
end Go.Proofs.YthkoionigdnhgabGreatDoor
