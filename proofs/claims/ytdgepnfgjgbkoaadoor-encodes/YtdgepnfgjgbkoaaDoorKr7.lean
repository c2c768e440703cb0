/-
  Rows that the call made: several things laid behind them.
-/
import Derived.Test.YtdgepnfgjgbkoaaDoorOwn7
import Derived.Lib.AppendZerosOnto
import Derived.RangeFuncNested
namespace Go.Proofs.YtdgepnfgjgbkoaaDoor
open Go.RowKit

/-- append of several things that lie somewhere. -/
theorem run_seg {α : Type} {cel : α → List Value} {t k : Nat} (hk : ∀ x, (cel x).length = k) (hk0 : 0 < k) (h1 : ∀ x, ∀ v ∈ cel x, v.oneCell' = true) {P : Program} {w : World} (st ty : TypeId)
    (hu : P.underlying st = some (.slice t)) (z : Value) (bytes : Nat) (hinfo : (P.info? t).map (fun i => (i.zero, i.size, i.bytes)) = some (some z, k, bytes)) (hz : z.cells.size = k)
    (v : Value) (l : List α) (hown : Ow cel t k w v l) (g o : Nat) (m c : Nat) (ys : List α) (hm : ys.length = m) (hy : ∀ j u, (ys.flatMap cel)[j]? = some u → w.cell? ⟨g, o + j, none⟩ = some u) (hb : (l.length + m) * bytes ≤ 140737488355328) (hb2 : l.length + m ≤ 281474976710656) :
    ∃ v' w', (Builtin.append_ #[st, st] ty #[v, .slice (some ⟨g, o, none⟩) m c]).run P w = .ok v' w' ∧ Ow cel t k w' v' (l ++ ys) ∧ Chg (fun k => v.ownBlock = some k) w w' ∧ (v'.ownBlock = v.ownBlock ∨ v'.ownBlock = some w.heap.size) := by
  obtain ⟨i, hi, hz0, hz1, hz2⟩ := info_parts hinfo
  have hone : ∀ u ∈ ys.flatMap cel, u.oneCell' = true := fun u hu => by obtain ⟨y, _, hy2⟩ := List.mem_flatMap.1 hu; exact h1 y u hy2
  obtain ⟨v', w', hr, h2, h3, _, h5⟩ := run_append_own_at (P := P) w 0 st ty t i z k bytes hu hi hz0 hz1 hz2 hz hk0 v l.length _ hown ⟨g, o, none⟩ m c (ys.flatMap cel) (by rw [flat_length hk, hm]) (fun j u hu => by rw [addr_add]; exact hy j u hu) hone (by unfold maxLen; omega) hb (Nat.zero_le _)
  refine ⟨v', w', hr, ?_, ⟨h3.os, h3.tape, h3.output, h3.size, fun k hk hn => h3.block k hk (fun e => hn e.symm)⟩, h5⟩
  unfold Ow
  rw [List.flatMap_append, List.length_append, hm]
  exact h2
theorem ap_seg {α : Type} {cel : α → List Value} {t k : Nat} (hk : ∀ x, (cel x).length = k) (hk0 : 0 < k) (h1 : ∀ x, ∀ v ∈ cel x, v.oneCell' = true) {P : Program} {op : Oper} {a : Act} {w : World} {K : Act → World → Prop} {Q : Exit → Act → World → Prop} (s x : Operand) (st : TypeId)
    (ho : op.op = .call { callee := .builtin .append, args := #[s, x], argTypes := #[st, st] }) (hu : P.underlying st = some (.slice t)) (z : Value) (bytes : Nat) (hinfo : (P.info? t).map (fun i => (i.zero, i.size, i.bytes)) = some (some z, k, bytes)) (hz : z.cells.size = k)
    (v : Value) (l : List α) (hs : a.eval s = v) (hown : Ow cel t k w v l) (g o : Nat) (m c : Nat) (ys : List α) (hm : ys.length = m) (hx : a.eval x = .slice (some ⟨g, o, none⟩) m c) (hy : ∀ j u, (ys.flatMap cel)[j]? = some u → w.cell? ⟨g, o + j, none⟩ = some u) (hb : (l.length + m) * bytes ≤ 140737488355328) (hb2 : l.length + m ≤ 281474976710656)
    (h : ∀ v' w', Ow cel t k w' v' (l ++ ys) → Chg (fun k => v.ownBlock = some k) w w' → (v'.ownBlock = v.ownBlock ∨ v'.ownBlock = some w.heap.size) → K (a.put op.dst v') w') : op.wp P a w K Q := by
  obtain ⟨v', w', hr, h2, h3, h5⟩ := run_seg hk hk0 h1 st op.type hu z bytes hinfo hz v l hown g o m c ys hm hy hb hb2
  unfold Oper.wp execOp
  simp only [ho, resolve, invoke, builtin, Sem.run_bind, Sem.run_pure, Result.andThen_ok, List.map_toArray, List.map_cons, List.map_nil, hs, hx, hr]
  exact h v' w' h2 h3 h5
theorem apL_seg {α : Type} {cel : α → List Value} {t k : Nat} (hk : ∀ x, (cel x).length = k) (hk0 : 0 < k) (h1 : ∀ x, ∀ v ∈ cel x, v.oneCell' = true) {P : Program} {ops : Array Oper} {rest : List Oper} {op : Oper} {a : Act} {w : World} {Q : Exit → Act → World → Prop} (hgd : op.guard = none) (s x : Operand) (st : TypeId)
    (ho : op.op = .call { callee := .builtin .append, args := #[s, x], argTypes := #[st, st] }) (hu : P.underlying st = some (.slice t)) (z : Value) (bytes : Nat) (hinfo : (P.info? t).map (fun i => (i.zero, i.size, i.bytes)) = some (some z, k, bytes)) (hz : z.cells.size = k)
    (v : Value) (l : List α) (hs : a.eval s = v) (hown : Ow cel t k w v l) (g o : Nat) (m c : Nat) (ys : List α) (hm : ys.length = m) (hx : a.eval x = .slice (some ⟨g, o, none⟩) m c) (hy : ∀ j u, (ys.flatMap cel)[j]? = some u → w.cell? ⟨g, o + j, none⟩ = some u) (hb : (l.length + m) * bytes ≤ 140737488355328) (hb2 : l.length + m ≤ 281474976710656)
    (h : ∀ v' w', Ow cel t k w' v' (l ++ ys) → Chg (fun k => v.ownBlock = some k) w w' → (v'.ownBlock = v.ownBlock ∨ v'.ownBlock = some w.heap.size) → wpList P ops Q rest (a.put op.dst v') w') : wpList P ops Q (op :: rest) a w :=
  wpList_plain hgd fun _ hK => ap_seg hk hk0 h1 s x st ho hu z bytes hinfo hz v l hs hown g o m c ys hm hx hy hb hb2 fun v' w' h2 h3 h4 => hK _ _ (h v' w' h2 h3 h4)
/-- A row of no things that was made. -/
theorem Ow.mk0 {α : Type} (cel : α → List Value) (t k : Nat) (w : World) (g : Nat) (h : Lies w g #[] t) : Ow cel t k w (.slice (some ⟨g, 0, none⟩) 0 0) ([] : List α) := ⟨by simp, .inr ⟨g, 0, #[], rfl, Nat.zero_le _, h, Nat.le_refl _, by unfold maxLen; omega, by simp, by simp⟩⟩
theorem Ow.sg {α : Type} {cel : α → List Value} {t k : Nat} (hk : ∀ x, (cel x).length = k) {w : World} {g n c : Nat} {l : List α} (h : Ow cel t k w (.slice (some ⟨g, 0, none⟩) n c) l) (o m : Nat) (j : Nat) (u : Value) (hj : (((l.drop o).take m).flatMap cel)[j]? = some u) : w.cell? ⟨g, o * k + j, none⟩ = some u := by
  have hl := (List.getElem?_eq_some_iff.1 hj).1
  rw [flat_take hk, flat_drop hk, List.length_take, List.length_drop] at hl
  rw [h.cells _ (by omega), ← hj, flat_take hk, flat_drop hk, List.getElem?_take, List.getElem?_drop, if_pos (by omega)]
/-- A block of things: some of them. -/
theorem Lies.sg {α : Type} {cel : α → List Value} {t k : Nat} (hk : ∀ x, (cel x).length = k) {w : World} {g : Nat} {A : List α} (h : Lies w g (A.flatMap cel).toArray t) (o m : Nat) (j : Nat) (u : Value) (hj : (((A.drop o).take m).flatMap cel)[j]? = some u) : w.cell? ⟨g, o * k + j, none⟩ = some u := by
  have hl := (List.getElem?_eq_some_iff.1 hj).1
  rw [flat_take hk, flat_drop hk, List.length_take, List.length_drop] at hl
  rw [h.cell, List.getElem?_toArray, ← hj, flat_take hk, flat_drop hk, List.getElem?_take, List.getElem?_drop, if_pos (by omega)]
/-- append of as many things as there are zeros. -/
theorem run_zeros {α : Type} {cel : α → List Value} {t k : Nat} {P : Program} {w : World} (st tn ty : TypeId) (hu : P.underlying st = some (.slice t)) (hn : P.underlying tn = some (.int .i64)) (z : Value) (bytes : Nat) (hinfo : (P.info? t).map (fun i => (i.zero, i.size, i.bytes)) = some (some z, k, bytes)) (hz : z.cells.size = k) (hk0 : 0 < k)
    (n : Nat) (h0 : 0 < n) (hb : n * bytes ≤ 140737488355328) (hn2 : n ≤ 1048576) :
    ∃ G w', n ≤ G ∧ G ≤ 9223372036854775807 ∧ (Builtin.append_ #[st, tn] ty #[.slice none 0 0, .int .i64 (n : Int)]).run P w = .ok (.slice (some ⟨w.heap.size, 0, none⟩) n G) w' ∧ Ow cel t k w' (.slice (some ⟨w.heap.size, 0, none⟩) 0 G) ([] : List α) ∧ Below w.heap.size w w' := by
  obtain ⟨i, hi, hz0, hz1, hz2⟩ := info_parts hinfo
  have hcap := grownCap_le_maxLen w (0 + n) 0 t (by unfold maxLen; omega)
  have hge := grownCap_ge w (0 + n) 0 t
  have hr := Lib.run_append_grow_zeros (P := P) w st tn ty t i z .i64 .i64 hu hn hi hz0 none 0 0 [] (run_firstCells_none w.drew i.size 0 0 0) n h0 (by rw [hz1]; exact hk0) (by omega) (by omega) (by rw [hz2]; omega) (growslice_fits (by omega) (by rw [hz2, Nat.zero_add]; exact hb))
  refine ⟨grownCap w (0 + n) 0 t, _, by omega, by unfold maxLen at hcap; omega, by rw [hr, Nat.zero_add], ⟨by simp, .inr ⟨w.heap.size, _, _, rfl, Nat.zero_le _, heap_alloc_new w.drew _, Nat.zero_le _, hcap, ?_, by simp⟩⟩, ((Below.refl _ _).drew).alloc (Nat.le_refl _) _⟩
  simp only [Array.size_append, List.size_toArray, size_zeroCells, hz, List.length_nil, Nat.zero_add, ← Nat.add_mul]
  congr 1
  rw [Nat.zero_add] at *
  omega
end Go.Proofs.YtdgepnfgjgbkoaaDoor
/-
  What a loop over an iterator keeps: all cells from a block on.
-/
namespace Go.Proofs.YtdgepnfgjgbkoaaDoor
open Go.RowKit

structure Kr (n0 : Nat) (W W' : World) : Prop where
  size : W.heap.size ≤ W'.heap.size
  same : ∀ (k : Nat) (o : Obj), n0 ≤ k → W.heap[k]? = some o → o.isCells = true → W'.heap[k]? = some o
theorem Kr.refl (n0 : Nat) (W : World) : Kr n0 W W := ⟨Nat.le_refl _, fun _ _ _ h _ => h⟩
theorem Kr.trans {n0 : Nat} {A B C : World} (h : Kr n0 A B) (k : Kr n0 B C) : Kr n0 A C := ⟨Nat.le_trans h.size k.size, fun i o hi ho hc => k.same i o hi (h.same i o hi ho hc) hc⟩
theorem Kr.book (n0 : Nat) (W : World) (l : Nat) (o o' : Obj) (hl : W.heap[l]? = some o) (ho : o.isCells = false) : Kr n0 W (W.putObj l o') :=
  ⟨(grownBy_putObj' W l o').size, fun k ob _ hk hc => by
    refine (World.putObj_heap_other (fun e => ?_)).trans hk
    subst e
    rw [hl] at hk
    cases hk
    rw [ho] at hc
    cases hc⟩
theorem Kr.of_chg {n0 : Nat} {F : Nat → Prop} {W W' : World} (h : Chg F W W') (hF : ∀ k, F k → k < n0) : Kr n0 W W' :=
  ⟨h.size, fun k o hk ho _ => (h.block k (Array.getElem?_eq_some_iff.1 ho).1 (fun f => by have := hF k f; omega)).trans ho⟩
theorem Kr.of_below {n0 : Nat} {W W' : World} (h : Below W.heap.size W W') : Kr n0 W W' := Kr.of_chg (F := fun _ => False) (Chg.of_below h) (fun _ f => f.elim)
/-- A row that lies from n0 on. -/
theorem Kr.ow {α : Type} {cel : α → List Value} {t k n0 : Nat} {W W' : World} {v : Value} {l : List α} (h : Kr n0 W W') (ho : Ow cel t k W v l) (hv : ∀ g, v.ownBlock = some g → n0 ≤ g) : Ow cel t k W' v l := by
  obtain ⟨h1, ⟨rfl, h2⟩ | ⟨g, cap, cur, rfl, h3, h4, h5⟩⟩ := ho
  · exact ⟨h1, .inl ⟨rfl, h2⟩⟩
  · exact ⟨h1, .inr ⟨g, cap, cur, rfl, h3, h.same g _ (hv g rfl) h4 rfl, h5⟩⟩
/-- Also what isn't cells: what the laws of loops ask of a body. -/
theorem keeps_of_chg {B : Nat} {F : Nat → Prop} {W W' : World} (h : Chg F W W') (hF : ∀ k, F k → k < B) : KeepsFrom B W W' :=
  ⟨h.size, fun k o hk ho _ => (h.block k (Array.getElem?_eq_some_iff.1 ho).1 (fun f => by have := hF k f; omega)).trans ho⟩
theorem grown_of_below {W W' : World} (h : Below W.heap.size W W') : W.grownBy W' none := ⟨h.os, h.tape, h.output, h.size, fun k hk _ => h.block k hk⟩
end Go.Proofs.YtdgepnfgjgbkoaaDoor
