/-
  Rows that the call made, of things of several cells; one thing laid behind them.
-/
import Derived.Test.YtpepjiocjcjeeaaDoorCpy
import Derived.OwnWalk
import Derived.Laws.OwnMore
import Derived.Deep.AppendLies
import Derived.Lib.AppendZerosOnto
namespace Go.Proofs.YtpepjiocjcjeeaaDoor
open Go.RowKit

/-- The row v holds the things l. -/
def Ow {α : Type} (cel : α → List Value) (t k : Nat) (w : World) (v : Value) (l : List α) : Prop := w.ownsRow 0 t k v l.length (l.flatMap cel)
theorem Ow.nil {α : Type} (cel : α → List Value) (t k : Nat) (w : World) : Ow cel t k w (.slice none 0 0) ([] : List α) := ⟨by simp, .inl ⟨rfl, rfl⟩⟩
theorem Ow.shape {α : Type} {cel : α → List Value} {t k : Nat} {w : World} {v : Value} {l : List α} (h : Ow cel t k w v l) : ∃ a c, v = .slice a l.length c ∧ (l ≠ [] → ∃ g, a = some ⟨g, 0, none⟩) := by
  obtain ⟨_, ⟨rfl, h2⟩ | ⟨g, cap, cur, rfl, _⟩⟩ := h
  · exact ⟨none, 0, by rw [h2], fun e => absurd (List.eq_nil_of_length_eq_zero h2) e⟩
  · exact ⟨_, cap, rfl, fun _ => ⟨g, rfl⟩⟩
theorem Ow.keep {α : Type} {cel : α → List Value} {t k : Nat} {w w' : World} {v : Value} {l : List α} (h : Ow cel t k w v l) (hk : ∀ g, v.ownBlock = some g → w'.heap[g]? = w.heap[g]?) : Ow cel t k w' v l := by
  obtain ⟨h1, ⟨rfl, h2⟩ | ⟨g, cap, cur, rfl, h3, h4, h5⟩⟩ := h
  · exact ⟨h1, .inl ⟨rfl, h2⟩⟩
  · exact ⟨h1, .inr ⟨g, cap, cur, rfl, h3, (hk g rfl).trans h4, h5⟩⟩
theorem Ow.lt {α : Type} {cel : α → List Value} {t k : Nat} {w : World} {v : Value} {l : List α} (h : Ow cel t k w v l) (g : Nat) (hg : v.ownBlock = some g) : g < w.heap.size := by
  obtain ⟨_, ⟨rfl, _⟩ | ⟨g', cap, cur, rfl, _, h4, _⟩⟩ := h
  · cases hg
  · cases hg; exact (Array.getElem?_eq_some_iff.1 h4).1
theorem Ow.chg {α : Type} {cel : α → List Value} {t k : Nat} {w w' : World} {v : Value} {l : List α} {F : Nat → Prop} (h : Ow cel t k w v l) (hc : Chg F w w') (hn : ∀ g, v.ownBlock = some g → ¬ F g) : Ow cel t k w' v l := h.keep (fun g hg => hc.block g (h.lt g hg) (hn g hg))
theorem Ow.below {α : Type} {cel : α → List Value} {t k : Nat} {w w' : World} {v : Value} {l : List α} (h : Ow cel t k w v l) (hb : Below w.heap.size w w') : Ow cel t k w' v l := h.keep (fun g hg => hb.block g (h.lt g hg))
theorem Ow.cells {α : Type} {cel : α → List Value} {t k : Nat} {w : World} {g n c : Nat} {l : List α} (h : Ow cel t k w (.slice (some ⟨g, 0, none⟩) n c) l) (j : Nat) (hj : j < (l.flatMap cel).length) : w.cell? ⟨g, j, none⟩ = (l.flatMap cel)[j]? := by
  obtain ⟨h1, ⟨h2, _⟩ | ⟨g', cap, cur, h2, _, h4, _, _, _, h5⟩⟩ := h
  · cases h2
  · cases h2
    rw [cell_of_row w g j cur t (0, 0) h4, ← h5, List.getElem?_take, if_pos (by rw [← h1]; exact hj), Array.getElem?_toList]
theorem Ow.frozen {α : Type} {cel : α → List Value} {t k : Nat} {w : World} {g n c : Nat} {l : List α} (h : Ow cel t k w (.slice (some ⟨g, 0, none⟩) n c) l) (j : Nat) : w.frozen? ⟨g, j, none⟩ = false := by
  obtain ⟨h1, ⟨h2, _⟩ | ⟨g', cap, cur, h2, _, h4, _⟩⟩ := h
  · cases h2
  · cases h2
    exact frozen_of_row w g j cur t h4
theorem Ow.cap {α : Type} {cel : α → List Value} {t k : Nat} {w : World} {a : Option Addr} {n c : Nat} {l : List α} (h : Ow cel t k w (.slice a n c) l) : n = l.length ∧ n ≤ c := by
  obtain ⟨h1, ⟨h2, h0⟩ | ⟨g', cap, cur, h2, _, h4, h5, _⟩⟩ := h
  · cases h2; exact ⟨h0.symm, Nat.le_refl _⟩
  · cases h2; exact ⟨rfl, h5⟩
/-- A row without things that lies nowhere. -/
theorem Ow.nowhere {α : Type} {cel : α → List Value} {t k : Nat} {w : World} {n c : Nat} {l : List α} (h : Ow cel t k w (.slice none n c) l) : l = [] := by
  obtain ⟨_, ⟨h2, h0⟩ | ⟨g', cap, cur, h2, _⟩⟩ := h
  · exact List.eq_nil_of_length_eq_zero h0
  · cases h2
theorem wpList_append_ow {α : Type} {cel : α → List Value} {t k : Nat} (hk : ∀ x, (cel x).length = k) (hk0 : 0 < k) (h1 : ∀ x, ∀ v ∈ cel x, v.oneCell' = true) {P : Program} {ops : Array Oper} {rest : List Oper} {op : Oper} {a : Act} {w : World} {Q : Exit → Act → World → Prop} (hgd : op.guard = none) (s x : Operand) (st : TypeId)
    (ho : op.op = .call { callee := .builtin .append, args := #[s, x], argTypes := #[st, st] }) (hu : P.underlying st = some (.slice t)) (z : Value) (bytes : Nat) (hinfo : (P.info? t).map (fun i => (i.zero, i.size, i.bytes)) = some (some z, k, bytes)) (hz : z.cells.size = k)
    (v : Value) (l : List α) (hs : a.eval s = v) (hown : Ow cel t k w v l) (g : Nat) (c : Nat) (y : α) (hx : a.eval x = .slice (some ⟨g, 0, none⟩) 1 c) (hy : ∀ j u, (cel y)[j]? = some u → w.cell? ⟨g, j, none⟩ = some u) (hb : (l.length + 1) * bytes ≤ 140737488355328) (hb2 : l.length + 1 ≤ 281474976710656)
    (h : ∀ g' cap w', Ow cel t k w' (.slice (some ⟨g', 0, none⟩) (l.length + 1) cap) (l ++ [y]) → Chg (fun k => v.ownBlock = some k) w w' → (v.ownBlock = some g' ∨ w.heap.size ≤ g') → wpList P ops Q rest (a.put op.dst (.slice (some ⟨g', 0, none⟩) (l.length + 1) cap)) w') : wpList P ops Q (op :: rest) a w := by
  obtain ⟨i, hi, hz0, hz1, hz2⟩ := info_parts hinfo
  refine wpList_append_lies w hgd s x st ho 0 t i z k bytes hu hi hz0 hz1 hz2 hz hk0 v l.length _ hs hown ⟨g, 0, none⟩ 1 c (cel y) hx (by rw [hk, Nat.one_mul]) (fun j u hu => by rw [addr_add, Nat.zero_add]; exact hy j u hu) (h1 y) (by decide) (by unfold maxLen; omega) hb (Nat.zero_le _) w.heap.size rfl ?_
  intro g' cap w' h2 h3 h4 _
  refine h g' cap w' ?_ ⟨h3.os, h3.tape, h3.output, h3.size, fun k hk hn => h3.block k hk (fun e => hn e.symm)⟩ (h4.imp id (fun e => by omega))
  unfold Ow
  rw [List.flatMap_append, List.length_append, List.length_singleton]
  simpa using h2
theorem wp_append_ow {α : Type} {cel : α → List Value} {t k : Nat} (hk : ∀ x, (cel x).length = k) (hk0 : 0 < k) (h1 : ∀ x, ∀ v ∈ cel x, v.oneCell' = true) {P : Program} {op : Oper} {a : Act} {w : World} {K : Act → World → Prop} {Q : Exit → Act → World → Prop} (s x : Operand) (st : TypeId)
    (ho : op.op = .call { callee := .builtin .append, args := #[s, x], argTypes := #[st, st] }) (hu : P.underlying st = some (.slice t)) (z : Value) (bytes : Nat) (hinfo : (P.info? t).map (fun i => (i.zero, i.size, i.bytes)) = some (some z, k, bytes)) (hz : z.cells.size = k)
    (v : Value) (l : List α) (hs : a.eval s = v) (hown : Ow cel t k w v l) (g : Nat) (c : Nat) (y : α) (hx : a.eval x = .slice (some ⟨g, 0, none⟩) 1 c) (hy : ∀ j u, (cel y)[j]? = some u → w.cell? ⟨g, j, none⟩ = some u) (hb : (l.length + 1) * bytes ≤ 140737488355328) (hb2 : l.length + 1 ≤ 281474976710656)
    (h : ∀ g' cap w', Ow cel t k w' (.slice (some ⟨g', 0, none⟩) (l.length + 1) cap) (l ++ [y]) → Chg (fun k => v.ownBlock = some k) w w' → (v.ownBlock = some g' ∨ w.heap.size ≤ g') → K (a.put op.dst (.slice (some ⟨g', 0, none⟩) (l.length + 1) cap)) w') : op.wp P a w K Q := by
  obtain ⟨i, hi, hz0, hz1, hz2⟩ := info_parts hinfo
  refine wp_append_lies w s x st ho 0 t i z k bytes hu hi hz0 hz1 hz2 hz hk0 v l.length _ hs hown ⟨g, 0, none⟩ 1 c (cel y) hx (by rw [hk, Nat.one_mul]) (fun j u hu => by rw [addr_add, Nat.zero_add]; exact hy j u hu) (h1 y) (by decide) (by unfold maxLen; omega) hb (Nat.zero_le _) w.heap.size rfl ?_
  intro g' cap w' h2 h3 h4 _
  refine h g' cap w' ?_ ⟨h3.os, h3.tape, h3.output, h3.size, fun k hk hn => h3.block k hk (fun e => hn e.symm)⟩ (h4.imp id (fun e => by omega))
  unfold Ow
  rw [List.flatMap_append, List.length_append, List.length_singleton]
  simpa using h2
/-- Cells that a block of one thing holds. -/
theorem new_cells {w : World} {t : TypeId} (cs : List Value) (j : Nat) (u : Value) (h : cs[j]? = some u) : (w.alloc (.cells cs.toArray t)).cell? ⟨w.heap.size, j, none⟩ = some u := by
  rw [(Lies.new w cs.toArray t).cell, List.getElem?_toArray]
  exact h
end Go.Proofs.YtpepjiocjcjeeaaDoor
/-
  Rows that the call made: several things laid behind them.
-/
namespace Go.Proofs.YtpepjiocjcjeeaaDoor
open Go.RowKit

/-- append of several things that lie somewhere. -/
theorem run_seg {α : Type} {cel : α → List Value} {t k : Nat} (hk : ∀ x, (cel x).length = k) (hk0 : 0 < k) (h1 : ∀ x, ∀ v ∈ cel x, v.oneCell' = true) {P : Program} {w : World} (st ty : TypeId)
    (hu : P.underlying st = some (.slice t)) (z : Value) (bytes : Nat) (hinfo : (P.info? t).map (fun i => (i.zero, i.size, i.bytes)) = some (some z, k, bytes)) (hz : z.cells.size = k)
    (v : Value) (l : List α) (hown : Ow cel t k w v l) (g o : Nat) (m c : Nat) (ys : List α) (hm : ys.length = m) (hy : ∀ j u, (ys.flatMap cel)[j]? = some u → w.cell? ⟨g, o + j, none⟩ = some u) (hb : (l.length + m) * bytes ≤ 140737488355328) (hb2 : l.length + m ≤ 281474976710656) :
    ∃ v' w', (Builtin.append_ #[st, st] ty #[v, .slice (some ⟨g, o, none⟩) m c]).run P w = .ok v' w' ∧ Ow cel t k w' v' (l ++ ys) ∧ Chg (fun k => v.ownBlock = some k) w w' ∧ (v'.ownBlock = v.ownBlock ∨ v'.ownBlock = some w.heap.size) := by
  obtain ⟨i, hi, hz0, hz1, hz2⟩ := info_parts hinfo
  have hone : ∀ u ∈ ys.flatMap cel, u.oneCell' = true := fun u hu => by obtain ⟨y, _, hy2⟩ := List.mem_flatMap.1 hu; exact h1 y u hy2
  obtain ⟨v', w', hr, h2, h3, _, h5⟩ := run_append_own_at (P := P) w 0 st ty t i z k bytes hu hi hz0 hz1 hz2 hz hk0 v l.length _ hown ⟨g, o, none⟩ m c (ys.flatMap cel) (by rw [flat_length hk, hm]) (fun j u hu => by rw [addr_add]; exact hy j u hu) hone (by unfold maxLen; omega) hb (Nat.zero_le _)
  refine ⟨v', w', hr, ?_, ⟨h3.os, h3.tape, h3.output, h3.size, fun k hk hn => h3.block k hk (fun e => hn e.symm)⟩, h5⟩
  unfold Ow
  rw [List.flatMap_append, List.length_append, hm]
  exact h2
theorem ap_seg {α : Type} {cel : α → List Value} {t k : Nat} (hk : ∀ x, (cel x).length = k) (hk0 : 0 < k) (h1 : ∀ x, ∀ v ∈ cel x, v.oneCell' = true) {P : Program} {op : Oper} {a : Act} {w : World} {K : Act → World → Prop} {Q : Exit → Act → World → Prop} (s x : Operand) (st : TypeId)
    (ho : op.op = .call { callee := .builtin .append, args := #[s, x], argTypes := #[st, st] }) (hu : P.underlying st = some (.slice t)) (z : Value) (bytes : Nat) (hinfo : (P.info? t).map (fun i => (i.zero, i.size, i.bytes)) = some (some z, k, bytes)) (hz : z.cells.size = k)
    (v : Value) (l : List α) (hs : a.eval s = v) (hown : Ow cel t k w v l) (g o : Nat) (m c : Nat) (ys : List α) (hm : ys.length = m) (hx : a.eval x = .slice (some ⟨g, o, none⟩) m c) (hy : ∀ j u, (ys.flatMap cel)[j]? = some u → w.cell? ⟨g, o + j, none⟩ = some u) (hb : (l.length + m) * bytes ≤ 140737488355328) (hb2 : l.length + m ≤ 281474976710656)
    (h : ∀ v' w', Ow cel t k w' v' (l ++ ys) → Chg (fun k => v.ownBlock = some k) w w' → (v'.ownBlock = v.ownBlock ∨ v'.ownBlock = some w.heap.size) → K (a.put op.dst v') w') : op.wp P a w K Q := by
  obtain ⟨v', w', hr, h2, h3, h5⟩ := run_seg hk hk0 h1 st op.type hu z bytes hinfo hz v l hown g o m c ys hm hy hb hb2
  unfold Oper.wp execOp
  simp only [ho, resolve, invoke, builtin, Sem.run_bind, Sem.run_pure, Result.andThen_ok, List.map_toArray, List.map_cons, List.map_nil, hs, hx, hr]
  exact h v' w' h2 h3 h5
theorem apL_seg {α : Type} {cel : α → List Value} {t k : Nat} (hk : ∀ x, (cel x).length = k) (hk0 : 0 < k) (h1 : ∀ x, ∀ v ∈ cel x, v.oneCell' = true) {P : Program} {ops : Array Oper} {rest : List Oper} {op : Oper} {a : Act} {w : World} {Q : Exit → Act → World → Prop} (hgd : op.guard = none) (s x : Operand) (st : TypeId)
    (ho : op.op = .call { callee := .builtin .append, args := #[s, x], argTypes := #[st, st] }) (hu : P.underlying st = some (.slice t)) (z : Value) (bytes : Nat) (hinfo : (P.info? t).map (fun i => (i.zero, i.size, i.bytes)) = some (some z, k, bytes)) (hz : z.cells.size = k)
    (v : Value) (l : List α) (hs : a.eval s = v) (hown : Ow cel t k w v l) (g o : Nat) (m c : Nat) (ys : List α) (hm : ys.length = m) (hx : a.eval x = .slice (some ⟨g, o, none⟩) m c) (hy : ∀ j u, (ys.flatMap cel)[j]? = some u → w.cell? ⟨g, o + j, none⟩ = some u) (hb : (l.length + m) * bytes ≤ 140737488355328) (hb2 : l.length + m ≤ 281474976710656)
    (h : ∀ v' w', Ow cel t k w' v' (l ++ ys) → Chg (fun k => v.ownBlock = some k) w w' → (v'.ownBlock = v.ownBlock ∨ v'.ownBlock = some w.heap.size) → wpList P ops Q rest (a.put op.dst v') w') : wpList P ops Q (op :: rest) a w :=
  wpList_plain hgd fun _ hK => ap_seg hk hk0 h1 s x st ho hu z bytes hinfo hz v l hs hown g o m c ys hm hx hy hb hb2 fun v' w' h2 h3 h4 => hK _ _ (h v' w' h2 h3 h4)
/-- A row of no things that was made. -/
theorem Ow.mk0 {α : Type} (cel : α → List Value) (t k : Nat) (w : World) (g : Nat) (h : Lies w g #[] t) : Ow cel t k w (.slice (some ⟨g, 0, none⟩) 0 0) ([] : List α) := ⟨by simp, .inr ⟨g, 0, #[], rfl, Nat.zero_le _, h, Nat.le_refl _, by unfold maxLen; omega, by simp, by simp⟩⟩
theorem Ow.sg {α : Type} {cel : α → List Value} {t k : Nat} (hk : ∀ x, (cel x).length = k) {w : World} {g n c : Nat} {l : List α} (h : Ow cel t k w (.slice (some ⟨g, 0, none⟩) n c) l) (o m : Nat) (j : Nat) (u : Value) (hj : (((l.drop o).take m).flatMap cel)[j]? = some u) : w.cell? ⟨g, o * k + j, none⟩ = some u := by
  have hl := (List.getElem?_eq_some_iff.1 hj).1
  rw [flat_take hk, flat_drop hk, List.length_take, List.length_drop] at hl
  rw [h.cells _ (by omega), ← hj, flat_take hk, flat_drop hk, List.getElem?_take, List.getElem?_drop, if_pos (by omega)]
/-- A block of things: some of them. -/
theorem Lies.sg {α : Type} {cel : α → List Value} {t k : Nat} (hk : ∀ x, (cel x).length = k) {w : World} {g : Nat} {A : List α} (h : Lies w g (A.flatMap cel).toArray t) (o m : Nat) (j : Nat) (u : Value) (hj : (((A.drop o).take m).flatMap cel)[j]? = some u) : w.cell? ⟨g, o * k + j, none⟩ = some u := by
  have hl := (List.getElem?_eq_some_iff.1 hj).1
  rw [flat_take hk, flat_drop hk, List.length_take, List.length_drop] at hl
  rw [h.cell, List.getElem?_toArray, ← hj, flat_take hk, flat_drop hk, List.getElem?_take, List.getElem?_drop, if_pos (by omega)]
/-- append of as many things as there are zeros. -/
theorem run_zeros {α : Type} {cel : α → List Value} {t k : Nat} {P : Program} {w : World} (st tn ty : TypeId) (hu : P.underlying st = some (.slice t)) (hn : P.underlying tn = some (.int .i64)) (z : Value) (bytes : Nat) (hinfo : (P.info? t).map (fun i => (i.zero, i.size, i.bytes)) = some (some z, k, bytes)) (hz : z.cells.size = k) (hk0 : 0 < k)
    (n : Nat) (h0 : 0 < n) (hb : n * bytes ≤ 140737488355328) (hn2 : n ≤ 1048576) :
    ∃ G w', n ≤ G ∧ G ≤ 9223372036854775807 ∧ (Builtin.append_ #[st, tn] ty #[.slice none 0 0, .int .i64 (n : Int)]).run P w = .ok (.slice (some ⟨w.heap.size, 0, none⟩) n G) w' ∧ Ow cel t k w' (.slice (some ⟨w.heap.size, 0, none⟩) 0 G) ([] : List α) ∧ Below w.heap.size w w' := by
  obtain ⟨i, hi, hz0, hz1, hz2⟩ := info_parts hinfo
  have hcap := grownCap_le_maxLen w (0 + n) 0 t (by unfold maxLen; omega)
  have hge := grownCap_ge w (0 + n) 0 t
  have hr := Lib.run_append_grow_zeros (P := P) w st tn ty t i z .i64 .i64 hu hn hi hz0 none 0 0 [] (run_firstCells_none w.drew i.size 0 0 0) n h0 (by rw [hz1]; exact hk0) (by omega) (by omega) (by rw [hz2]; omega) (growslice_fits (by omega) (by rw [hz2, Nat.zero_add]; exact hb))
  refine ⟨grownCap w (0 + n) 0 t, _, by omega, by unfold maxLen at hcap; omega, by rw [hr, Nat.zero_add], ⟨by simp, .inr ⟨w.heap.size, _, _, rfl, Nat.zero_le _, heap_alloc_new w.drew _, Nat.zero_le _, hcap, ?_, by simp⟩⟩, ((Below.refl _ _).drew).alloc (Nat.le_refl _) _⟩
  simp only [Array.size_append, List.size_toArray, size_zeroCells, hz, List.length_nil, Nat.zero_add, ← Nat.add_mul]
  congr 1
  rw [Nat.zero_add] at *
  omega
end Go.Proofs.YtpepjiocjcjeeaaDoor
