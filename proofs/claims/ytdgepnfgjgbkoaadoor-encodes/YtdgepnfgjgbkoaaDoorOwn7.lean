/-
  copy and clear of things of several cells each.
-/
import Derived.Test.YtdgepnfgjgbkoaaDoorWld
import Derived.OwnWalk
import Derived.Laws.OwnMore
import Derived.Deep.AppendLies
namespace Go.Proofs.YtdgepnfgjgbkoaaDoor
open Go.RowKit

/-- The things m lie from there on. -/
def Sg {α : Type} (cel : α → List Value) (a : Option Addr) (m : List α) (w : World) : Prop := m = [] ∨ ∃ g o, a = some ⟨g, o, none⟩ ∧ ∀ j v, (m.flatMap cel)[j]? = some v → w.cell? ⟨g, o + j, none⟩ = some v
theorem Sg.of_lies {α : Type} {cel : α → List Value} {k : Nat} (hk : ∀ x, (cel x).length = k) {w : World} {g : Nat} {A : List α} {t : TypeId} (h : Lies w g (A.flatMap cel).toArray t) (o n off : Nat) (ho : off = o * k) : Sg cel (some ⟨g, off, none⟩) ((A.drop o).take n) w := by
  refine .inr ⟨g, off, rfl, fun j v hv => ?_⟩
  rw [h.cell, List.getElem?_toArray, ← hv, flat_take hk, flat_drop hk, List.getElem?_take, List.getElem?_drop, ho]
  rw [if_pos]
  have h1 := (List.getElem?_eq_some_iff.1 hv).1
  rw [flat_take hk, List.length_take] at h1
  omega
theorem addr_add (g o j : Nat) : (⟨g, o, none⟩ : Addr).add j = ⟨g, o + j, none⟩ := by unfold Addr.add; split <;> simp_all
theorem wpList_copy_k {α : Type} {cel : α → List Value} {k : Nat} (hk : ∀ x, (cel x).length = k) (h1 : ∀ x, ∀ v ∈ cel x, v.oneCell' = true) {P : Program} {ops : Array Oper} {rest : List Oper} {op : Oper} {a : Act} {w : World} {Q : Exit → Act → World → Prop} (hgd : op.guard = none) (d s : Operand) (dT sT elem : TypeId)
    (ho : op.op = .call { callee := .builtin .copy, args := #[d, s], argTypes := #[dT, sT] }) (hu : P.underlying dT = some (.slice elem)) (hsz : (P.info? elem).map (·.size) = some k)
    (G o off dLen dCap : Nat) (D : List α) (t : TypeId) (hoff : off = o * k) (hd : a.eval d = .slice (some ⟨G, off, none⟩) dLen dCap) (hG : Lies w G (D.flatMap cel).toArray t)
    (oa : Option Addr) (sLen sCap : Nat) (m : List α) (hs : a.eval s = .slice oa sLen sCap) (hm : sLen = m.length) (hfit : m.length ≤ dLen) (hfit2 : o + m.length ≤ D.length) (hsrc : Sg cel oa m w)
    (h : ∀ w', Lies w' G ((D.take o ++ m ++ D.drop (o + m.length)).flatMap cel).toArray t → Chg (· = G) w w' → wpList P ops Q rest (a.put op.dst (.int .i64 (sLen : Int))) w') : wpList P ops Q (op :: rest) a w := by
  refine wpList_plain hgd fun K hK => ?_
  have hmin : Nat.min sLen dLen = m.length := by rw [hm]; exact Nat.min_eq_left hfit
  have hcs : (m.flatMap cel).length = m.length * k := flat_length hk m
  have hD : (D.flatMap cel).length = D.length * k := flat_length hk D
  have hle : off + (m.flatMap cel).length ≤ (D.flatMap cel).length := by rw [hcs, hD, hoff, ← Nat.add_mul]; exact Nat.mul_le_mul_right k hfit2
  obtain ⟨i, hi, hik⟩ : ∃ i, P.info? elem = some i ∧ i.size = k := by
    cases hq : P.info? elem with
    | none => simp [hq] at hsz
    | some i => exact ⟨i, rfl, by simpa [hq] using hsz⟩
  have hone : ∀ v ∈ m.flatMap cel, v.oneCell' = true := fun v hv => by
    obtain ⟨x, _, hx⟩ := List.mem_flatMap.1 hv
    exact h1 x v hx
  have hst := run_storeCells_cells (P := P) G off (m.flatMap cel) 0 w (fun j hj => by rw [hG.cell, List.getElem?_toArray, List.getElem?_eq_getElem (by omega)]; rfl) (fun j _ => hG.frozen _) hone
  simp only [Nat.add_zero] at hst
  have hload : (Builtin.firstCells k m.length (.slice oa sLen sCap)).run P w = .ok (m.flatMap cel).toArray w := by
    rcases hsrc with rfl | ⟨g, o', rfl, hc⟩
    · cases oa with
      | none => simp [Builtin.firstCells]
      | some ad => simpa [Builtin.firstCells] using run_loadCells_list (P := P) w ad [] (by simp)
    · have := run_loadCells_list (P := P) w ⟨g, o', none⟩ (m.flatMap cel) (fun j v hv => by rw [addr_add]; exact hc j v hv)
      rw [hcs] at this
      simpa [Builtin.firstCells] using this
  have hrun : (Builtin.copy_ #[dT, sT] op.type #[.slice (some ⟨G, off, none⟩) dLen dCap, .slice oa sLen sCap]).run P w = .ok (.int .i64 (sLen : Int)) (w.setCells G off (m.flatMap cel)) := by
    rw [show (sLen : Int) = (m.length : Int) by omega]
    simp [Builtin.copy_, run_underlying hu, Builtin.lenOf, sizeOf, typeInfo, hi, hik, hmin, hload, hst, goInt]
  unfold Oper.wp
  simp [execOp, ho, resolve, invoke, builtin, hd, hs, hrun, Result.andThen]
  refine hK _ _ (h _ ?_ (Chg.sets (F := (· = G)) (.inl rfl) _ _ _ (Chg.refl _ _)))
  rw [flat_put hk, ← hoff]
  exact hG.sets (m.flatMap cel) off _ _ hle
theorem zero_flat {α : Type} {cel : α → List Value} {k : Nat} (hk : ∀ x, (cel x).length = k) (hk0 : 0 < k) (d : α) (n : Nat) : (Builtin.zeroCells (cel d).toArray n).toList = (List.replicate n d).flatMap cel := by
  apply List.ext_getElem?
  intro j
  have hl : ((List.replicate n d).flatMap cel).length = n * k := by rw [flat_length hk, List.length_replicate]
  by_cases hj : j < n * k
  · have hq : j / k < n := Nat.div_lt_of_lt_mul (by rw [Nat.mul_comm]; exact hj)
    have hr : j % k < k := Nat.mod_lt _ hk0
    have e := flat_at hk (List.replicate n d) (j / k) (j % k) (by rw [List.length_replicate]; exact hq) hr
    rw [Nat.div_add_mod' j k] at e
    rw [e]
    have hx : j % k < (cel d).length := by rw [hk]; exact hr
    rw [List.getElem_replicate, List.getElem?_eq_getElem hx]
    simp [Builtin.zeroCells, hk, hj]
    rw [List.getElem?_eq_getElem hx, Option.getD_some]
  · rw [List.getElem?_eq_none (by simp [Builtin.zeroCells, hk]; omega), List.getElem?_eq_none (by omega)]
theorem wpList_clear_k {α : Type} {cel : α → List Value} {k : Nat} (hk : ∀ x, (cel x).length = k) (hk0 : 0 < k) (h1 : ∀ x, ∀ v ∈ cel x, v.oneCell' = true) (z : α) {P : Program} {ops : Array Oper} {rest : List Oper} {op : Oper} {a : Act} {w : World} {Q : Exit → Act → World → Prop} (hgd : op.guard = none) (s : Operand) (dT elem : TypeId)
    (ho : op.op = .call { callee := .builtin .clear, args := #[s], argTypes := #[dT] }) (hu : P.underlying dT = some (.slice elem)) (zv : Value) (hz : ∀ w, (zeroValue elem).run P w = .ok zv w) (hzc : zv.cells = (cel z).toArray)
    (G o off n cap : Nat) (D : List α) (t : TypeId) (hoff : off = o * k) (hs : a.eval s = .slice (some ⟨G, off, none⟩) n cap) (hG : Lies w G (D.flatMap cel).toArray t) (hfit : o + n ≤ D.length)
    (h : ∀ w', Lies w' G ((clrA z D o n).flatMap cel).toArray t → Chg (· = G) w w' → wpList P ops Q rest (a.put op.dst (.tuple #[])) w') : wpList P ops Q (op :: rest) a w := by
  refine wpList_plain hgd fun K hK => ?_
  by_cases hn : n = 0
  · subst hn
    have hrun : (Builtin.clear_ #[dT] op.type #[.slice (some ⟨G, off, none⟩) 0 cap]).run P w = .ok (.tuple #[]) w := by
      simp [Builtin.clear_, run_underlying hu]
    unfold Oper.wp
    simp [execOp, ho, resolve, invoke, builtin, hs, hrun, Result.andThen]
    refine hK _ _ (h _ ?_ (Chg.refl _ _))
    rw [clrA_zero]
    exact hG
  · have hcs : ((List.replicate n z).flatMap cel).length = n * k := by rw [flat_length hk, List.length_replicate]
    have hD : (D.flatMap cel).length = D.length * k := flat_length hk D
    have hle : off + ((List.replicate n z).flatMap cel).length ≤ (D.flatMap cel).length := by rw [hcs, hD, hoff, ← Nat.add_mul]; exact Nat.mul_le_mul_right k hfit
    have hone : ∀ v ∈ (List.replicate n z).flatMap cel, v.oneCell' = true := fun v hv => by
      obtain ⟨x, _, hx⟩ := List.mem_flatMap.1 hv
      exact h1 x v hx
    have hst := run_storeCells_cells (P := P) G off ((List.replicate n z).flatMap cel) 0 w (fun j hj => by rw [hG.cell, List.getElem?_toArray, List.getElem?_eq_getElem (by omega)]; rfl) (fun j _ => hG.frozen _) hone
    simp only [Nat.add_zero] at hst
    have hzz := zero_flat hk hk0 z n
    have hrun : (Builtin.clear_ #[dT] op.type #[.slice (some ⟨G, off, none⟩) n cap]).run P w = .ok (.tuple #[]) (w.setCells G off ((List.replicate n z).flatMap cel)) := by
      obtain ⟨m, rfl⟩ : ∃ m, n = m + 1 := ⟨n - 1, by omega⟩
      simp [Builtin.clear_, run_underlying hu, hz, hzc, hzz, hst]
    unfold Oper.wp
    simp [execOp, ho, resolve, invoke, builtin, hs, hrun, Result.andThen]
    refine hK _ _ (h _ ?_ (Chg.sets (F := (· = G)) (.inl rfl) _ _ _ (Chg.refl _ _)))
    have e : clrA z D o n = D.take o ++ List.replicate n z ++ D.drop (o + (List.replicate n z).length) := by rw [List.length_replicate]; rfl
    rw [e, flat_put hk, ← hoff]
    exact hG.sets _ off _ _ hle
/-- What make lays. -/
theorem made_flat {α : Type} {cel : α → List Value} {k : Nat} (hk : ∀ x, (cel x).length = k) (hk0 : 0 < k) (d : α) (n : Nat) : madeCells (cel d).toArray (n * k) = ((List.replicate n d).flatMap cel).toArray := by
  have e := zero_flat hk hk0 d n
  have e2 : Builtin.zeroCells (cel d).toArray n = madeCells (cel d).toArray (n * k) := by simp [Builtin.zeroCells, madeCells, hk]
  rw [← e2, ← e]
/-- A struct that lies in a block and another value as results. -/
theorem ret_cell {P : Program} {fn : Func} {p u : Tmp} {ty : TypeId} (h : fn.results = #[.cell p ty, .tmp u]) {R : Ending → World → Prop} {tmps : Array Value} {w : World} (g : Nat) (t : TypeId) (cs : Array Value) (fr : Nat × Nat) (d : TypeDesc) (v : Value)
    (hp : tmps.getD p undef = .pointer (some ⟨g, 0, none⟩)) (hv : tmps.getD u undef = v) (hg : w.heap[g]? = some (.cells cs t fr)) (hu : P.underlying ty = some d) (hd : (match d with | .struct _ | .array _ _ => true | _ => false) = true) (hi : (P.info? ty).map (·.size) = some cs.size)
    (hR : R (.returned (.tuple #[.agg cs, v])) w) : bodyPost P fn R .ret { tmps := tmps, defers := [] } w := by
  refine bodyPost_ret ?_ rfl hR
  rw [results_cell_tmp h, hp, hv]
  simp [asAddr, run_loadVar_row w g t ty cs fr d hg hu hd hi]
end Go.Proofs.YtdgepnfgjgbkoaaDoor
/-
  Rows that the call made, of things of several cells; one thing laid behind them.
-/
namespace Go.Proofs.YtdgepnfgjgbkoaaDoor
open Go.RowKit

/-- The row v holds the things l. -/
def Ow {α : Type} (cel : α → List Value) (t k : Nat) (w : World) (v : Value) (l : List α) : Prop := w.ownsRow 0 t k v l.length (l.flatMap cel)
theorem Ow.nil {α : Type} (cel : α → List Value) (t k : Nat) (w : World) : Ow cel t k w (.slice none 0 0) ([] : List α) := ⟨by simp, .inl ⟨rfl, rfl⟩⟩
theorem Ow.shape {α : Type} {cel : α → List Value} {t k : Nat} {w : World} {v : Value} {l : List α} (h : Ow cel t k w v l) : ∃ a c, v = .slice a l.length c ∧ (l ≠ [] → ∃ g, a = some ⟨g, 0, none⟩) := by
  obtain ⟨_, ⟨rfl, h2⟩ | ⟨g, cap, cur, rfl, _⟩⟩ := h
  · exact ⟨none, 0, by rw [h2], fun e => absurd (List.eq_nil_of_length_eq_zero h2) e⟩
  · exact ⟨_, cap, rfl, fun _ => ⟨g, rfl⟩⟩
theorem Ow.keep {α : Type} {cel : α → List Value} {t k : Nat} {w w' : World} {v : Value} {l : List α} (h : Ow cel t k w v l) (hk : ∀ g, v.ownBlock = some g → w'.heap[g]? = w.heap[g]?) : Ow cel t k w' v l := by
  obtain ⟨h1, ⟨rfl, h2⟩ | ⟨g, cap, cur, rfl, h3, h4, h5⟩⟩ := h
  · exact ⟨h1, .inl ⟨rfl, h2⟩⟩
  · exact ⟨h1, .inr ⟨g, cap, cur, rfl, h3, (hk g rfl).trans h4, h5⟩⟩
theorem Ow.lt {α : Type} {cel : α → List Value} {t k : Nat} {w : World} {v : Value} {l : List α} (h : Ow cel t k w v l) (g : Nat) (hg : v.ownBlock = some g) : g < w.heap.size := by
  obtain ⟨_, ⟨rfl, _⟩ | ⟨g', cap, cur, rfl, _, h4, _⟩⟩ := h
  · cases hg
  · cases hg; exact (Array.getElem?_eq_some_iff.1 h4).1
theorem Ow.chg {α : Type} {cel : α → List Value} {t k : Nat} {w w' : World} {v : Value} {l : List α} {F : Nat → Prop} (h : Ow cel t k w v l) (hc : Chg F w w') (hn : ∀ g, v.ownBlock = some g → ¬ F g) : Ow cel t k w' v l := h.keep (fun g hg => hc.block g (h.lt g hg) (hn g hg))
theorem Ow.below {α : Type} {cel : α → List Value} {t k : Nat} {w w' : World} {v : Value} {l : List α} (h : Ow cel t k w v l) (hb : Below w.heap.size w w') : Ow cel t k w' v l := h.keep (fun g hg => hb.block g (h.lt g hg))
theorem Ow.cells {α : Type} {cel : α → List Value} {t k : Nat} {w : World} {g n c : Nat} {l : List α} (h : Ow cel t k w (.slice (some ⟨g, 0, none⟩) n c) l) (j : Nat) (hj : j < (l.flatMap cel).length) : w.cell? ⟨g, j, none⟩ = (l.flatMap cel)[j]? := by
  obtain ⟨h1, ⟨h2, _⟩ | ⟨g', cap, cur, h2, _, h4, _, _, _, h5⟩⟩ := h
  · cases h2
  · cases h2
    rw [cell_of_row w g j cur t (0, 0) h4, ← h5, List.getElem?_take, if_pos (by rw [← h1]; exact hj), Array.getElem?_toList]
theorem Ow.frozen {α : Type} {cel : α → List Value} {t k : Nat} {w : World} {g n c : Nat} {l : List α} (h : Ow cel t k w (.slice (some ⟨g, 0, none⟩) n c) l) (j : Nat) : w.frozen? ⟨g, j, none⟩ = false := by
  obtain ⟨h1, ⟨h2, _⟩ | ⟨g', cap, cur, h2, _, h4, _⟩⟩ := h
  · cases h2
  · cases h2
    exact frozen_of_row w g j cur t h4
theorem Ow.cap {α : Type} {cel : α → List Value} {t k : Nat} {w : World} {a : Option Addr} {n c : Nat} {l : List α} (h : Ow cel t k w (.slice a n c) l) : n = l.length ∧ n ≤ c := by
  obtain ⟨h1, ⟨h2, h0⟩ | ⟨g', cap, cur, h2, _, h4, h5, _⟩⟩ := h
  · cases h2; exact ⟨h0.symm, Nat.le_refl _⟩
  · cases h2; exact ⟨rfl, h5⟩
/-- A row without things that lies nowhere. -/
theorem Ow.nowhere {α : Type} {cel : α → List Value} {t k : Nat} {w : World} {n c : Nat} {l : List α} (h : Ow cel t k w (.slice none n c) l) : l = [] := by
  obtain ⟨_, ⟨h2, h0⟩ | ⟨g', cap, cur, h2, _⟩⟩ := h
  · exact List.eq_nil_of_length_eq_zero h0
  · cases h2
theorem wpList_append_ow {α : Type} {cel : α → List Value} {t k : Nat} (hk : ∀ x, (cel x).length = k) (hk0 : 0 < k) (h1 : ∀ x, ∀ v ∈ cel x, v.oneCell' = true) {P : Program} {ops : Array Oper} {rest : List Oper} {op : Oper} {a : Act} {w : World} {Q : Exit → Act → World → Prop} (hgd : op.guard = none) (s x : Operand) (st : TypeId)
    (ho : op.op = .call { callee := .builtin .append, args := #[s, x], argTypes := #[st, st] }) (hu : P.underlying st = some (.slice t)) (z : Value) (bytes : Nat) (hinfo : (P.info? t).map (fun i => (i.zero, i.size, i.bytes)) = some (some z, k, bytes)) (hz : z.cells.size = k)
    (v : Value) (l : List α) (hs : a.eval s = v) (hown : Ow cel t k w v l) (g : Nat) (c : Nat) (y : α) (hx : a.eval x = .slice (some ⟨g, 0, none⟩) 1 c) (hy : ∀ j u, (cel y)[j]? = some u → w.cell? ⟨g, j, none⟩ = some u) (hb : (l.length + 1) * bytes ≤ 140737488355328) (hb2 : l.length + 1 ≤ 281474976710656)
    (h : ∀ g' cap w', Ow cel t k w' (.slice (some ⟨g', 0, none⟩) (l.length + 1) cap) (l ++ [y]) → Chg (fun k => v.ownBlock = some k) w w' → (v.ownBlock = some g' ∨ w.heap.size ≤ g') → wpList P ops Q rest (a.put op.dst (.slice (some ⟨g', 0, none⟩) (l.length + 1) cap)) w') : wpList P ops Q (op :: rest) a w := by
  obtain ⟨i, hi, hz0, hz1, hz2⟩ := info_parts hinfo
  refine wpList_append_lies w hgd s x st ho 0 t i z k bytes hu hi hz0 hz1 hz2 hz hk0 v l.length _ hs hown ⟨g, 0, none⟩ 1 c (cel y) hx (by rw [hk, Nat.one_mul]) (fun j u hu => by rw [addr_add, Nat.zero_add]; exact hy j u hu) (h1 y) (by decide) (by unfold maxLen; omega) hb (Nat.zero_le _) w.heap.size rfl ?_
  intro g' cap w' h2 h3 h4 _
  refine h g' cap w' ?_ ⟨h3.os, h3.tape, h3.output, h3.size, fun k hk hn => h3.block k hk (fun e => hn e.symm)⟩ (h4.imp id (fun e => by omega))
  unfold Ow
  rw [List.flatMap_append, List.length_append, List.length_singleton]
  simpa using h2
theorem wp_append_ow {α : Type} {cel : α → List Value} {t k : Nat} (hk : ∀ x, (cel x).length = k) (hk0 : 0 < k) (h1 : ∀ x, ∀ v ∈ cel x, v.oneCell' = true) {P : Program} {op : Oper} {a : Act} {w : World} {K : Act → World → Prop} {Q : Exit → Act → World → Prop} (s x : Operand) (st : TypeId)
    (ho : op.op = .call { callee := .builtin .append, args := #[s, x], argTypes := #[st, st] }) (hu : P.underlying st = some (.slice t)) (z : Value) (bytes : Nat) (hinfo : (P.info? t).map (fun i => (i.zero, i.size, i.bytes)) = some (some z, k, bytes)) (hz : z.cells.size = k)
    (v : Value) (l : List α) (hs : a.eval s = v) (hown : Ow cel t k w v l) (g : Nat) (c : Nat) (y : α) (hx : a.eval x = .slice (some ⟨g, 0, none⟩) 1 c) (hy : ∀ j u, (cel y)[j]? = some u → w.cell? ⟨g, j, none⟩ = some u) (hb : (l.length + 1) * bytes ≤ 140737488355328) (hb2 : l.length + 1 ≤ 281474976710656)
    (h : ∀ g' cap w', Ow cel t k w' (.slice (some ⟨g', 0, none⟩) (l.length + 1) cap) (l ++ [y]) → Chg (fun k => v.ownBlock = some k) w w' → (v.ownBlock = some g' ∨ w.heap.size ≤ g') → K (a.put op.dst (.slice (some ⟨g', 0, none⟩) (l.length + 1) cap)) w') : op.wp P a w K Q := by
  obtain ⟨i, hi, hz0, hz1, hz2⟩ := info_parts hinfo
  refine wp_append_lies w s x st ho 0 t i z k bytes hu hi hz0 hz1 hz2 hz hk0 v l.length _ hs hown ⟨g, 0, none⟩ 1 c (cel y) hx (by rw [hk, Nat.one_mul]) (fun j u hu => by rw [addr_add, Nat.zero_add]; exact hy j u hu) (h1 y) (by decide) (by unfold maxLen; omega) hb (Nat.zero_le _) w.heap.size rfl ?_
  intro g' cap w' h2 h3 h4 _
  refine h g' cap w' ?_ ⟨h3.os, h3.tape, h3.output, h3.size, fun k hk hn => h3.block k hk (fun e => hn e.symm)⟩ (h4.imp id (fun e => by omega))
  unfold Ow
  rw [List.flatMap_append, List.length_append, List.length_singleton]
  simpa using h2
/-- Cells that a block of one thing holds. -/
theorem new_cells {w : World} {t : TypeId} (cs : List Value) (j : Nat) (u : Value) (h : cs[j]? = some u) : (w.alloc (.cells cs.toArray t)).cell? ⟨w.heap.size, j, none⟩ = some u := by
  rw [(Lies.new w cs.toArray t).cell, List.getElem?_toArray]
  exact h
end Go.Proofs.YtdgepnfgjgbkoaaDoor
