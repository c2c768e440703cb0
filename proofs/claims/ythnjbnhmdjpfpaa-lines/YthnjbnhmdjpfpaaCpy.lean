/-
  copy and clear of things of several cells each.
-/
import Derived.Test.YthnjbnhmdjpfpaaWld
namespace Go.Proofs.Ythnjbnhmdjpfpaa
open Go.RowKit

/-- The things m lie from there on. -/
def Sg {α : Type} (cel : α → List Value) (a : Option Addr) (m : List α) (w : World) : Prop := m = [] ∨ ∃ g o, a = some ⟨g, o, none⟩ ∧ ∀ j v, (m.flatMap cel)[j]? = some v → w.cell? ⟨g, o + j, none⟩ = some v
theorem Sg.of_lies {α : Type} {cel : α → List Value} {k : Nat} (hk : ∀ x, (cel x).length = k) {w : World} {g : Nat} {A : List α} {t : TypeId} (h : Lies w g (A.flatMap cel).toArray t) (o n off : Nat) (ho : off = o * k) : Sg cel (some ⟨g, off, none⟩) ((A.drop o).take n) w := by
  refine .inr ⟨g, off, rfl, fun j v hv => ?_⟩
  rw [h.cell, List.getElem?_toArray, ← hv, flat_take hk, flat_drop hk, List.getElem?_take, List.getElem?_drop, ho]
  rw [if_pos]
  have h1 := (List.getElem?_eq_some_iff.1 hv).1
  rw [flat_take hk, List.length_take] at h1
  omega
theorem addr_add (g o j : Nat) : (⟨g, o, none⟩ : Addr).add j = ⟨g, o + j, none⟩ := by unfold Addr.add; split <;> simp_all
theorem wpList_copy_k {α : Type} {cel : α → List Value} {k : Nat} (hk : ∀ x, (cel x).length = k) (h1 : ∀ x, ∀ v ∈ cel x, v.oneCell' = true) {P : Program} {ops : Array Oper} {rest : List Oper} {op : Oper} {a : Act} {w : World} {Q : Exit → Act → World → Prop} (hgd : op.guard = none) (d s : Operand) (dT sT elem : TypeId)
    (ho : op.op = .call { callee := .builtin .copy, args := #[d, s], argTypes := #[dT, sT] }) (hu : P.underlying dT = some (.slice elem)) (hsz : (P.info? elem).map (·.size) = some k)
    (G o off dLen dCap : Nat) (D : List α) (t : TypeId) (hoff : off = o * k) (hd : a.eval d = .slice (some ⟨G, off, none⟩) dLen dCap) (hG : Lies w G (D.flatMap cel).toArray t)
    (oa : Option Addr) (sLen sCap : Nat) (m : List α) (hs : a.eval s = .slice oa sLen sCap) (hm : sLen = m.length) (hfit : m.length ≤ dLen) (hfit2 : o + m.length ≤ D.length) (hsrc : Sg cel oa m w)
    (h : ∀ w', Lies w' G ((D.take o ++ m ++ D.drop (o + m.length)).flatMap cel).toArray t → Chg (· = G) w w' → wpList P ops Q rest (a.put op.dst (.int .i64 (sLen : Int))) w') : wpList P ops Q (op :: rest) a w := by
  refine wpList_plain hgd fun K hK => ?_
  have hmin : Nat.min sLen dLen = m.length := by rw [hm]; exact Nat.min_eq_left hfit
  have hcs : (m.flatMap cel).length = m.length * k := flat_length hk m
  have hD : (D.flatMap cel).length = D.length * k := flat_length hk D
  have hle : off + (m.flatMap cel).length ≤ (D.flatMap cel).length := by rw [hcs, hD, hoff, ← Nat.add_mul]; exact Nat.mul_le_mul_right k hfit2
  obtain ⟨i, hi, hik⟩ : ∃ i, P.info? elem = some i ∧ i.size = k := by
    cases hq : P.info? elem with
    | none => simp [hq] at hsz
    | some i => exact ⟨i, rfl, by simpa [hq] using hsz⟩
  have hone : ∀ v ∈ m.flatMap cel, v.oneCell' = true := fun v hv => by
    obtain ⟨x, _, hx⟩ := List.mem_flatMap.1 hv
    exact h1 x v hx
  have hst := run_storeCells_cells (P := P) G off (m.flatMap cel) 0 w (fun j hj => by rw [hG.cell, List.getElem?_toArray, List.getElem?_eq_getElem (by omega)]; rfl) (fun j _ => hG.frozen _) hone
  simp only [Nat.add_zero] at hst
  have hload : (Builtin.firstCells k m.length (.slice oa sLen sCap)).run P w = .ok (m.flatMap cel).toArray w := by
    rcases hsrc with rfl | ⟨g, o', rfl, hc⟩
    · cases oa with
      | none => simp [Builtin.firstCells]
      | some ad => simpa [Builtin.firstCells] using run_loadCells_list (P := P) w ad [] (by simp)
    · have := run_loadCells_list (P := P) w ⟨g, o', none⟩ (m.flatMap cel) (fun j v hv => by rw [addr_add]; exact hc j v hv)
      rw [hcs] at this
      simpa [Builtin.firstCells] using this
  have hrun : (Builtin.copy_ #[dT, sT] op.type #[.slice (some ⟨G, off, none⟩) dLen dCap, .slice oa sLen sCap]).run P w = .ok (.int .i64 (sLen : Int)) (w.setCells G off (m.flatMap cel)) := by
    rw [show (sLen : Int) = (m.length : Int) by omega]
    simp [Builtin.copy_, run_underlying hu, Builtin.lenOf, sizeOf, typeInfo, hi, hik, hmin, hload, hst, goInt]
  unfold Oper.wp
  simp [execOp, ho, resolve, invoke, builtin, hd, hs, hrun, Result.andThen]
  refine hK _ _ (h _ ?_ (Chg.sets (F := (· = G)) (.inl rfl) _ _ _ (Chg.refl _ _)))
  rw [flat_put hk, ← hoff]
  exact hG.sets (m.flatMap cel) off _ _ hle
theorem zero_flat {α : Type} {cel : α → List Value} {k : Nat} (hk : ∀ x, (cel x).length = k) (hk0 : 0 < k) (d : α) (n : Nat) : (Builtin.zeroCells (cel d).toArray n).toList = (List.replicate n d).flatMap cel := by
  apply List.ext_getElem?
  intro j
  have hl : ((List.replicate n d).flatMap cel).length = n * k := by rw [flat_length hk, List.length_replicate]
  by_cases hj : j < n * k
  · have hq : j / k < n := Nat.div_lt_of_lt_mul (by rw [Nat.mul_comm]; exact hj)
    have hr : j % k < k := Nat.mod_lt _ hk0
    have e := flat_at hk (List.replicate n d) (j / k) (j % k) (by rw [List.length_replicate]; exact hq) hr
    rw [Nat.div_add_mod' j k] at e
    rw [e]
    have hx : j % k < (cel d).length := by rw [hk]; exact hr
    rw [List.getElem_replicate, List.getElem?_eq_getElem hx]
    simp [Builtin.zeroCells, hk, hj]
    rw [List.getElem?_eq_getElem hx, Option.getD_some]
  · rw [List.getElem?_eq_none (by simp [Builtin.zeroCells, hk]; omega), List.getElem?_eq_none (by omega)]
theorem wpList_clear_k {α : Type} {cel : α → List Value} {k : Nat} (hk : ∀ x, (cel x).length = k) (hk0 : 0 < k) (h1 : ∀ x, ∀ v ∈ cel x, v.oneCell' = true) (z : α) {P : Program} {ops : Array Oper} {rest : List Oper} {op : Oper} {a : Act} {w : World} {Q : Exit → Act → World → Prop} (hgd : op.guard = none) (s : Operand) (dT elem : TypeId)
    (ho : op.op = .call { callee := .builtin .clear, args := #[s], argTypes := #[dT] }) (hu : P.underlying dT = some (.slice elem)) (zv : Value) (hz : ∀ w, (zeroValue elem).run P w = .ok zv w) (hzc : zv.cells = (cel z).toArray)
    (G o off n cap : Nat) (D : List α) (t : TypeId) (hoff : off = o * k) (hs : a.eval s = .slice (some ⟨G, off, none⟩) n cap) (hG : Lies w G (D.flatMap cel).toArray t) (hfit : o + n ≤ D.length)
    (h : ∀ w', Lies w' G ((clrA z D o n).flatMap cel).toArray t → Chg (· = G) w w' → wpList P ops Q rest (a.put op.dst (.tuple #[])) w') : wpList P ops Q (op :: rest) a w := by
  refine wpList_plain hgd fun K hK => ?_
  by_cases hn : n = 0
  · subst hn
    have hrun : (Builtin.clear_ #[dT] op.type #[.slice (some ⟨G, off, none⟩) 0 cap]).run P w = .ok (.tuple #[]) w := by
      simp [Builtin.clear_, run_underlying hu]
    unfold Oper.wp
    simp [execOp, ho, resolve, invoke, builtin, hs, hrun, Result.andThen]
    refine hK _ _ (h _ ?_ (Chg.refl _ _))
    rw [clrA_zero]
    exact hG
  · have hcs : ((List.replicate n z).flatMap cel).length = n * k := by rw [flat_length hk, List.length_replicate]
    have hD : (D.flatMap cel).length = D.length * k := flat_length hk D
    have hle : off + ((List.replicate n z).flatMap cel).length ≤ (D.flatMap cel).length := by rw [hcs, hD, hoff, ← Nat.add_mul]; exact Nat.mul_le_mul_right k hfit
    have hone : ∀ v ∈ (List.replicate n z).flatMap cel, v.oneCell' = true := fun v hv => by
      obtain ⟨x, _, hx⟩ := List.mem_flatMap.1 hv
      exact h1 x v hx
    have hst := run_storeCells_cells (P := P) G off ((List.replicate n z).flatMap cel) 0 w (fun j hj => by rw [hG.cell, List.getElem?_toArray, List.getElem?_eq_getElem (by omega)]; rfl) (fun j _ => hG.frozen _) hone
    simp only [Nat.add_zero] at hst
    have hzz := zero_flat hk hk0 z n
    have hrun : (Builtin.clear_ #[dT] op.type #[.slice (some ⟨G, off, none⟩) n cap]).run P w = .ok (.tuple #[]) (w.setCells G off ((List.replicate n z).flatMap cel)) := by
      obtain ⟨m, rfl⟩ : ∃ m, n = m + 1 := ⟨n - 1, by omega⟩
      simp [Builtin.clear_, run_underlying hu, hz, hzc, hzz, hst]
    unfold Oper.wp
    simp [execOp, ho, resolve, invoke, builtin, hs, hrun, Result.andThen]
    refine hK _ _ (h _ ?_ (Chg.sets (F := (· = G)) (.inl rfl) _ _ _ (Chg.refl _ _)))
    have e : clrA z D o n = D.take o ++ List.replicate n z ++ D.drop (o + (List.replicate n z).length) := by rw [List.length_replicate]; rfl
    rw [e, flat_put hk, ← hoff]
    exact hG.sets _ off _ _ hle
/-- What make lays. -/
theorem made_flat {α : Type} {cel : α → List Value} {k : Nat} (hk : ∀ x, (cel x).length = k) (hk0 : 0 < k) (d : α) (n : Nat) : madeCells (cel d).toArray (n * k) = ((List.replicate n d).flatMap cel).toArray := by
  have e := zero_flat hk hk0 d n
  have e2 : Builtin.zeroCells (cel d).toArray n = madeCells (cel d).toArray (n * k) := by simp [Builtin.zeroCells, madeCells, hk]
  rw [← e2, ← e]
/-- A struct that lies in a block and another value as results. -/
theorem ret_cell {P : Program} {fn : Func} {p u : Tmp} {ty : TypeId} (h : fn.results = #[.cell p ty, .tmp u]) {R : Ending → World → Prop} {tmps : Array Value} {w : World} (g : Nat) (t : TypeId) (cs : Array Value) (fr : Nat × Nat) (d : TypeDesc) (v : Value)
    (hp : tmps.getD p undef = .pointer (some ⟨g, 0, none⟩)) (hv : tmps.getD u undef = v) (hg : w.heap[g]? = some (.cells cs t fr)) (hu : P.underlying ty = some d) (hd : (match d with | .struct _ | .array _ _ => true | _ => false) = true) (hi : (P.info? ty).map (·.size) = some cs.size)
    (hR : R (.returned (.tuple #[.agg cs, v])) w) : bodyPost P fn R .ret { tmps := tmps, defers := [] } w := by
  refine bodyPost_ret ?_ rfl hR
  rw [results_cell_tmp h, hp, hv]
  simp [asAddr, run_loadVar_row w g t ty cs fr d hg hu hd hi]
end Go.Proofs.Ythnjbnhmdjpfpaa
