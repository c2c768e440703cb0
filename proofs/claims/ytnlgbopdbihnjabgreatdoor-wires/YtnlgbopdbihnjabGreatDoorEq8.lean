/-
  Addresses and hosts compared; loads of whole rows.
-/
import Derived.Test.YtnlgbopdbihnjabGreatDoorPa8
import Derived.ChangeKeysEq
import Derived.Deep.MidRow
namespace Go.Proofs.YtnlgbopdbihnjabGreatDoor
open Go.RowKit

theorem info5e : ∃ i, Tryz.prog.info? 5 = some i ∧ i.size = 1 := by
  have h5 : (Tryz.prog.info? 5).map (·.size) = some 1 := by kernel_rfl
  cases hq : Tryz.prog.info? 5 with
  | none => simp [hq] at h5
  | some i => exact ⟨i, rfl, by simpa [hq] using h5⟩
theorem cells5 : Tryz.prog.cellsOf 5 = 1 := by kernel_rfl
theorem part_byte (l : List Nat) (k : Nat) (hk : k < l.length) (w : World) : (part 5 (bytesV l) k).run Tryz.prog w = .ok (.int .u8 (l[k] : Nat)) w := by
  simp [part, isAgg, run_underlying Tryz.underlying5, bytesV_at l k hk]
theorem eqItems_bytes (d : Nat) (a b : List Nat) : ∀ (is : List Nat) (_ : ∀ i ∈ is, i < a.length ∧ i < b.length) (w : World), (Op.eqItems (d + 1) 5 1 (bytesV a) (bytesV b) is).run Tryz.prog w = .ok (is.all fun i => decide (a.getD i 0 = b.getD i 0)) w
  | [], _, w => by simp [Op.eqItems]
  | i :: is, h, w => by
    obtain ⟨h1, h2⟩ := h i (by simp)
    have ih := eqItems_bytes d a b is (fun j hj => h j (by simp [hj])) w
    have e1 : a.getD i 0 = a[i] := by rw [List.getD_eq_getElem?_getD, List.getElem?_eq_getElem h1]; rfl
    have e2 : b.getD i 0 = b[i] := by rw [List.getD_eq_getElem?_getD, List.getElem?_eq_getElem h2]; rfl
    have e3 : ((a[i] : Int) == (b[i] : Int)) = decide (a[i] = b[i]) := by
      rw [Bool.eq_iff_iff, beq_iff_eq, decide_eq_true_eq]
      omega
    simp only [Op.eqItems, Sem.run_bind, Nat.mul_one, part_byte a i h1, part_byte b i h2, Result.andThen_ok, run_equalIn_int (P := Tryz.prog) w d 5 .u8 .u8 _ _ Tryz.underlying5, e3, List.all_cons, e1, e2]
    by_cases hab : a[i] = b[i]
    · rw [decide_eq_true hab]
      simpa using ih
    · rw [decide_eq_false hab]
      simp
theorem eq_list (a b : List Nat) (n : Nat) (ha : a.length = n) (hb : b.length = n) : ((List.range n).all fun i => decide (a.getD i 0 = b.getD i 0)) = decide (a = b) := by
  rw [Bool.eq_iff_iff, List.all_eq_true, decide_eq_true_eq]
  constructor
  · intro h
    apply List.ext_getElem (by rw [ha, hb])
    intro i h1 h2
    have := h i (List.mem_range.2 (by omega))
    rw [decide_eq_true_eq, List.getD_eq_getElem?_getD, List.getD_eq_getElem?_getD, List.getElem?_eq_getElem h1, List.getElem?_eq_getElem h2] at this
    exact this
  · intro h i _
    rw [h]
    simp
set_option maxRecDepth 100000 in
theorem eq16 (d : Nat) (a b : List Nat) (ha : a.length = 16) (hb : b.length = 16) (w : World) : (Op.equalIn (d + 2) 23 (.agg (bytesV a)) (.agg (bytesV b))).run Tryz.prog w = .ok (decide (a = b)) w := by
  obtain ⟨i, hi, _⟩ := info5e
  rw [run_equalIn_array w (d + 1) _ _ Tryz.underlying23 hi, cells5, eqItems_bytes d a b _ (fun i hi => by rw [List.mem_range] at hi; omega) w, eq_list a b 16 ha hb]
theorem neq16 (a b : List Nat) (ha : a.length = 16) (hb : b.length = 16) (w : World) : (binOp .neq 23 (.agg (bytesV a)) (.agg (bytesV b))).run Tryz.prog w = .ok (.bool (!decide (a = b))) w := by
  rw [run_neq_struct, eq16 9998 a b ha hb]
  rfl
theorem eql16 (a b : List Nat) (ha : a.length = 16) (hb : b.length = 16) (w : World) : (binOp .eql 23 (.agg (bytesV a)) (.agg (bytesV b))).run Tryz.prog w = .ok (.bool (decide (a = b))) w := by
  rw [run_eql_struct, eq16 9998 a b ha hb]
  rfl
theorem host_addr (h : Ho) : (hostC h).toList.drop 2 = (bytesV h.a).toList := rfl
theorem info16' : ∃ i, Tryz.prog.info? 23 = some i ∧ i.size = 16 := by
  have h5 := info16
  cases hq : Tryz.prog.info? 23 with
  | none => simp [hq] at h5
  | some i => exact ⟨i, rfl, by simpa [hq] using h5⟩
theorem part_addr (h : Ho) (ha : h.a.length = 16) (w : World) : (part 23 (hostC h) 2).run Tryz.prog w = .ok (.agg (bytesV h.a)) w := by
  obtain ⟨i, hi, hs⟩ := info16'
  have e : (hostC h).extract 2 18 = bytesV h.a := by
    apply Array.ext'
    unfold hostC bytesV
    rw [Array.toList_extract]
    simp
    rw [List.take_of_length_le (by rw [List.length_map, ha]; exact Nat.le_refl _)]
  have hz := hostC_size h ha
  simp [part, isAgg, run_underlying Tryz.underlying23, sizeOf, typeInfo, hi, hs, e, hz]
theorem part_kind (h : Ho) (w : World) : (part 3 (hostC h) 0).run Tryz.prog w = .ok (.int .i64 h.k) w := by
  simp [part, isAgg, run_underlying Tryz.underlying3, hostC]
theorem part_text (h : Ho) (w : World) : (part 9 (hostC h) 1).run Tryz.prog w = .ok (.string ⟨h.n.toArray⟩) w := by
  simp [part, isAgg, run_underlying Tryz.underlying9, hostC]
theorem list_beq (x y : List UInt8) : ((⟨x.toArray⟩ : ByteArray).toList == (⟨y.toArray⟩ : ByteArray).toList) = decide (x = y) := by
  rw [ByteArray.toList_eq, ByteArray.toList_eq, Bool.eq_iff_iff]
  simp
theorem ho_eq (x y : Ho) : decide (x = y) = (decide (x.k = y.k) && decide (x.n = y.n) && decide (x.a = y.a)) := by
  rw [Bool.eq_iff_iff]
  simp only [Bool.and_eq_true, decide_eq_true_eq]
  constructor
  · intro h
    rw [h]
    simp
  · rintro ⟨⟨h1, h2⟩, h3⟩
    cases x
    cases y
    simp_all
set_option maxRecDepth 100000 in
theorem eqHost (d : Nat) (x y : Ho) (hx : x.a.length = 16) (hy : y.a.length = 16) (w : World) : (Op.equalIn (d + 3) 36 (hostV x) (hostV y)).run Tryz.prog w = .ok (decide (x = y)) w := by
  have hf : Tryz.prog.underlying 36 = some (.struct (Tryz.prog.fieldsOf 36)) := by simp [Program.fieldsOf, Tryz.underlying36]
  have e3 : ((x.k : Int) == y.k) = decide (x.k = y.k) := by rw [Bool.eq_iff_iff, beq_iff_eq, decide_eq_true_eq]
  unfold hostV
  rw [run_equalIn_struct w (d + 2) 36 _ _ hf (by kernel_rfl), ho_eq]
  simp only [Program.fieldsOf, Tryz.underlying36]
  simp only [Op.eqFields, Sem.run_bind, Sem.run_ite, part_kind, part_text, part_addr x hx, part_addr y hy, Result.andThen_ok, run_equalIn_int (P := Tryz.prog) w (d + 1) 3 .i64 .i64 _ _ Tryz.underlying3, run_equalIn_string (P := Tryz.prog) w (d + 1) 9 _ _ Tryz.underlying9, eq16 d x.a y.a hx hy, e3, list_beq]
  by_cases h1 : x.k = y.k <;> by_cases h2 : x.n = y.n <;> by_cases h3 : x.a = y.a <;> simp [h1, h2, h3]
theorem neqHost (x y : Ho) (hx : x.a.length = 16) (hy : y.a.length = 16) (w : World) : (binOp .neq 36 (hostV x) (hostV y)).run Tryz.prog w = .ok (.bool (!decide (x = y))) w := by
  have := eqHost 9997 x y hx hy w
  unfold hostV at *
  rw [run_neq_struct, this]
  rfl
theorem eqlHost (x y : Ho) (hx : x.a.length = 16) (hy : y.a.length = 16) (w : World) : (binOp .eql 36 (hostV x) (hostV y)).run Tryz.prog w = .ok (.bool (decide (x = y))) w := by
  have := eqHost 9997 x y hx hy w
  unfold hostV at *
  rw [run_eql_struct, this]
  rfl
/-- A row loaded, as an operation that yields. -/
theorem exec_load_row {P : Program} {op : Oper} {a : Act} {w : World} (ty : TypeId) (x : Operand) (ho : op.op = .load ty x) (g : Nat) (hx : a.eval x = .pointer (some ⟨g, 0, none⟩)) (cs : Array Value) (t : TypeId) (d : TypeDesc) (hc : Lies w g cs t)
    (hu : P.underlying ty = some d) (hd : (match d with | .struct _ | .array _ _ => true | _ => false) = true) (hi : (P.info? ty).map (·.size) = some cs.size) : (execOp a.eval op).run P w = .ok (.value (.agg cs)) w := by
  unfold execOp
  simp only [ho, hx, Instr.loadAt, Instr.sureAddr, Sem.run_bind, Sem.run_pure, Result.andThen_ok, run_loadVar_row w g t ty cs (0, 0) d hc hu hd hi]
theorem exec_load_mid {P : Program} {op : Oper} {a : Act} {w : World} (ty : TypeId) (x : Operand) (ho : op.op = .load ty x) (g o : Nat) (hx : a.eval x = .pointer (some ⟨g, o, none⟩)) (cs : List Value) (d : TypeDesc) (hc : w.rangeAt g o cs)
    (hu : P.underlying ty = some d) (hd : d.isRow = true) (hi : (P.info? ty).map (·.size) = some cs.length) : (execOp a.eval op).run P w = .ok (.value (.agg cs.toArray)) w := by
  unfold execOp
  simp only [ho, hx, Instr.loadAt, Instr.sureAddr, Sem.run_bind, Sem.run_pure, Result.andThen_ok, run_loadVar_mid w g o ty cs d hc hu hd hi]
/-- A host's sixteen bytes, and its first four, in the midst of its block. -/
theorem host_mid {w : World} {g : Nat} {h : Ho} (hl : Lies w g (hostC h) 36) : w.rangeAt g 2 (h.a.map fun n => Value.int .u8 (n : Nat)) := fun j v hv => by
  rw [hl.cell]
  unfold hostC
  rw [List.getElem?_toArray, show 2 + j = j + 1 + 1 from by omega, List.getElem?_cons_succ, List.getElem?_cons_succ]
  exact hv
theorem host_mid4 {w : World} {g : Nat} {h : Ho} (hl : Lies w g (hostC h) 36) : w.rangeAt g 2 ((h.a.take 4).map fun n => Value.int .u8 (n : Nat)) := fun j v hv => by
  refine host_mid hl j v ?_
  rw [List.map_take, List.getElem?_take] at hv
  split at hv
  · exact hv
  · cases hv
theorem host_cells {w : World} {g : Nat} {h : Ho} (hl : Lies w g (hostC h) 36) : w.cell? ⟨g, 0, none⟩ = some (.int .i64 h.k) ∧ w.cell? ⟨g, 1, none⟩ = some (.string ⟨h.n.toArray⟩) := ⟨hl.cell 0, hl.cell 1⟩
end Go.Proofs.YtnlgbopdbihnjabGreatDoor
