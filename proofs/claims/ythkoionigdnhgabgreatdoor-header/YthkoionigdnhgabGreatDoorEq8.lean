/-
  The program's writtenLocal.
-/
import Derived.Test.YthkoionigdnhgabGreatDoorLt8
import Derived.Test.YthkoionigdnhgabGreatDoorShr
import Derived.ChangeKeysEq
import Derived.Deep.MidRow
namespace Go.Proofs.YthkoionigdnhgabGreatDoor
open Go.RowKit

/-- What ReplaceAll is asked for when a local part is written. -/
structure RepOk (s : ByteArray) (w : World) : Prop where
  one : ∀ wx, Below w.heap.size w wx → Calls Tryz.prog 159 #[.string s, .string ⟨#[92]⟩, .string ⟨#[92, 92]⟩] wx fun e w' => e = .returned (.string (txt (repB 92 [92, 92] s.data.toList))) ∧ Below wx.heap.size wx w'
  two : ∀ wx, Below w.heap.size w wx → Calls Tryz.prog 159 #[.string (txt (repB 92 [92, 92] s.data.toList)), .string ⟨#[34]⟩, .string ⟨#[92, 34]⟩] wx fun e w' => e = .returned (.string (txt (escL s.data.toList))) ∧ Below wx.heap.size wx w'
theorem count_le (c : UInt8) (l : List UInt8) : l.count c ≤ l.length := List.count_le_length
theorem rep_small (s : ByteArray) (hs : s.size ≤ 1073741824) (c d : UInt8) (m : Int) (wx : World) (hm : wx.cell? ⟨0, 0, none⟩ = some (.int .i64 m)) :
    Calls Tryz.prog 159 #[.string s, .string ⟨#[c]⟩, .string ⟨#[d, c]⟩] wx fun e w' => e = .returned (.string (txt (repB c [d, c] s.data.toList))) ∧ Below wx.heap.size wx w' := by
  have hc : Lib.countB s ⟨#[c]⟩ ≤ s.size := by
    show Lib.count s.data.toList [c] ≤ _
    rw [Lib.count_one, ← len_list]
    exact count_le _ _
  have := Tryz.strings_ReplaceAll s ⟨#[c]⟩ ⟨#[d, c]⟩ m wx (by omega) hm (by show 1 ≤ 1; exact Nat.le_refl _) (by show s.size + Lib.countB s ⟨#[c]⟩ * 2 ≤ _; omega)
  rw [repAll c [d, c] (by simp) s.data.toList] at this
  exact this
theorem RepOk.small (s : ByteArray) (hs : s.size ≤ 536870912) (w : World) (hm : ∃ m, w.cell? ⟨0, 0, none⟩ = some (.int .i64 m)) : RepOk s w := by
  obtain ⟨m, hm⟩ := hm
  have h1 : ∀ wx, Below w.heap.size w wx → wx.cell? ⟨0, 0, none⟩ = some (.int .i64 m) := fun wx hx => (hx.cell (p := ⟨0, 0, none⟩) (World.block_lt_of_cell? w _ hm)).trans hm
  refine ⟨fun wx hx => rep_small s (by omega) 92 92 m wx (h1 wx hx), fun wx hx => ?_⟩
  have hz : (txt (repB 92 [92, 92] s.data.toList)).size ≤ 1073741824 := by
    rw [txt_size, repB_len 92 [92, 92] rfl, len_list]
    have := count_le 92 s.data.toList
    rw [len_list] at this
    omega
  have := rep_small (txt (repB 92 [92, 92] s.data.toList)) hz 34 92 m wx (h1 wx hx)
  rw [txt_list, esc_rep] at this
  exact this

set_option maxHeartbeats 4000000 in
set_option maxRecDepth 20000 in
theorem wloc_any (s : ByteArray) (hs : s.size ≤ 140737488355328) (w : World) (hT : Tb w) (hr : RepOk s w) :
    Calls Tryz.prog 121 #[.string s] w fun e w' => e = .returned (.string (txt (wrL s.data.toList))) ∧ Below w.heap.size w w' := by
  have HA : Hid (Calls Tryz.prog 158 #[.string s] w fun e w' => e = .returned (.int .i64 (rowL s.data.toList : Nat)) ∧ w' = w) := atoms_any s (by unfold maxLen; omega) w hT.cls
  have H1 : Hid (∀ wx, Below w.heap.size w wx → Calls Tryz.prog 159 #[.string s, .string ⟨#[92]⟩, .string ⟨#[92, 92]⟩] wx fun e w' => e = .returned (.string (txt (repB 92 [92, 92] s.data.toList))) ∧ Below wx.heap.size wx w') := hr.one
  have H2 : Hid (∀ wx, Below w.heap.size w wx → Calls Tryz.prog 159 #[.string (txt (repB 92 [92, 92] s.data.toList)), .string ⟨#[34]⟩, .string ⟨#[92, 34]⟩] wx fun e w' => e = .returned (.string (txt (escL s.data.toList))) ∧ Below wx.heap.size wx w') := hr.two
  have hle := rowL_le s.data.toList
  rw [len_list] at hle
  obtain ⟨R, hR⟩ : ∃ R, R = txt (wrL s.data.toList) := ⟨_, rfl⟩
  rw [← hR]
  have HP : Hid (plainL s.data.toList = (decide (0 < s.size) && decide (rowL s.data.toList = s.size))) := by
    show _ = _
    unfold plainL
    rw [len_list]
    congr 1
    rw [Bool.eq_iff_iff, decide_eq_true_eq, decide_eq_true_eq, ← len_list, List.length_pos_iff]
  have HR1 : Hid (plainL s.data.toList = true → R = s) := fun h => by
    rw [hR]
    unfold wrL
    rw [if_pos h, txt_back]
  have HR2 : Hid (plainL s.data.toList = false → R = ⟨#[34]⟩ ++ txt (escL s.data.toList) ++ ⟨#[34]⟩) := fun h => by
    rw [hR]
    unfold wrL
    rw [if_neg (by rw [h]; decide)]
    have e1 : (⟨#[34]⟩ : ByteArray) = txt [34] := rfl
    rw [e1, txt_cat, txt_cat]
    rfl
  have hT2 : (txt (escL s.data.toList)).size ≤ 281474976710656 := by
    rw [txt_size]
    have := escL_two s.data.toList
    rw [len_list] at this
    omega
  clear hT hr hR
  generalize rowL s.data.toList = n at HA hle HP
  generalize repB 92 [92, 92] s.data.toList = m1 at H1 H2
  generalize txt m1 = T1 at H1 H2
  generalize txt (escL s.data.toList) = T2 at H2 HR2 hT2
  by_cases h1 : 0 < n
  · have h1' : (0 : Int) < (n : Int) := by omega
    by_cases h2 : n = s.size
    · have h2' : ((n : Int) == (s.size : Int)) = true := by rw [beq_iff_eq]; omega
      have HRR : Hid (R = s) := HR1.out (by rw [HP.out, decide_eq_true (by omega), decide_eq_true h2]; rfl)
      clear HR1 HR2 HP H1 H2 h2
      go_enter Tryz.func121, Tryz.ntmps121
      go_wp2_with fail
      refine HA.out.mono ?_
      rintro e w1 ⟨rfl, rfl⟩
      go_wp2_with fail
      go_ret
      exact ⟨by rw [HRR.out]; rfl, Below.refl _ _⟩
    · have h2' : ((n : Int) == (s.size : Int)) = false := by rw [beq_eq_false_iff_ne]; omega
      have HRR : Hid (R = ⟨#[34]⟩ ++ T2 ++ ⟨#[34]⟩) := HR2.out (by rw [HP.out, decide_eq_false h2, Bool.and_false])
      clear HR1 HR2 HP h2
      go_enter Tryz.func121, Tryz.ntmps121
      go_wp2_with fail
      refine HA.out.mono ?_
      rintro e w1 ⟨rfl, rfl⟩
      go_wp2_with fail
      refine (H1.out _ (Below.refl _ _)).mono ?_
      rintro e w2 ⟨rfl, hb2⟩
      have HB2 : Hid (Below w1.heap.size w1 w2) := hb2
      clear hb2
      go_wp2_with fail
      refine (H2.out _ HB2.out).mono ?_
      rintro e w3 ⟨rfl, hb3⟩
      have HB3 : Hid (Below w1.heap.size w1 w3) := HB2.out.trans (hb3.mono HB2.out.size)
      clear hb3
      go_wp2_with fail
      go_ret
      exact ⟨by rw [HRR.out]; rfl, HB3.out⟩
  · have h1' : ¬ (0 : Int) < (n : Int) := by omega
    have HRR : Hid (R = ⟨#[34]⟩ ++ T2 ++ ⟨#[34]⟩) := HR2.out (by
      rw [HP.out]
      by_cases h0 : 0 < s.size
      · rw [decide_eq_false (show ¬ n = s.size by omega), Bool.and_false]
      · rw [decide_eq_false h0, Bool.false_and])
    clear HR1 HR2 HP
    go_enter Tryz.func121, Tryz.ntmps121
    go_wp2_with fail
    refine HA.out.mono ?_
    rintro e w1 ⟨rfl, rfl⟩
    go_wp2_with fail
    refine (H1.out _ (Below.refl _ _)).mono ?_
    rintro e w2 ⟨rfl, hb2⟩
    have HB2 : Hid (Below w1.heap.size w1 w2) := hb2
    clear hb2
    go_wp2_with fail
    refine (H2.out _ HB2.out).mono ?_
    rintro e w3 ⟨rfl, hb3⟩
    have HB3 : Hid (Below w1.heap.size w1 w3) := HB2.out.trans (hb3.mono HB2.out.size)
    clear hb3
    go_wp2_with fail
    go_ret
    exact ⟨by rw [HRR.out]; rfl, HB3.out⟩
end Go.Proofs.YthkoionigdnhgabGreatDoor
/-
  Addresses and hosts compared; loads of whole rows.
-/
namespace Go.Proofs.YthkoionigdnhgabGreatDoor
open Go.RowKit

theorem info5e : ∃ i, Tryz.prog.info? 5 = some i ∧ i.size = 1 := by
  have h5 : (Tryz.prog.info? 5).map (·.size) = some 1 := by kernel_rfl
  cases hq : Tryz.prog.info? 5 with
  | none => simp [hq] at h5
  | some i => exact ⟨i, rfl, by simpa [hq] using h5⟩
theorem cells5 : Tryz.prog.cellsOf 5 = 1 := by kernel_rfl
theorem part_byte (l : List Nat) (k : Nat) (hk : k < l.length) (w : World) : (part 5 (bytesV l) k).run Tryz.prog w = .ok (.int .u8 (l[k] : Nat)) w := by
  simp [part, isAgg, run_underlying Tryz.underlying5, bytesV_at l k hk]
theorem eqItems_bytes (d : Nat) (a b : List Nat) : ∀ (is : List Nat) (_ : ∀ i ∈ is, i < a.length ∧ i < b.length) (w : World), (Op.eqItems (d + 1) 5 1 (bytesV a) (bytesV b) is).run Tryz.prog w = .ok (is.all fun i => decide (a.getD i 0 = b.getD i 0)) w
  | [], _, w => by simp [Op.eqItems]
  | i :: is, h, w => by
    obtain ⟨h1, h2⟩ := h i (by simp)
    have ih := eqItems_bytes d a b is (fun j hj => h j (by simp [hj])) w
    have e1 : a.getD i 0 = a[i] := by rw [List.getD_eq_getElem?_getD, List.getElem?_eq_getElem h1]; rfl
    have e2 : b.getD i 0 = b[i] := by rw [List.getD_eq_getElem?_getD, List.getElem?_eq_getElem h2]; rfl
    have e3 : ((a[i] : Int) == (b[i] : Int)) = decide (a[i] = b[i]) := by
      rw [Bool.eq_iff_iff, beq_iff_eq, decide_eq_true_eq]
      omega
    simp only [Op.eqItems, Sem.run_bind, Nat.mul_one, part_byte a i h1, part_byte b i h2, Result.andThen_ok, run_equalIn_int (P := Tryz.prog) w d 5 .u8 .u8 _ _ Tryz.underlying5, e3, List.all_cons, e1, e2]
    by_cases hab : a[i] = b[i]
    · rw [decide_eq_true hab]
      simpa using ih
    · rw [decide_eq_false hab]
      simp
theorem eq_list (a b : List Nat) (n : Nat) (ha : a.length = n) (hb : b.length = n) : ((List.range n).all fun i => decide (a.getD i 0 = b.getD i 0)) = decide (a = b) := by
  rw [Bool.eq_iff_iff, List.all_eq_true, decide_eq_true_eq]
  constructor
  · intro h
    apply List.ext_getElem (by rw [ha, hb])
    intro i h1 h2
    have := h i (List.mem_range.2 (by omega))
    rw [decide_eq_true_eq, List.getD_eq_getElem?_getD, List.getD_eq_getElem?_getD, List.getElem?_eq_getElem h1, List.getElem?_eq_getElem h2] at this
    exact this
  · intro h i _
    rw [h]
    simp
set_option maxRecDepth 100000 in
theorem eq16 (d : Nat) (a b : List Nat) (ha : a.length = 16) (hb : b.length = 16) (w : World) : (Op.equalIn (d + 2) 25 (.agg (bytesV a)) (.agg (bytesV b))).run Tryz.prog w = .ok (decide (a = b)) w := by
  obtain ⟨i, hi, _⟩ := info5e
  rw [run_equalIn_array w (d + 1) _ _ Tryz.underlying25 hi, cells5, eqItems_bytes d a b _ (fun i hi => by rw [List.mem_range] at hi; omega) w, eq_list a b 16 ha hb]
theorem neq16 (a b : List Nat) (ha : a.length = 16) (hb : b.length = 16) (w : World) : (binOp .neq 25 (.agg (bytesV a)) (.agg (bytesV b))).run Tryz.prog w = .ok (.bool (!decide (a = b))) w := by
  rw [run_neq_struct, eq16 9998 a b ha hb]
  rfl
theorem info16' : ∃ i, Tryz.prog.info? 25 = some i ∧ i.size = 16 := by
  have h5 := info16
  cases hq : Tryz.prog.info? 25 with
  | none => simp [hq] at h5
  | some i => exact ⟨i, rfl, by simpa [hq] using h5⟩
theorem part_addr (h : Ho) (ha : h.a.length = 16) (w : World) : (part 25 (hostC h) 2).run Tryz.prog w = .ok (.agg (bytesV h.a)) w := by
  obtain ⟨i, hi, hs⟩ := info16'
  have e : (hostC h).extract 2 18 = bytesV h.a := by
    apply Array.ext'
    unfold hostC bytesV
    rw [Array.toList_extract]
    simp
    rw [List.take_of_length_le (by rw [List.length_map, ha]; exact Nat.le_refl _)]
  have hz := hostC_size h ha
  simp [part, isAgg, run_underlying Tryz.underlying25, sizeOf, typeInfo, hi, hs, e, hz]
theorem part_kind (h : Ho) (w : World) : (part 3 (hostC h) 0).run Tryz.prog w = .ok (.int .i64 h.k) w := by
  simp [part, isAgg, run_underlying Tryz.underlying3, hostC]
theorem part_text (h : Ho) (w : World) : (part 9 (hostC h) 1).run Tryz.prog w = .ok (.string ⟨h.n.toArray⟩) w := by
  simp [part, isAgg, run_underlying Tryz.underlying9, hostC]
theorem list_beq (x y : List UInt8) : ((⟨x.toArray⟩ : ByteArray).toList == (⟨y.toArray⟩ : ByteArray).toList) = decide (x = y) := by
  rw [ByteArray.toList_eq, ByteArray.toList_eq, Bool.eq_iff_iff]
  simp
theorem ho_eq (x y : Ho) : decide (x = y) = (decide (x.k = y.k) && decide (x.n = y.n) && decide (x.a = y.a)) := by
  rw [Bool.eq_iff_iff]
  simp only [Bool.and_eq_true, decide_eq_true_eq]
  constructor
  · intro h
    rw [h]
    simp
  · rintro ⟨⟨h1, h2⟩, h3⟩
    cases x
    cases y
    simp_all
set_option maxRecDepth 100000 in
theorem eqHost (d : Nat) (x y : Ho) (hx : x.a.length = 16) (hy : y.a.length = 16) (w : World) : (Op.equalIn (d + 3) 27 (hostV x) (hostV y)).run Tryz.prog w = .ok (decide (x = y)) w := by
  have hf : Tryz.prog.underlying 27 = some (.struct (Tryz.prog.fieldsOf 27)) := by simp [Program.fieldsOf, Tryz.underlying27]
  have e3 : ((x.k : Int) == y.k) = decide (x.k = y.k) := by rw [Bool.eq_iff_iff, beq_iff_eq, decide_eq_true_eq]
  unfold hostV
  rw [run_equalIn_struct w (d + 2) 27 _ _ hf (by kernel_rfl), ho_eq]
  simp only [Program.fieldsOf, Tryz.underlying27]
  simp only [Op.eqFields, Sem.run_bind, Sem.run_ite, part_kind, part_text, part_addr x hx, part_addr y hy, Result.andThen_ok, run_equalIn_int (P := Tryz.prog) w (d + 1) 3 .i64 .i64 _ _ Tryz.underlying3, run_equalIn_string (P := Tryz.prog) w (d + 1) 9 _ _ Tryz.underlying9, eq16 d x.a y.a hx hy, e3, list_beq]
  by_cases h1 : x.k = y.k <;> by_cases h2 : x.n = y.n <;> by_cases h3 : x.a = y.a <;> simp [h1, h2, h3]
theorem neqHost (x y : Ho) (hx : x.a.length = 16) (hy : y.a.length = 16) (w : World) : (binOp .neq 27 (hostV x) (hostV y)).run Tryz.prog w = .ok (.bool (!decide (x = y))) w := by
  have := eqHost 9997 x y hx hy w
  unfold hostV at *
  rw [run_neq_struct, this]
  rfl
/-- A row loaded, as an operation that yields. -/
theorem exec_load_row {P : Program} {op : Oper} {a : Act} {w : World} (ty : TypeId) (x : Operand) (ho : op.op = .load ty x) (g : Nat) (hx : a.eval x = .pointer (some ⟨g, 0, none⟩)) (cs : Array Value) (t : TypeId) (d : TypeDesc) (hc : Lies w g cs t)
    (hu : P.underlying ty = some d) (hd : (match d with | .struct _ | .array _ _ => true | _ => false) = true) (hi : (P.info? ty).map (·.size) = some cs.size) : (execOp a.eval op).run P w = .ok (.value (.agg cs)) w := by
  unfold execOp
  simp only [ho, hx, Instr.loadAt, Instr.sureAddr, Sem.run_bind, Sem.run_pure, Result.andThen_ok, run_loadVar_row w g t ty cs (0, 0) d hc hu hd hi]
theorem exec_load_mid {P : Program} {op : Oper} {a : Act} {w : World} (ty : TypeId) (x : Operand) (ho : op.op = .load ty x) (g o : Nat) (hx : a.eval x = .pointer (some ⟨g, o, none⟩)) (cs : List Value) (d : TypeDesc) (hc : w.rangeAt g o cs)
    (hu : P.underlying ty = some d) (hd : d.isRow = true) (hi : (P.info? ty).map (·.size) = some cs.length) : (execOp a.eval op).run P w = .ok (.value (.agg cs.toArray)) w := by
  unfold execOp
  simp only [ho, hx, Instr.loadAt, Instr.sureAddr, Sem.run_bind, Sem.run_pure, Result.andThen_ok, run_loadVar_mid w g o ty cs d hc hu hd hi]
/-- A host's sixteen bytes, and its first four, in the midst of its block. -/
theorem host_mid {w : World} {g : Nat} {h : Ho} (hl : Lies w g (hostC h) 27) : w.rangeAt g 2 (h.a.map fun n => Value.int .u8 (n : Nat)) := fun j v hv => by
  rw [hl.cell]
  unfold hostC
  rw [List.getElem?_toArray, show 2 + j = j + 1 + 1 from by omega, List.getElem?_cons_succ, List.getElem?_cons_succ]
  exact hv
theorem host_mid4 {w : World} {g : Nat} {h : Ho} (hl : Lies w g (hostC h) 27) : w.rangeAt g 2 ((h.a.take 4).map fun n => Value.int .u8 (n : Nat)) := fun j v hv => by
  refine host_mid hl j v ?_
  rw [List.map_take, List.getElem?_take] at hv
  split at hv
  · exact hv
  · cases hv
theorem host_cells {w : World} {g : Nat} {h : Ho} (hl : Lies w g (hostC h) 27) : w.cell? ⟨g, 0, none⟩ = some (.int .i64 h.k) ∧ w.cell? ⟨g, 1, none⟩ = some (.string ⟨h.n.toArray⟩) := ⟨hl.cell 0, hl.cell 1⟩
end Go.Proofs.YthkoionigdnhgabGreatDoor
