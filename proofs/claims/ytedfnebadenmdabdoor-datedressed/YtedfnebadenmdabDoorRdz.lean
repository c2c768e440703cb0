/-
  The program's reader of dates: zones.
-/
import Derived.Test.YtedfnebadenmdabDoorRdt
namespace Go.Proofs.YtedfnebadenmdabDoor
open Go.RowKit

theorem wpList_load_rowF {P : Program} {ops : Array Oper} {rest : List Oper} {op : Oper} {a : Act} {w : World} {Q : Exit → Act → World → Prop} (hgd : op.guard = none) (ty : TypeId) (x : Operand) (ho : op.op = .load ty x)
    (g : Nat) (hx : a.eval x = .pointer (some ⟨g, 0, none⟩)) (cs : Array Value) (t : TypeId) (fr : Nat × Nat) (d : TypeDesc) (hc : w.heap[g]? = some (.cells cs t fr))
    (hu : P.underlying ty = some d) (hd : (match d with | .struct _ | .array _ _ => true | _ => false) = true) (hi : (P.info? ty).map (·.size) = some cs.size)
    (h : wpList P ops Q rest (a.put op.dst (.agg cs)) w) : wpList P ops Q (op :: rest) a w :=
  wpList_plain hgd fun _ hK => by
    unfold Oper.wp execOp
    simp only [ho, hx, Instr.loadAt, Instr.sureAddr, Sem.run_bind, Sem.run_pure, Result.andThen_ok, run_loadVar_row w g t ty cs fr d hc hu hd hi]
    exact hK _ _ h
theorem zn_size : (Tryd.prog.info? 93).map (·.size) = some znCells.size := by kernel_rfl
/-- A row of the table. -/
def znN (k : Nat) : ByteArray := ⟨(zoneRows.getD k ([], 0)).1.toArray⟩
def znZ (k : Nat) : Int := (zoneRows.getD k ([], 0)).2
set_option maxRecDepth 100000 in
theorem zn_index (w : World) (k : Nat) (hk : k < 10) : (Instr.index 93 (.agg znCells) (.int .i64 k)).run Tryd.prog w = .ok (.agg #[.string (znN k), .int .i16 (znZ k)]) w := by
  match k, hk with
  | 0, _ => rfl
  | 1, _ => rfl
  | 2, _ => rfl
  | 3, _ => rfl
  | 4, _ => rfl
  | 5, _ => rfl
  | 6, _ => rfl
  | 7, _ => rfl
  | 8, _ => rfl
  | 9, _ => rfl
theorem zn_facts : ∀ k : Fin 10, upL (znN k.val).data.toList = (zoneRows.getD k.val ([], 0)).1 ∧ (znN k.val).size = (zoneRows.getD k.val ([], 0)).1.length ∧ (znN k.val).size ≤ 3 ∧ -480 ≤ znZ k.val ∧ znZ k.val ≤ 0 := by decide +kernel
/-- The zone that a table names. -/
def zfind : List (List UInt8 × Int) → List UInt8 → Option Int
  | [], _ => none
  | r :: q, w => if w = r.1 then some r.2 else zfind q w
theorem zoneL_find (w : List UInt8) (h : w.length ≠ 1) : zoneL w = zfind zoneRows w := by
  unfold zoneL
  rw [if_neg h]
  rfl
theorem zfind_none : ∀ (l : List (List UInt8 × Int)) (w : List UInt8), (∀ i, i < l.length → (l.getD i ([], 0)).1 ≠ w) → zfind l w = none
  | [], _, _ => rfl
  | r :: q, w, h => by
    have h0 : r.1 ≠ w := h 0 (by simp)
    rw [zfind, if_neg (fun e => h0 e.symm)]
    exact zfind_none q w (fun i hi => by have := h (i + 1) (by simpa using hi); simpa using this)
theorem zfind_some : ∀ (l : List (List UInt8 × Int)) (w : List UInt8) (j : Nat), j < l.length → (l.getD j ([], 0)).1 = w → (∀ i, i < j → (l.getD i ([], 0)).1 ≠ w) → zfind l w = some (l.getD j ([], 0)).2
  | [], _, _, hj, _, _ => by simp at hj
  | r :: q, w, 0, _, h0, _ => by
    have h0' : r.1 = w := h0
    rw [zfind, if_pos h0'.symm]
    rfl
  | r :: q, w, j + 1, hj, h0, h => by
    have h00 : r.1 ≠ w := h 0 (by omega)
    rw [zfind, if_neg (fun e => h00 e.symm)]
    have := zfind_some q w j (by simpa using hj) (by simpa using h0) (fun i hi => by have := h (i + 1) (by omega); simpa using this)
    simpa using this
/-- What zoneOfName and zoneOfDigits answer. -/
def ZAns (o : Option Int) (v : Int) (b : Bool) : Prop := match o with | some z => b = true ∧ v = z | none => b = false
set_option maxHeartbeats 2000000 in
set_option maxRecDepth 100000 in
theorem zname_any (q : ByteArray) (w : World) (ht : Znm w) (hq : q.size ≤ maxLen) :
    Calls Tryd.prog 48 #[.string q] w fun x w' => ∃ v b, x = .returned (.tuple #[.int .i16 v, .bool b]) ∧ ZAns (zoneL (upL q.data.toList)) v b ∧ -480 ≤ v ∧ v ≤ 0 ∧ Below w.heap.size w w' := by
  have hql : (upL q.data.toList).length = q.size := by rw [upL, List.length_map, Array.length_toList]; rfl
  by_cases h1 : q.size = 1
  · have h1i : (q.size : Int) = 1 := by omega
    have HSA : Hid (Calls Tryd.prog 53 #[.string q, .string ⟨#[74]⟩] w fun e w' => e = .returned (.bool (sameB q ⟨#[74]⟩)) ∧ Below w.heap.size w w') := same_any q ⟨#[74]⟩ w hq (by decide)
    have ES : Hid (ZAns (zoneL (upL q.data.toList)) 0 (!sameB q ⟨#[74]⟩)) := by
      show ZAns _ _ _
      rw [sameB_eq]
      unfold zoneL
      rw [if_pos (hql.trans h1)]
      have e74 : upL (⟨#[74]⟩ : ByteArray).data.toList = [74] := by decide
      rw [e74]
      by_cases c : upL q.data.toList = [74]
      · rw [if_pos c, c]; rfl
      · rw [if_neg c]
        refine ⟨?_, rfl⟩
        simpa using c
    clear ht hql
    go_enter Tryd.func48, Tryd.ntmps48
    go_wp2_with (go_at_call 53; refine HSA.out.mono ?_; rintro e w' ⟨rfl, hb⟩)
    go_ret2
    exact ⟨0, _, rfl, ES.out, by omega, by omega, hb⟩
  · have h1i : ((q.size : Int) == 1) = false := by simp only [beq_eq_false_iff_ne]; omega
    have HZL : Hid (zoneL (upL q.data.toList) = zfind zoneRows (upL q.data.toList)) := zoneL_find _ (by omega)
    have HI : Hid (∀ (wx : World) (k : Nat), k < 10 → (Instr.index 93 (.agg znCells) (.int .i64 k)).run Tryd.prog wx = .ok (.agg #[.string (znN k), .int .i16 (znZ k)]) wx) := zn_index
    have HQ : Hid (q.size ≤ maxLen) := hq
    have HQL : Hid ((upL q.data.toList).length = q.size) := hql
    obtain ⟨tf, ff, hf'⟩ := ht
    unfold maxLen at hq
    clear hql h1
    go_enter Tryd.func48, Tryd.ntmps48
    go_wp2_with (refine wpList_load_rowF rfl 93 _ rfl _ rfl znCells tf ff _ hf' Tryd.underlying93 rfl zn_size ?_)
    generalize znCells = FC at HI hf' ⊢
    go_loopw [13] (fun i wr => ∃ k : Nat, i = .int .i64 k ∧ k ≤ 10 ∧ Hid (∀ j, j < k → (zoneRows.getD j ([], 0)).1 ≠ upL q.data.toList) ∧ Hid (Below w.heap.size w wr)) (fun i _ => 10 - (intOf i).toNat)
    case atStart => exact ⟨0, rfl, by omega, fun j hj => by omega, Below.refl _ _⟩
    case round =>
      obtain ⟨k, rfl, hk, HJ, HB⟩ := hrel
      by_cases hlt : k < 10
      · have hi := HI.out wr k hlt
        obtain ⟨z1, z2, z3, z4, z5⟩ := zn_facts ⟨k, hlt⟩
        simp only at z1 z2 z3 z4 z5
        have HZ1 : Hid (upL (znN k).data.toList = (zoneRows.getD k ([], 0)).1) := z1
        have HZ2 : Hid ((znN k).size = (zoneRows.getD k ([], 0)).1.length) := z2
        clear z1 z2
        have HL1 : Hid (Lies (wr.alloc (.cells #[.string (znN k), .int .i16 (znZ k)] 92)) wr.heap.size #[.string (znN k), .int .i16 (znZ k)] 92) := Lies.new wr _ _
        have HB1 : Hid (Below w.heap.size w (wr.alloc (.cells #[.string (znN k), .int .i16 (znZ k)] 92))) := HB.out.alloc HB.out.size _
        have HSZ : Hid (wr.heap.size < (wr.alloc (.cells #[.string (znN k), .int .i16 (znZ k)] 92)).heap.size) := HL1.out.lt
        by_cases hs : q.size = (znN k).size
        · have hsi : (((q.size : Int)) == ((znN k).size : Int)) = true := by rw [hs]; simp
          have ES : Hid (sameB q (znN k) = (upL q.data.toList == (zoneRows.getD k ([], 0)).1)) := by
            show _ = _
            rw [sameB_eq, HZ1.out]
          clear hs
          by_cases hq2 : sameB q (znN k) = true
          · have HG : Hid (ZAns (zoneL (upL q.data.toList)) (znZ k) true) := by
              show ZAns _ _ _
              rw [HZL.out]
              rw [ES.out] at hq2
              rw [zfind_some zoneRows _ k hlt (eq_of_beq hq2).symm HJ.out]
              exact ⟨rfl, rfl⟩
            go_wp2_with fail
            refine (same_any q (znN k) _ HQ.out (by unfold maxLen; omega)).mono ?_
            rintro e w2 ⟨rfl, hb2⟩
            have c1 := (HL1.out.below hb2 HSZ.out).cell 1
            have HB2 : Hid (Below w.heap.size w w2) := HB1.out.trans (hb2.mono (Nat.le_trans HB.out.size (Nat.le_of_lt HSZ.out)))
            clear hb2 HL1 HB1 HSZ hi HI
            generalize wr.heap.size = B at c1 ⊢
            simp at c1
            go_wp2
            go_ret2
            exact ⟨znZ k, true, rfl, HG.out, z4, z5, HB2.out⟩
          · have hq' : sameB q (znN k) = false := by simpa using hq2
            have HN : Hid (∀ j, j < k + 1 → (zoneRows.getD j ([], 0)).1 ≠ upL q.data.toList) := fun j hj => by
              by_cases e : j = k
              · subst e
                intro h
                rw [ES.out, h] at hq'
                simp at hq'
              · exact HJ.out j (by omega)
            clear hq2
            go_wp2_with fail
            refine (same_any q (znN k) _ HQ.out (by unfold maxLen; omega)).mono ?_
            rintro e w2 ⟨rfl, hb2⟩
            have HB2 : Hid (Below w.heap.size w w2) := HB1.out.trans (hb2.mono (Nat.le_trans HB.out.size (Nat.le_of_lt HSZ.out)))
            clear hb2 HL1 HB1 HSZ hi
            go_wp2
            go_roundw
            case rel => exact ⟨k + 1, by go_num, by omega, HN, HB2⟩
            case measure => simp [intOf]; omega
        · have hsi : (((q.size : Int)) == ((znN k).size : Int)) = false := by simp only [beq_eq_false_iff_ne]; omega
          have HN : Hid (∀ j, j < k + 1 → (zoneRows.getD j ([], 0)).1 ≠ upL q.data.toList) := fun j hj => by
            by_cases e : j = k
            · subst e
              intro h
              have := congrArg List.length h
              rw [HQL.out, ← HZ2.out] at this
              exact hs this.symm
            · exact HJ.out j (by omega)
          clear hs
          go_wp2
          go_roundw
          case rel => exact ⟨k + 1, by go_num, by omega, HN, HB1⟩
          case measure => simp [intOf]; omega
      · obtain rfl : k = 10 := by omega
        have HG : Hid (ZAns (zoneL (upL q.data.toList)) 0 false) := by
          show ZAns _ _ _
          rw [HZL.out, zfind_none zoneRows _ HJ.out]
          rfl
        go_wp2
        go_ret2
        exact ⟨0, false, rfl, HG.out, by omega, by omega, HB.out⟩

theorem two_list (s : ByteArray) (h : s.size = 4) : (s.extract 0 2).data.toList = s.data.toList.take 2 ∧ (s.extract 2 s.size).data.toList = s.data.toList.drop 2 ∧ (s.extract 0 2).size = 2 ∧ (s.extract 2 s.size).size = 2 := by
  have h0 : s.data.toList.length = 4 := by rw [Array.length_toList]; exact h
  refine ⟨?_, ?_, ?_, ?_⟩
  · rw [ByteArray.data_extract, Array.toList_extract, List.extract_eq_take_drop]
    simp
  · rw [ByteArray.data_extract, Array.toList_extract, List.extract_eq_take_drop]
    exact List.take_of_length_le (by rw [List.length_drop]; omega)
  · rw [ByteArray.size_extract]; omega
  · rw [ByteArray.size_extract]; omega
set_option maxHeartbeats 2000000 in
theorem zdig_any (q : ByteArray) (w : World) (ht : Table w) (hd : ∀ b ∈ q.data.toList, isB 2 (b.toNat : Int) = true) :
    Calls Tryd.prog 47 #[.string q] w fun x w' => ∃ v b, x = .returned (.tuple #[.int .i16 v, .bool b]) ∧ ZAns (zoneD q.data.toList) v b ∧ 0 ≤ v ∧ v ≤ 6000 ∧ w' = w := by
  have hl : q.data.toList.length = q.size := by rw [Array.length_toList]; rfl
  by_cases h4 : q.size = 4
  · obtain ⟨t1, t2, t3, t4⟩ := two_list q h4
    have a1 : ∀ b ∈ q.data.toList.take 2, isB 2 (b.toNat : Int) = true := fun b hb => hd b (List.mem_of_mem_take hb)
    have a2 : ∀ b ∈ q.data.toList.drop 2, isB 2 (b.toNat : Int) = true := fun b hb => hd b (List.mem_of_mem_drop hb)
    have k1 : numOk (q.data.toList.take 2) := ⟨by rw [List.length_take]; omega, by rw [List.length_take]; omega, badN_of 2 _ a1⟩
    have k2 : numOk (q.data.toList.drop 2) := ⟨by rw [List.length_drop]; omega, by rw [List.length_drop]; omega, badN_of 2 _ a2⟩
    have v1 := numV_le2 _ a1 (by rw [List.length_take]; omega)
    have v2 := numV_le2 _ a2 (by rw [List.length_drop]; omega)
    have HZ : Hid (zoneD q.data.toList = if numV (q.data.toList.drop 2) ≤ 59 then some (60 * (numV (q.data.toList.take 2) : Int) + (numV (q.data.toList.drop 2) : Int)) else none) := by
      show _ = _
      unfold zoneD
      simp only [show q.data.toList.length = 4 from hl.trans h4, true_and]
    have HN1 : Hid (Calls Tryd.prog 45 #[.string (q.extract 0 2), .int .u64 99] w fun e w' => e = .returned (.tuple #[.int .u64 (numV (q.data.toList.take 2) : Int), .int .i64 0]) ∧ w' = w) := by
      have hh := number_any (q.extract 0 2) 99 w ht (by rw [t3]; decide) (by omega) (by omega)
      rw [t1, (num_in _ 99 k1 (by omega)).1, (num_in _ 99 k1 (by omega)).2] at hh
      exact hh
    have HN2 : Hid (Calls Tryd.prog 45 #[.string (q.extract 2 q.size), .int .u64 59] w fun e w' => e = .returned (.tuple #[.int .u64 (if numV (q.data.toList.drop 2) ≤ 59 then (numV (q.data.toList.drop 2) : Int) else 0), .int .i64 (if numV (q.data.toList.drop 2) ≤ 59 then 0 else 5)]) ∧ w' = w) := by
      have hh := number_any (q.extract 2 q.size) 59 w ht (by rw [t4]; decide) (by omega) (by omega)
      rw [t2] at hh
      by_cases c : numV (q.data.toList.drop 2) ≤ 59
      · rw [(num_in _ 59 k2 (by omega)).1, (num_in _ 59 k2 (by omega)).2] at hh
        rw [if_pos c, if_pos c]
        exact hh
      · rw [(num_over _ 59 k2 (by omega)).1, (num_over _ 59 k2 (by omega)).2] at hh
        rw [if_neg c, if_neg c]
        exact hh
    generalize numV (q.data.toList.take 2) = A at HZ HN1 v1
    generalize numV (q.data.toList.drop 2) = B at HZ HN2 v2
    generalize zoneD q.data.toList = Z at HZ ⊢
    have h4i : (q.size : Int) = 4 := by omega
    clear t1 t2 t3 t4 a1 a2 k1 k2 hd ht hl h4
    by_cases c : B ≤ 59
    · have HZ' : Hid (ZAns Z (60 * (A : Int) + (B : Int)) true) := by
        show ZAns _ _ _
        rw [HZ.out, if_pos c]
        exact ⟨rfl, rfl⟩
      rw [if_pos c, if_pos c] at HN2
      go_enter Tryd.func47, Tryd.ntmps47
      go_wp2_with fail
      refine HN1.out.mono ?_
      rintro e w' ⟨rfl, rfl⟩
      go_wp2_with fail
      refine HN2.out.mono ?_
      rintro e w' ⟨rfl, rfl⟩
      go_wp2
      go_ret2
      exact ⟨60 * (A : Int) + (B : Int), true, rfl, HZ'.out, by omega, by omega, rfl⟩
    · have HZ' : Hid (ZAns Z (60 * (A : Int) + 0) false) := by
        show ZAns _ _ _
        rw [HZ.out, if_neg c]
        rfl
      rw [if_neg c, if_neg c] at HN2
      go_enter Tryd.func47, Tryd.ntmps47
      go_wp2_with fail
      refine HN1.out.mono ?_
      rintro e w' ⟨rfl, rfl⟩
      go_wp2_with fail
      refine HN2.out.mono ?_
      rintro e w' ⟨rfl, rfl⟩
      go_wp2
      go_ret2
      exact ⟨60 * (A : Int), false, rfl, by simpa using HZ'.out, by omega, by omega, rfl⟩
  · have HZ : Hid (ZAns (zoneD q.data.toList) 0 false) := by
      show ZAns _ _ _
      unfold zoneD
      rw [if_neg (fun h => h4 (hl.symm.trans h.1))]
      rfl
    have h4i : ((q.size : Int) == 4) = false := by simp only [beq_eq_false_iff_ne]; omega
    clear ht hd hl h4
    go_enter Tryd.func47, Tryd.ntmps47
    go_wp2
    go_ret2
    exact ⟨0, false, rfl, HZ.out, by omega, by omega, rfl⟩

theorem pZone_sign (s : ByteArray) (k : Nat) (b : UInt8) (h : standB s k b = true) (hb : b = 43 ∨ b = 45) :
    pZone (s.data.toList.drop k) = orBad 61 (s.data.toList.drop k) ((zoneD ((s.data.toList.drop (k + 1)).take (badN 2 (s.data.toList.drop (k + 1))))).map (fun z => if b = 45 then -z else z)) (s.data.toList.drop (k + 1 + badN 2 (s.data.toList.drop (k + 1)))) := by
  have h' := (standB_yes s k b).1 h
  unfold pZone
  simp only [h', List.drop_drop, Option.some.injEq]
  have e1 : k + (1 + badN 2 (s.data.toList.drop (k + 1))) = k + 1 + badN 2 (s.data.toList.drop (k + 1)) := by omega
  rw [e1]
  rcases hb with rfl | rfl
  · rw [if_pos rfl]
    congr 1
    simp
  · rw [if_neg (by decide), if_pos rfl]
    congr 1
theorem pZone_name (s : ByteArray) (k : Nat) (h1 : standB s k 43 = false) (h2 : standB s k 45 = false) :
    pZone (s.data.toList.drop k) = orBad 61 (s.data.toList.drop k) (zoneL (upL ((s.data.toList.drop k).take (badN 1 (s.data.toList.drop k))))) (s.data.toList.drop (k + badN 1 (s.data.toList.drop k))) := by
  have n1 : ¬ (s.data.toList.drop k).head? = some 43 := fun h => by rw [(standB_yes s k 43).2 h] at h1; cases h1
  have n2 : ¬ (s.data.toList.drop k).head? = some 45 := fun h => by rw [(standB_yes s k 45).2 h] at h2; cases h2
  unfold pZone
  rw [if_neg n1, if_neg n2, List.drop_drop]
set_option maxHeartbeats 2000000 in
theorem zone_tail (g : Nat) (s : ByteArray) (k k2 : Nat) (e p v : Int) (b : Bool) (o : Option Int) (w w2 : World) (hk : k ≤ s.size) (hr : Rd0 63 w2 g s k2 e p) (hb : But g w w2) (hz : ZAns o v b) (v0 : -6000 ≤ v) (v1 : v ≤ 6000)
    (h : pZone (s.data.toList.drop k) = orBad 61 (s.data.toList.drop k) o (s.data.toList.drop k2)) :
    (b = true → ∃ v' k' e' p', (Value.int .i16 v) = .int .i16 v' ∧ -6000 ≤ v' ∧ v' ≤ 6000 ∧ Rd0 63 w2 g s k' e' p' ∧ Step s.size pZone (stOf s k e p) (stOf s k' e' p') v' ∧ But g w w2) ∧
    (b = false → ∀ w3, Rd0 63 w3 g s s.size (if e = 0 then 61 else e) (if e = 0 then (k : Int) else p) → But g w2 w3 → ∃ v' k' e' p', (Value.int .i16 v) = .int .i16 v' ∧ -6000 ≤ v' ∧ v' ≤ 6000 ∧ Rd0 63 w3 g s k' e' p' ∧ Step s.size pZone (stOf s k e p) (stOf s k' e' p') v' ∧ But g w w3) := by
  cases o with
  | some z =>
    have hz' : b = true ∧ v = z := hz
    obtain ⟨rfl, rfl⟩ := hz'
    exact ⟨fun _ => ⟨v, k2, e, p, rfl, v0, v1, hr, Step.go (fun _ => h), hb⟩, fun h => by cases h⟩
  | none =>
    obtain rfl : b = false := hz
    exact ⟨(fun h => by cases h), fun _ w3 h3 hb3 => ⟨v, _, _, _, rfl, v0, v1, h3, Step.fail v hk (by decide) (fun _ => h), hb.trans hb3⟩⟩
set_option maxHeartbeats 4000000 in
theorem zone_rd (g : Nat) (s : ByteArray) (k : Nat) (e p : Int) (w : World) (ht : Tbl w) (hr : Rd0 63 w g s k e p) (hs : s.size ≤ maxLen) :
    Calls Tryd.prog 32 #[.pointer (some ⟨g, 0, none⟩)] w fun x w' => ∃ v k' e' p', x = .returned (.int .i16 v) ∧ -6000 ≤ v ∧ v ≤ 6000 ∧ Rd0 63 w' g s k' e' p' ∧ Step s.size pZone (stOf s k e p) (stOf s k' e' p') v ∧ But g w w' := by
  have HFAR : Hid (2 < g) := hr.far
  have HT : Hid (Tbl w) := ht
  have HS : Hid (s.size ≤ maxLen) := hs
  obtain ⟨c0, c1, c2, c3⟩ := hr.cells
  have hk := hr.le
  have HR : Hid (Rd0 63 w g s k e p) := hr
  have HST := stands_any g s k e p 43 43 rfl w hr
  clear hr ht
  unfold maxLen at hs
  go_enter Tryd.func32, Tryd.ntmps32
  go_wp2_with fail
  refine Calls.mono HST ?_
  rintro x w1 ⟨rfl, hb1⟩
  have HR1 : Hid (Rd0 63 w1 g s k e p) := HR.out.below hb1
  have HB1 : Hid (But g w w1) := But.of_below hb1
  have HST2 := stands_any g s k e p 45 45 rfl w1 HR1.out
  clear hb1 HST
  by_cases h43 : standB s k 43 = true
  · have h45 : standB s k 45 = false := by
      have := (standB_yes s k 43).1 h43
      unfold standB
      rw [this]
      rfl
    go_wp2_with fail
    refine Calls.mono HST2 ?_
    rintro x w2 ⟨rfl, hb2⟩
    have HR2 : Hid (Rd0 63 w2 g s k e p) := HR1.out.below hb2
    have HB2 : Hid (But g w w2) := HB1.out.trans (But.of_below hb2)
    clear hb2 HST2
    have hlt := standB_lt s k 43 h43
    obtain ⟨d0, d1, d2, d3⟩ := HR2.out.cells
    obtain ⟨f1, f2, f3⟩ := HR2.out.frozen
    have HR5 : Hid (Rd0 63 (w2.setCell ⟨g, 1, none⟩ (.int .i64 ((k : Int) + 1))) g s (k + 1) e p) := HR2.out.move (k + 1) hlt
    have HB5 : Hid (But g w (w2.setCell ⟨g, 1, none⟩ (.int .i64 ((k : Int) + 1)))) := HB2.out.set 1 _
    have HROW := row_any g s (k + 1) e p 2 _ (HT.out.but HFAR.out HB5.out) HR5.out HS.out
    have HX : Hid ((s.extract (k + 1) (k + 1 + badN 2 (s.data.toList.drop (k + 1)))).data.toList = (s.data.toList.drop (k + 1)).take (badN 2 (s.data.toList.drop (k + 1)))) := ext_list s (k + 1) _
    have HD : Hid (∀ b ∈ (s.data.toList.drop (k + 1)).take (badN 2 (s.data.toList.drop (k + 1))), isB 2 (b.toNat : Int) = true) := badN_take 2 _
    have HG : Hid (pZone (s.data.toList.drop k) = orBad 61 (s.data.toList.drop k) ((zoneD ((s.data.toList.drop (k + 1)).take (badN 2 (s.data.toList.drop (k + 1))))).map (fun z => z)) (s.data.toList.drop (k + 1 + badN 2 (s.data.toList.drop (k + 1))))) := by
      have := pZone_sign s k 43 h43 (by decide)
      show _ = _
      simpa using this
    go_wp2_with fail
    refine Calls.mono HROW ?_
    rintro x w6 ⟨rfl, hr6, hb6⟩
    have HR6 : Hid (Rd0 63 w6 g s (k + 1 + badN 2 (s.data.toList.drop (k + 1))) e p) := hr6
    have HB6 : Hid (But g w w6) := HB5.out.trans hb6
    have HT6 : Hid (Tbl w6) := HT.out.but HFAR.out HB6.out
    clear hr6 hb6 HROW HR5 HB5
    generalize (s.data.toList.drop (k + 1)).take (badN 2 (s.data.toList.drop (k + 1))) = L at HX HD HG
    generalize k + 1 + badN 2 (s.data.toList.drop (k + 1)) = k6 at HX HG HR6 ⊢
    generalize s.extract (k + 1) k6 = Q at HX ⊢
    have HZD := zdig_any Q w6 HT6.out.cl (by rw [HX.out]; exact HD.out)
    rw [HX.out] at HZD
    go_wp2_with fail
    refine Calls.mono HZD ?_
    rintro x w7 ⟨v, b, rfl, hz, v0, v1, rfl⟩
    have hz2 : ZAns ((zoneD L).map (fun z => z)) (v) b := by
      cases hL : zoneD L with
      | some z =>
        rw [hL] at hz
        have hz' : b = true ∧ v = z := hz
        exact ⟨hz'.1, by simp only [hz'.2]⟩
      | none =>
        rw [hL] at hz
        exact hz
    have HTL := zone_tail g s k k6 e p (v) b _ w w7 hk HR6.out HB6.out hz2 (by omega) (by omega) HG.out
    clear hz hz2 HG HX HD
    cases b
    · have HTF := HTL.2 rfl
      clear HTL
      go_wp2_with fail
      refine (fail_any g s _ e p 61 (k : Int) w7 HR6.out).mono ?_
      rintro x w8 ⟨rfl, hr8, hb8⟩
      obtain ⟨v', k', e', p', ev, b0, b1, q1, q2, q3⟩ := HTF w8 hr8 hb8
      have HE : Hid (Rd0 63 w8 g s k' e' p' ∧ Step s.size pZone (stOf s k e p) (stOf s k' e' p') v' ∧ But g w w8) := ⟨q1, q2, q3⟩
      injection ev with _ ev
      subst ev
      clear hr8 hb8 HTF q1 q2 q3
      go_wp2
      go_ret
      exact ⟨_, k', e', p', rfl, b0, b1, HE.out⟩
    · obtain ⟨v', k', e', p', ev, b0, b1, q1, q2, q3⟩ := HTL.1 rfl
      have HE : Hid (Rd0 63 w7 g s k' e' p' ∧ Step s.size pZone (stOf s k e p) (stOf s k' e' p') v' ∧ But g w w7) := ⟨q1, q2, q3⟩
      injection ev with _ ev
      subst ev
      clear HTL q1 q2 q3
      go_wp2
      go_ret
      exact ⟨_, k', e', p', rfl, b0, b1, HE.out⟩
  have h43' : standB s k 43 = false := by simpa using h43
  clear h43
  go_wp2_with fail
  refine Calls.mono HST2 ?_
  rintro x w2 ⟨rfl, hb2⟩
  have HR2 : Hid (Rd0 63 w2 g s k e p) := HR1.out.below hb2
  have HB2 : Hid (But g w w2) := HB1.out.trans (But.of_below hb2)
  clear hb2 HST2
  by_cases h45 : standB s k 45 = true
  · have HST3 := stands_any g s k e p 45 45 rfl w2 HR2.out
    go_wp2_with fail
    refine Calls.mono HST3 ?_
    rintro x w3 ⟨rfl, hb3⟩
    have HR3 : Hid (Rd0 63 w3 g s k e p) := HR2.out.below hb3
    have HB3 : Hid (But g w w3) := HB2.out.trans (But.of_below hb3)
    clear hb3 HST3
    have hlt := standB_lt s k 45 h45
    obtain ⟨d0, d1, d2, d3⟩ := HR3.out.cells
    obtain ⟨f1, f2, f3⟩ := HR3.out.frozen
    have HR5 : Hid (Rd0 63 (w3.setCell ⟨g, 1, none⟩ (.int .i64 ((k : Int) + 1))) g s (k + 1) e p) := HR3.out.move (k + 1) hlt
    have HB5 : Hid (But g w (w3.setCell ⟨g, 1, none⟩ (.int .i64 ((k : Int) + 1)))) := HB3.out.set 1 _
    have HROW := row_any g s (k + 1) e p 2 _ (HT.out.but HFAR.out HB5.out) HR5.out HS.out
    have HX : Hid ((s.extract (k + 1) (k + 1 + badN 2 (s.data.toList.drop (k + 1)))).data.toList = (s.data.toList.drop (k + 1)).take (badN 2 (s.data.toList.drop (k + 1)))) := ext_list s (k + 1) _
    have HD : Hid (∀ b ∈ (s.data.toList.drop (k + 1)).take (badN 2 (s.data.toList.drop (k + 1))), isB 2 (b.toNat : Int) = true) := badN_take 2 _
    have HG : Hid (pZone (s.data.toList.drop k) = orBad 61 (s.data.toList.drop k) ((zoneD ((s.data.toList.drop (k + 1)).take (badN 2 (s.data.toList.drop (k + 1))))).map (fun z => -z)) (s.data.toList.drop (k + 1 + badN 2 (s.data.toList.drop (k + 1))))) := by
      have := pZone_sign s k 45 h45 (by decide)
      show _ = _
      simpa using this
    go_wp2_with fail
    refine Calls.mono HROW ?_
    rintro x w6 ⟨rfl, hr6, hb6⟩
    have HR6 : Hid (Rd0 63 w6 g s (k + 1 + badN 2 (s.data.toList.drop (k + 1))) e p) := hr6
    have HB6 : Hid (But g w w6) := HB5.out.trans hb6
    have HT6 : Hid (Tbl w6) := HT.out.but HFAR.out HB6.out
    clear hr6 hb6 HROW HR5 HB5
    generalize (s.data.toList.drop (k + 1)).take (badN 2 (s.data.toList.drop (k + 1))) = L at HX HD HG
    generalize k + 1 + badN 2 (s.data.toList.drop (k + 1)) = k6 at HX HG HR6 ⊢
    generalize s.extract (k + 1) k6 = Q at HX ⊢
    have HZD := zdig_any Q w6 HT6.out.cl (by rw [HX.out]; exact HD.out)
    rw [HX.out] at HZD
    go_wp2_with fail
    refine Calls.mono HZD ?_
    rintro x w7 ⟨v, b, rfl, hz, v0, v1, rfl⟩
    have hz2 : ZAns ((zoneD L).map (fun z => -z)) (-v) b := by
      cases hL : zoneD L with
      | some z =>
        rw [hL] at hz
        have hz' : b = true ∧ v = z := hz
        exact ⟨hz'.1, by simp only [hz'.2]⟩
      | none =>
        rw [hL] at hz
        exact hz
    have HTL := zone_tail g s k k6 e p (-v) b _ w w7 hk HR6.out HB6.out hz2 (by omega) (by omega) HG.out
    clear hz hz2 HG HX HD
    cases b
    · have HTF := HTL.2 rfl
      clear HTL
      go_wp2_with fail
      refine (fail_any g s _ e p 61 (k : Int) w7 HR6.out).mono ?_
      rintro x w8 ⟨rfl, hr8, hb8⟩
      obtain ⟨v', k', e', p', ev, b0, b1, q1, q2, q3⟩ := HTF w8 hr8 hb8
      have HE : Hid (Rd0 63 w8 g s k' e' p' ∧ Step s.size pZone (stOf s k e p) (stOf s k' e' p') v' ∧ But g w w8) := ⟨q1, q2, q3⟩
      injection ev with _ ev
      subst ev
      clear hr8 hb8 HTF q1 q2 q3
      go_wp2
      go_ret
      exact ⟨_, k', e', p', rfl, b0, b1, HE.out⟩
    · obtain ⟨v', k', e', p', ev, b0, b1, q1, q2, q3⟩ := HTL.1 rfl
      have HE : Hid (Rd0 63 w7 g s k' e' p' ∧ Step s.size pZone (stOf s k e p) (stOf s k' e' p') v' ∧ But g w w7) := ⟨q1, q2, q3⟩
      injection ev with _ ev
      subst ev
      clear HTL q1 q2 q3
      go_wp2
      go_ret
      exact ⟨_, k', e', p', rfl, b0, b1, HE.out⟩
  · have h45' : standB s k 45 = false := by simpa using h45
    clear h45
    have HROW := row_any g s k e p 1 _ (HT.out.but HFAR.out HB2.out) HR2.out HS.out
    have HX : Hid ((s.extract k (k + badN 1 (s.data.toList.drop k))).data.toList = (s.data.toList.drop k).take (badN 1 (s.data.toList.drop k))) := ext_list s k _
    have hxs := ext_size s k _ (bad_in 1 s k hk)
    have HG : Hid (pZone (s.data.toList.drop k) = orBad 61 (s.data.toList.drop k) (zoneL (upL ((s.data.toList.drop k).take (badN 1 (s.data.toList.drop k))))) (s.data.toList.drop (k + badN 1 (s.data.toList.drop k)))) := pZone_name s k h43' h45'
    have hm := bad_in 1 s k hk
    go_wp2_with fail
    refine Calls.mono HROW ?_
    rintro x w6 ⟨rfl, hr6, hb6⟩
    have HR6 : Hid (Rd0 63 w6 g s (k + badN 1 (s.data.toList.drop k)) e p) := hr6
    have HB6 : Hid (But g w w6) := HB2.out.trans hb6
    have HT6 : Hid (Tbl w6) := HT.out.but HFAR.out HB6.out
    clear hr6 hb6 HROW
    generalize (s.data.toList.drop k).take (badN 1 (s.data.toList.drop k)) = L at HX HG
    generalize badN 1 (s.data.toList.drop k) = m at HX HG HR6 hxs hm ⊢
    generalize s.extract k (k + m) = Q at HX hxs ⊢
    have HZD := zname_any Q w6 HT6.out.zn (by unfold maxLen; omega)
    rw [HX.out] at HZD
    go_wp2_with fail
    refine Calls.mono HZD ?_
    rintro x w7 ⟨v, b, rfl, hz, v0, v1, hb7⟩
    have HR7 : Hid (Rd0 63 w7 g s (k + m) e p) := HR6.out.below hb7
    have HB7 : Hid (But g w w7) := HB6.out.trans (But.of_below hb7)
    have HTL := zone_tail g s k (k + m) e p v b _ w w7 hk HR7.out HB7.out hz (by omega) (by omega) HG.out
    clear hz HG HX hb7
    cases b
    · have HTF := HTL.2 rfl
      clear HTL
      go_wp2_with fail
      refine (fail_any g s _ e p 61 (k : Int) w7 HR7.out).mono ?_
      rintro x w8 ⟨rfl, hr8, hb8⟩
      obtain ⟨v', k', e', p', ev, b0, b1, q1, q2, q3⟩ := HTF w8 hr8 hb8
      have HE : Hid (Rd0 63 w8 g s k' e' p' ∧ Step s.size pZone (stOf s k e p) (stOf s k' e' p') v' ∧ But g w w8) := ⟨q1, q2, q3⟩
      injection ev with _ ev
      subst ev
      clear hr8 hb8 HTF q1 q2 q3
      go_wp2
      go_ret
      exact ⟨_, k', e', p', rfl, b0, b1, HE.out⟩
    · obtain ⟨v', k', e', p', ev, b0, b1, q1, q2, q3⟩ := HTL.1 rfl
      have HE : Hid (Rd0 63 w7 g s k' e' p' ∧ Step s.size pZone (stOf s k e p) (stOf s k' e' p') v' ∧ But g w w7) := ⟨q1, q2, q3⟩
      injection ev with _ ev
      subst ev
      clear HTL q1 q2 q3
      go_wp2
      go_ret
      exact ⟨_, k', e', p', rfl, b0, b1, HE.out⟩
end Go.Proofs.YtedfnebadenmdabDoor
