/-
  For every date and dress the statement DateDressed returns true.
-/
import Derived.Test.YtedfnebadenmdabDoorCard6p
import Derived.Test.YtedfnebadenmdabDoorHd
import Derived.Test.YtedfnebadenmdabDoorMde
import Derived.Test.YtedfnebadenmdabDoorDro
import Derived.Test.YtedfnebadenmdabDoorDrs
import Derived.Test.YtedfnebadenmdabDoorPrs
import Derived.ProofKit
import Derived.ChangeMaps5
import Derived.OpenShut
import Derived.ShutString
import Derived.ChangeOld
import Derived.SizedLaws
namespace Go.Proofs.YtedfnebadenmdabDoor.dateDressed
open Go.ChangeShapes Go.WideShapes Go.ChangeAt Go.RowKit

theorem parse_may {x : Dt} {t : ByteArray} (h : parse t.data.toList = ⟨x, 0, 0⟩) (hs : t.size ≤ maxLen) (w : World) (ht : Tbl w) : Calls Tryd.prog 16 #[.string t] w fun e w' => e = .returned (ansV ⟨x, 0, 0⟩) ∧ Below w.heap.size w w' := by
  have := parse_any t w ht hs
  rw [h] at this
  exact this
theorem dre_len (m n : Nat) (s r : List UInt8) : (dreL m n s r).length ≤ 5 * s.length + r.length + 6 := by
  have h1 := outL_len m n s 0
  have h2 := List.length_filter_le remB r
  unfold dreL
  simp only [List.length_append, List.length_cons, List.length_nil]
  omega
theorem later_list (t : ByteArray) : (t.extract 5 t.size).data.toList = t.data.toList.drop 5 := by
  rw [ByteArray.data_extract, Array.toList_extract, List.extract_eq_take_drop]
  apply List.take_of_length_le
  rw [List.length_drop, Array.length_toList]
  exact Nat.le_refl _
/-- What of a date's text serves. -/
theorem print_all (x : Dt) (hm : May x) : ∃ t : ByteArray, (∀ w, Ahd w → PowTab w → Calls Tryd.prog 15 #[dtV x] w fun e w' => e = .returned (.tuple #[.string t, .int .i64 0]) ∧ Below w.heap.size w w') ∧ t.size ≤ 2000 ∧ 5 ≤ t.size ∧
    (∀ m n r, parse (dreL m n t.data.toList r) = ⟨x, 0, 0⟩) ∧ parse (t.extract 5 t.size).data.toList = ⟨x, 0, 0⟩ := by
  obtain ⟨t, hpr, _, hform⟩ := print_any x hm
  have hts := print_size hm hform
  obtain ⟨y, m1, d, h, mi, sc, z, wd, sg, rfl, ey, em, ed, eh, ei, es, ez, ew⟩ := hform
  have hl := parse_later hm ey em ed eh ei es ez ew
  refine ⟨_, hpr, hts, ?_, fun m n r => parse_dressed m n r hm ey em ed eh ei es ez ew, by rw [later_list]; exact hl.1⟩
  have := hl.2
  rw [Array.length_toList] at this
  exact this

set_option maxHeartbeats 8000000 in
theorem walk (a : Dr) (ha : a.In) (hs : a.r.size ≤ 140737488351232) (w : World) (ht : Tbp w) :
    Calls Tryd.prog 6 #[drV a] w fun e w' => e = .returned (.bool true) ∧ Below w.heap.size w w' := by
  have HT : Hid (Tbl w) := ht.tb
  have HPW : Hid (PowTab w) := ht.pw
  obtain ⟨o, mask, wide, r⟩ := a
  obtain ⟨ho, m0, m1, q0, q1⟩ := ha
  simp only at ho m0 m1 q0 q1 hs
  obtain ⟨M, rfl⟩ := Int.eq_ofNat_of_zero_le m0
  obtain ⟨K, rfl⟩ := Int.eq_ofNat_of_zero_le q0
  have HO : Hid o.In := ho
  have HBa : Hid (Below w.heap.size w (w.alloc (.cells (drC ⟨o, M, K, r⟩) 45))) := (Below.refl _ _).alloc (Nat.le_refl _) _
  have HLa : Hid (Lies (w.alloc (.cells (drC ⟨o, M, K, r⟩) 45)) w.heap.size (drC ⟨o, M, K, r⟩) 45) := Lies.new w _ _
  have HH := head_any _ (HT.out.below HBa.out)
  unfold drC at HH
  clear ht ho m0 q0
  unfold drV
  go_enter Tryd.func6, Tryd.ntmps6
  go_wp2_with fail
  refine Calls.mono HH ?_
  rintro e w1 ⟨rfl, hb⟩
  have HB1 : Hid (Below w.heap.size w w1) := HBa.out.trans (hb.mono HBa.out.size)
  have HLb : Hid (Lies w1 w.heap.size (drC ⟨o, M, K, r⟩) 45) := HLa.out.below hb HLa.out.lt
  clear hb HH HBa HLa
  generalize w.heap.size = B0 at HLb ⊢
  have a0 := HLb.out.cell 0
  have a1 := HLb.out.cell 1
  have a2 := HLb.out.cell 2
  have a3 := HLb.out.cell 3
  have a4 := HLb.out.cell 4
  have a5 := HLb.out.cell 5
  have a6 := HLb.out.cell 6
  have a7 := HLb.out.cell 7
  simp only [drC, List.getElem?_toArray, List.getElem?_cons_zero, List.getElem?_cons_succ] at a0 a1 a2 a3 a4 a5 a6 a7
  have HMD := made_any o w1 (HT.out.below HB1.out).ah HO.out
  unfold mdV at HMD
  go_wp2_with fail
  refine Calls.mono HMD ?_
  rintro e w1b ⟨x, rfl, hx, hxz, hb⟩
  clear hxz
  have HX : Hid (May x) := hx
  have HB2 : Hid (Below w.heap.size w (w1b.alloc (.cells (dtC x) 34))) := (HB1.out.trans (hb.mono HB1.out.size)).alloc (Nat.le_trans HB1.out.size hb.size) _
  have HL2 : Hid (Lies (w1b.alloc (.cells (dtC x) 34)) w1b.heap.size (dtC x) 34) := Lies.new w1b _ _
  have HR2 : Hid (Lies (w1b.alloc (.cells (dtC x) 34)) B0 (drC ⟨o, M, K, r⟩) 45) := (HLb.out.below hb HLb.out.lt).alloc _
  clear a0 a1 a2 a3 a4 a5 a6 a7 hx hb HMD HLb HB1
  obtain ⟨t, hpr, hts, ht5, hpd, hpl⟩ := print_all x HX.out
  have HPD : Hid (∀ m n r, parse (dreL m n t.data.toList r) = ⟨x, 0, 0⟩) := hpd
  have HPL : Hid (parse (t.extract 5 t.size).data.toList = ⟨x, 0, 0⟩) := hpl
  have HPR := hpr (w1b.alloc (.cells (dtC x) 34)) (HT.out.below HB2.out).ah (HPW.out.below HB2.out)
  clear hpr hpd hpl
  unfold dtV dtC at HPR
  unfold dtV
  go_wp2_with fail
  refine Calls.mono HPR ?_
  generalize hD : w1b.heap.size = D at HL2
  rintro e w3 ⟨rfl, hb⟩
  have HB3 : Hid (Below w.heap.size w w3) := HB2.out.trans (hb.mono (by have := HB2.out.size; simpa [dtC] using this))
  have HL3 : Hid (Lies w3 D (dtC x) 34) := HL2.out.below hb (by have := HL2.out.lt; simpa [dtC] using this)
  have HR3 : Hid (Lies w3 B0 (drC ⟨o, M, K, r⟩) 45) := HR2.out.below hb (by have := HR2.out.lt; simpa [dtC] using this)
  clear hb HPR HB2 HL2 HR2 hD
  have a0 := HR3.out.cell 0
  have a1 := HR3.out.cell 1
  have a2 := HR3.out.cell 2
  have a3 := HR3.out.cell 3
  have a4 := HR3.out.cell 4
  have a5 := HR3.out.cell 5
  have a6 := HR3.out.cell 6
  have a7 := HR3.out.cell 7
  simp only [drC, List.getElem?_toArray, List.getElem?_cons_zero, List.getElem?_cons_succ] at a0 a1 a2 a3 a4 a5 a6 a7
  have hts5 : ¬ (t.size : Int) < 5 := by omega
  have HDR := dressed_any t r M K (K % 4) w3 hts (by omega) rfl hs
  have HDS : Hid ((⟨(dreL M (K % 4) t.data.toList r.data.toList).toArray⟩ : ByteArray).size ≤ maxLen) := by
    show _ ≤ _
    have h1 := dre_len M (K % 4) t.data.toList r.data.toList
    have h2 : (⟨(dreL M (K % 4) t.data.toList r.data.toList).toArray⟩ : ByteArray).size = (dreL M (K % 4) t.data.toList r.data.toList).length := List.size_toArray
    have h3 : t.data.toList.length = t.size := by rw [Array.length_toList]; rfl
    have h4 : r.data.toList.length = r.size := by rw [Array.length_toList]; rfl
    rw [h2]
    unfold maxLen
    omega
  have HDP : Hid (parse (⟨(dreL M (K % 4) t.data.toList r.data.toList).toArray⟩ : ByteArray).data.toList = ⟨x, 0, 0⟩) := HPD.out M (K % 4) r.data.toList
  generalize (⟨(dreL M (K % 4) t.data.toList r.data.toList).toArray⟩ : ByteArray) = DS at HDR HDS HDP
  go_wp2_with fail
  refine Calls.mono HDR ?_
  rintro e w4 ⟨rfl, hb⟩
  have HB4 : Hid (Below w.heap.size w w4) := HB3.out.trans (hb.mono HB3.out.size)
  have HL4 : Hid (Lies w4 D (dtC x) 34) := HL3.out.below hb HL3.out.lt
  clear hb HDR HB3 HL3 HR3 a0 a1 a2 a3 a4 a5 a6 a7
  have HPS := parse_may HDP.out HDS.out w4 (HT.out.below HB4.out)
  unfold ansV dtV at HPS
  go_wp2_with fail
  refine Calls.mono HPS ?_
  rintro e w5 ⟨rfl, hb⟩
  have HBx : Hid (Below w.heap.size w w5) := HB4.out.trans (hb.mono HB4.out.size)
  have HB5 : Hid (Below w.heap.size w ((w5.alloc (.cells (dtC x) 34)).alloc (.cells #[.int .i64 0, .int .i64 0] 49))) := (HBx.out.alloc HBx.out.size _).alloc (by simp; have := HBx.out.size; omega) _
  have HL5 : Hid (Lies ((w5.alloc (.cells (dtC x) 34)).alloc (.cells #[.int .i64 0, .int .i64 0] 49)) D (dtC x) 34) := ((HL4.out.below hb HL4.out.lt).alloc _).alloc _
  have HM5 : Hid (Lies ((w5.alloc (.cells (dtC x) 34)).alloc (.cells #[.int .i64 0, .int .i64 0] 49)) w5.heap.size (dtC x) 34) := (Lies.new w5 _ _).alloc _
  have HN5 : Hid (Lies ((w5.alloc (.cells (dtC x) 34)).alloc (.cells #[.int .i64 0, .int .i64 0] 49)) (w5.heap.size + 1) #[.int .i64 0, .int .i64 0] 49) := new_one w5 _ _ _
  clear hb HPS HB4 HL4 HBx HDS HDP
  have h5i : (5 : Int) ≤ (t.size : Int) := by omega
  have HPS := parse_may HPL.out (by rw [ByteArray.size_extract]; unfold maxLen; omega) ((w5.alloc (.cells (dtC x) 34)).alloc (.cells #[.int .i64 0, .int .i64 0] 49)) (HT.out.below HB5.out)
  unfold ansV dtV dtC at HPS
  go_wp2_with fail
  refine Calls.mono HPS ?_
  rintro e w6 ⟨rfl, hb⟩
  have hb : Below ((w5.alloc (.cells (dtC x) 34)).alloc (.cells #[.int .i64 0, .int .i64 0] 49)).heap.size ((w5.alloc (.cells (dtC x) 34)).alloc (.cells #[.int .i64 0, .int .i64 0] 49)) w6 := hb
  have HBx : Hid (Below w.heap.size w w6) := HB5.out.trans (hb.mono HB5.out.size)
  have HB6 : Hid (Below w.heap.size w ((w6.alloc (.cells (dtC x) 34)).alloc (.cells #[.int .i64 0, .int .i64 0] 49))) := (HBx.out.alloc HBx.out.size _).alloc (by simp; have := HBx.out.size; omega) _
  have L1 : Hid (Lies ((w6.alloc (.cells (dtC x) 34)).alloc (.cells #[.int .i64 0, .int .i64 0] 49)) D (dtC x) 34) := ((HL5.out.below hb HL5.out.lt).alloc _).alloc _
  have L2 : Hid (Lies ((w6.alloc (.cells (dtC x) 34)).alloc (.cells #[.int .i64 0, .int .i64 0] 49)) w5.heap.size (dtC x) 34) := ((HM5.out.below hb HM5.out.lt).alloc _).alloc _
  have L3 : Hid (Lies ((w6.alloc (.cells (dtC x) 34)).alloc (.cells #[.int .i64 0, .int .i64 0] 49)) (w5.heap.size + 1) #[.int .i64 0, .int .i64 0] 49) := ((HN5.out.below hb HN5.out.lt).alloc _).alloc _
  have L4 : Hid (Lies ((w6.alloc (.cells (dtC x) 34)).alloc (.cells #[.int .i64 0, .int .i64 0] 49)) w6.heap.size (dtC x) 34) := (Lies.new w6 _ _).alloc _
  have L5 : Hid (Lies ((w6.alloc (.cells (dtC x) 34)).alloc (.cells #[.int .i64 0, .int .i64 0] 49)) (w6.heap.size + 1) #[.int .i64 0, .int .i64 0] 49) := new_one w6 _ _ _
  clear hb HPS HB5 HL5 HM5 HN5 HBx
  generalize w5.heap.size + 1 = E2 at L3 ⊢
  generalize w5.heap.size = E1 at L2 ⊢
  have c0 := L1.out.cell 0
  have c1 := L1.out.cell 1
  have c2 := L1.out.cell 2
  have c3 := L1.out.cell 3
  have c4 := L1.out.cell 4
  have c5 := L1.out.cell 5
  have c6 := L1.out.cell 6
  simp only [dtC, List.getElem?_toArray, List.getElem?_cons_zero, List.getElem?_cons_succ] at c0 c1 c2 c3 c4 c5 c6
  have d0 := L2.out.cell 0
  have d1 := L2.out.cell 1
  have d2 := L2.out.cell 2
  have d3 := L2.out.cell 3
  have d4 := L2.out.cell 4
  have d5 := L2.out.cell 5
  have d6 := L2.out.cell 6
  simp only [dtC, List.getElem?_toArray, List.getElem?_cons_zero, List.getElem?_cons_succ] at d0 d1 d2 d3 d4 d5 d6
  have n0 := L3.out.cell 0
  have n1 := L3.out.cell 1
  simp only [dtC, List.getElem?_toArray, List.getElem?_cons_zero, List.getElem?_cons_succ] at n0 n1
  have k0 := L4.out.cell 0
  have k1 := L4.out.cell 1
  have k2 := L4.out.cell 2
  have k3 := L4.out.cell 3
  have k4 := L4.out.cell 4
  have k5 := L4.out.cell 5
  have k6 := L4.out.cell 6
  simp only [dtC, List.getElem?_toArray, List.getElem?_cons_zero, List.getElem?_cons_succ] at k0 k1 k2 k3 k4 k5 k6
  have l0 := L5.out.cell 0
  have l1 := L5.out.cell 1
  simp only [dtC, List.getElem?_toArray, List.getElem?_cons_zero, List.getElem?_cons_succ] at l0 l1
  simp only [dtC] at HB6
  clear L1 L2 L3 L4 L5
  go_wp2
  go_ret
  exact ⟨rfl, HB6.out⟩

set_option maxRecDepth 100000 in
theorem contract (H : Type) (enc : TypeId × Value → H) (W : World) (base : Nat) (args : Array Value) (ds gs : List (DataW H)) (before : List MemPlace)
    (hval : ∀ (j : Nat) t v, Tryd.f6.params[j]? = some t → args[j]? = some v → Value.okWide Tryd.prog W .any base t v)
    (hW : DataW.Whole enc Tryd.prog Tryd.f6.params.toList Rows.dateDressedSpec.vars false W args.toList ds gs before)
    (hsz : (DataW.weightsEach Tryd.prog (Tryd.f6.params.toList ++ (OpenSpec.ofChange Rows.dateDressedSpec).bare.plain.varTypes Tryd.prog) (ds ++ gs)).all (· ≤ reachBytes) = true)
    (hL : laidMetH Tryd.prog Rows.dateDressedRow.laid W) (hsh : W.ShapedOpen Tryd.prog) :
    Calls Tryd.prog 6 args W fun e W' => ∃ v, e = .returned v ∧ Rows.dateDressedSpec.post enc Tryd.prog Tryd.f6 false true false false W args v W' := by
  have hW' := hW
  obtain ⟨p, q, hA0, hV, rfl, hfz, hnd⟩ := hW
  have hA : DataW.TrodAll enc Tryd.prog W 0 (fun _ => true) true Tryd.f6.params.toList args.toList ds p := hA0
  rw [Tryd.params6] at hA hval hsz
  obtain ⟨v0, vs0, d0, ds0, p0, q0, hargs, rfl, rfl, h0, r0⟩ := trodAll_cons hA
  obtain ⟨rfl, rfl, rfl⟩ := trodAll_nil r0
  obtain rfl : args = #[v0] := by cases args; simp_all
  obtain ⟨rfl, rfl⟩ := trodVars_none hV
  have k0 := h0
  have lt0 : ∀ x ∈ p0, x.block < W.heap.size := by obtain ⟨m, hm⟩ := k0; exact DataW.trod_lt m _ _ _ hm
  obtain ⟨a0, rfl, b0⟩ := open_dress (hval 0 45 v0 rfl rfl) h0
  clear hA0
  obtain ⟨b0, e0⟩ := b0
  have s0 := dress_size hsz rfl rfl e0
  refine (walk a0 b0 s0 W (tabs6_of hL hsh)).mono fun e W' ⟨he, bel⟩ => ?_
  subst he
  exact ⟨_, rfl, _, _, _, [], _, [], hW', trodAll_mk1 (shut_bool Tryd.underlying4 _), trodAll_cons_mk (Below.trod laidOut (by kernel_rfl) (of_decide_eq_true (by kernel_rfl)) k0 bel lt0) trodAll_mk0, rfl, bel.frame _, fun h => by cases h⟩

set_option maxRecDepth 100000 in
theorem laid_met (os : Os) : laidMet Tryd.prog Rows.dateDressedRow.laid ((laidWorld6 os).forCall (fun _ _ => 0) ⟨#[], #[.agg #[.int .i64 0, .int .u8 0, .int .u8 0, .int .u8 0, .int .i16 0, .int .u64 0, .int .u8 0, .string ByteArray.empty]], []⟩).memory :=
  laidMet_of_run' 8 (by kernel_rfl) (by kernel_rfl)
set_option maxRecDepth 100000 in
theorem reads (os : Os) {H : Type} (enc : TypeId × Value → H) : ∃ places, DataW.whole enc Tryd.prog ((laidWorld6 os).forCall (fun _ _ => 0) ⟨#[], #[.agg #[.int .i64 0, .int .u8 0, .int .u8 0, .int .u8 0, .int .i16 0, .int .u64 0, .int .u8 0, .string ByteArray.empty]], []⟩).memory Tryd.f6.params.toList Rows.dateDressedSpec.vars false #[Value.agg #[.int .i64 0, .int .u8 0, .int .u8 0, .int .u8 0, .int .i16 0, .int .u64 0, .int .u8 0, .string ByteArray.empty]].toList 8 = some ([.agg [.agg [.lit (.int .i64 0), .lit (.int .u8 0), .lit (.int .u8 0), .lit (.int .u8 0), .lit (.int .i16 0)], .lit (.int .u64 0), .lit (.int .u8 0), .lit (.string [])]], [], places) :=
  ⟨[], by kernel_rfl⟩

set_option maxRecDepth 100000 in
theorem lifted (os : Os) (started : os.Started) (H : Type) (enc : TypeId × Value → H) (F : Stop.Interp) :
    ReturnsInHanded {} Tryd.checked os 6 .any ((OpenSpec.ofChange Rows.dateDressedSpec).preRow enc Tryd.prog Tryd.f6 Rows.dateDressedRow.domain false Rows.dateDressedRow.laid) (((OpenSpec.ofChange Rows.dateDressedSpec).at F).post enc Tryd.prog Tryd.f6 false true false false) := by
  obtain ⟨places, hx⟩ := reads os enc
  refine returnsInHanded_of_row (C := Tryd.checked) (s := OpenSpec.ofChange Rows.dateDressedSpec) own started (by kernel_rfl) Tryd.func6
    (witness_row_at (enc := enc) (C := Tryd.checked) false (laidWorld6 os) #[.agg #[.int .i64 0, .int .u8 0, .int .u8 0, .int .u8 0, .int .i16 0, .int .u64 0, .int .u8 0, .string ByteArray.empty]] rfl (by kernel_rfl) (by kernel_rfl) (by kernel_rfl)
      (OpenSpec.preRow_of_cond 8 hx (by kernel_rfl) (fun k hk => by cases hk) (by kernel_rfl) (laid_met os))) ?_
  intro W base args ds gs before hval hW _ _ hsz hL hsh _
  exact contract H enc W base args ds gs before hval hW hsz hL hsh

theorem said : Rows.DateDressedSaid :=
  OpenClaim.holds_of_cond 6 Tryd.f6 rfl rfl rfl rfl rfl rfl rfl ⟨rfl, rfl, rfl, rfl, rfl⟩ rfl rfl rfl rfl rfl (by kernel_rfl) Tryd.func6 (by kernel_rfl)
    (of_decide_eq_true (by kernel_rfl)) (by unfold Func.isWrapper; first | (rw [if_pos (by decide +kernel)]; kernel_rfl) | (rw [if_neg (by decide +kernel)]; exact ⟨rfl, rfl⟩))
    (fun os started H enc _ F => by rw [OpenClaim.pre_eq_preRow]; exact lifted os started H enc F)

/-- No parameter wants a stand-in; the program's own looks are off. -/
theorem plain (f : FuncId) (fn : Func) (hf : Tryd.pinned.checked.prog.funcNamed "posthorn/posthornlaw06.DateDressed" = some f) (hfn : Tryd.pinned.checked.prog.funcs[f]? = some fn) :
    false = Tryd.pinned.checked.prog.looks [] ∧ ∀ (j : Nat) t, fn.params[j]? = some t → Tryd.pinned.checked.prog.wantsStandIn t = false := by
  obtain rfl : f = 6 := Option.some.inj ((show Tryd.prog.funcNamed "posthorn/posthornlaw06.DateDressed" = some 6 by kernel_rfl).symm.trans hf) |>.symm
  obtain rfl : fn = Tryd.f6 := (Option.some.inj (Tryd.func6.symm.trans hfn)).symm
  refine ⟨by kernel_rfl, fun j t ht => ?_⟩
  rw [Tryd.params6] at ht
  have hm : t ∈ [45] := by simpa using Array.mem_of_getElem? ht
  have hall : ([45].all fun u => !Tryd.prog.wantsStandIn u) = true := by kernel_rfl
  exact (show Tryd.prog.wantsStandIn t = false by simpa using List.all_eq_true.1 hall t hm)

/-- The card. -/
theorem card : Rows.DateDressedCardSaid :=
  Claim7.holds_tied_plain_at .later [] _ _ _ _ said (fun _ h => by cases h) (by kernel_rfl) (fun _ h => by cases h) dateDressed_row_tie rfl ⟨rfl, rfl⟩ (by kernel_rfl) rfl plain (by kernel_rfl)
end Go.Proofs.YtedfnebadenmdabDoor.dateDressed
namespace Go.Proofs.YtedfnebadenmdabDoor
theorem dateDressed_card : Rows.DateDressedCardSaid := dateDressed.card
#print axioms dateDressed_card
end Go.Proofs.YtedfnebadenmdabDoor
