/-
  For every two made dates the statement DateOrders returns true.
-/
import Derived.Test.YtedfnebadenmdabDoorCard6
import Derived.Test.YtedfnebadenmdabDoorHd
import Derived.Test.YtedfnebadenmdabDoorMde
import Derived.Test.YtedfnebadenmdabDoorLss
import Derived.ProofKit
import Derived.ChangeMaps5
import Derived.OpenShut
import Derived.ShutString
import Derived.ChangeOld
import Derived.SizedLaws
namespace Go.Proofs.YtedfnebadenmdabDoor.dateOrders
open Go.ChangeShapes Go.WideShapes Go.ChangeAt Go.RowKit

theorem may_in {x : Dt} (h : May x) : x.In := by
  obtain ⟨a, b, c, d, e, f⟩ := h.day
  have := longN_pos x.y x.mo
  have := h.h0; have := h.h1; have := h.m0; have := h.m1; have := h.s0; have := h.s1; have := h.z0; have := h.z1
  exact ⟨by omega, by omega, by omega, by omega, by omega, by omega, by omega, by omega, by omega, by omega, by omega, by omega, by omega, by omega⟩
theorem dt_eq {x u : Dt} (h1 : x.y = u.y) (h2 : x.mo = u.mo) (h3 : x.d = u.d) (h4 : x.h = u.h) (h5 : x.mi = u.mi) (h6 : x.s = u.s) (h7 : x.z = u.z) : x = u := by
  cases x; cases u; simp_all
theorem secs_may {x : Dt} (h : May x) (w : World) (ht : Tbl w) : Calls Tryd.prog 12 #[dtV x] w fun e w' => e = .returned (.tuple #[.int .i64 (secD x), .int .i64 0]) ∧ Below w.heap.size w w' := by
  have := secs_any x w ht.ah (may_in h)
  rw [(chk_may x).2 h, if_pos rfl] at this
  exact this

set_option maxHeartbeats 8000000 in
theorem walk (o : Md) (ho : o.In) (v : Md) (hv : v.In) (w : World) (ht : Tbl w) :
    Calls Tryd.prog 4 #[mdV o, mdV v] w fun e w' => e = .returned (.bool true) ∧ Below w.heap.size w w' := by
  have HT : Hid (Tbl w) := ht
  have HO : Hid o.In := ho
  have HV : Hid v.In := hv
  have HB0 : Hid (Below w.heap.size w ((w.alloc (.cells (mdC o) 32)).alloc (.cells (mdC v) 32))) := ((Below.refl _ _).alloc (Nat.le_refl _) _).alloc (by simp) _
  have HL0 : Hid (Lies ((w.alloc (.cells (mdC o) 32)).alloc (.cells (mdC v) 32)) w.heap.size (mdC o) 32) := (Lies.new w _ _).alloc _
  have HL1 : Hid (Lies ((w.alloc (.cells (mdC o) 32)).alloc (.cells (mdC v) 32)) (w.heap.size + 1) (mdC v) 32) := new_one w _ _ _
  have HH := head_any _ (HT.out.below HB0.out)
  unfold mdC at HH
  clear ht ho hv
  unfold mdV
  go_enter Tryd.func4, Tryd.ntmps4
  go_wp2_with fail
  refine Calls.mono HH ?_
  rintro e w1 ⟨rfl, hb⟩
  have HB1 : Hid (Below w.heap.size w w1) := HB0.out.trans (hb.mono HB0.out.size)
  have HM0 : Hid (Lies w1 w.heap.size (mdC o) 32) := HL0.out.below hb HL0.out.lt
  have HM1 : Hid (Lies w1 (w.heap.size + 1) (mdC v) 32) := HL1.out.below hb HL1.out.lt
  have HBE : Hid (w.heap.size ≤ w.heap.size + 1) := Nat.le_succ _
  clear hb HH HB0 HL0 HL1
  generalize hB1 : w.heap.size + 1 = B1 at HM1 HBE ⊢
  generalize hB0 : w.heap.size = B0 at HM0 hB1 ⊢
  have hne : B0 ≠ B1 := by omega
  have hne' : B1 ≠ B0 := by omega
  clear hB1 hB0
  have a0 := HM0.out.cell 0
  have a1 := HM0.out.cell 1
  have a2 := HM0.out.cell 2
  have a3 := HM0.out.cell 3
  have a4 := HM0.out.cell 4
  simp only [mdC, List.getElem?_toArray, List.getElem?_cons_zero, List.getElem?_cons_succ] at a0 a1 a2 a3 a4
  have b0 := HM1.out.cell 0
  have b1 := HM1.out.cell 1
  have b2 := HM1.out.cell 2
  have b3 := HM1.out.cell 3
  have b4 := HM1.out.cell 4
  simp only [mdC, List.getElem?_toArray, List.getElem?_cons_zero, List.getElem?_cons_succ] at b0 b1 b2 b3 b4
  have f4 := HM1.out.frozen 4
  have HN0 : Hid (Lies (w1.setCell ⟨B1, 4, none⟩ (.int .i16 o.z)) B0 (mdC o) 32) := HM0.out.set_other (a := ⟨B1, 4, none⟩) hne _
  have HN1 : Hid (Lies (w1.setCell ⟨B1, 4, none⟩ (.int .i16 o.z)) B1 (mdC { v with z := o.z }) 32) := HM1.out.set 4 _
  have HB2 : Hid (Below w.heap.size w (w1.setCell ⟨B1, 4, none⟩ (.int .i16 o.z))) := HB1.out.setCell (p := ⟨B1, 4, none⟩) HBE.out _
  have HMD := made_any o (w1.setCell ⟨B1, 4, none⟩ (.int .i16 o.z)) (HT.out.below HB2.out).ah HO.out
  unfold mdV at HMD
  go_wp2_with fail
  refine Calls.mono HMD ?_
  clear a0 a1 a2 a3 a4 b0 b1 b2 b3 b4 f4 HMD HM0 HM1 HB1
  generalize w1.setCell ⟨B1, 4, none⟩ (.int .i16 o.z) = w2 at HN0 HN1 HB2
  rintro e w3 ⟨x, rfl, hx, hxz, hb⟩
  have HX : Hid (May x) := hx
  have HXZ : Hid (x.z = o.z.tmod 1440) := hxz
  have HB3 : Hid (Below w.heap.size w (w3.alloc (.cells (dtC x) 34))) := (HB2.out.trans (hb.mono HB2.out.size)).alloc (Nat.le_trans HB2.out.size hb.size) _
  have HP1 : Hid (Lies (w3.alloc (.cells (dtC x) 34)) B1 (mdC { v with z := o.z }) 32) := (HN1.out.below hb HN1.out.lt).alloc _
  have HD1 : Hid (Lies (w3.alloc (.cells (dtC x) 34)) w3.heap.size (dtC x) 34) := Lies.new w3 _ _
  clear hx hxz hb HN0 HN1 HB2
  have b0 := HP1.out.cell 0
  have b1 := HP1.out.cell 1
  have b2 := HP1.out.cell 2
  have b3 := HP1.out.cell 3
  have b4 := HP1.out.cell 4
  simp only [mdC, List.getElem?_toArray, List.getElem?_cons_zero, List.getElem?_cons_succ] at b0 b1 b2 b3 b4
  have HMD := made_any { v with z := o.z } (w3.alloc (.cells (dtC x) 34)) (HT.out.below HB3.out).ah ⟨HV.out.h0, HV.out.h1, HV.out.m0, HV.out.m1, HV.out.s0, HV.out.s1, HO.out.z0, HO.out.z1⟩
  unfold mdV dtC at HMD
  simp only [dtC] at b0 b1 b2 b3 b4
  unfold dtV
  go_wp2_with fail
  refine Calls.mono HMD ?_
  rintro e w4 ⟨u, rfl, hu, huz, hb⟩
  have HU : Hid (May u) := hu
  have HUZ : Hid (x.z = u.z) := by
    have h1 := HXZ.out
    have h2 : u.z = o.z.tmod 1440 := huz
    exact h1.trans h2.symm
  have HB4 : Hid (Below w.heap.size w (w4.alloc (.cells (dtC u) 34))) := (HB3.out.trans (hb.mono HB3.out.size)).alloc (Nat.le_trans HB3.out.size hb.size) _
  have HE1 : Hid (Lies (w4.alloc (.cells (dtC u) 34)) w3.heap.size (dtC x) 34) := (HD1.out.below hb HD1.out.lt).alloc _
  have HE2 : Hid (Lies (w4.alloc (.cells (dtC u) 34)) w4.heap.size (dtC u) 34) := Lies.new w4 _ _
  clear b0 b1 b2 b3 b4 hu huz hb HMD HP1 HD1 HB3 HXZ
  generalize w3.heap.size = D1 at HE1 ⊢
  have HS1 := secs_may HX.out (w4.alloc (.cells (dtC u) 34)) (HT.out.below HB4.out)
  unfold dtV dtC at HS1
  have c0 := HE1.out.cell 0
  have c1 := HE1.out.cell 1
  have c2 := HE1.out.cell 2
  have c3 := HE1.out.cell 3
  have c4 := HE1.out.cell 4
  have c5 := HE1.out.cell 5
  have c6 := HE1.out.cell 6
  simp only [dtC, List.getElem?_toArray, List.getElem?_cons_zero, List.getElem?_cons_succ] at c0 c1 c2 c3 c4 c5 c6
  unfold dtV
  go_wp2_with fail
  refine Calls.mono HS1 ?_
  rintro e w5 ⟨rfl, hb⟩
  have HF1 : Hid (Lies w5 D1 (dtC x) 34) := HE1.out.below hb HE1.out.lt
  have HF2 : Hid (Lies w5 w4.heap.size (dtC u) 34) := HE2.out.below hb HE2.out.lt
  have HB5 : Hid (Below w.heap.size w w5) := HB4.out.trans (hb.mono HB4.out.size)
  clear c0 c1 c2 c3 c4 c5 c6 hb HS1 HE1 HE2 HB4
  generalize w4.heap.size = D2 at HF2 ⊢
  have HS2 := secs_may HU.out w5 (HT.out.below HB5.out)
  unfold dtV at HS2
  have c0 := HF2.out.cell 0
  have c1 := HF2.out.cell 1
  have c2 := HF2.out.cell 2
  have c3 := HF2.out.cell 3
  have c4 := HF2.out.cell 4
  have c5 := HF2.out.cell 5
  have c6 := HF2.out.cell 6
  simp only [dtC, List.getElem?_toArray, List.getElem?_cons_zero, List.getElem?_cons_succ] at c0 c1 c2 c3 c4 c5 c6
  go_wp2_with fail
  refine Calls.mono HS2 ?_
  rintro e w6 ⟨rfl, hb⟩
  have HG1 : Hid (Lies w6 D1 (dtC x) 34) := HF1.out.below hb HF1.out.lt
  have HG2 : Hid (Lies w6 D2 (dtC u) 34) := HF2.out.below hb HF2.out.lt
  have HB6 : Hid (Below w.heap.size w w6) := HB5.out.trans (hb.mono HB5.out.size)
  clear c0 c1 c2 c3 c4 c5 c6 hb HS2 HF1 HF2 HB5
  obtain ⟨hord, heq⟩ := sec_order HX.out HU.out HUZ.out
  have HLE := less_any x u w6 (may_in HX.out) (may_in HU.out)
  have HLT : Hid (ltL (ptL x) (ptL u) = decide (secD x < secD u)) := by
    show _ = _
    rw [Bool.eq_iff_iff, decide_eq_true_eq]
    exact hord.symm
  rw [HLT.out] at HLE
  unfold dtV at HLE
  clear hord
  have c0 := HG1.out.cell 0
  have c1 := HG1.out.cell 1
  have c2 := HG1.out.cell 2
  have c3 := HG1.out.cell 3
  have c4 := HG1.out.cell 4
  have c5 := HG1.out.cell 5
  have c6 := HG1.out.cell 6
  simp only [dtC, List.getElem?_toArray, List.getElem?_cons_zero, List.getElem?_cons_succ] at c0 c1 c2 c3 c4 c5 c6
  have d0 := HG2.out.cell 0
  have d1 := HG2.out.cell 1
  have d2 := HG2.out.cell 2
  have d3 := HG2.out.cell 3
  have d4 := HG2.out.cell 4
  have d5 := HG2.out.cell 5
  have d6 := HG2.out.cell 6
  simp only [dtC, List.getElem?_toArray, List.getElem?_cons_zero, List.getElem?_cons_succ] at d0 d1 d2 d3 d4 d5 d6
  go_wp2_with fail
  refine Calls.mono HLE ?_
  rintro e w7 ⟨rfl, hb⟩
  have HH1 : Hid (Lies w7 D1 (dtC x) 34) := HG1.out.below hb HG1.out.lt
  have HH2 : Hid (Lies w7 D2 (dtC u) 34) := HG2.out.below hb HG2.out.lt
  have HB7 : Hid (Below w.heap.size w w7) := HB6.out.trans (hb.mono HB6.out.size)
  clear c0 c1 c2 c3 c4 c5 c6 d0 d1 d2 d3 d4 d5 d6 hb HLE HG1 HG2 HB6 HLT
  have c0 := HH1.out.cell 0
  have c1 := HH1.out.cell 1
  have c2 := HH1.out.cell 2
  have c3 := HH1.out.cell 3
  have c4 := HH1.out.cell 4
  have c5 := HH1.out.cell 5
  have c6 := HH1.out.cell 6
  simp only [dtC, List.getElem?_toArray, List.getElem?_cons_zero, List.getElem?_cons_succ] at c0 c1 c2 c3 c4 c5 c6
  have d0 := HH2.out.cell 0
  have d1 := HH2.out.cell 1
  have d2 := HH2.out.cell 2
  have d3 := HH2.out.cell 3
  have d4 := HH2.out.cell 4
  have d5 := HH2.out.cell 5
  have d6 := HH2.out.cell 6
  simp only [dtC, List.getElem?_toArray, List.getElem?_cons_zero, List.getElem?_cons_succ] at d0 d1 d2 d3 d4 d5 d6
  by_cases hxu : x = u
  · subst hxu
    clear heq
    go_wp2
    go_ret
    exact ⟨rfl, HB7.out⟩
  · have hs : (secD x == secD u) = false := by
      simp only [beq_eq_false_iff_ne]
      exact fun h => hxu (heq.1 h)
    have HNE : Hid (x ≠ u) := hxu
    clear heq hxu
    generalize secD x = SX at hs ⊢
    generalize secD u = SU at hs ⊢
    go_wp2
    all_goals first
      | (go_ret; exact ⟨rfl, HB7.out⟩)
      | exact absurd (dt_eq (by assumption) (by assumption) (by assumption) (by assumption) (by assumption) (by assumption) HUZ.out) HNE.out

set_option maxRecDepth 100000 in
theorem contract (H : Type) (enc : TypeId × Value → H) (W : World) (base : Nat) (args : Array Value) (ds gs : List (DataW H)) (before : List MemPlace)
    (hval : ∀ (j : Nat) t v, Tryd.f4.params[j]? = some t → args[j]? = some v → Value.okWide Tryd.prog W .any base t v)
    (hW : DataW.Whole enc Tryd.prog Tryd.f4.params.toList Rows.dateOrdersSpec.vars false W args.toList ds gs before)
    (hL : laidMetH Tryd.prog Rows.dateOrdersRow.laid W) (hsh : W.ShapedOpen Tryd.prog) :
    Calls Tryd.prog 4 args W fun e W' => ∃ v, e = .returned v ∧ Rows.dateOrdersSpec.post enc Tryd.prog Tryd.f4 false true false false W args v W' := by
  have hW' := hW
  obtain ⟨p, q, hA0, hV, rfl, hfz, hnd⟩ := hW
  have hA : DataW.TrodAll enc Tryd.prog W 0 (fun _ => true) true Tryd.f4.params.toList args.toList ds p := hA0
  rw [Tryd.params4] at hA hval
  obtain ⟨v0, vs0, d0, ds0, p0, q0, hargs, rfl, rfl, h0, r0⟩ := trodAll_cons hA
  obtain ⟨v1, vs1, d1, ds1, p1, q1, rfl, rfl, rfl, h1, r1⟩ := trodAll_cons r0
  obtain ⟨rfl, rfl, rfl⟩ := trodAll_nil r1
  obtain rfl : args = #[v0, v1] := by cases args; simp_all
  obtain ⟨rfl, rfl⟩ := trodVars_none hV
  have k0 := h0
  have lt0 : ∀ x ∈ p0, x.block < W.heap.size := by obtain ⟨m, hm⟩ := k0; exact DataW.trod_lt m _ _ _ hm
  obtain ⟨a0, rfl, b0⟩ := open_made (hval 0 32 v0 rfl rfl) h0
  have k1 := h1
  have lt1 : ∀ x ∈ p1, x.block < W.heap.size := by obtain ⟨m, hm⟩ := k1; exact DataW.trod_lt m _ _ _ hm
  obtain ⟨a1, rfl, b1⟩ := open_made (hval 1 32 v1 rfl rfl) h1
  clear hA0
  refine (walk a0 b0 a1 b1 W (tabs_of hL hsh)).mono fun e W' ⟨he, bel⟩ => ?_
  subst he
  exact ⟨_, rfl, _, _, _, [], _, [], hW', trodAll_mk1 (shut_bool Tryd.underlying4 _), trodAll_cons_mk (Below.trod laidOut (by kernel_rfl) (of_decide_eq_true (by kernel_rfl)) k0 bel lt0) (trodAll_cons_mk (Below.trod laidOut (by kernel_rfl) (of_decide_eq_true (by kernel_rfl)) k1 bel lt1) trodAll_mk0), rfl, bel.frame _, fun h => by cases h⟩

set_option maxRecDepth 100000 in
theorem laid_met (os : Os) : laidMet Tryd.prog Rows.dateOrdersRow.laid ((laidWorld os).forCall (fun _ _ => 0) ⟨#[], #[.agg #[.int .i64 0, .int .u8 0, .int .u8 0, .int .u8 0, .int .i16 0], .agg #[.int .i64 0, .int .u8 0, .int .u8 0, .int .u8 0, .int .i16 0]], []⟩).memory :=
  laidMet_of_run' 8 (by kernel_rfl) (by kernel_rfl)
set_option maxRecDepth 100000 in
theorem reads (os : Os) {H : Type} (enc : TypeId × Value → H) : ∃ places, DataW.whole enc Tryd.prog ((laidWorld os).forCall (fun _ _ => 0) ⟨#[], #[.agg #[.int .i64 0, .int .u8 0, .int .u8 0, .int .u8 0, .int .i16 0], .agg #[.int .i64 0, .int .u8 0, .int .u8 0, .int .u8 0, .int .i16 0]], []⟩).memory Tryd.f4.params.toList Rows.dateOrdersSpec.vars false #[Value.agg #[.int .i64 0, .int .u8 0, .int .u8 0, .int .u8 0, .int .i16 0], Value.agg #[.int .i64 0, .int .u8 0, .int .u8 0, .int .u8 0, .int .i16 0]].toList 8 = some ([.agg [.lit (.int .i64 0), .lit (.int .u8 0), .lit (.int .u8 0), .lit (.int .u8 0), .lit (.int .i16 0)], .agg [.lit (.int .i64 0), .lit (.int .u8 0), .lit (.int .u8 0), .lit (.int .u8 0), .lit (.int .i16 0)]], [], places) :=
  ⟨[], by kernel_rfl⟩

set_option maxRecDepth 100000 in
theorem lifted (os : Os) (started : os.Started) (H : Type) (enc : TypeId × Value → H) (F : Stop.Interp) :
    ReturnsInHanded {} Tryd.checked os 4 .any ((OpenSpec.ofChange Rows.dateOrdersSpec).preRow enc Tryd.prog Tryd.f4 Rows.dateOrdersRow.domain false Rows.dateOrdersRow.laid) (((OpenSpec.ofChange Rows.dateOrdersSpec).at F).post enc Tryd.prog Tryd.f4 false true false false) := by
  obtain ⟨places, hx⟩ := reads os enc
  refine returnsInHanded_of_row (C := Tryd.checked) (s := OpenSpec.ofChange Rows.dateOrdersSpec) own started (by kernel_rfl) Tryd.func4
    (witness_row_at (enc := enc) (C := Tryd.checked) false (laidWorld os) #[.agg #[.int .i64 0, .int .u8 0, .int .u8 0, .int .u8 0, .int .i16 0], .agg #[.int .i64 0, .int .u8 0, .int .u8 0, .int .u8 0, .int .i16 0]] rfl (by kernel_rfl) (by kernel_rfl) (by kernel_rfl)
      (OpenSpec.preRow_of_cond 8 hx (by kernel_rfl) (fun k hk => by cases hk) (by kernel_rfl) (laid_met os))) ?_
  intro W base args ds gs before hval hW _ _ _ hL hsh _
  exact contract H enc W base args ds gs before hval hW hL hsh

theorem said : Rows.DateOrdersSaid :=
  OpenClaim.holds_of_cond 4 Tryd.f4 rfl rfl rfl rfl rfl rfl rfl ⟨rfl, rfl, rfl, rfl, rfl⟩ rfl rfl rfl rfl rfl (by kernel_rfl) Tryd.func4 (by kernel_rfl)
    (of_decide_eq_true (by kernel_rfl)) (by unfold Func.isWrapper; first | (rw [if_pos (by decide +kernel)]; kernel_rfl) | (rw [if_neg (by decide +kernel)]; exact ⟨rfl, rfl⟩))
    (fun os started H enc _ F => by rw [OpenClaim.pre_eq_preRow]; exact lifted os started H enc F)

/-- No parameter wants a stand-in; the program's own looks are off. -/
theorem plain (f : FuncId) (fn : Func) (hf : Tryd.pinned.checked.prog.funcNamed "posthorn/posthornlaw06.DateOrders" = some f) (hfn : Tryd.pinned.checked.prog.funcs[f]? = some fn) :
    false = Tryd.pinned.checked.prog.looks [] ∧ ∀ (j : Nat) t, fn.params[j]? = some t → Tryd.pinned.checked.prog.wantsStandIn t = false := by
  obtain rfl : f = 4 := Option.some.inj ((show Tryd.prog.funcNamed "posthorn/posthornlaw06.DateOrders" = some 4 by kernel_rfl).symm.trans hf) |>.symm
  obtain rfl : fn = Tryd.f4 := (Option.some.inj (Tryd.func4.symm.trans hfn)).symm
  refine ⟨by kernel_rfl, fun j t ht => ?_⟩
  rw [Tryd.params4] at ht
  have hm : t ∈ [32, 32] := by simpa using Array.mem_of_getElem? ht
  have hall : ([32, 32].all fun u => !Tryd.prog.wantsStandIn u) = true := by kernel_rfl
  exact (show Tryd.prog.wantsStandIn t = false by simpa using List.all_eq_true.1 hall t hm)

/-- The card. -/
theorem card : Rows.DateOrdersCardSaid :=
  Claim7.holds_tied_plain_at .later [] _ _ _ _ said (fun _ h => by cases h) (by kernel_rfl) (fun _ h => by cases h) dateOrders_row_tie rfl ⟨rfl, rfl⟩ (by kernel_rfl) rfl plain (by kernel_rfl)
end Go.Proofs.YtedfnebadenmdabDoor.dateOrders
namespace Go.Proofs.YtedfnebadenmdabDoor
theorem dateOrders_card : Rows.DateOrdersCardSaid := dateOrders.card
#print axioms dateOrders_card
end Go.Proofs.YtedfnebadenmdabDoor
