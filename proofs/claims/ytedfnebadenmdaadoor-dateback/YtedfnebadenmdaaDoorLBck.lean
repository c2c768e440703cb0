/-
  For every made date the statement DateBack returns true.
-/
import Derived.Test.YtedfnebadenmdaaDoorCard6p
import Derived.Test.YtedfnebadenmdaaDoorHd
import Derived.Test.YtedfnebadenmdaaDoorMde
import Derived.Test.YtedfnebadenmdaaDoorPrb
import Derived.Test.YtedfnebadenmdaaDoorPrz
import Derived.ProofKit
import Derived.ChangeMaps5
import Derived.OpenShut
import Derived.ShutString
import Derived.ChangeOld
import Derived.SizedLaws
namespace Go.Proofs.YtedfnebadenmdaaDoor.dateBack
open Go.ChangeShapes Go.WideShapes Go.ChangeAt Go.RowKit

theorem may_in {x : Dt} (h : May x) : x.In := by
  obtain ⟨a, b, c, d, e, f⟩ := h.day
  have := longN_pos x.y x.mo
  have := h.h0; have := h.h1; have := h.m0; have := h.m1; have := h.s0; have := h.s1; have := h.z0; have := h.z1
  exact ⟨by omega, by omega, by omega, by omega, by omega, by omega, by omega, by omega, by omega, by omega, by omega, by omega, by omega, by omega⟩
theorem secs_may {x : Dt} (h : May x) (w : World) (ht : Tbl w) : Calls Tryd.prog 17 #[dtV x] w fun e w' => e = .returned (.tuple #[.int .i64 (secD x), .int .i64 0]) ∧ Below w.heap.size w w' := by
  have := secs_any x w ht.ah (may_in h)
  rw [(chk_may x).2 h, if_pos rfl] at this
  exact this
theorem of_may {x : Dt} (h : May x) (w : World) (ht : Tbl w) : Calls Tryd.prog 23 #[.int .i64 (secD x), .int .i16 x.z] w fun e w' => e = .returned (.tuple #[dtV x, .int .i64 0]) ∧ Below w.heap.size w w' := by
  refine (of_any (secD x) x.z w ht.ah).mono ?_
  rintro e w' ⟨ho, hb⟩
  refine ⟨?_, hb⟩
  have hr := numD_range h.day
  have hd : dayOf (secD x) x.z = numD x.y x.mo x.d := by
    have := h.h0; have := h.h1; have := h.m0; have := h.m1; have := h.s0; have := h.s1
    unfold dayOf secD
    omega
  unfold OfAns at ho
  rw [if_pos ⟨h.z0, h.z1⟩, hd, if_pos hr] at ho
  obtain ⟨u, rfl, hu⟩ := ho
  rw [secD_uniq hu.may h hu.zone hu.sec]
theorem parse_may {x : Dt} {t : ByteArray} (h : parse t.data.toList = ⟨x, 0, 0⟩) (hs : t.size ≤ 2000) (w : World) (ht : Tbl w) : Calls Tryd.prog 25 #[.string t] w fun e w' => e = .returned (ansV ⟨x, 0, 0⟩) ∧ Below w.heap.size w w' := by
  have := parse_any t w ht (by unfold maxLen; omega)
  rw [h] at this
  exact this
theorem civ_uniq {n y m d y' m' d' : Int} (h : Civ n y m d) (k : Civ n y' m' d') : y = y' ∧ m = m' ∧ d = d' := numD_uniq h.day k.day (h.num.trans k.num.symm)
theorem civ_may {x : Dt} (h : May x) (w : World) (ht : Tbl w) : Calls Tryd.prog 13 #[.int .i64 (numD x.y x.mo x.d)] w fun e w' => e = .returned (.tuple #[.int .i16 x.y, .int .i8 x.mo, .int .i8 x.d, .int .i64 0]) ∧ w' = w := by
  have hr := numD_range h.day
  refine (civil_in _ w ht.ah hr.1 hr.2).mono ?_
  rintro e w' ⟨y, m, d, rfl, rfl, hc⟩
  obtain ⟨rfl, rfl, rfl⟩ := civ_uniq hc ⟨h.day, rfl⟩
  exact ⟨rfl, rfl⟩
theorem days_may {x : Dt} (h : May x) (w : World) (ht : Tbl w) : Calls Tryd.prog 10 #[.int .i16 x.y, .int .i8 x.mo, .int .i8 x.d] w fun e w' => e = .returned (.tuple #[.int .i64 (numD x.y x.mo x.d), .int .i64 0]) ∧ w' = w := by
  have hi := may_in h
  have := days_any x.y x.mo x.d w ht.ah hi.y0 hi.y1 hi.mo0 hi.mo1 hi.d0 hi.d1
  rw [if_pos h.day, if_pos h.day] at this
  exact this
theorem check_may {x : Dt} (h : May x) (w : World) (ht : Tbl w) : Calls Tryd.prog 20 #[dtV x] w fun e w' => e = .returned (.int .i64 0) ∧ Below w.heap.size w w' := by
  have := check_any x w ht.ah (may_in h)
  rw [(chk_may x).2 h] at this
  exact this

set_option maxHeartbeats 8000000 in
theorem walk (o : Md) (ho : o.In) (w : World) (ht : Tbp w) :
    Calls Tryd.prog 8 #[mdV o] w fun e w' => e = .returned (.bool true) ∧ Below w.heap.size w w' := by
  have HT : Hid (Tbl w) := ht.tb
  have HPW : Hid (PowTab w) := ht.pw
  have HO : Hid o.In := ho
  have HBa : Hid (Below w.heap.size w (w.alloc (.cells (mdC o) 49))) := (Below.refl _ _).alloc (Nat.le_refl _) _
  have HLa : Hid (Lies (w.alloc (.cells (mdC o) 49)) w.heap.size (mdC o) 49) := Lies.new w _ _
  have HH := head_any _ (HT.out.below HBa.out)
  unfold mdC at HH
  clear ht ho
  unfold mdV
  go_enter Tryd.func8, Tryd.ntmps8
  go_wp2_with fail
  refine Calls.mono HH ?_
  rintro e w1 ⟨rfl, hb⟩
  have HB1 : Hid (Below w.heap.size w w1) := HBa.out.trans (hb.mono HBa.out.size)
  have HLb : Hid (Lies w1 w.heap.size (mdC o) 49) := HLa.out.below hb HLa.out.lt
  clear hb HH HBa HLa
  generalize w.heap.size = B0 at HLb ⊢
  have a0 := HLb.out.cell 0
  have a1 := HLb.out.cell 1
  have a2 := HLb.out.cell 2
  have a3 := HLb.out.cell 3
  have a4 := HLb.out.cell 4
  simp only [mdC, List.getElem?_toArray, List.getElem?_cons_zero, List.getElem?_cons_succ] at a0 a1 a2 a3 a4
  have HMD := made_any o w1 (HT.out.below HB1.out).ah HO.out
  unfold mdV at HMD
  go_wp2_with fail
  refine Calls.mono HMD ?_
  rintro e w1b ⟨x, rfl, hx, hxz, hb⟩
  clear hxz
  have HX : Hid (May x) := hx
  have HB2 : Hid (Below w.heap.size w (w1b.alloc (.cells (dtC x) 34))) := (HB1.out.trans (hb.mono HB1.out.size)).alloc (Nat.le_trans HB1.out.size hb.size) _
  have HL2 : Hid (Lies (w1b.alloc (.cells (dtC x) 34)) w1b.heap.size (dtC x) 34) := Lies.new w1b _ _
  clear a0 a1 a2 a3 a4 hx hb HMD HLb HB1
  have HCK := check_may HX.out (w1b.alloc (.cells (dtC x) 34)) (HT.out.below HB2.out)
  unfold dtV dtC at HCK
  unfold dtV
  go_wp2_with fail
  refine Calls.mono HCK ?_
  generalize hD : w1b.heap.size = D at HL2
  rintro e w3 ⟨rfl, hb⟩
  have HB3 : Hid (Below w.heap.size w w3) := HB2.out.trans (hb.mono (by have := HB2.out.size; simpa [dtC] using this))
  have HL3 : Hid (Lies w3 D (dtC x) 34) := HL2.out.below hb (by have := HL2.out.lt; simpa [dtC] using this)
  clear hb HCK HB2 HL2 hD
  have c0 := HL3.out.cell 0
  have c1 := HL3.out.cell 1
  have c2 := HL3.out.cell 2
  have c3 := HL3.out.cell 3
  have c4 := HL3.out.cell 4
  have c5 := HL3.out.cell 5
  have c6 := HL3.out.cell 6
  simp only [dtC, List.getElem?_toArray, List.getElem?_cons_zero, List.getElem?_cons_succ] at c0 c1 c2 c3 c4 c5 c6
  obtain ⟨t, hpr, hpa, hform⟩ := print_any x HX.out
  have hts : t.size ≤ 2000 := print_size HX.out hform
  have HPA : Hid (parse t.data.toList = ⟨x, 0, 0⟩) := hpa
  have HPR := hpr w3 (HT.out.below HB3.out).ah (HPW.out.below HB3.out)
  unfold dtV at HPR
  clear hpr hpa hform
  go_wp2_with fail
  refine Calls.mono HPR ?_
  rintro e w4 ⟨rfl, hb⟩
  have HB4 : Hid (Below w.heap.size w w4) := HB3.out.trans (hb.mono HB3.out.size)
  have HL4 : Hid (Lies w4 D (dtC x) 34) := HL3.out.below hb HL3.out.lt
  clear c0 c1 c2 c3 c4 c5 c6
  clear hb HPR HB3 HL3
  have HPS := parse_may HPA.out hts w4 (HT.out.below HB4.out)
  unfold ansV dtV at HPS
  go_wp2_with fail
  refine Calls.mono HPS ?_
  rintro e w5 ⟨rfl, hb⟩
  have HBx : Hid (Below w.heap.size w w5) := HB4.out.trans (hb.mono HB4.out.size)
  have HB5 : Hid (Below w.heap.size w ((w5.alloc (.cells (dtC x) 34)).alloc (.cells #[.int .i64 0, .int .i64 0] 44))) := (HBx.out.alloc HBx.out.size _).alloc (by simp; have := HBx.out.size; omega) _
  have HL5 : Hid (Lies ((w5.alloc (.cells (dtC x) 34)).alloc (.cells #[.int .i64 0, .int .i64 0] 44)) D (dtC x) 34) := ((HL4.out.below hb HL4.out.lt).alloc _).alloc _
  have HM5 : Hid (Lies ((w5.alloc (.cells (dtC x) 34)).alloc (.cells #[.int .i64 0, .int .i64 0] 44)) w5.heap.size (dtC x) 34) := (Lies.new w5 _ _).alloc _
  have HN5 : Hid (Lies ((w5.alloc (.cells (dtC x) 34)).alloc (.cells #[.int .i64 0, .int .i64 0] 44)) (w5.heap.size + 1) #[.int .i64 0, .int .i64 0] 44) := new_one w5 _ _ _
  clear hb HPS HB4 HL4 HBx
  have c0 := HL5.out.cell 0
  have c1 := HL5.out.cell 1
  have c2 := HL5.out.cell 2
  have c3 := HL5.out.cell 3
  have c4 := HL5.out.cell 4
  have c5 := HL5.out.cell 5
  have c6 := HL5.out.cell 6
  simp only [dtC, List.getElem?_toArray, List.getElem?_cons_zero, List.getElem?_cons_succ] at c0 c1 c2 c3 c4 c5 c6
  have HSE := secs_may HX.out ((w5.alloc (.cells (dtC x) 34)).alloc (.cells #[.int .i64 0, .int .i64 0] 44)) (HT.out.below HB5.out)
  unfold dtV dtC at HSE
  go_wp2_with fail
  refine Calls.mono HSE ?_
  rintro e w6 ⟨rfl, hb⟩
  have hb : Below ((w5.alloc (.cells (dtC x) 34)).alloc (.cells #[.int .i64 0, .int .i64 0] 44)).heap.size ((w5.alloc (.cells (dtC x) 34)).alloc (.cells #[.int .i64 0, .int .i64 0] 44)) w6 := hb
  have HB6 : Hid (Below w.heap.size w w6) := HB5.out.trans (hb.mono HB5.out.size)
  have HL6 : Hid (Lies w6 D (dtC x) 34) := HL5.out.below hb HL5.out.lt
  have HM6 : Hid (Lies w6 w5.heap.size (dtC x) 34) := HM5.out.below hb HM5.out.lt
  have HN6 : Hid (Lies w6 (w5.heap.size + 1) #[.int .i64 0, .int .i64 0] 44) := HN5.out.below hb HN5.out.lt
  clear c0 c1 c2 c3 c4 c5 c6
  clear hb HSE HB5 HL5 HM5 HN5
  generalize w5.heap.size + 1 = E2 at HN6 ⊢
  generalize w5.heap.size = E1 at HM6 ⊢
  have c6 := HL6.out.cell 6
  simp only [dtC, List.getElem?_toArray, List.getElem?_cons_zero, List.getElem?_cons_succ] at c6
  have HOF := of_may HX.out w6 (HT.out.below HB6.out)
  unfold dtV at HOF
  go_wp2_with fail
  refine Calls.mono HOF ?_
  rintro e w7 ⟨rfl, hb⟩
  have HB8 : Hid (Below w.heap.size w (w7.alloc (.cells (dtC x) 34))) := (HB6.out.trans (hb.mono HB6.out.size)).alloc (Nat.le_trans HB6.out.size hb.size) _
  have HL8 : Hid (Lies (w7.alloc (.cells (dtC x) 34)) D (dtC x) 34) := (HL6.out.below hb HL6.out.lt).alloc _
  have HM8 : Hid (Lies (w7.alloc (.cells (dtC x) 34)) E1 (dtC x) 34) := (HM6.out.below hb HM6.out.lt).alloc _
  have HN8 : Hid (Lies (w7.alloc (.cells (dtC x) 34)) E2 #[.int .i64 0, .int .i64 0] 44) := (HN6.out.below hb HN6.out.lt).alloc _
  have HK8 : Hid (Lies (w7.alloc (.cells (dtC x) 34)) w7.heap.size (dtC x) 34) := Lies.new w7 _ _
  clear c6 hb HOF HB6 HL6 HM6 HN6
  have c0 := HL8.out.cell 0
  have c1 := HL8.out.cell 1
  have c2 := HL8.out.cell 2
  have c3 := HL8.out.cell 3
  have c4 := HL8.out.cell 4
  have c5 := HL8.out.cell 5
  have c6 := HL8.out.cell 6
  simp only [dtC, List.getElem?_toArray, List.getElem?_cons_zero, List.getElem?_cons_succ] at c0 c1 c2 c3 c4 c5 c6
  have d0 := HM8.out.cell 0
  have d1 := HM8.out.cell 1
  have d2 := HM8.out.cell 2
  have d3 := HM8.out.cell 3
  have d4 := HM8.out.cell 4
  have d5 := HM8.out.cell 5
  have d6 := HM8.out.cell 6
  simp only [dtC, List.getElem?_toArray, List.getElem?_cons_zero, List.getElem?_cons_succ] at d0 d1 d2 d3 d4 d5 d6
  have k0 := HK8.out.cell 0
  have k1 := HK8.out.cell 1
  have k2 := HK8.out.cell 2
  have k3 := HK8.out.cell 3
  have k4 := HK8.out.cell 4
  have k5 := HK8.out.cell 5
  have k6 := HK8.out.cell 6
  simp only [dtC, List.getElem?_toArray, List.getElem?_cons_zero, List.getElem?_cons_succ] at k0 k1 k2 k3 k4 k5 k6
  have n0 := HN8.out.cell 0
  have n1 := HN8.out.cell 1
  simp only [List.getElem?_toArray, List.getElem?_cons_zero, List.getElem?_cons_succ] at n0 n1
  simp only [dtC] at n0 n1
  have HDA := days_may HX.out (w7.alloc (.cells (dtC x) 34)) (HT.out.below HB8.out)
  have HCI := civ_may HX.out (w7.alloc (.cells (dtC x) 34)) (HT.out.below HB8.out)
  simp only [dtC] at HB8
  unfold dtC at HDA HCI
  clear HL8 HM8 HN8 HK8 hts
  go_wp2_with fail
  refine Calls.mono HDA ?_
  rintro e w8 ⟨rfl, rfl⟩
  go_wp2_with fail
  refine Calls.mono HCI ?_
  rintro e w8 ⟨rfl, rfl⟩
  clear HDA HCI
  go_wp2
  go_ret
  exact ⟨rfl, HB8.out⟩

set_option maxRecDepth 100000 in
theorem contract (H : Type) (enc : TypeId × Value → H) (W : World) (base : Nat) (args : Array Value) (ds gs : List (DataW H)) (before : List MemPlace)
    (hval : ∀ (j : Nat) t v, Tryd.f8.params[j]? = some t → args[j]? = some v → Value.okWide Tryd.prog W .any base t v)
    (hW : DataW.Whole enc Tryd.prog Tryd.f8.params.toList Rows.dateBackSpec.vars false W args.toList ds gs before)
    (hL : laidMetH Tryd.prog Rows.dateBackRow.laid W) (hsh : W.ShapedOpen Tryd.prog) :
    Calls Tryd.prog 8 args W fun e W' => ∃ v, e = .returned v ∧ Rows.dateBackSpec.post enc Tryd.prog Tryd.f8 false true false false W args v W' := by
  have hW' := hW
  obtain ⟨p, q, hA0, hV, rfl, hfz, hnd⟩ := hW
  have hA : DataW.TrodAll enc Tryd.prog W 0 (fun _ => true) true Tryd.f8.params.toList args.toList ds p := hA0
  rw [Tryd.params8] at hA hval
  obtain ⟨v0, vs0, d0, ds0, p0, q0, hargs, rfl, rfl, h0, r0⟩ := trodAll_cons hA
  obtain ⟨rfl, rfl, rfl⟩ := trodAll_nil r0
  obtain rfl : args = #[v0] := by cases args; simp_all
  obtain ⟨rfl, rfl⟩ := trodVars_none hV
  have k0 := h0
  have lt0 : ∀ x ∈ p0, x.block < W.heap.size := by obtain ⟨m, hm⟩ := k0; exact DataW.trod_lt m _ _ _ hm
  obtain ⟨a0, rfl, b0⟩ := open_made (hval 0 49 v0 rfl rfl) h0
  clear hA0
  refine (walk a0 b0 W (tabs6_of hL hsh)).mono fun e W' ⟨he, bel⟩ => ?_
  subst he
  exact ⟨_, rfl, _, _, _, [], _, [], hW', trodAll_mk1 (shut_bool Tryd.underlying4 _), trodAll_cons_mk (Below.trod laidOut (by kernel_rfl) (of_decide_eq_true (by kernel_rfl)) k0 bel lt0) trodAll_mk0, rfl, bel.frame _, fun h => by cases h⟩

set_option maxRecDepth 100000 in
theorem laid_met (os : Os) : laidMet Tryd.prog Rows.dateBackRow.laid ((laidWorld6 os).forCall (fun _ _ => 0) ⟨#[], #[.agg #[.int .i64 0, .int .u8 0, .int .u8 0, .int .u8 0, .int .i16 0]], []⟩).memory :=
  laidMet_of_run' 8 (by kernel_rfl) (by kernel_rfl)
set_option maxRecDepth 100000 in
theorem reads (os : Os) {H : Type} (enc : TypeId × Value → H) : ∃ places, DataW.whole enc Tryd.prog ((laidWorld6 os).forCall (fun _ _ => 0) ⟨#[], #[.agg #[.int .i64 0, .int .u8 0, .int .u8 0, .int .u8 0, .int .i16 0]], []⟩).memory Tryd.f8.params.toList Rows.dateBackSpec.vars false #[Value.agg #[.int .i64 0, .int .u8 0, .int .u8 0, .int .u8 0, .int .i16 0]].toList 8 = some ([.agg [.lit (.int .i64 0), .lit (.int .u8 0), .lit (.int .u8 0), .lit (.int .u8 0), .lit (.int .i16 0)]], [], places) :=
  ⟨[], by kernel_rfl⟩

set_option maxRecDepth 100000 in
theorem lifted (os : Os) (started : os.Started) (H : Type) (enc : TypeId × Value → H) (F : Stop.Interp) :
    ReturnsInHanded {} Tryd.checked os 8 .any ((OpenSpec.ofChange Rows.dateBackSpec).preRow enc Tryd.prog Tryd.f8 Rows.dateBackRow.domain false Rows.dateBackRow.laid) (((OpenSpec.ofChange Rows.dateBackSpec).at F).post enc Tryd.prog Tryd.f8 false true false false) := by
  obtain ⟨places, hx⟩ := reads os enc
  refine returnsInHanded_of_row (C := Tryd.checked) (s := OpenSpec.ofChange Rows.dateBackSpec) own started (by kernel_rfl) Tryd.func8
    (witness_row_at (enc := enc) (C := Tryd.checked) false (laidWorld6 os) #[.agg #[.int .i64 0, .int .u8 0, .int .u8 0, .int .u8 0, .int .i16 0]] rfl (by kernel_rfl) (by kernel_rfl) (by kernel_rfl)
      (OpenSpec.preRow_of_cond 8 hx (by kernel_rfl) (fun k hk => by cases hk) (by kernel_rfl) (laid_met os))) ?_
  intro W base args ds gs before hval hW _ _ _ hL hsh _
  exact contract H enc W base args ds gs before hval hW hL hsh

theorem said : Rows.DateBackSaid :=
  OpenClaim.holds_of_cond 8 Tryd.f8 rfl rfl rfl rfl rfl rfl rfl ⟨rfl, rfl, rfl, rfl, rfl⟩ rfl rfl rfl rfl rfl (by kernel_rfl) Tryd.func8 (by kernel_rfl)
    (of_decide_eq_true (by kernel_rfl)) (by unfold Func.isWrapper; first | (rw [if_pos (by decide +kernel)]; kernel_rfl) | (rw [if_neg (by decide +kernel)]; exact ⟨rfl, rfl⟩))
    (fun os started H enc _ F => by rw [OpenClaim.pre_eq_preRow]; exact lifted os started H enc F)

/-- No parameter wants a stand-in; the program's own looks are off. -/
theorem plain (f : FuncId) (fn : Func) (hf : Tryd.pinned.checked.prog.funcNamed "posthorn/posthornlaw06.DateBack" = some f) (hfn : Tryd.pinned.checked.prog.funcs[f]? = some fn) :
    false = Tryd.pinned.checked.prog.looks [] ∧ ∀ (j : Nat) t, fn.params[j]? = some t → Tryd.pinned.checked.prog.wantsStandIn t = false := by
  obtain rfl : f = 8 := Option.some.inj ((show Tryd.prog.funcNamed "posthorn/posthornlaw06.DateBack" = some 8 by kernel_rfl).symm.trans hf) |>.symm
  obtain rfl : fn = Tryd.f8 := (Option.some.inj (Tryd.func8.symm.trans hfn)).symm
  refine ⟨by kernel_rfl, fun j t ht => ?_⟩
  rw [Tryd.params8] at ht
  have hm : t ∈ [49] := by simpa using Array.mem_of_getElem? ht
  have hall : ([49].all fun u => !Tryd.prog.wantsStandIn u) = true := by kernel_rfl
  exact (show Tryd.prog.wantsStandIn t = false by simpa using List.all_eq_true.1 hall t hm)

/-- The card. -/
theorem card : Rows.DateBackCardSaid :=
  Claim7.holds_tied_plain_at .later [] _ _ _ _ said (fun _ h => by cases h) (by kernel_rfl) (fun _ h => by cases h) dateBack_row_tie rfl ⟨rfl, rfl⟩ (by kernel_rfl) rfl plain (by kernel_rfl)
end Go.Proofs.YtedfnebadenmdaaDoor.dateBack
namespace Go.Proofs.YtedfnebadenmdaaDoor
theorem dateBack_card : Rows.DateBackCardSaid := dateBack.card
#print axioms dateBack_card
end Go.Proofs.YtedfnebadenmdaaDoor
