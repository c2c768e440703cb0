/-
  For every text the statement DateParses returns true.
-/
import Derived.Test.YtedfnebadenmdaaDoorCard6
import Derived.Test.YtedfnebadenmdaaDoorHd
import Derived.Test.YtedfnebadenmdaaDoorRpr
import Derived.ProofKit
import Derived.ChangeMaps5
import Derived.OpenShut
import Derived.ShutString
import Derived.ChangeOld
import Derived.SizedLaws
namespace Go.Proofs.YtedfnebadenmdaaDoor.dateParses
open Go.ChangeShapes Go.WideShapes Go.ChangeAt Go.RowKit
open Go.ChangeMaps (open_string shut_string)

set_option maxHeartbeats 4000000 in
theorem walk (s : ByteArray) (hs : s.size ≤ 140737488351232) (w : World) (ht : Tbl w) :
    Calls Tryd.prog 7 #[.string s] w fun e w' => e = .returned (.bool true) ∧ Below w.heap.size w w' := by
  have HT : Hid (Tbl w) := ht
  have HS : Hid (s.size ≤ maxLen) := by show _ ≤ _; unfold maxLen; omega
  have HR := rparse_any s w ht.sz HS.out
  obtain ⟨a, ha⟩ : ∃ a, a = parse s.data.toList := ⟨_, rfl⟩
  rw [← ha] at HR
  have HP : Hid (∀ w, Tbl w → Calls Tryd.prog 25 #[.string s] w fun e w' => e = .returned (ansV a) ∧ Below w.heap.size w w') := fun w h => by
    have := parse_any s w h HS.out
    rw [← ha] at this
    exact this
  clear ha ht hs HS
  unfold ansV dtV at HR HP
  go_enter Tryd.func7, Tryd.ntmps7
  go_wp2_with fail
  refine Calls.mono HR ?_
  rintro e w1 ⟨rfl, hb⟩
  have HB1 : Hid (Below w.heap.size w ((w1.alloc (.cells (dtC a.d) 34)).alloc (.cells #[.int .i64 a.e, .int .i64 a.p] 44))) := (hb.alloc hb.size _).alloc (by simp; have := hb.size; omega) _
  have HA1 : Hid (Lies ((w1.alloc (.cells (dtC a.d) 34)).alloc (.cells #[.int .i64 a.e, .int .i64 a.p] 44)) w1.heap.size (dtC a.d) 34) := (Lies.new w1 _ _).alloc _
  have HC1 : Hid (Lies ((w1.alloc (.cells (dtC a.d) 34)).alloc (.cells #[.int .i64 a.e, .int .i64 a.p] 44)) (w1.heap.size + 1) #[.int .i64 a.e, .int .i64 a.p] 44) := new_one w1 _ _ _
  have HPS := HP.out ((w1.alloc (.cells (dtC a.d) 34)).alloc (.cells #[.int .i64 a.e, .int .i64 a.p] 44)) (HT.out.below HB1.out)
  unfold dtC at HPS
  clear hb HR HP
  go_wp2_with fail
  refine Calls.mono HPS ?_
  rintro e w3 ⟨rfl, hb3⟩
  have hb3 : Below ((w1.alloc (.cells (dtC a.d) 34)).alloc (.cells #[.int .i64 a.e, .int .i64 a.p] 44)).heap.size ((w1.alloc (.cells (dtC a.d) 34)).alloc (.cells #[.int .i64 a.e, .int .i64 a.p] 44)) w3 := hb3
  have HBx : Hid (Below w.heap.size w w3) := HB1.out.trans (hb3.mono HB1.out.size)
  have HB3 : Hid (Below w.heap.size w ((w3.alloc (.cells (dtC a.d) 34)).alloc (.cells #[.int .i64 a.e, .int .i64 a.p] 44))) := (HBx.out.alloc HBx.out.size _).alloc (by simp; have := HBx.out.size; omega) _
  have L1 : Hid (Lies ((w3.alloc (.cells (dtC a.d) 34)).alloc (.cells #[.int .i64 a.e, .int .i64 a.p] 44)) w1.heap.size (dtC a.d) 34) := ((HA1.out.below hb3 HA1.out.lt).alloc _).alloc _
  have L2 : Hid (Lies ((w3.alloc (.cells (dtC a.d) 34)).alloc (.cells #[.int .i64 a.e, .int .i64 a.p] 44)) (w1.heap.size + 1) #[.int .i64 a.e, .int .i64 a.p] 44) := ((HC1.out.below hb3 HC1.out.lt).alloc _).alloc _
  have L3 : Hid (Lies ((w3.alloc (.cells (dtC a.d) 34)).alloc (.cells #[.int .i64 a.e, .int .i64 a.p] 44)) w3.heap.size (dtC a.d) 34) := (Lies.new w3 _ _).alloc _
  have L4 : Hid (Lies ((w3.alloc (.cells (dtC a.d) 34)).alloc (.cells #[.int .i64 a.e, .int .i64 a.p] 44)) (w3.heap.size + 1) #[.int .i64 a.e, .int .i64 a.p] 44) := new_one w3 _ _ _
  clear hb3 HPS HB1 HA1 HC1 HBx
  generalize w1.heap.size + 1 = E2 at L2 ⊢
  generalize w1.heap.size = E1 at L1 ⊢
  have c0 := L1.out.cell 0
  have c1 := L1.out.cell 1
  have c2 := L1.out.cell 2
  have c3 := L1.out.cell 3
  have c4 := L1.out.cell 4
  have c5 := L1.out.cell 5
  have c6 := L1.out.cell 6
  simp only [dtC, List.getElem?_toArray, List.getElem?_cons_zero, List.getElem?_cons_succ] at c0 c1 c2 c3 c4 c5 c6
  have d0 := L2.out.cell 0
  have d1 := L2.out.cell 1
  simp only [dtC, List.getElem?_toArray, List.getElem?_cons_zero, List.getElem?_cons_succ] at d0 d1
  have k0 := L3.out.cell 0
  have k1 := L3.out.cell 1
  have k2 := L3.out.cell 2
  have k3 := L3.out.cell 3
  have k4 := L3.out.cell 4
  have k5 := L3.out.cell 5
  have k6 := L3.out.cell 6
  simp only [dtC, List.getElem?_toArray, List.getElem?_cons_zero, List.getElem?_cons_succ] at k0 k1 k2 k3 k4 k5 k6
  have n0 := L4.out.cell 0
  have n1 := L4.out.cell 1
  simp only [dtC, List.getElem?_toArray, List.getElem?_cons_zero, List.getElem?_cons_succ] at n0 n1
  have HH := head_any ((w3.alloc (.cells (dtC a.d) 34)).alloc (.cells #[.int .i64 a.e, .int .i64 a.p] 44)) (HT.out.below HB3.out)
  simp only [dtC] at HB3
  unfold dtC at HH
  clear L1 L2 L3 L4
  go_wp2_with fail
  refine Calls.mono HH ?_
  rintro e w4 ⟨rfl, hb4⟩
  have HB4 : Hid (Below w.heap.size w w4) := HB3.out.trans (hb4.mono HB3.out.size)
  clear hb4 HH c0 c1 c2 c3 c4 c5 c6 d0 d1 k0 k1 k2 k3 k4 k5 k6 n0 n1
  go_wp2
  go_ret
  exact ⟨rfl, HB4.out⟩

set_option maxRecDepth 100000 in
theorem contract (H : Type) (enc : TypeId × Value → H) (W : World) (base : Nat) (args : Array Value) (ds gs : List (DataW H)) (before : List MemPlace)
    (hval : ∀ (j : Nat) t v, Tryd.f7.params[j]? = some t → args[j]? = some v → Value.okWide Tryd.prog W .any base t v)
    (hW : DataW.Whole enc Tryd.prog Tryd.f7.params.toList Rows.dateParsesSpec.vars false W args.toList ds gs before)
    (hsz : (DataW.weightsEach Tryd.prog (Tryd.f7.params.toList ++ (OpenSpec.ofChange Rows.dateParsesSpec).bare.plain.varTypes Tryd.prog) (ds ++ gs)).all (· ≤ reachBytes) = true)
    (hL : laidMetH Tryd.prog Rows.dateParsesRow.laid W) (hsh : W.ShapedOpen Tryd.prog) :
    Calls Tryd.prog 7 args W fun e W' => ∃ v, e = .returned v ∧ Rows.dateParsesSpec.post enc Tryd.prog Tryd.f7 false true false false W args v W' := by
  have hW' := hW
  obtain ⟨p, q, hA0, hV, rfl, hfz, hnd⟩ := hW
  have hA : DataW.TrodAll enc Tryd.prog W 0 (fun _ => true) true Tryd.f7.params.toList args.toList ds p := hA0
  rw [Tryd.params7] at hA hval hsz
  obtain ⟨v0, vs0, d0, ds0, p0, q0, hargs, rfl, rfl, h0, r0⟩ := trodAll_cons hA
  obtain ⟨rfl, rfl, rfl⟩ := trodAll_nil r0
  obtain rfl : args = #[v0] := by cases args; simp_all
  obtain ⟨rfl, rfl⟩ := trodVars_none hV
  obtain ⟨a0, rfl, rfl, rfl, w0⟩ := open_string Tryd.underlying9 (hval 0 9 v0 rfl rfl) h0
  clear hA0
  have s0 := sized_string hsz (j := 0) (t := 9) rfl rfl
  simp only [reachBytes, Array.length_toList] at s0
  simp only [List.append_nil] at hW'
  refine (walk a0 s0 W (tabs_of hL hsh)).mono fun e W' ⟨he, bel⟩ => ?_
  subst he
  exact ⟨_, rfl, _, _, _, [], [], [], hW', trodAll_mk1 (shut_bool Tryd.underlying4 _), trodAll_cons_mk (shut_string Tryd.underlying9 w0) trodAll_mk0, rfl, bel.frame _, fun h => by cases h⟩

set_option maxRecDepth 100000 in
theorem laid_met (os : Os) : laidMet Tryd.prog Rows.dateParsesRow.laid ((laidWorld os).forCall (fun _ _ => 0) ⟨#[], #[.string ByteArray.empty], []⟩).memory :=
  laidMet_of_run' 8 (by kernel_rfl) (by kernel_rfl)
set_option maxRecDepth 100000 in
theorem reads (os : Os) {H : Type} (enc : TypeId × Value → H) : ∃ places, DataW.whole enc Tryd.prog ((laidWorld os).forCall (fun _ _ => 0) ⟨#[], #[.string ByteArray.empty], []⟩).memory Tryd.f7.params.toList Rows.dateParsesSpec.vars false #[Value.string ByteArray.empty].toList 8 = some ([.lit (.string [])], [], places) :=
  ⟨[], by kernel_rfl⟩

set_option maxRecDepth 100000 in
theorem lifted (os : Os) (started : os.Started) (H : Type) (enc : TypeId × Value → H) (F : Stop.Interp) :
    ReturnsInHanded {} Tryd.checked os 7 .any ((OpenSpec.ofChange Rows.dateParsesSpec).preRow enc Tryd.prog Tryd.f7 Rows.dateParsesRow.domain false Rows.dateParsesRow.laid) (((OpenSpec.ofChange Rows.dateParsesSpec).at F).post enc Tryd.prog Tryd.f7 false true false false) := by
  obtain ⟨places, hx⟩ := reads os enc
  refine returnsInHanded_of_row (C := Tryd.checked) (s := OpenSpec.ofChange Rows.dateParsesSpec) own started (by kernel_rfl) Tryd.func7
    (witness_row_at (enc := enc) (C := Tryd.checked) false (laidWorld os) #[.string ByteArray.empty] rfl (by kernel_rfl) (by kernel_rfl) (by kernel_rfl)
      (OpenSpec.preRow_of_cond 8 hx (by kernel_rfl) (fun k hk => by cases hk) (by kernel_rfl) (laid_met os))) ?_
  intro W base args ds gs before hval hW _ _ hsz hL hsh _
  exact contract H enc W base args ds gs before hval hW hsz hL hsh

theorem said : Rows.DateParsesSaid :=
  OpenClaim.holds_of_cond 7 Tryd.f7 rfl rfl rfl rfl rfl rfl rfl ⟨rfl, rfl, rfl, rfl, rfl⟩ rfl rfl rfl rfl rfl (by kernel_rfl) Tryd.func7 (by kernel_rfl)
    (of_decide_eq_true (by kernel_rfl)) (by unfold Func.isWrapper; first | (rw [if_pos (by decide +kernel)]; kernel_rfl) | (rw [if_neg (by decide +kernel)]; exact ⟨rfl, rfl⟩))
    (fun os started H enc _ F => by rw [OpenClaim.pre_eq_preRow]; exact lifted os started H enc F)

/-- No parameter wants a stand-in; the program's own looks are off. -/
theorem plain (f : FuncId) (fn : Func) (hf : Tryd.pinned.checked.prog.funcNamed "posthorn/posthornlaw06.DateParses" = some f) (hfn : Tryd.pinned.checked.prog.funcs[f]? = some fn) :
    false = Tryd.pinned.checked.prog.looks [] ∧ ∀ (j : Nat) t, fn.params[j]? = some t → Tryd.pinned.checked.prog.wantsStandIn t = false := by
  obtain rfl : f = 7 := Option.some.inj ((show Tryd.prog.funcNamed "posthorn/posthornlaw06.DateParses" = some 7 by kernel_rfl).symm.trans hf) |>.symm
  obtain rfl : fn = Tryd.f7 := (Option.some.inj (Tryd.func7.symm.trans hfn)).symm
  refine ⟨by kernel_rfl, fun j t ht => ?_⟩
  rw [Tryd.params7] at ht
  have hm : t ∈ [9] := by simpa using Array.mem_of_getElem? ht
  have hall : ([9].all fun u => !Tryd.prog.wantsStandIn u) = true := by kernel_rfl
  exact (show Tryd.prog.wantsStandIn t = false by simpa using List.all_eq_true.1 hall t hm)

/-- The card. -/
theorem card : Rows.DateParsesCardSaid :=
  Claim7.holds_tied_plain_at .later [] _ _ _ _ said (fun _ h => by cases h) (by kernel_rfl) (fun _ h => by cases h) dateParses_row_tie rfl ⟨rfl, rfl⟩ (by kernel_rfl) rfl plain (by kernel_rfl)
end Go.Proofs.YtedfnebadenmdaaDoor.dateParses
namespace Go.Proofs.YtedfnebadenmdaaDoor
theorem dateParses_card : Rows.DateParsesCardSaid := dateParses.card
#print axioms dateParses_card
end Go.Proofs.YtedfnebadenmdaaDoor
