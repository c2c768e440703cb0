/-
  For every second and every zone the statement DateOfs returns true.
-/
import Derived.Test.YtedfnebadenmdaaDoorCard6
import Derived.Test.YtedfnebadenmdaaDoorHd
import Derived.Test.YtedfnebadenmdaaDoorRciv
import Derived.ProofKit
import Derived.ChangeMaps5
import Derived.OpenShut
import Derived.ShutString
import Derived.ChangeOld
import Derived.SizedLaws
namespace Go.Proofs.YtedfnebadenmdaaDoor.dateOfs
open Go.ChangeShapes Go.WideShapes Go.ChangeAt Go.RowKit

theorem ofAns_uniq {n z : Int} {e f : Ending} (h : OfAns n z e) (k : OfAns n z f) : e = f := by
  unfold OfAns at h k
  by_cases hz : -1439 ≤ z ∧ z ≤ 1439
  · rw [if_pos hz] at h k
    by_cases hd : -719162 ≤ dayOf n z ∧ dayOf n z ≤ 2932896
    · rw [if_pos hd] at h k
      obtain ⟨x, rfl, hx⟩ := h
      obtain ⟨u, rfl, hu⟩ := k
      rw [secD_uniq hx.may hu.may (hx.zone.trans hu.zone.symm) (hx.sec.trans hu.sec.symm)]
    · rw [if_neg hd] at h k
      rw [h, k]
  · rw [if_neg hz] at h k
    rw [h, k]
/-- Whatever it is, it is a date and an error. -/
theorem ofAns_form {n z : Int} {e : Ending} (h : OfAns n z e) : ∃ (x : Dt) (c : Int), e = .returned (.tuple #[dtV x, .int .i64 c]) := by
  unfold OfAns at h
  split at h
  · split at h
    · obtain ⟨x, rfl, _⟩ := h
      exact ⟨x, 0, rfl⟩
    · exact ⟨_, _, h⟩
  · exact ⟨_, _, h⟩
set_option maxHeartbeats 2000000 in
theorem walk (n : Int) (_ : -9223372036854775808 ≤ n ∧ n ≤ 9223372036854775807) (z : Int) (_ : -32768 ≤ z ∧ z ≤ 32767) (w : World) (ht : Tbl w) :
    Calls Tryd.prog 6 #[.int .i64 n, .int .i16 z] w fun e w' => e = .returned (.bool true) ∧ Below w.heap.size w w' := by
  have HT : Hid (Tbl w) := ht
  have HR := rof_any n z w
  clear ht
  go_enter Tryd.func6, Tryd.ntmps6
  go_wp2_with fail
  refine Calls.mono HR ?_
  rintro e w1 ⟨h1, hb1⟩
  obtain ⟨x, c, rfl⟩ := ofAns_form h1
  have HO : Hid (OfAns n z (.returned (.tuple #[dtV x, .int .i64 c]))) := h1
  have HB1 : Hid (Below w.heap.size w (w1.alloc (.cells (dtC x) 34))) := hb1.alloc hb1.size _
  have HT1 : Hid (Tbl (w1.alloc (.cells (dtC x) 34))) := HT.out.below HB1.out
  have HL : Hid (Lies (w1.alloc (.cells (dtC x) 34)) w1.heap.size (dtC x) 34) := Lies.new w1 _ _
  clear h1 hb1 HR
  unfold dtC at HB1 HT1 HL
  unfold dtV
  go_wp2_with fail
  refine (of_any n z _ HT1.out.ah).mono ?_
  rintro e w2 ⟨h2, hb2⟩
  have h3 := ofAns_uniq h2 HO.out
  subst h3
  have HL2 : Hid (Lies w2 w1.heap.size (dtC x) 34) := HL.out.below hb2 HL.out.lt
  have HB2 : Hid (Below w.heap.size w w2) := HB1.out.trans (hb2.mono HB1.out.size)
  clear h2 hb2 HB1 HT1 HL HO
  have HL3 : Hid (Lies (w2.alloc (.cells (dtC x) 34)) w1.heap.size (dtC x) 34) := HL2.out.alloc _
  have HB3 : Hid (Below w.heap.size w (w2.alloc (.cells (dtC x) 34))) := HB2.out.alloc HB2.out.size _
  have HT3 : Hid (Tbl (w2.alloc (.cells (dtC x) 34))) := HT.out.below HB3.out
  have c0 := HL3.out.cell 0
  have c1 := HL3.out.cell 1
  have c2 := HL3.out.cell 2
  have c3 := HL3.out.cell 3
  have c4 := HL3.out.cell 4
  have c5 := HL3.out.cell 5
  have c6 := HL3.out.cell 6
  simp only [dtC] at c0 c1 c2 c3 c4 c5 c6 HB3 HT3
  simp only [List.getElem?_toArray, List.getElem?_cons_zero, List.getElem?_cons_succ] at c0 c1 c2 c3 c4 c5 c6
  clear HL2 HL3 HB2
  generalize w1.heap.size = B1 at c0 c1 c2 c3 c4 c5 c6 ⊢
  unfold dtV
  go_wp2_with (go_at_call 11; refine (head_any _ HT3.out).mono ?_; rintro e w3 ⟨rfl, hb⟩)
  go_ret
  exact ⟨rfl, HB3.out.trans (hb.mono HB3.out.size)⟩

set_option maxRecDepth 100000 in
theorem contract (H : Type) (enc : TypeId × Value → H) (W : World) (base : Nat) (args : Array Value) (ds gs : List (DataW H)) (before : List MemPlace)
    (hval : ∀ (j : Nat) t v, Tryd.f6.params[j]? = some t → args[j]? = some v → Value.okWide Tryd.prog W .any base t v)
    (hW : DataW.Whole enc Tryd.prog Tryd.f6.params.toList Rows.dateOfsSpec.vars false W args.toList ds gs before)
    (hL : laidMetH Tryd.prog Rows.dateOfsRow.laid W) (hsh : W.ShapedOpen Tryd.prog) :
    Calls Tryd.prog 6 args W fun e W' => ∃ v, e = .returned v ∧ Rows.dateOfsSpec.post enc Tryd.prog Tryd.f6 false true false false W args v W' := by
  have hW' := hW
  obtain ⟨p, q, hA0, hV, rfl, hfz, hnd⟩ := hW
  have hA : DataW.TrodAll enc Tryd.prog W 0 (fun _ => true) true Tryd.f6.params.toList args.toList ds p := hA0
  rw [Tryd.params6] at hA hval
  obtain ⟨v0, vs0, d0, ds0, p0, q0, hargs, rfl, rfl, h0, r0⟩ := trodAll_cons hA
  obtain ⟨v1, vs1, d1, ds1, p1, q1, rfl, rfl, rfl, h1, r1⟩ := trodAll_cons r0
  obtain ⟨rfl, rfl, rfl⟩ := trodAll_nil r1
  obtain rfl : args = #[v0, v1] := by cases args; simp_all
  obtain ⟨rfl, rfl⟩ := trodVars_none hV
  obtain ⟨a0, rfl, rfl, rfl, w0⟩ := open_int Tryd.underlying2 (hval 0 2 v0 rfl rfl) h0
  have b0 := bounds_i64 w0
  obtain ⟨a1, rfl, rfl, rfl, w1⟩ := open_int Tryd.underlying22 (hval 1 22 v1 rfl rfl) h1
  have b1 := bounds_i16 w1
  clear hA0
  simp only [List.append_nil] at hW'
  refine (walk a0 b0 a1 b1 W (tabs_of hL hsh)).mono fun e W' ⟨he, bel⟩ => ?_
  subst he
  exact ⟨_, rfl, _, _, _, [], [], [], hW', trodAll_mk1 (shut_bool Tryd.underlying4 _), trodAll_cons_mk (shut_int Tryd.underlying2 w0) (trodAll_cons_mk (shut_int Tryd.underlying22 w1) trodAll_mk0), rfl, bel.frame _, fun h => by cases h⟩

set_option maxRecDepth 100000 in
theorem laid_met (os : Os) : laidMet Tryd.prog Rows.dateOfsRow.laid ((laidWorld os).forCall (fun _ _ => 0) ⟨#[], #[.int .i64 0, .int .i16 0], []⟩).memory :=
  laidMet_of_run' 8 (by kernel_rfl) (by kernel_rfl)
set_option maxRecDepth 100000 in
theorem reads (os : Os) {H : Type} (enc : TypeId × Value → H) : ∃ places, DataW.whole enc Tryd.prog ((laidWorld os).forCall (fun _ _ => 0) ⟨#[], #[.int .i64 0, .int .i16 0], []⟩).memory Tryd.f6.params.toList Rows.dateOfsSpec.vars false #[Value.int .i64 0, Value.int .i16 0].toList 8 = some ([.lit (.int .i64 0), .lit (.int .i16 0)], [], places) :=
  ⟨[], by kernel_rfl⟩

set_option maxRecDepth 100000 in
theorem lifted (os : Os) (started : os.Started) (H : Type) (enc : TypeId × Value → H) (F : Stop.Interp) :
    ReturnsInHanded {} Tryd.checked os 6 .any ((OpenSpec.ofChange Rows.dateOfsSpec).preRow enc Tryd.prog Tryd.f6 Rows.dateOfsRow.domain false Rows.dateOfsRow.laid) (((OpenSpec.ofChange Rows.dateOfsSpec).at F).post enc Tryd.prog Tryd.f6 false true false false) := by
  obtain ⟨places, hx⟩ := reads os enc
  refine returnsInHanded_of_row (C := Tryd.checked) (s := OpenSpec.ofChange Rows.dateOfsSpec) own started (by kernel_rfl) Tryd.func6
    (witness_row_at (enc := enc) (C := Tryd.checked) false (laidWorld os) #[.int .i64 0, .int .i16 0] rfl (by kernel_rfl) (by kernel_rfl) (by kernel_rfl)
      (OpenSpec.preRow_of_cond 8 hx (by kernel_rfl) (fun k hk => by cases hk) (by kernel_rfl) (laid_met os))) ?_
  intro W base args ds gs before hval hW _ _ _ hL hsh _
  exact contract H enc W base args ds gs before hval hW hL hsh

theorem said : Rows.DateOfsSaid :=
  OpenClaim.holds_of_cond 6 Tryd.f6 rfl rfl rfl rfl rfl rfl rfl ⟨rfl, rfl, rfl, rfl, rfl⟩ rfl rfl rfl rfl rfl (by kernel_rfl) Tryd.func6 (by kernel_rfl)
    (of_decide_eq_true (by kernel_rfl)) (by unfold Func.isWrapper; first | (rw [if_pos (by decide +kernel)]; kernel_rfl) | (rw [if_neg (by decide +kernel)]; exact ⟨rfl, rfl⟩))
    (fun os started H enc _ F => by rw [OpenClaim.pre_eq_preRow]; exact lifted os started H enc F)

/-- No parameter wants a stand-in; the program's own looks are off. -/
theorem plain (f : FuncId) (fn : Func) (hf : Tryd.pinned.checked.prog.funcNamed "posthorn/posthornlaw06.DateOfs" = some f) (hfn : Tryd.pinned.checked.prog.funcs[f]? = some fn) :
    false = Tryd.pinned.checked.prog.looks [] ∧ ∀ (j : Nat) t, fn.params[j]? = some t → Tryd.pinned.checked.prog.wantsStandIn t = false := by
  obtain rfl : f = 6 := Option.some.inj ((show Tryd.prog.funcNamed "posthorn/posthornlaw06.DateOfs" = some 6 by kernel_rfl).symm.trans hf) |>.symm
  obtain rfl : fn = Tryd.f6 := (Option.some.inj (Tryd.func6.symm.trans hfn)).symm
  refine ⟨by kernel_rfl, fun j t ht => ?_⟩
  rw [Tryd.params6] at ht
  have hm : t ∈ [2, 22] := by simpa using Array.mem_of_getElem? ht
  have hall : ([2, 22].all fun u => !Tryd.prog.wantsStandIn u) = true := by kernel_rfl
  exact (show Tryd.prog.wantsStandIn t = false by simpa using List.all_eq_true.1 hall t hm)

/-- The card. -/
theorem card : Rows.DateOfsCardSaid :=
  Claim7.holds_tied_plain_at .later [] _ _ _ _ said (fun _ h => by cases h) (by kernel_rfl) (fun _ h => by cases h) dateOfs_row_tie rfl ⟨rfl, rfl⟩ (by kernel_rfl) rfl plain (by kernel_rfl)
end Go.Proofs.YtedfnebadenmdaaDoor.dateOfs
namespace Go.Proofs.YtedfnebadenmdaaDoor
theorem dateOfs_card : Rows.DateOfsCardSaid := dateOfs.card
#print axioms dateOfs_card
end Go.Proofs.YtedfnebadenmdaaDoor
