/-
  P3.2: the digits of any sixteen bytes are those that the document tells; proved with no condition on the input.
-/
import Derived.Test.YtlkflikhbkhpeaaDoorHead
import Derived.Test.YtlkflikhbkhpeaaDoorRTell
import Derived.Test.YtlkflikhbkhpeaaDoorEqd
import Derived.Test.YtlkflikhbkhpeaaDoorOpen
namespace Go.Proofs.YtlkflikhbkhpeaaDoor.hashTells
open Go.ChangeShapes Go.WideShapes Go.ChangeAt Go.RowKit

set_option maxHeartbeats 1000000 in
set_option maxRecDepth 100000 in
theorem walk (l : List UInt8) (hl : l.length = 16) (w : World) (ht : Tabs w) : Calls Tryd.prog 5 #[.agg (rowV l)] w fun e w' => e = .returned (.bool true) ∧ Below w.heap.size w w' := by
  have HL : Hid (l.length = 16) := hl
  have HT : Hid (Tabs w) := ht
  clear hl ht
  go_enter Tryd.func5, Tryd.ntmps5
  go_wp2_with fail
  have HL1 : Hid (Lies (w.alloc (.cells (rowV l) 23)) w.heap.size (rowV l) 23) := Lies.new w _ _
  have HB1 : Hid (Below w.heap.size w (w.alloc (.cells (rowV l) 23))) := (Below.refl _ _).alloc (Nat.le_refl _) _
  generalize w.alloc (.cells (rowV l) 23) = w1 at HL1 HB1 ⊢
  have HS : Hid (∀ w', Below w1.heap.size w1 w' → w'.rangeAt w.heap.size 0 (rowV l).toList) := fun w' hb => (HL1.out.below hb HL1.out.lt).range
  refine wp_region_late (fun w' => w'.rangeAt w.heap.size 0 (rowV l).toList) 8 (by kernel_rfl) (HS.out _ (Below.refl _ w1).drew) (fun hHeld => ?_)
  refine wpAnyE_take (i := 0) (d := some 3) (v := .agg (rowV l)) rfl (by kernel_rfl) (by kernel_rfl) (by kernel_rfl) (by kernel_rfl) (fun _ _ _ h => h) rfl rfl ?hy (by assumption) ?_
  case hy => exact fun w' hSw => exec_load 23 _ rfl w.heap.size 0 rfl (rowV l) _ hSw Tryd.underlying23 rfl (infoDl _ HL.out)
  simp only [Act.put, List.setIfInBounds_toArray, List.set_cons_zero, List.set_cons_succ]
  refine wpAnyE_take (i := 2) (d := some 5) (v := .agg (rowV l)) rfl (by kernel_rfl) (by kernel_rfl) (by kernel_rfl) (by kernel_rfl) (fun _ _ _ h => h) rfl rfl ?hy (by assumption) ?_
  case hy => exact fun w' hSw => exec_load 23 _ rfl w.heap.size 0 rfl (rowV l) _ hSw Tryd.underlying23 rfl (infoDl _ HL.out)
  simp only [Act.put, List.setIfInBounds_toArray, List.set_cons_zero, List.set_cons_succ]
  refine wpAnyE_one (i := 1) (by kernel_rfl) rfl rfl ?_
  go_simp
  refine (tell_any l HL.out _).mono ?_
  rintro e w2 ⟨rfl, hb0⟩
  have hb2 : Below w1.heap.size w1 w2 := ⟨hb0.os, hb0.tape, hb0.output, hb0.size, hb0.block⟩
  clear hb0
  refine ⟨HS.out _ hb2, ?_⟩
  refine wpAnyE_one (i := 3) (by kernel_rfl) rfl rfl ?_
  go_simp
  refine (rtell_any l HL.out _).mono ?_
  rintro e w3 ⟨rfl, hb0⟩
  have hb3 : Below w1.heap.size w1 w3 := hb2.trans (hb0.mono hb2.size)
  clear hb0 hHeld
  have hH3 := HS.out _ hb3
  refine ⟨hH3, ?_⟩
  refine wpAnyE_take (i := 4) (d := some 7) (v := ?_) rfl (by kernel_rfl) (by kernel_rfl) (by kernel_rfl) (by kernel_rfl) (fun _ _ _ h => h) rfl rfl ?hy (by assumption) ?_
  case hy => (intro w' hSw; (try dsimp only at hSw); go_simp <;> (try with_reducible rfl))
  simp only [Act.put, List.setIfInBounds_toArray, List.set_cons_zero, List.set_cons_succ]
  refine wpAnyE_take (i := 5) (d := some 8) (v := ?_) rfl (by kernel_rfl) (by kernel_rfl) (by kernel_rfl) (by kernel_rfl) (fun _ _ _ h => h) rfl rfl ?hy (by assumption) ?_
  case hy => (intro w' hSw; (try dsimp only at hSw); go_simp <;> (try with_reducible rfl))
  simp only [Act.put, List.setIfInBounds_toArray, List.set_cons_zero, List.set_cons_succ]
  refine wpAnyE_oneG (i := 6) (by kernel_rfl) rfl rfl ?_
  go_simp
  refine (head_any _ ?_).mono ?_
  · exact HT.out.below (HB1.out.trans (hb3.mono HB1.out.size))
  rintro e w9 ⟨rfl, hb0⟩
  have hb9 : Below w1.heap.size w1 w9 := hb3.trans (hb0.mono hb3.size)
  clear hb0
  have hH9 := HS.out _ hb9
  refine ⟨hH9, ?_⟩
  refine wpAnyE_take (i := 7) (d := some 10) (v := ?_) rfl (by kernel_rfl) (by kernel_rfl) (by kernel_rfl) (by kernel_rfl) (fun _ _ _ h => h) rfl rfl ?hy (by assumption) ?_
  case hy => (intro w' hSw; (try dsimp only at hSw); go_simp <;> (try with_reducible rfl))
  simp only [Act.put, List.setIfInBounds_toArray, List.set_cons_zero, List.set_cons_succ]
  refine wpAnyE_one (i := 8) (by kernel_rfl) rfl rfl ?_
  go_simp
  refine wpAnyE_done (by kernel_rfl) ?_ _
  go_wp2
  go_ret
  exact ⟨rfl, HB1.out.trans (hb9.mono HB1.out.size)⟩

theorem contract (H : Type) (enc : TypeId × Value → H) (W : World) (base : Nat) (args : Array Value) (ds gs : List (DataW H)) (before : List MemPlace)
    (hval : ∀ (j : Nat) t v, Tryd.f5.params[j]? = some t → args[j]? = some v → Value.okWide Tryd.prog W .any base t v)
    (hW : DataW.Whole enc Tryd.prog Tryd.f5.params.toList Rows.hashTellsSpec.vars false W args.toList ds gs before)
    (hsz : (DataW.weightsEach Tryd.prog (Tryd.f5.params.toList ++ (OpenSpec.ofChange Rows.hashTellsSpec).bare.plain.varTypes Tryd.prog) (ds ++ gs)).all (· ≤ reachBytes) = true)
    (hL : laidMetH Tryd.prog Rows.hashTellsRow.laid W) :
    Calls Tryd.prog 5 args W fun e W' => ∃ v, e = .returned v ∧ Rows.hashTellsSpec.post enc Tryd.prog Tryd.f5 false true false false W args v W' := by
  have hW' := hW
  obtain ⟨p, q, hA0, hV, rfl, hfz, hnd⟩ := hW
  have hA : DataW.TrodAll enc Tryd.prog W 0 (fun _ => true) true Tryd.f5.params.toList args.toList ds p := hA0
  rw [Tryd.params5] at hA hval hsz
  obtain ⟨v0, vs0, d0, ds0, p0, q0, hargs, rfl, rfl, h0, r0⟩ := trodAll_cons hA
  obtain ⟨rfl, rfl, rfl⟩ := trodAll_nil r0
  obtain rfl : args = #[v0] := by cases args; simp_all
  obtain ⟨rfl, rfl⟩ := trodVars_none hV
  have k0 := h0
  have lt0 : ∀ x ∈ p0, x.block < W.heap.size := by obtain ⟨m, hm⟩ := k0; exact DataW.trod_lt m _ _ _ hm
  obtain ⟨l0, e0, rfl⟩ := open_dig (hval 0 23 v0 rfl rfl) h0
  clear hA0
  refine (walk l0 e0 W (tabs_of hL)).mono fun e W' ⟨he, bel⟩ => ?_
  subst he
  exact ⟨_, rfl, _, _, _, [], _, [], hW', trodAll_mk1 (shut_bool Tryd.underlying4 _), trodAll_cons_mk (Below.trod laidOut (by kernel_rfl) (of_decide_eq_true (by kernel_rfl)) k0 bel lt0) trodAll_mk0, rfl, bel.frame _, fun h => by cases h⟩

theorem laid_met (os : Os) : laidMet Tryd.prog Rows.hashTellsRow.laid ((laidWorld os).forCall (fun _ _ => 0) ⟨#[], #[.agg (Array.replicate 16 (.int .u8 0))], []⟩).memory :=
  laidMet_of_run' 8 (by kernel_rfl) (by kernel_rfl)
theorem reads (os : Os) {H : Type} (enc : TypeId × Value → H) : ∃ places, DataW.whole enc Tryd.prog ((laidWorld os).forCall (fun _ _ => 0) ⟨#[], #[.agg (Array.replicate 16 (.int .u8 0))], []⟩).memory Tryd.f5.params.toList Rows.hashTellsSpec.vars false #[Value.agg (Array.replicate 16 (.int .u8 0))].toList 8 = some ([.agg (List.replicate 16 (.lit (.int .u8 0)))], [], places) :=
  ⟨[], by kernel_rfl⟩

set_option maxRecDepth 100000 in
theorem lifted (os : Os) (started : os.Started) (H : Type) (enc : TypeId × Value → H) (F : Stop.Interp) :
    ReturnsInHanded {} Tryd.checked os 5 .any ((OpenSpec.ofChange Rows.hashTellsSpec).preRow enc Tryd.prog Tryd.f5 Rows.hashTellsRow.domain false Rows.hashTellsRow.laid) (((OpenSpec.ofChange Rows.hashTellsSpec).at F).post enc Tryd.prog Tryd.f5 false true false false) := by
  obtain ⟨places, hx⟩ := reads os enc
  refine returnsInHanded_of_row (C := Tryd.checked) (s := OpenSpec.ofChange Rows.hashTellsSpec) own started (by kernel_rfl) Tryd.func5
    (witness_row_at (enc := enc) (C := Tryd.checked) false (laidWorld os) #[.agg (Array.replicate 16 (.int .u8 0))] rfl (by kernel_rfl) (by kernel_rfl) (by kernel_rfl)
      (OpenSpec.preRow_of_cond 8 hx (by kernel_rfl) (fun k hk => by cases hk) (by kernel_rfl) (laid_met os))) ?_
  intro W base args ds gs before hval hW _ _ hsz hL _ _
  exact contract H enc W base args ds gs before hval hW hsz hL

theorem said : Rows.HashTellsSaid :=
  OpenClaim.holds_of_cond 5 Tryd.f5 rfl rfl rfl rfl rfl rfl rfl ⟨rfl, rfl, rfl, rfl, rfl⟩ rfl rfl rfl rfl rfl (by kernel_rfl) Tryd.func5 (by kernel_rfl)
    (of_decide_eq_true (by kernel_rfl)) (by unfold Func.isWrapper; first | (rw [if_pos (by decide +kernel)]; kernel_rfl) | (rw [if_neg (by decide +kernel)]; exact ⟨rfl, rfl⟩))
    (fun os started H enc _ F => by rw [OpenClaim.pre_eq_preRow]; exact lifted os started H enc F)

/-- No parameter wants a stand-in; the program's own looks are off. -/
theorem plain (f : FuncId) (fn : Func) (hf : Tryd.pinned.checked.prog.funcNamed "posthorn/posthornlaw03.HashTells" = some f) (hfn : Tryd.pinned.checked.prog.funcs[f]? = some fn) :
    false = Tryd.pinned.checked.prog.looks [] ∧ ∀ (j : Nat) t, fn.params[j]? = some t → Tryd.pinned.checked.prog.wantsStandIn t = false := by
  obtain rfl : f = 5 := Option.some.inj ((show Tryd.prog.funcNamed "posthorn/posthornlaw03.HashTells" = some 5 by kernel_rfl).symm.trans hf) |>.symm
  obtain rfl : fn = Tryd.f5 := (Option.some.inj (Tryd.func5.symm.trans hfn)).symm
  refine ⟨by kernel_rfl, fun j t ht => ?_⟩
  rw [Tryd.params5] at ht
  have hm : t ∈ [23] := by simpa using Array.mem_of_getElem? ht
  have hall : ([23].all fun u => !Tryd.prog.wantsStandIn u) = true := by kernel_rfl
  exact (show Tryd.prog.wantsStandIn t = false by simpa using List.all_eq_true.1 hall t hm)

/-- The card. -/
theorem card : Rows.HashTellsCardSaid :=
  Claim7.holds_tied_plain_at .later [] _ _ _ _ said (fun _ h => by cases h) (by kernel_rfl) (fun _ h => by cases h) hashTells_row_tie rfl ⟨rfl, rfl⟩ (by kernel_rfl) rfl plain (by kernel_rfl)
end Go.Proofs.YtlkflikhbkhpeaaDoor.hashTells
namespace Go.Proofs.YtlkflikhbkhpeaaDoor
theorem hashTells_card : Rows.HashTellsCardSaid := hashTells.card
#print axioms hashTells_card
end Go.Proofs.YtlkflikhbkhpeaaDoor
