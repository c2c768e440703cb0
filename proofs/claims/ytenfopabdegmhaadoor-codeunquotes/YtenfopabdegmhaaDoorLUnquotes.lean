/-
  P4.6: Unquote of any text tells what the document asks, into new memory; proved for every text that an argument may be.
-/
import Derived.Test.YtenfopabdegmhaaDoorCard4
import Derived.Test.YtenfopabdegmhaaDoorOqP
import Derived.Test.YtenfopabdegmhaaDoorRUnr4
import Derived.Test.YtenfopabdegmhaaDoorSpoil
import Derived.ProofKit
import Derived.ChangeMaps5
import Derived.OpenShut
import Derived.ShutString
import Derived.ChangeOld
import Derived.SizedLaws
namespace Go.Proofs.YtenfopabdegmhaaDoor.codeUnquotes
open Go.ChangeShapes Go.WideShapes Go.ChangeAt Go.RowKit
open Go.ChangeMaps (open_string shut_string)

theorem k_4d : uE [61, 52, 100] = 0 ∧ uA [61, 52, 100] = 0 ∧ uL [61, 52, 100] = [77] := by decide +kernel
set_option maxHeartbeats 4000000 in
set_option maxRecDepth 100000 in
theorem walk (s : ByteArray) (hs : s.size ≤ 140737488351232) (w : World) (htab : Tabs w) : Calls Tryd.prog 4 #[.string s] w fun e w' => e = .returned (.bool true) ∧ Below w.heap.size w w' := by
  have HTB : Hid (∀ wx : World, Below w.heap.size w wx → Tabs wx) := fun wx hb => htab.below hb htab.lt.1 htab.lt.2
  have HU : Hid (∀ wx : World, Below w.heap.size w wx → Calls Tryd.prog 11 #[.string s] wx fun e w' => ∃ v, e = .returned (.tuple #[v, .agg #[.int .i64 (uE s.data.toList : Nat), .int .i64 (uA s.data.toList : Nat)]]) ∧ w'.ownsRow wx.heap.size 5 1 v (uL s.data.toList).length (cellsB (uL s.data.toList)) ∧ Below wx.heap.size wx w') := fun wx hb => by
    have htx := HTB.out wx hb
    exact unq_any s wx htx.table htx.lt.1 (by omega)
  have HUM : Hid (∀ wx : World, Below w.heap.size w wx → Calls Tryd.prog 11 #[.string ⟨#[61, 52, 100]⟩] wx fun e w' => ∃ v, e = .returned (.tuple #[v, .agg #[.int .i64 0, .int .i64 0]]) ∧ w'.ownsRow wx.heap.size 5 1 v 1 (cellsB [77]) ∧ Below wx.heap.size wx w') := fun wx hb => by
    have htx := HTB.out wx hb
    have h := unq_any ⟨#[61, 52, 100]⟩ wx htx.table htx.lt.1 (by decide)
    obtain ⟨e1, e2, e3⟩ := k_4d
    rw [show (⟨#[61, 52, 100]⟩ : ByteArray).data.toList = [61, 52, 100] from rfl, e1, e2, e3] at h
    exact h
  have HR : Hid (Calls Tryd.prog 10 #[.string s] w fun e w' => ∃ v, e = .returned (.tuple #[v, .agg #[.int .i64 (uE s.data.toList : Nat), .int .i64 (uA s.data.toList : Nat)]]) ∧ w'.ownsRow w.heap.size 5 1 v (uL s.data.toList).length (cellsB (uL s.data.toList)) ∧ Below w.heap.size w w') := runq_any s (by omega) w
  have hlen : (uL s.data.toList).length ≤ 140737488351232 := by
    unfold uL
    split
    · rename_i h
      have := unqL_le _ h
      rw [len_list] at this
      omega
    · simp
  clear htab
  generalize uL s.data.toList = D at HU HR hlen
  generalize uE s.data.toList = E at HU HR
  generalize uA s.data.toList = A at HU HR
  go_enter Tryd.func4, Tryd.ntmps4
  go_wp2_with fail
  refine Calls.mono HR.out ?_
  rintro e w1 ⟨v1, rfl, ho1, hb1⟩
  have HO1 : Hid (w1.ownsRow w.heap.size 5 1 v1 D.length (cellsB D)) := ho1
  have HB1 : Hid (Below w.heap.size w w1) := hb1
  have HZ1 : Hid (w.heap.size ≤ w1.heap.size) := hb1.size
  clear ho1 hb1 HR
  go_wp2_with fail
  refine Calls.mono (HU.out _ (HB1.out.alloc HB1.out.size _)) ?_
  rintro e w2 ⟨v2, rfl, ho2, hb2⟩
  have HL2 : Hid (Lies w2 w1.heap.size #[.int .i64 E, .int .i64 A] 29) := (Lies.new w1 _ _).below hb2 (by simp)
  have hz2 : w1.heap.size + 1 ≤ w2.heap.size := by have := hb2.size; simpa using this
  have HB2 : Hid (Below w.heap.size w w2) := (HB1.out.alloc HB1.out.size _).trans (hb2.mono (by have := HB1.out.size; simp; omega))
  have HO12 : Hid (w2.ownsRow w.heap.size 5 1 v1 D.length (cellsB D)) := own_below (HO1.out.alloc _) hb2
  have HO2 : Hid (w2.ownsRow (w1.heap.size + 1) 5 1 v2 D.length (cellsB D)) := base_le ho2 (by simp)
  have HV1 : Hid (∀ k, v1.ownBlock = some k → k < w1.heap.size) := fun k hk => (HO1.out.lt k hk).2
  clear ho2 hb2 HO1 HB1
  go_wp2_with fail
  refine Calls.mono (HU.out _ (HB2.out.alloc HB2.out.size _)) ?_
  rintro e w3 ⟨v3, rfl, ho3, hb3⟩
  have HL23 : Hid (Lies w3 w1.heap.size #[.int .i64 E, .int .i64 A] 29) := (HL2.out.alloc _).below hb3 (by simp; omega)
  have HL3 : Hid (Lies w3 w2.heap.size #[.int .i64 E, .int .i64 A] 29) := (Lies.new w2 _ _).below hb3 (by simp)
  have hz3 : w2.heap.size + 1 ≤ w3.heap.size := by have := hb3.size; simpa using this
  have HB3 : Hid (Below w.heap.size w w3) := (HB2.out.alloc HB2.out.size _).trans (hb3.mono (by have := HB2.out.size; simp; omega))
  have HO13 : Hid (w3.ownsRow w.heap.size 5 1 v1 D.length (cellsB D)) := own_below (HO12.out.alloc _) hb3
  have HO23 : Hid (w3.ownsRow (w1.heap.size + 1) 5 1 v2 D.length (cellsB D)) := own_below (HO2.out.alloc _) hb3
  have HO3 : Hid (w3.ownsRow (w2.heap.size + 1) 5 1 v3 D.length (cellsB D)) := base_le ho3 (by simp)
  have HV2 : Hid (∀ k, v2.ownBlock = some k → k < w2.heap.size) := fun k hk => (HO2.out.lt k hk).2
  clear ho3 hb3 HO12 HO2 HB2
  have cv1 := own_conv (HO13.out.alloc (.cells #[.int .i64 E, .int .i64 A] 29))
  have cv2 := own_conv (HO23.out.alloc (.cells #[.int .i64 E, .int .i64 A] 29))
  have cv3 := own_conv (HO3.out.alloc (.cells #[.int .i64 E, .int .i64 A] 29))
  have k10 := (HL23.out.alloc (.cells #[.int .i64 E, .int .i64 A] 29)).cell 0
  have k11 := (HL23.out.alloc (.cells #[.int .i64 E, .int .i64 A] 29)).cell 1
  have k20 := (HL3.out.alloc (.cells #[.int .i64 E, .int .i64 A] 29)).cell 0
  have k21 := (HL3.out.alloc (.cells #[.int .i64 E, .int .i64 A] 29)).cell 1
  simp only [List.getElem?_toArray, List.getElem?_cons_zero, List.getElem?_cons_succ] at k10 k11 k20 k21
  obtain ⟨a2, c2, rfl, _, _, _, _, _⟩ := own_bts HO23.out
  have hcap2 : c2 ≤ 9223372036854775807 := own_cap HO23.out
  obtain ⟨a3, c3, rfl, _, _, _, _, _⟩ := own_bts HO3.out
  have hcap3 : c3 ≤ 9223372036854775807 := own_cap HO3.out
  go_wp2_with fail
  refine Calls.mono (spoil_any (w1.heap.size + 1) a2 D.length c2 _ _ (HO23.out.alloc _) (by omega) hcap2) ?_
  rintro e w4 ⟨rfl, hg4⟩
  have HO14 : Hid (w4.ownsRow w.heap.size 5 1 v1 D.length (cellsB D)) := owns_other (HO13.out.alloc _) hg4 (fun k hk e => by have h1 := HV1.out k e; have h2 := (HO23.out.lt k hk).1; omega)
  have HO34 : Hid (w4.ownsRow (w2.heap.size + 1) 5 1 (.slice a3 D.length c3) D.length (cellsB D)) := owns_other (HO3.out.alloc _) hg4 (fun k hk e => by have h1 := (HO3.out.lt k e).1; have h2 := HV2.out k hk; omega)
  have hz4 : w3.heap.size + 1 ≤ w4.heap.size := by have := hg4.size; simpa using this
  have HB4 : Hid (Below w.heap.size w w4) := (HB3.out.alloc HB3.out.size _).grown hg4 (by have := HB3.out.size; simp; omega) (fun k hk => by have h2 := (HO23.out.lt k hk).1; have := HO13.out; have h5 := HZ1.out; omega)
  clear hg4 cv1 cv2 cv3 k10 k11 k20 k21 HO13 HO23 HO3 HL2 HL23 HL3 HB3
  have cv1 := own_conv HO14.out
  have cv3 := own_conv HO34.out
  go_wp2_with fail
  refine Calls.mono (spoil_any (w2.heap.size + 1) a3 D.length c3 _ _ HO34.out (by omega) hcap3) ?_
  rintro e w5 ⟨rfl, hg5⟩
  have HO15 : Hid (w5.ownsRow w.heap.size 5 1 v1 D.length (cellsB D)) := owns_other HO14.out hg5 (fun k hk e => by have h1 := HV1.out k e; have h2 := (HO34.out.lt k hk).1; omega)
  have HB5 : Hid (Below w.heap.size w w5) := HB4.out.grown hg5 HB4.out.size (fun k hk => by have h2 := (HO34.out.lt k hk).1; have h5 := HZ1.out; omega)
  clear hg5 cv1 cv3 HO14 HO34 HB4
  go_wp2_with fail
  refine Calls.mono (HU.out _ HB5.out) ?_
  rintro e w6 ⟨v6, rfl, ho6, hb6⟩
  have HO16 : Hid (w6.ownsRow w.heap.size 5 1 v1 D.length (cellsB D)) := own_below HO15.out hb6
  have HO6 : Hid (w6.ownsRow w5.heap.size 5 1 v6 D.length (cellsB D)) := ho6
  have HB6 : Hid (Below w.heap.size w w6) := HB5.out.trans (hb6.mono HB5.out.size)
  clear ho6 hb6 HO15 HB5
  go_wp2_with fail
  refine Calls.mono (HUM.out _ (HB6.out.alloc HB6.out.size _)) ?_
  rintro e w7 ⟨v7, rfl, ho7, hb7⟩
  have HO17 : Hid (w7.ownsRow w.heap.size 5 1 v1 D.length (cellsB D)) := own_below (HO16.out.alloc _) hb7
  have HO67 : Hid (w7.ownsRow w5.heap.size 5 1 v6 D.length (cellsB D)) := own_below (HO6.out.alloc _) hb7
  have HB7 : Hid (Below w.heap.size w w7) := (HB6.out.alloc HB6.out.size _).trans (hb7.mono (by have := HB6.out.size; simp; omega))
  have cv1 := own_conv (HO17.out.alloc (.cells #[.int .i64 0, .int .i64 0] 29))
  have cv6 := own_conv (HO67.out.alloc (.cells #[.int .i64 0, .int .i64 0] 29))
  have cv7 := own_conv (ho7.alloc (.cells #[.int .i64 0, .int .i64 0] 29))
  clear ho7 hb7 HO16 HO6 HB6
  go_wp2
  go_ret
  exact ⟨rfl, HB7.out.alloc HB7.out.size _⟩

theorem contract (H : Type) (enc : TypeId × Value → H) (W : World) (base : Nat) (args : Array Value) (ds gs : List (DataW H)) (before : List MemPlace)
    (hval : ∀ (j : Nat) t v, Tryd.f4.params[j]? = some t → args[j]? = some v → Value.okWide Tryd.prog W .any base t v)
    (hW : DataW.Whole enc Tryd.prog Tryd.f4.params.toList Rows.codeUnquotesSpec.vars false W args.toList ds gs before)
    (hsz : (DataW.weightsEach Tryd.prog (Tryd.f4.params.toList ++ (OpenSpec.ofChange Rows.codeUnquotesSpec).bare.plain.varTypes Tryd.prog) (ds ++ gs)).all (· ≤ reachBytes) = true)
    (hL : laidMetH Tryd.prog Rows.codeUnquotesRow.laid W) (hsh : W.ShapedOpen Tryd.prog) :
    Calls Tryd.prog 4 args W fun e W' => ∃ v, e = .returned v ∧ Rows.codeUnquotesSpec.post enc Tryd.prog Tryd.f4 false true false false W args v W' := by
  have hW' := hW
  obtain ⟨p, q, hA0, hV, rfl, hfz, hnd⟩ := hW
  have hA : DataW.TrodAll enc Tryd.prog W 0 (fun _ => true) true Tryd.f4.params.toList args.toList ds p := hA0
  rw [Tryd.params4] at hA hval hsz
  obtain ⟨v0, vs0, d0, ds0, p0, q0, hargs, rfl, rfl, h0, r0⟩ := trodAll_cons hA
  obtain ⟨rfl, rfl, rfl⟩ := trodAll_nil r0
  obtain rfl : args = #[v0] := by cases args; simp_all
  obtain ⟨rfl, rfl⟩ := trodVars_none hV
  obtain ⟨a0, rfl, rfl, rfl, w0⟩ := open_string Tryd.underlying9 (hval 0 9 v0 rfl rfl) h0
  clear hA0
  have s0 := sized_string hsz (j := 0) (t := 9) rfl rfl
  simp only [reachBytes, Array.length_toList] at s0
  simp only [List.append_nil] at hW'
  refine (walk a0 s0 W (tabs_of hL hsh)).mono fun e W' ⟨he, bel⟩ => ?_
  subst he
  exact ⟨_, rfl, _, _, _, [], [], [], hW', trodAll_mk1 (shut_bool Tryd.underlying4 _), trodAll_cons_mk (shut_string Tryd.underlying9 w0) trodAll_mk0, rfl, bel.frame _, fun h => by cases h⟩

theorem laid_met (os : Os) : laidMet Tryd.prog Rows.codeUnquotesRow.laid ((laidWorld os).forCall (fun _ _ => 0) ⟨#[], #[.string ByteArray.empty], []⟩).memory :=
  laidMet_of_run' 8 (by kernel_rfl) (by kernel_rfl)
theorem reads (os : Os) {H : Type} (enc : TypeId × Value → H) : ∃ places, DataW.whole enc Tryd.prog ((laidWorld os).forCall (fun _ _ => 0) ⟨#[], #[.string ByteArray.empty], []⟩).memory Tryd.f4.params.toList Rows.codeUnquotesSpec.vars false #[Value.string ByteArray.empty].toList 8 = some ([.lit (.string [])], [], places) :=
  ⟨[], by kernel_rfl⟩

set_option maxRecDepth 100000 in
theorem lifted (os : Os) (started : os.Started) (H : Type) (enc : TypeId × Value → H) (F : Stop.Interp) :
    ReturnsInHanded {} Tryd.checked os 4 .any ((OpenSpec.ofChange Rows.codeUnquotesSpec).preRow enc Tryd.prog Tryd.f4 Rows.codeUnquotesRow.domain false Rows.codeUnquotesRow.laid) (((OpenSpec.ofChange Rows.codeUnquotesSpec).at F).post enc Tryd.prog Tryd.f4 false true false false) := by
  obtain ⟨places, hx⟩ := reads os enc
  refine returnsInHanded_of_row (C := Tryd.checked) (s := OpenSpec.ofChange Rows.codeUnquotesSpec) own started (by kernel_rfl) Tryd.func4
    (witness_row_at (enc := enc) (C := Tryd.checked) false (laidWorld os) #[.string ByteArray.empty] rfl (by kernel_rfl) (by kernel_rfl) (by kernel_rfl)
      (OpenSpec.preRow_of_cond 8 hx (by kernel_rfl) (fun k hk => by cases hk) (by kernel_rfl) (laid_met os))) ?_
  intro W base args ds gs before hval hW _ _ hsz hL hsh _
  exact contract H enc W base args ds gs before hval hW hsz hL hsh

theorem said : Rows.CodeUnquotesSaid :=
  OpenClaim.holds_of_cond 4 Tryd.f4 rfl rfl rfl rfl rfl rfl rfl ⟨rfl, rfl, rfl, rfl, rfl⟩ rfl rfl rfl rfl rfl (by kernel_rfl) Tryd.func4 (by kernel_rfl)
    (of_decide_eq_true (by kernel_rfl)) (by unfold Func.isWrapper; first | (rw [if_pos (by decide +kernel)]; kernel_rfl) | (rw [if_neg (by decide +kernel)]; exact ⟨rfl, rfl⟩))
    (fun os started H enc _ F => by rw [OpenClaim.pre_eq_preRow]; exact lifted os started H enc F)

/-- No parameter wants a stand-in; the program's own looks are off. -/
theorem plain (f : FuncId) (fn : Func) (hf : Tryd.pinned.checked.prog.funcNamed "posthorn/posthornlaw04.CodeUnquotes" = some f) (hfn : Tryd.pinned.checked.prog.funcs[f]? = some fn) :
    false = Tryd.pinned.checked.prog.looks [] ∧ ∀ (j : Nat) t, fn.params[j]? = some t → Tryd.pinned.checked.prog.wantsStandIn t = false := by
  obtain rfl : f = 4 := Option.some.inj ((show Tryd.prog.funcNamed "posthorn/posthornlaw04.CodeUnquotes" = some 4 by kernel_rfl).symm.trans hf) |>.symm
  obtain rfl : fn = Tryd.f4 := (Option.some.inj (Tryd.func4.symm.trans hfn)).symm
  refine ⟨by kernel_rfl, fun j t ht => ?_⟩
  rw [Tryd.params4] at ht
  have hm : t ∈ [9] := by simpa using Array.mem_of_getElem? ht
  have hall : ([9].all fun u => !Tryd.prog.wantsStandIn u) = true := by kernel_rfl
  exact (show Tryd.prog.wantsStandIn t = false by simpa using List.all_eq_true.1 hall t hm)

/-- The card. -/
theorem card : Rows.CodeUnquotesCardSaid :=
  Claim7.holds_tied_plain_at .later [] _ _ _ _ said (fun _ h => by cases h) (by kernel_rfl) (fun _ h => by cases h) codeUnquotes_row_tie rfl ⟨rfl, rfl⟩ (by kernel_rfl) rfl plain (by kernel_rfl)
end Go.Proofs.YtenfopabdegmhaaDoor.codeUnquotes
namespace Go.Proofs.YtenfopabdegmhaaDoor
theorem codeUnquotes_card : Rows.CodeUnquotesCardSaid := codeUnquotes.card
#print axioms codeUnquotes_card
end Go.Proofs.YtenfopabdegmhaaDoor
