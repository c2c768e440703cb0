/-
  P5.3, P5.5: Encode and Puny of any numbers.
-/
import Derived.Test.YtedgimkffkflbaaDoorOpen5
import Derived.Test.YtedgimkffkflbaaDoorRPu
import Derived.Test.YtedgimkffkflbaaDoorClR
import Derived.Test.YtedgimkffkflbaaDoorWak
import Derived.Test.YtedgimkffkflbaaDoorCard5
import Derived.ProofKit
import Derived.ChangeMaps5
import Derived.OpenShut
import Derived.ShutString
import Derived.ChangeOld
import Derived.SizedLaws
namespace Go.Proofs.YtedgimkffkflbaaDoor.runesWrites
open Go.ChangeShapes Go.WideShapes Go.ChangeAt Go.RowKit

theorem encE_two (l : List Int) : ∃ x y, encE l = #[.int .i64 x, .int .i64 y] := by
  unfold encE
  split
  · exact ⟨_, _, rfl⟩
  · exact ⟨_, _, rfl⟩

set_option maxHeartbeats 4000000 in
set_option maxRecDepth 100000 in
theorem walk {w : World} (a : Option Addr) (l : List Int) (cap : Nat) (hr : Nts .i32 a l w) (hl : l.length ≤ 1048576) (h32 : ∀ x ∈ l, -2147483648 ≤ x ∧ x ≤ 2147483647) (ht : Tb w) :
    Calls Tryd.prog 5 #[.slice a l.length cap] w fun e w' => e = .returned (.bool true) ∧ Below w.heap.size w w' := by
  have HL : Hid (Nts .i32 a l w) := hr
  have HT : Hid (Tb w) := ht
  have HX : Hid (∀ x ∈ l, -2147483648 ≤ x ∧ x ≤ 2147483647) := h32
  obtain ⟨x, y, hxy⟩ := encE_two l
  have hD := denc_any a l cap w hr (by omega) h32
  have HP : Hid (∀ wx, Below w.heap.size w wx → Calls Tryd.prog 19 #[.slice a l.length cap] wx fun e w' => e = .returned (.tuple #[.string (punT l), .int .i64 (punE l)]) ∧ Below wx.heap.size wx w') := fun wx hx => dpuny_any a l cap wx (HL.out.below hx) (by omega) HX.out
  have HC : Hid (∀ wx, Below w.heap.size w wx → Calls Tryd.prog 21 #[.slice a l.length cap] wx fun e w' => ∃ v, e = .returned v ∧ w'.ownsRow wx.heap.size 21 1 v l.length (cellsN .i32 l) ∧ Below wx.heap.size wx w') := fun wx hx => clr_any a l cap wx (HL.out.below hx) (by omega)
  have HE : Hid (∀ wx b c, Nts .i32 b l wx → Calls Tryd.prog 20 #[.slice b l.length c] wx fun e w' => e = .returned (.tuple #[.string (encT l), .agg #[.int .i64 x, .int .i64 y]]) ∧ Below wx.heap.size wx w') := fun wx b c hb => by
    have := enc_any b l c wx hb (by omega) HX.out
    rw [hxy] at this
    exact this
  have HPU : Hid (∀ wx b c, Nts .i32 b l wx → Calls Tryd.prog 13 #[.slice b l.length c] wx fun e w' => e = .returned (.tuple #[.string (punT l), .int .i64 (punE l)]) ∧ Below wx.heap.size wx w') := fun wx b c hb => puny_any b l c wx hb (by omega)
  have HWK : Hid (∀ wx, Below w.heap.size w wx → Calls Tryd.prog 9 #[] wx fun e w' => e = .returned (.bool true) ∧ Below wx.heap.size wx w') := fun wx hx => wakes_any wx (HT.out.below hx (Nat.le_refl _))
  rw [hxy] at hD
  generalize encT l = ET at *
  generalize punT l = PT at *
  generalize punE l = PE at *
  clear hr h32 ht hxy
  go_enter Tryd.func5, Tryd.ntmps5
  go_wp2_with fail
  refine hD.mono ?_
  rintro e w3 ⟨rfl, b3⟩
  have B3 : Below w3.heap.size w3 (w3.alloc (.cells #[.int .i64 x, .int .i64 y] 33)) := (Below.refl _ w3).alloc (Nat.le_refl _) _
  have HB3 : Hid (Below w.heap.size w (w3.alloc (.cells #[.int .i64 x, .int .i64 y] 33))) := b3.trans (B3.mono b3.size)
  have HE3 : Hid (Lies (w3.alloc (.cells #[.int .i64 x, .int .i64 y] 33)) w3.heap.size #[.int .i64 x, .int .i64 y] 33) := Lies.new w3 _ _
  clear b3 B3 hD
  go_wp2_with fail
  generalize w3.alloc (.cells #[.int .i64 x, .int .i64 y] 33) = w4 at *
  generalize w3.heap.size = g3 at *
  refine (HP.out _ HB3.out).mono ?_
  rintro e w5 ⟨rfl, b5⟩
  have HB5 : Hid (Below w.heap.size w w5) := HB3.out.trans (b5.mono HB3.out.size)
  have HE5 : Hid (Lies w5 g3 #[.int .i64 x, .int .i64 y] 33) := HE3.out.below b5 HE3.out.lt
  clear b5 HP HB3 HE3
  go_wp2_with fail
  refine (HC.out _ HB5.out).mono ?_
  rintro e w6 ⟨v6, rfl, o6, b6⟩
  obtain ⟨a6, k6, rfl, n6, -⟩ := own_nts o6
  have HB6 : Hid (Below w.heap.size w w6) := HB5.out.trans (b6.mono HB5.out.size)
  have HE6 : Hid (Lies w6 g3 #[.int .i64 x, .int .i64 y] 33) := HE5.out.below b6 HE5.out.lt
  have hEN := HE.out w6 a6 k6 n6
  clear b6 o6 n6 HE HB5 HE5
  go_wp2_with fail
  refine hEN.mono ?_
  rintro e w7 ⟨rfl, b7⟩
  have B7 : Below w7.heap.size w7 (w7.alloc (.cells #[.int .i64 x, .int .i64 y] 33)) := (Below.refl _ w7).alloc (Nat.le_refl _) _
  have HB7 : Hid (Below w.heap.size w (w7.alloc (.cells #[.int .i64 x, .int .i64 y] 33))) := (HB6.out.trans (b7.mono HB6.out.size)).trans (B7.mono (HB6.out.trans (b7.mono HB6.out.size)).size)
  have HE7 : Hid (Lies (w7.alloc (.cells #[.int .i64 x, .int .i64 y] 33)) g3 #[.int .i64 x, .int .i64 y] 33) := (HE6.out.below b7 HE6.out.lt).alloc _
  have HF7 : Hid (Lies (w7.alloc (.cells #[.int .i64 x, .int .i64 y] 33)) w7.heap.size #[.int .i64 x, .int .i64 y] 33) := Lies.new w7 _ _
  clear b7 B7 hEN HB6 HE6
  go_wp2_with fail
  generalize w7.alloc (.cells #[.int .i64 x, .int .i64 y] 33) = w8 at *
  generalize w7.heap.size = g7 at *
  refine (HC.out _ HB7.out).mono ?_
  rintro e w9 ⟨v9, rfl, o9, b9⟩
  obtain ⟨a9, k9, rfl, n9, -⟩ := own_nts o9
  have HB9 : Hid (Below w.heap.size w w9) := HB7.out.trans (b9.mono HB7.out.size)
  have HE9 : Hid (Lies w9 g3 #[.int .i64 x, .int .i64 y] 33) := HE7.out.below b9 HE7.out.lt
  have HF9 : Hid (Lies w9 g7 #[.int .i64 x, .int .i64 y] 33) := HF7.out.below b9 HF7.out.lt
  have hPU := HPU.out w9 a9 k9 n9
  clear b9 o9 n9 HPU HB7 HE7 HF7 HC
  go_wp2_with fail
  refine hPU.mono ?_
  rintro e w10 ⟨rfl, b10⟩
  have HB10 : Hid (Below w.heap.size w w10) := HB9.out.trans (b10.mono HB9.out.size)
  have he10 : Lies w10 g3 #[.int .i64 x, .int .i64 y] 33 := HE9.out.below b10 HE9.out.lt
  have hf10 : Lies w10 g7 #[.int .i64 x, .int .i64 y] 33 := HF9.out.below b10 HF9.out.lt
  have c0 := he10.cell 0
  have c1 := he10.cell 1
  have z0 := hf10.cell 0
  have z1 := hf10.cell 1
  simp only [List.getElem?_toArray, List.getElem?_cons_zero, List.getElem?_cons_succ] at c0 c1 z0 z1
  clear b10 HE9 HF9 HB9 he10 hf10 hPU
  go_wp2_with fail
  refine (HWK.out _ HB10.out).mono ?_
  rintro e w11 ⟨rfl, b11⟩
  have HB11 : Hid (Below w.heap.size w w11) := HB10.out.trans (b11.mono HB10.out.size)
  clear b11 HB10 HWK c0 c1 z0 z1
  go_wp2
  go_ret
  exact ⟨rfl, HB11.out⟩

set_option maxRecDepth 100000 in
theorem contract (H : Type) (enc : TypeId × Value → H) (W : World) (base : Nat) (args : Array Value) (ds gs : List (DataW H)) (before : List MemPlace)
    (hval : ∀ (j : Nat) t v, Tryd.f5.params[j]? = some t → args[j]? = some v → Value.okWide Tryd.prog W .any base t v)
    (hW : DataW.Whole enc Tryd.prog Tryd.f5.params.toList Rows.runesWritesSpec.vars false W args.toList ds gs before)
    (hsz : (DataW.weightsEach Tryd.prog (Tryd.f5.params.toList ++ (Rows.OpenSpec.upto Rows.runesWritesSpec).bare.plain.varTypes Tryd.prog) (ds ++ gs)).all (· ≤ reachBytes) = true)
    (hk : Rows.uptoSmall H (ds ++ gs) = true) (hL : laidMetH Tryd.prog Rows.runesWritesUptoRow.laid W) (hsh : W.ShapedOpen Tryd.prog) :
    Calls Tryd.prog 5 args W fun e W' => ∃ v, e = .returned v ∧ Rows.runesWritesSpec.post enc Tryd.prog Tryd.f5 false true false false W args v W' := by
  have hW' := hW
  obtain ⟨p, q, hA0, hV, rfl, hfz, hnd⟩ := hW
  have hA : DataW.TrodAll enc Tryd.prog W 0 (fun _ => true) true Tryd.f5.params.toList args.toList ds p := hA0
  rw [Tryd.params5] at hA hval hsz
  obtain ⟨v0, vs0, d0, ds0, p0, q0, hargs, rfl, rfl, h0, r0⟩ := trodAll_cons hA
  obtain ⟨rfl, rfl, rfl⟩ := trodAll_nil r0
  obtain rfl : args = #[v0] := by cases args; simp_all
  obtain ⟨rfl, rfl⟩ := trodVars_none hV
  have k0 := h0
  have lt0 : ∀ x ∈ p0, x.block < W.heap.size := by obtain ⟨m, hm⟩ := k0; exact DataW.trod_lt m _ _ _ hm
  obtain ⟨a0, len0, cap0, rfl⟩ := okWide_slice Tryd.underlying28 (hval 0 28 v0 rfl rfl)
  obtain ⟨l0, e0, row0, bx0, bd0⟩ := open_runes h0
  clear hA0
  have s0 : l0.length ≤ 1048576 := by
    rcases bd0 with ⟨el, sp, rfl, hl⟩ | ⟨rfl, hl⟩
    · have := bulk_slice hk (el := el) (sp := sp) (by simp)
      omega
    · omega
  subst e0
  refine (walk a0 l0 cap0 row0 s0 bx0 (tabs_of hL hsh)).mono fun e W' ⟨he, bel⟩ => ?_
  subst he
  exact ⟨_, rfl, _, _, _, [], _, [], hW', trodAll_mk1 (shut_bool Tryd.underlying4 _), trodAll_cons_mk (Below.trod laidOut (by kernel_rfl) (of_decide_eq_true (by kernel_rfl)) k0 bel lt0) trodAll_mk0, rfl, bel.frame _, fun h => by cases h⟩

set_option maxRecDepth 100000 in
theorem laid_met (os : Os) : laidMet Tryd.prog Rows.runesWritesUptoRow.laid ((laidWorld os).forCall (fun _ _ => 0) ⟨#[], #[.slice none 0 0], []⟩).memory :=
  laidMet_of_run' 8 (by kernel_rfl) (by kernel_rfl)
set_option maxRecDepth 100000 in
theorem reads (os : Os) {H : Type} (enc : TypeId × Value → H) : ∃ places, DataW.whole enc Tryd.prog ((laidWorld os).forCall (fun _ _ => 0) ⟨#[], #[.slice none 0 0], []⟩).memory Tryd.f5.params.toList Rows.runesWritesSpec.vars false #[Value.slice none 0 0].toList 8 = some ([.nil], [], places) :=
  ⟨[], by kernel_rfl⟩

set_option maxRecDepth 100000 in
theorem lifted (os : Os) (started : os.Started) (H : Type) (enc : TypeId × Value → H) (F : Stop.Interp) :
    ReturnsInHanded {} Tryd.checked os 5 .any ((Rows.OpenSpec.upto Rows.runesWritesSpec).preRow enc Tryd.prog Tryd.f5 Rows.runesWritesUptoRow.domain false Rows.runesWritesUptoRow.laid) (((Rows.OpenSpec.upto Rows.runesWritesSpec).at F).post enc Tryd.prog Tryd.f5 false true false false) := by
  obtain ⟨places, hx⟩ := reads os enc
  refine returnsInHanded_of_row (C := Tryd.checked) (s := Rows.OpenSpec.upto Rows.runesWritesSpec) own started (by kernel_rfl) Tryd.func5
    (witness_row_at (enc := enc) (C := Tryd.checked) false (laidWorld os) #[.slice none 0 0] rfl (by kernel_rfl) (by kernel_rfl) (by kernel_rfl)
      (OpenSpec.preRow_of_cond 8 hx (by kernel_rfl) (fun k hk => by cases hk; kernel_rfl) (by kernel_rfl) (laid_met os))) ?_
  intro W base args ds gs before hval hW _ hcond hsz hL hsh _
  exact contract H enc W base args ds gs before hval hW hsz (hcond _ rfl) hL hsh

theorem said : Rows.RunesWritesUptoSaid :=
  OpenClaim.holds_of_cond 5 Tryd.f5 rfl rfl rfl rfl rfl rfl rfl ⟨rfl, rfl, rfl, rfl, rfl⟩ rfl rfl rfl rfl rfl (by kernel_rfl) Tryd.func5 (by kernel_rfl)
    (of_decide_eq_true (by kernel_rfl)) (by unfold Func.isWrapper; first | (rw [if_pos (by decide +kernel)]; kernel_rfl) | (rw [if_neg (by decide +kernel)]; exact ⟨rfl, rfl⟩))
    (fun os started H enc _ F => by rw [OpenClaim.pre_eq_preRow]; exact lifted os started H enc F)

/-- No parameter wants a stand-in; the program's own looks are off. -/
theorem plain (f : FuncId) (fn : Func) (hf : Tryd.pinned.checked.prog.funcNamed "posthorn/posthornlaw05.RunesWrites" = some f) (hfn : Tryd.pinned.checked.prog.funcs[f]? = some fn) :
    false = Tryd.pinned.checked.prog.looks [] ∧ ∀ (j : Nat) t, fn.params[j]? = some t → Tryd.pinned.checked.prog.wantsStandIn t = false := by
  obtain rfl : f = 5 := Option.some.inj ((show Tryd.prog.funcNamed "posthorn/posthornlaw05.RunesWrites" = some 5 by kernel_rfl).symm.trans hf) |>.symm
  obtain rfl : fn = Tryd.f5 := (Option.some.inj (Tryd.func5.symm.trans hfn)).symm
  refine ⟨by kernel_rfl, fun j t ht => ?_⟩
  rw [Tryd.params5] at ht
  have hm : t ∈ [28] := by simpa using Array.mem_of_getElem? ht
  have hall : ([28].all fun u => !Tryd.prog.wantsStandIn u) = true := by kernel_rfl
  exact (show Tryd.prog.wantsStandIn t = false by simpa using List.all_eq_true.1 hall t hm)

/-- The card. -/
theorem card : Rows.RunesWritesUptoCardSaid :=
  Claim7.holds_tied_plain_at .later [] _ _ _ _ said (fun _ h => by cases h) (by kernel_rfl) (fun _ h => by cases h) runesWritesUpto_row_tie rfl ⟨rfl, rfl⟩ (by kernel_rfl) rfl plain (by kernel_rfl)
end Go.Proofs.YtedgimkffkflbaaDoor.runesWrites
namespace Go.Proofs.YtedgimkffkflbaaDoor
theorem runesWritesUpto_card : Rows.RunesWritesUptoCardSaid := runesWrites.card
#print axioms runesWritesUpto_card
end Go.Proofs.YtedgimkffkflbaaDoor
