/-
  P5.6: Unpuny of any text.
-/
import Derived.Test.YtedgimkffkflbaaDoorOpen5
import Derived.Test.YtedgimkffkflbaaDoorRUnw
import Derived.Test.YtedgimkffkflbaaDoorWak
import Derived.Test.YtedgimkffkflbaaDoorCard5
import Derived.ProofKit
import Derived.ChangeMaps5
import Derived.OpenShut
import Derived.ShutString
import Derived.ChangeOld
import Derived.SizedLaws
namespace Go.Proofs.YtedgimkffkflbaaDoor.runesUnpunies
open Go.ChangeShapes Go.WideShapes Go.ChangeAt Go.RowKit
open Go.ChangeMaps (open_string shut_string)

theorem unp_short (l : List UInt8) : (unpT l).length ≤ 2 * l.length := by
  unfold unpT
  split
  · simp
  · cases h : unpD l with
    | inl e => simp
    | inr ps =>
      simp only
      have h0 : (lowR (l.take (mrkN l))).length = mrkN l := by
        unfold lowR
        rw [List.length_map, List.length_take]
        have := mrkN_le l
        omega
      obtain ⟨h1, h2⟩ := unL_ok l _ _ _ _ _ _ _ _ (by omega) h
      rw [insAll_length _ _ (by rw [h0]; exact h1), h0]
      have := mrkN_le l
      omega

set_option maxHeartbeats 4000000 in
set_option maxRecDepth 100000 in
theorem walk (s : ByteArray) (hs : s.size ≤ 1048576) (w : World) (ht : Tb w) :
    Calls Tryd.prog 7 #[.string s] w fun e w' => e = .returned (.bool true) ∧ Below w.heap.size w w' := by
  have HT : Hid (Tb w) := ht
  have hll := len_list s
  have hds := unp_short s.data.toList
  obtain ⟨x, y, hxy⟩ : ∃ x y, unpV s.data.toList = #[.int .i64 x, .int .i64 y] := ⟨_, _, rfl⟩
  have hD := dunp_any s w (by omega)
  have HDC : Hid (∀ wx, Below w.heap.size w wx → Calls Tryd.prog 12 #[.string s] wx fun e w' => (∃ v, e = .returned (.tuple #[v, .agg #[.int .i64 x, .int .i64 y]]) ∧ w'.ownsRow wx.heap.size 21 1 v (unpT s.data.toList).length (cellsN .i32 (unpT s.data.toList))) ∧ Below wx.heap.size wx w') := fun wx hx => by
    have := unp_any s wx ((HT.out.below hx (Nat.le_refl _)).tab) ((HT.out.below hx (Nat.le_refl _)).gcl) (by omega)
    rw [hxy] at this
    exact this
  rw [hxy] at hD
  rw [hll] at hds
  generalize unpT s.data.toList = R at *
  clear ht hxy hll
  go_enter Tryd.func7, Tryd.ntmps7
  go_wp2_with fail
  refine hD.mono ?_
  rintro e w3 ⟨⟨v3, rfl, o3⟩, b3⟩
  obtain ⟨a3, k3, rfl, n3, -⟩ := own_nts o3
  have B3 : Below w3.heap.size w3 (w3.alloc (.cells #[.int .i64 x, .int .i64 y] 33)) := (Below.refl _ w3).alloc (Nat.le_refl _) _
  have HB3 : Hid (Below w.heap.size w (w3.alloc (.cells #[.int .i64 x, .int .i64 y] 33))) := b3.trans (B3.mono b3.size)
  have HE3 : Hid (Lies (w3.alloc (.cells #[.int .i64 x, .int .i64 y] 33)) w3.heap.size #[.int .i64 x, .int .i64 y] 33) := Lies.new w3 _ _
  have HN3 : Hid (Nts .i32 a3 R (w3.alloc (.cells #[.int .i64 x, .int .i64 y] 33))) := n3.below B3
  clear b3 B3 o3 n3 hD
  go_wp2_with fail
  generalize w3.alloc (.cells #[.int .i64 x, .int .i64 y] 33) = w4 at *
  generalize w3.heap.size = g3 at *
  refine (HDC.out _ HB3.out).mono ?_
  rintro e w5 ⟨⟨v5, rfl, o5⟩, b5⟩
  obtain ⟨a5, k5, rfl, n5, -⟩ := own_nts o5
  have B5 : Below w5.heap.size w5 (w5.alloc (.cells #[.int .i64 x, .int .i64 y] 33)) := (Below.refl _ w5).alloc (Nat.le_refl _) _
  have HB5 : Hid (Below w.heap.size w (w5.alloc (.cells #[.int .i64 x, .int .i64 y] 33))) := (HB3.out.trans (b5.mono HB3.out.size)).trans (B5.mono (HB3.out.trans (b5.mono HB3.out.size)).size)
  have he5 : Lies (w5.alloc (.cells #[.int .i64 x, .int .i64 y] 33)) g3 #[.int .i64 x, .int .i64 y] 33 := (HE3.out.below b5 HE3.out.lt).alloc _
  have hf5 : Lies (w5.alloc (.cells #[.int .i64 x, .int .i64 y] 33)) w5.heap.size #[.int .i64 x, .int .i64 y] 33 := Lies.new w5 _ _
  have HN5 : Hid (Nts .i32 a3 R (w5.alloc (.cells #[.int .i64 x, .int .i64 y] 33))) := (HN3.out.below b5).below B5
  have HM5 : Hid (Nts .i32 a5 R (w5.alloc (.cells #[.int .i64 x, .int .i64 y] 33))) := n5.below B5
  have c0 := he5.cell 0
  have c1 := he5.cell 1
  have z0 := hf5.cell 0
  have z1 := hf5.cell 1
  simp only [List.getElem?_toArray, List.getElem?_cons_zero, List.getElem?_cons_succ] at c0 c1 z0 z1
  have HEQ := eqr_any a5 a3 R R k5 k3 (w5.alloc (.cells #[.int .i64 x, .int .i64 y] 33)) HM5.out HN5.out (by omega)
  rw [decide_eq_true rfl] at HEQ
  clear b5 B5 o5 n5 HDC HB3 HE3 HN3 he5 hf5 HN5 HM5
  go_wp2_with fail
  refine HEQ.mono ?_
  rintro e w10 ⟨rfl, q, rfl⟩
  have HB10 : Hid (Below w.heap.size w ((w5.alloc (.cells #[.int .i64 x, .int .i64 y] 33)).drewN q)) := ⟨HB5.out.os, HB5.out.tape, HB5.out.output, HB5.out.size, HB5.out.block⟩
  have HWK := wakes_any ((w5.alloc (.cells #[.int .i64 x, .int .i64 y] 33)).drewN q) (HT.out.below HB10.out (Nat.le_refl _))
  clear HEQ HB5 c0 c1 z0 z1
  go_wp2_with fail
  refine HWK.mono ?_
  rintro e w11 ⟨rfl, b11⟩
  have HB11 : Hid (Below w.heap.size w w11) := HB10.out.trans (b11.mono HB10.out.size)
  clear b11 HB10 HWK
  go_wp2
  go_ret
  exact ⟨rfl, HB11.out⟩

set_option maxRecDepth 100000 in
theorem contract (H : Type) (enc : TypeId × Value → H) (W : World) (base : Nat) (args : Array Value) (ds gs : List (DataW H)) (before : List MemPlace)
    (hval : ∀ (j : Nat) t v, Tryd.f7.params[j]? = some t → args[j]? = some v → Value.okWide Tryd.prog W .any base t v)
    (hW : DataW.Whole enc Tryd.prog Tryd.f7.params.toList Rows.runesUnpuniesSpec.vars false W args.toList ds gs before)
    (hsz : (DataW.weightsEach Tryd.prog (Tryd.f7.params.toList ++ (Rows.OpenSpec.upto Rows.runesUnpuniesSpec).bare.plain.varTypes Tryd.prog) (ds ++ gs)).all (· ≤ reachBytes) = true)
    (hk : Rows.uptoSmall H (ds ++ gs) = true) (hL : laidMetH Tryd.prog Rows.runesUnpuniesUptoRow.laid W) (hsh : W.ShapedOpen Tryd.prog) :
    Calls Tryd.prog 7 args W fun e W' => ∃ v, e = .returned v ∧ Rows.runesUnpuniesSpec.post enc Tryd.prog Tryd.f7 false true false false W args v W' := by
  have hW' := hW
  obtain ⟨p, q, hA0, hV, rfl, hfz, hnd⟩ := hW
  have hA : DataW.TrodAll enc Tryd.prog W 0 (fun _ => true) true Tryd.f7.params.toList args.toList ds p := hA0
  rw [Tryd.params7] at hA hval hsz
  obtain ⟨v0, vs0, d0, ds0, p0, q0, hargs, rfl, rfl, h0, r0⟩ := trodAll_cons hA
  obtain ⟨rfl, rfl, rfl⟩ := trodAll_nil r0
  obtain rfl : args = #[v0] := by cases args; simp_all
  obtain ⟨rfl, rfl⟩ := trodVars_none hV
  obtain ⟨a0, rfl, rfl, rfl, w0⟩ := open_string Tryd.underlying9 (hval 0 9 v0 rfl rfl) h0
  clear hA0
  have s0 : a0.size ≤ 1048576 := bulk_string hk (by simp)
  simp only [List.append_nil] at hW'
  refine (walk a0 s0 W (tabs_of hL hsh)).mono fun e W' ⟨he, bel⟩ => ?_
  subst he
  exact ⟨_, rfl, _, _, _, [], [], [], hW', trodAll_mk1 (shut_bool Tryd.underlying4 _), trodAll_cons_mk (shut_string Tryd.underlying9 w0) trodAll_mk0, rfl, bel.frame _, fun h => by cases h⟩

set_option maxRecDepth 100000 in
theorem laid_met (os : Os) : laidMet Tryd.prog Rows.runesUnpuniesUptoRow.laid ((laidWorld os).forCall (fun _ _ => 0) ⟨#[], #[.string ByteArray.empty], []⟩).memory :=
  laidMet_of_run' 8 (by kernel_rfl) (by kernel_rfl)
set_option maxRecDepth 100000 in
theorem reads (os : Os) {H : Type} (enc : TypeId × Value → H) : ∃ places, DataW.whole enc Tryd.prog ((laidWorld os).forCall (fun _ _ => 0) ⟨#[], #[.string ByteArray.empty], []⟩).memory Tryd.f7.params.toList Rows.runesUnpuniesSpec.vars false #[Value.string ByteArray.empty].toList 8 = some ([.lit (.string [])], [], places) :=
  ⟨[], by kernel_rfl⟩

set_option maxRecDepth 100000 in
theorem lifted (os : Os) (started : os.Started) (H : Type) (enc : TypeId × Value → H) (F : Stop.Interp) :
    ReturnsInHanded {} Tryd.checked os 7 .any ((Rows.OpenSpec.upto Rows.runesUnpuniesSpec).preRow enc Tryd.prog Tryd.f7 Rows.runesUnpuniesUptoRow.domain false Rows.runesUnpuniesUptoRow.laid) (((Rows.OpenSpec.upto Rows.runesUnpuniesSpec).at F).post enc Tryd.prog Tryd.f7 false true false false) := by
  obtain ⟨places, hx⟩ := reads os enc
  refine returnsInHanded_of_row (C := Tryd.checked) (s := Rows.OpenSpec.upto Rows.runesUnpuniesSpec) own started (by kernel_rfl) Tryd.func7
    (witness_row_at (enc := enc) (C := Tryd.checked) false (laidWorld os) #[.string ByteArray.empty] rfl (by kernel_rfl) (by kernel_rfl) (by kernel_rfl)
      (OpenSpec.preRow_of_cond 8 hx (by kernel_rfl) (fun k hk => by cases hk; kernel_rfl) (by kernel_rfl) (laid_met os))) ?_
  intro W base args ds gs before hval hW _ hcond hsz hL hsh _
  exact contract H enc W base args ds gs before hval hW hsz (hcond _ rfl) hL hsh

theorem said : Rows.RunesUnpuniesUptoSaid :=
  OpenClaim.holds_of_cond 7 Tryd.f7 rfl rfl rfl rfl rfl rfl rfl ⟨rfl, rfl, rfl, rfl, rfl⟩ rfl rfl rfl rfl rfl (by kernel_rfl) Tryd.func7 (by kernel_rfl)
    (of_decide_eq_true (by kernel_rfl)) (by unfold Func.isWrapper; first | (rw [if_pos (by decide +kernel)]; kernel_rfl) | (rw [if_neg (by decide +kernel)]; exact ⟨rfl, rfl⟩))
    (fun os started H enc _ F => by rw [OpenClaim.pre_eq_preRow]; exact lifted os started H enc F)

/-- No parameter wants a stand-in; the program's own looks are off. -/
theorem plain (f : FuncId) (fn : Func) (hf : Tryd.pinned.checked.prog.funcNamed "posthorn/posthornlaw05.RunesUnpunies" = some f) (hfn : Tryd.pinned.checked.prog.funcs[f]? = some fn) :
    false = Tryd.pinned.checked.prog.looks [] ∧ ∀ (j : Nat) t, fn.params[j]? = some t → Tryd.pinned.checked.prog.wantsStandIn t = false := by
  obtain rfl : f = 7 := Option.some.inj ((show Tryd.prog.funcNamed "posthorn/posthornlaw05.RunesUnpunies" = some 7 by kernel_rfl).symm.trans hf) |>.symm
  obtain rfl : fn = Tryd.f7 := (Option.some.inj (Tryd.func7.symm.trans hfn)).symm
  refine ⟨by kernel_rfl, fun j t ht => ?_⟩
  rw [Tryd.params7] at ht
  have hm : t ∈ [9] := by simpa using Array.mem_of_getElem? ht
  have hall : ([9].all fun u => !Tryd.prog.wantsStandIn u) = true := by kernel_rfl
  exact (show Tryd.prog.wantsStandIn t = false by simpa using List.all_eq_true.1 hall t hm)

/-- The card. -/
theorem card : Rows.RunesUnpuniesUptoCardSaid :=
  Claim7.holds_tied_plain_at .later [] _ _ _ _ said (fun _ h => by cases h) (by kernel_rfl) (fun _ h => by cases h) runesUnpuniesUpto_row_tie rfl ⟨rfl, rfl⟩ (by kernel_rfl) rfl plain (by kernel_rfl)
end Go.Proofs.YtedgimkffkflbaaDoor.runesUnpunies
namespace Go.Proofs.YtedgimkffkflbaaDoor
theorem runesUnpuniesUpto_card : Rows.RunesUnpuniesUptoCardSaid := runesUnpunies.card
#print axioms runesUnpuniesUpto_card
end Go.Proofs.YtedgimkffkflbaaDoor
