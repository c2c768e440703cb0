/-
  P5.1, P5.2: Bad and Decode of any text, and of its bytes.
-/
import Derived.Test.YtedgimkffkflbaaDoorOpen5
import Derived.Test.YtedgimkffkflbaaDoorRDec
import Derived.Test.YtedgimkffkflbaaDoorWak
import Derived.Test.YtedgimkffkflbaaDoorCard5
import Derived.ProofKit
import Derived.ChangeMaps5
import Derived.OpenShut
import Derived.ShutString
import Derived.ChangeOld
import Derived.SizedLaws
namespace Go.Proofs.YtedgimkffkflbaaDoor.runesReads
open Go.ChangeShapes Go.WideShapes Go.ChangeAt Go.RowKit
open Go.ChangeMaps (open_string shut_string)

theorem decE_two (l : List UInt8) : ∃ x y, decE l = #[.int .i64 x, .int .i64 y] := by
  unfold decE
  split
  · exact ⟨_, _, rfl⟩
  · exact ⟨_, _, rfl⟩
theorem dec_short (l : List UInt8) : (decR l).length ≤ l.length := by
  unfold decR
  split
  · simp
  · exact decL_length l

set_option maxHeartbeats 4000000 in
set_option maxRecDepth 100000 in
theorem walk (s : ByteArray) (hs : s.size ≤ 1048576) (w : World) (ht : Tb w) :
    Calls Tryd.prog 4 #[.string s] w fun e w' => e = .returned (.bool true) ∧ Below w.heap.size w w' := by
  have HT : Hid (Tb w) := ht
  have hll := len_list s
  obtain ⟨x, y, hxy⟩ := decE_two s.data.toList
  have hds := dec_short s.data.toList
  obtain ⟨c, w1, hconv, hrow, hc1, -, hb1, hz1, -⟩ := conv_bytes w s
  have HB1 : Hid (Below w.heap.size w w1) := hb1
  have hD := dbad_any (some ⟨w.heap.size, 0, none⟩) s.data.toList c w1 (.inr ⟨w.heap.size, 0, rfl, hz1, hrow⟩) (by omega) (by omega)
  have HDD : Hid (∀ wx, Calls Tryd.prog 16 #[.string s] wx fun e w' => (∃ v, e = .returned (.tuple #[v, .agg #[.int .i64 x, .int .i64 y]]) ∧ w'.ownsRow wx.heap.size 21 1 v (decR s.data.toList).length (cellsN .i32 (decR s.data.toList))) ∧ Below wx.heap.size wx w') := fun wx => by
    have := ddec_any s wx (by omega)
    rw [hxy] at this
    exact this
  have HDC : Hid (∀ wx, Below w.heap.size w wx → Calls Tryd.prog 17 #[.string s] wx fun e w' => (∃ v, e = .returned (.tuple #[v, .agg #[.int .i64 x, .int .i64 y]]) ∧ w'.ownsRow wx.heap.size 21 1 v (decR s.data.toList).length (cellsN .i32 (decR s.data.toList))) ∧ Below wx.heap.size wx w') := fun wx hx => by
    have := dec_any s wx ((HT.out.below hx (Nat.le_refl _)).fst) (by omega)
    rw [hxy] at this
    exact this
  have HU : Hid (∀ wx, Below w.heap.size w wx → Calls Tryd.prog 10 #[.string s] wx fun e w' => e = .returned (.int .i64 (badU s.data.toList)) ∧ Below wx.heap.size wx w') := fun wx hx => ubs_any s wx ((HT.out.below hx (Nat.le_refl _)).fst) (by omega)
  have HUB : Hid (∀ wx k cc, Below w.heap.size w wx → Bts (some ⟨k, 0, none⟩) s.data.toList wx → Calls Tryd.prog 11 #[.slice (some ⟨k, 0, none⟩) s.size cc] wx fun e w' => e = .returned (.int .i64 (badU s.data.toList)) ∧ Below wx.heap.size wx w') := fun wx k cc hx hbt => by
    have := ubb_any (some ⟨k, 0, none⟩) s.data.toList cc wx ((HT.out.below hx (Nat.le_refl _)).fst) hbt (by omega)
    rw [hll] at this
    exact this
  rw [hll] at hD hds
  generalize decR s.data.toList = R at *
  generalize badU s.data.toList = bd at *
  clear ht hrow hz1 hb1 hxy
  go_enter Tryd.func4, Tryd.ntmps4
  go_wp2_with fail
  refine hD.mono ?_
  rintro e w2 ⟨rfl, b2⟩
  have HB2 : Hid (Below w.heap.size w w2) := HB1.out.trans (b2.mono HB1.out.size)
  clear b2 hD hconv HB1
  go_wp2_with fail
  refine (HDD.out _).mono ?_
  rintro e w3 ⟨⟨v3, rfl, o3⟩, b3⟩
  obtain ⟨a3, k3, rfl, n3, -⟩ := own_nts o3
  have B3 : Below w3.heap.size w3 (w3.alloc (.cells #[.int .i64 x, .int .i64 y] 33)) := (Below.refl _ w3).alloc (Nat.le_refl _) _
  have HB3 : Hid (Below w.heap.size w (w3.alloc (.cells #[.int .i64 x, .int .i64 y] 33))) := (HB2.out.trans (b3.mono HB2.out.size)).trans (B3.mono (HB2.out.trans (b3.mono HB2.out.size)).size)
  have HE3 : Hid (Lies (w3.alloc (.cells #[.int .i64 x, .int .i64 y] 33)) w3.heap.size #[.int .i64 x, .int .i64 y] 33) := Lies.new w3 _ _
  have HN3 : Hid (Nts .i32 a3 R (w3.alloc (.cells #[.int .i64 x, .int .i64 y] 33))) := n3.below B3
  clear b3 B3 o3 n3 HDD HB2
  go_wp2_with fail
  generalize w3.alloc (.cells #[.int .i64 x, .int .i64 y] 33) = w4 at *
  generalize w3.heap.size = g3 at *
  refine (HDC.out _ HB3.out).mono ?_
  rintro e w5 ⟨⟨v5, rfl, o5⟩, b5⟩
  obtain ⟨a5, k5, rfl, n5, -⟩ := own_nts o5
  have B5 : Below w5.heap.size w5 (w5.alloc (.cells #[.int .i64 x, .int .i64 y] 33)) := (Below.refl _ w5).alloc (Nat.le_refl _) _
  have HB5 : Hid (Below w.heap.size w (w5.alloc (.cells #[.int .i64 x, .int .i64 y] 33))) := (HB3.out.trans (b5.mono HB3.out.size)).trans (B5.mono (HB3.out.trans (b5.mono HB3.out.size)).size)
  have HE5 : Hid (Lies (w5.alloc (.cells #[.int .i64 x, .int .i64 y] 33)) g3 #[.int .i64 x, .int .i64 y] 33) := (HE3.out.below b5 HE3.out.lt).alloc _
  have HF5 : Hid (Lies (w5.alloc (.cells #[.int .i64 x, .int .i64 y] 33)) w5.heap.size #[.int .i64 x, .int .i64 y] 33) := Lies.new w5 _ _
  have HN5 : Hid (Nts .i32 a3 R (w5.alloc (.cells #[.int .i64 x, .int .i64 y] 33))) := (HN3.out.below b5).below B5
  have HM5 : Hid (Nts .i32 a5 R (w5.alloc (.cells #[.int .i64 x, .int .i64 y] 33))) := n5.below B5
  clear b5 B5 o5 n5 HDC HB3 HE3 HN3
  go_wp2_with fail
  generalize w5.alloc (.cells #[.int .i64 x, .int .i64 y] 33) = w6 at *
  generalize w5.heap.size = g5 at *
  refine (HU.out _ HB5.out).mono ?_
  rintro e w7 ⟨rfl, b7⟩
  obtain ⟨c8, w8, hconv, hrow, -, -, hb8, hz8, -⟩ := conv_bytes w7 s
  have b8 := b7.trans (hb8.mono b7.size)
  have HB8 : Hid (Below w.heap.size w w8) := HB5.out.trans (b8.mono HB5.out.size)
  have HE8 : Hid (Lies w8 g3 #[.int .i64 x, .int .i64 y] 33) := HE5.out.below b8 HE5.out.lt
  have HF8 : Hid (Lies w8 g5 #[.int .i64 x, .int .i64 y] 33) := HF5.out.below b8 HF5.out.lt
  have HN8 : Hid (Nts .i32 a3 R w8) := HN5.out.below b8
  have HM8 : Hid (Nts .i32 a5 R w8) := HM5.out.below b8
  have HUQ := HUB.out w8 w7.heap.size c8 HB8.out (.inr ⟨w7.heap.size, 0, rfl, hz8, hrow⟩)
  clear b7 b8 hb8 hz8 hrow HU HUB HB5 HE5 HF5 HN5 HM5
  go_wp2_with fail
  refine HUQ.mono ?_
  rintro e w9 ⟨rfl, b9⟩
  have HB9 : Hid (Below w.heap.size w w9) := HB8.out.trans (b9.mono HB8.out.size)
  have he9 : Lies w9 g3 #[.int .i64 x, .int .i64 y] 33 := HE8.out.below b9 HE8.out.lt
  have hf9 : Lies w9 g5 #[.int .i64 x, .int .i64 y] 33 := HF8.out.below b9 HF8.out.lt
  have HN9 : Hid (Nts .i32 a3 R w9) := HN8.out.below b9
  have HM9 : Hid (Nts .i32 a5 R w9) := HM8.out.below b9
  have c0 := he9.cell 0
  have c1 := he9.cell 1
  have z0 := hf9.cell 0
  have z1 := hf9.cell 1
  simp only [List.getElem?_toArray, List.getElem?_cons_zero, List.getElem?_cons_succ] at c0 c1 z0 z1
  have HEQ := eqr_any a5 a3 R R k5 k3 w9 HM9.out HN9.out (by omega)
  rw [decide_eq_true rfl] at HEQ
  clear b9 HUQ hconv HB8 HE8 HF8 HN8 HM8 he9 hf9 HN9 HM9
  go_wp2_with fail
  refine HEQ.mono ?_
  rintro e w10 ⟨rfl, q, rfl⟩
  have HB10 : Hid (Below w.heap.size w (w9.drewN q)) := ⟨HB9.out.os, HB9.out.tape, HB9.out.output, HB9.out.size, HB9.out.block⟩
  have HWK := wakes_any (w9.drewN q) (HT.out.below HB10.out (Nat.le_refl _))
  clear HEQ HB9 c0 c1 z0 z1
  go_wp2_with fail
  refine HWK.mono ?_
  rintro e w11 ⟨rfl, b11⟩
  have HB11 : Hid (Below w.heap.size w w11) := HB10.out.trans (b11.mono HB10.out.size)
  clear b11 HB10 HWK
  go_wp2
  go_ret
  exact ⟨rfl, HB11.out⟩

set_option maxRecDepth 100000 in
theorem contract (H : Type) (enc : TypeId × Value → H) (W : World) (base : Nat) (args : Array Value) (ds gs : List (DataW H)) (before : List MemPlace)
    (hval : ∀ (j : Nat) t v, Tryd.f4.params[j]? = some t → args[j]? = some v → Value.okWide Tryd.prog W .any base t v)
    (hW : DataW.Whole enc Tryd.prog Tryd.f4.params.toList Rows.runesReadsSpec.vars false W args.toList ds gs before)
    (hsz : (DataW.weightsEach Tryd.prog (Tryd.f4.params.toList ++ (Rows.OpenSpec.upto Rows.runesReadsSpec).bare.plain.varTypes Tryd.prog) (ds ++ gs)).all (· ≤ reachBytes) = true)
    (hk : Rows.uptoSmall H (ds ++ gs) = true) (hL : laidMetH Tryd.prog Rows.runesReadsUptoRow.laid W) (hsh : W.ShapedOpen Tryd.prog) :
    Calls Tryd.prog 4 args W fun e W' => ∃ v, e = .returned v ∧ Rows.runesReadsSpec.post enc Tryd.prog Tryd.f4 false true false false W args v W' := by
  have hW' := hW
  obtain ⟨p, q, hA0, hV, rfl, hfz, hnd⟩ := hW
  have hA : DataW.TrodAll enc Tryd.prog W 0 (fun _ => true) true Tryd.f4.params.toList args.toList ds p := hA0
  rw [Tryd.params4] at hA hval hsz
  obtain ⟨v0, vs0, d0, ds0, p0, q0, hargs, rfl, rfl, h0, r0⟩ := trodAll_cons hA
  obtain ⟨rfl, rfl, rfl⟩ := trodAll_nil r0
  obtain rfl : args = #[v0] := by cases args; simp_all
  obtain ⟨rfl, rfl⟩ := trodVars_none hV
  obtain ⟨a0, rfl, rfl, rfl, w0⟩ := open_string Tryd.underlying9 (hval 0 9 v0 rfl rfl) h0
  clear hA0
  have s0 : a0.size ≤ 1048576 := bulk_string hk (by simp)
  simp only [List.append_nil] at hW'
  refine (walk a0 s0 W (tabs_of hL hsh)).mono fun e W' ⟨he, bel⟩ => ?_
  subst he
  exact ⟨_, rfl, _, _, _, [], [], [], hW', trodAll_mk1 (shut_bool Tryd.underlying4 _), trodAll_cons_mk (shut_string Tryd.underlying9 w0) trodAll_mk0, rfl, bel.frame _, fun h => by cases h⟩

set_option maxRecDepth 100000 in
theorem laid_met (os : Os) : laidMet Tryd.prog Rows.runesReadsUptoRow.laid ((laidWorld os).forCall (fun _ _ => 0) ⟨#[], #[.string ByteArray.empty], []⟩).memory :=
  laidMet_of_run' 8 (by kernel_rfl) (by kernel_rfl)
set_option maxRecDepth 100000 in
theorem reads (os : Os) {H : Type} (enc : TypeId × Value → H) : ∃ places, DataW.whole enc Tryd.prog ((laidWorld os).forCall (fun _ _ => 0) ⟨#[], #[.string ByteArray.empty], []⟩).memory Tryd.f4.params.toList Rows.runesReadsSpec.vars false #[Value.string ByteArray.empty].toList 8 = some ([.lit (.string [])], [], places) :=
  ⟨[], by kernel_rfl⟩

set_option maxRecDepth 100000 in
theorem lifted (os : Os) (started : os.Started) (H : Type) (enc : TypeId × Value → H) (F : Stop.Interp) :
    ReturnsInHanded {} Tryd.checked os 4 .any ((Rows.OpenSpec.upto Rows.runesReadsSpec).preRow enc Tryd.prog Tryd.f4 Rows.runesReadsUptoRow.domain false Rows.runesReadsUptoRow.laid) (((Rows.OpenSpec.upto Rows.runesReadsSpec).at F).post enc Tryd.prog Tryd.f4 false true false false) := by
  obtain ⟨places, hx⟩ := reads os enc
  refine returnsInHanded_of_row (C := Tryd.checked) (s := Rows.OpenSpec.upto Rows.runesReadsSpec) own started (by kernel_rfl) Tryd.func4
    (witness_row_at (enc := enc) (C := Tryd.checked) false (laidWorld os) #[.string ByteArray.empty] rfl (by kernel_rfl) (by kernel_rfl) (by kernel_rfl)
      (OpenSpec.preRow_of_cond 8 hx (by kernel_rfl) (fun k hk => by cases hk; kernel_rfl) (by kernel_rfl) (laid_met os))) ?_
  intro W base args ds gs before hval hW _ hcond hsz hL hsh _
  exact contract H enc W base args ds gs before hval hW hsz (hcond _ rfl) hL hsh

theorem said : Rows.RunesReadsUptoSaid :=
  OpenClaim.holds_of_cond 4 Tryd.f4 rfl rfl rfl rfl rfl rfl rfl ⟨rfl, rfl, rfl, rfl, rfl⟩ rfl rfl rfl rfl rfl (by kernel_rfl) Tryd.func4 (by kernel_rfl)
    (of_decide_eq_true (by kernel_rfl)) (by unfold Func.isWrapper; first | (rw [if_pos (by decide +kernel)]; kernel_rfl) | (rw [if_neg (by decide +kernel)]; exact ⟨rfl, rfl⟩))
    (fun os started H enc _ F => by rw [OpenClaim.pre_eq_preRow]; exact lifted os started H enc F)

/-- No parameter wants a stand-in; the program's own looks are off. -/
theorem plain (f : FuncId) (fn : Func) (hf : Tryd.pinned.checked.prog.funcNamed "posthorn/posthornlaw05.RunesReads" = some f) (hfn : Tryd.pinned.checked.prog.funcs[f]? = some fn) :
    false = Tryd.pinned.checked.prog.looks [] ∧ ∀ (j : Nat) t, fn.params[j]? = some t → Tryd.pinned.checked.prog.wantsStandIn t = false := by
  obtain rfl : f = 4 := Option.some.inj ((show Tryd.prog.funcNamed "posthorn/posthornlaw05.RunesReads" = some 4 by kernel_rfl).symm.trans hf) |>.symm
  obtain rfl : fn = Tryd.f4 := (Option.some.inj (Tryd.func4.symm.trans hfn)).symm
  refine ⟨by kernel_rfl, fun j t ht => ?_⟩
  rw [Tryd.params4] at ht
  have hm : t ∈ [9] := by simpa using Array.mem_of_getElem? ht
  have hall : ([9].all fun u => !Tryd.prog.wantsStandIn u) = true := by kernel_rfl
  exact (show Tryd.prog.wantsStandIn t = false by simpa using List.all_eq_true.1 hall t hm)

/-- The card. -/
theorem card : Rows.RunesReadsUptoCardSaid :=
  Claim7.holds_tied_plain_at .later [] _ _ _ _ said (fun _ h => by cases h) (by kernel_rfl) (fun _ h => by cases h) runesReadsUpto_row_tie rfl ⟨rfl, rfl⟩ (by kernel_rfl) rfl plain (by kernel_rfl)
end Go.Proofs.YtedgimkffkflbaaDoor.runesReads
namespace Go.Proofs.YtedgimkffkflbaaDoor
theorem runesReadsUpto_card : Rows.RunesReadsUptoCardSaid := runesReads.card
#print axioms runesReadsUpto_card
end Go.Proofs.YtedgimkffkflbaaDoor
