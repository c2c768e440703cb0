/-
  For every text of bulk at most 1048576 the statement ParamXtexts returns true.
-/
import Derived.Test.YtjpmfgmoekpcpaaDoorXt10
import Derived.Test.YtjpmfgmoekpcpaaDoorYu10
import Derived.Test.YtjpmfgmoekpcpaaDoorCardX10
import Derived.ProofKit
import Derived.ChangeMaps5
import Derived.OpenShut
import Derived.ShutString
import Derived.ChangeOld
import Derived.SizedLaws
namespace Go.Proofs.YtjpmfgmoekpcpaaDoor.paramXtexts
open Go.ChangeShapes Go.WideShapes Go.ChangeAt Go.RowKit
open Go.ChangeMaps (open_string shut_string)

theorem uxV_form (x : Ux) : ∃ (T : ByteArray) (er p : Int), uxV x = .tuple #[.string T, .agg #[.int .i64 er, .int .i64 p]] := by
  cases x with
  | bad q => exact ⟨⟨#[]⟩, 104, q, rfl⟩
  | ok l => exact ⟨tx l, 0, 0, rfl⟩
theorem unx_plus : unx [43, 50, 66] = .ok [43] := by
  have : xdg 50 = true := by decide +kernel
  have h2 : xdg 66 = true := by decide +kernel
  rw [unx, if_pos rfl, if_pos this, if_pos h2, unx]
  rfl
set_option maxHeartbeats 8000000 in
set_option maxRecDepth 100000 in
theorem walkW (s T x : ByteArray) (er p : Int) (w : World) (HU : Hid (∀ wx, Below w.heap.size w wx → Calls Tryd.prog 15 #[.string s] wx fun e w' => e = .returned (.tuple #[.string T, .agg #[.int .i64 er, .int .i64 p]]) ∧ Below wx.heap.size wx w')) (HY : Hid (∀ wx, Below w.heap.size w wx → Calls Tryd.prog 16 #[.string s] wx fun e w' => e = .returned (.tuple #[.string T, .agg #[.int .i64 er, .int .i64 p]]) ∧ Below wx.heap.size wx w'))
    (HO : Hid (∀ wx, Below w.heap.size w wx → Calls Tryd.prog 15 #[.string ⟨#[43, 50, 66]⟩] wx fun e w' => e = .returned (.tuple #[.string ⟨#[43]⟩, .agg #[.int .i64 0, .int .i64 0]]) ∧ Below wx.heap.size wx w'))
    (HX : Hid (∀ wx, Below w.heap.size w wx → Calls Tryd.prog 17 #[.string s] wx fun e w' => e = .returned (.string x) ∧ Below wx.heap.size wx w')) (HZ : Hid (∀ wx, Below w.heap.size w wx → Calls Tryd.prog 18 #[.string s] wx fun e w' => e = .returned (.string x) ∧ Below wx.heap.size wx w')) :
    Calls Tryd.prog 5 #[.string s] w fun e w' => e = .returned (.bool true) ∧ Below w.heap.size w w' := by
  go_enter Tryd.func5, Tryd.ntmps5
  go_upto_region 2 with (first
    | (go_at_call 15; refine (HU.out _ (Below.refl _ _)).mono ?_; rintro e w1 ⟨rfl, hb1⟩))
  have L1 : Hid (Lies (w1.alloc (.cells #[.int .i64 er, .int .i64 p] 25)) w1.heap.size #[.int .i64 er, .int .i64 p] 25) := Lies.new w1 _ _
  have K1 : Hid (Below w.heap.size w (w1.alloc (.cells #[.int .i64 er, .int .i64 p] 25))) := hb1.alloc hb1.size _
  clear hb1
  generalize w1.alloc (.cells #[.int .i64 er, .int .i64 p] 25) = v1 at L1 K1 ⊢
  generalize w1.heap.size = b1 at L1 ⊢
  go_upto_region 3 with (first
    | (go_at_call 16; refine (HY.out _ K1.out).mono ?_; rintro e w2 ⟨rfl, hb2⟩))
  have L12 : Hid (Lies (w2.alloc (.cells #[.int .i64 er, .int .i64 p] 25)) b1 #[.int .i64 er, .int .i64 p] 25) := (L1.out.below hb2 L1.out.lt).alloc _
  have L2 : Hid (Lies (w2.alloc (.cells #[.int .i64 er, .int .i64 p] 25)) w2.heap.size #[.int .i64 er, .int .i64 p] 25) := Lies.new w2 _ _
  have K2 : Hid (Below w.heap.size w (w2.alloc (.cells #[.int .i64 er, .int .i64 p] 25))) := (K1.out.trans (hb2.mono K1.out.size)).alloc (Nat.le_trans K1.out.size hb2.size) _
  clear hb2 L1 K1
  generalize w2.alloc (.cells #[.int .i64 er, .int .i64 p] 25) = v2 at L12 L2 K2 ⊢
  generalize w2.heap.size = b2 at L2 ⊢
  go_upto_region 4 with (first
    | (go_at_call 15; refine (HO.out _ K2.out).mono ?_; rintro e w3 ⟨rfl, hb3⟩))
  have L13 : Hid (Lies (w3.alloc (.cells #[.int .i64 0, .int .i64 0] 25)) b1 #[.int .i64 er, .int .i64 p] 25) := (L12.out.below hb3 L12.out.lt).alloc _
  have L23 : Hid (Lies (w3.alloc (.cells #[.int .i64 0, .int .i64 0] 25)) b2 #[.int .i64 er, .int .i64 p] 25) := (L2.out.below hb3 L2.out.lt).alloc _
  have L3 : Hid (Lies (w3.alloc (.cells #[.int .i64 0, .int .i64 0] 25)) w3.heap.size #[.int .i64 0, .int .i64 0] 25) := Lies.new w3 _ _
  have K3 : Hid (Below w.heap.size w (w3.alloc (.cells #[.int .i64 0, .int .i64 0] 25))) := (K2.out.trans (hb3.mono K2.out.size)).alloc (Nat.le_trans K2.out.size hb3.size) _
  clear hb3 L12 L2 K2
  generalize w3.alloc (.cells #[.int .i64 0, .int .i64 0] 25) = v3 at L13 L23 L3 K3 ⊢
  generalize w3.heap.size = b3 at L3 ⊢
  have HXA : Hid (Calls Tryd.prog 17 #[.string s] v3 fun e w' => e = .returned (.string x) ∧ Below w.heap.size w w' ∧ Lies w' b1 #[.int .i64 er, .int .i64 p] 25 ∧ Lies w' b2 #[.int .i64 er, .int .i64 p] 25 ∧ Lies w' b3 #[.int .i64 0, .int .i64 0] 25) := by
    show Calls _ _ _ _ _
    refine (HX.out _ K3.out).mono ?_
    rintro e w' ⟨rfl, hb⟩
    exact ⟨rfl, K3.out.trans (hb.mono K3.out.size), L13.out.below hb L13.out.lt, L23.out.below hb L23.out.lt, L3.out.below hb L3.out.lt⟩
  have HZA : Hid (∀ w4, Below w.heap.size w w4 → Lies w4 b1 #[.int .i64 er, .int .i64 p] 25 → Lies w4 b2 #[.int .i64 er, .int .i64 p] 25 → Lies w4 b3 #[.int .i64 0, .int .i64 0] 25 → Calls Tryd.prog 18 #[.string s] w4 fun e w' => e = .returned (.string x) ∧ Below w.heap.size w w' ∧
      w'.cell? ⟨b1, 0, none⟩ = some (.int .i64 er) ∧ w'.cell? ⟨b1, 1, none⟩ = some (.int .i64 p) ∧ w'.cell? ⟨b2, 0, none⟩ = some (.int .i64 er) ∧ w'.cell? ⟨b2, 1, none⟩ = some (.int .i64 p) ∧ w'.cell? ⟨b3, 0, none⟩ = some (.int .i64 0) ∧ w'.cell? ⟨b3, 1, none⟩ = some (.int .i64 0)) := fun w4 h4 l1 l2 l3 => by
    refine (HZ.out _ h4).mono ?_
    rintro e w' ⟨rfl, hb⟩
    have m1 := l1.below hb l1.lt
    have m2 := l2.below hb l2.lt
    have m3 := l3.below hb l3.lt
    exact ⟨rfl, h4.trans (hb.mono h4.size), m1.cell 0, m1.cell 1, m2.cell 0, m2.cell 1, m3.cell 0, m3.cell 1⟩
  clear L13 L23 L3 K3 HU HY HO HX HZ
  go_wp2_with (first
    | (go_at_call 17; refine HXA.out.mono ?_; rintro e w4 ⟨rfl, hb4, l1, l2, l3⟩)
    | (go_at_call 18; refine (HZA.out _ hb4 l1 l2 l3).mono ?_; rintro e w5 ⟨rfl, hb5, c1, c2, c3, c4, c5, c6⟩))
  go_ret
  exact ⟨rfl, hb5⟩
theorem walk (s : ByteArray) (ss : s.size ≤ 1048576) (w : World) (ht : Table w) :
    Calls Tryd.prog 5 #[.string s] w fun e w' => e = .returned (.bool true) ∧ Below w.heap.size w w' := by
  obtain ⟨T, er, p, hT⟩ := uxV_form (unx s.data.toList)
  refine walkW s T (tx (xtL s.data.toList)) er p w (fun wx hx => ?_) (fun wx hx => ?_) (fun wx hx => ?_) (fun wx hx => ?_) (fun wx hx => ?_)
  · have := unx_any s (by omega) wx (ht.keep hx)
    rw [hT] at this
    exact this
  · have := yunx_any s (by omega) wx
    rw [hT] at this
    exact this
  · have := unx_any ⟨#[43, 50, 66]⟩ (by show 3 ≤ _; omega) wx (ht.keep hx)
    rw [show (⟨#[43, 50, 66]⟩ : ByteArray).data.toList = [43, 50, 66] from rfl, unx_plus] at this
    exact this
  · exact xt_any s (by omega) wx (ht.keep hx)
  · exact yxt_any s (by omega) wx

set_option maxRecDepth 100000 in
theorem contract (H : Type) (enc : TypeId × Value → H) (W : World) (base : Nat) (args : Array Value) (ds gs : List (DataW H)) (before : List MemPlace)
    (hval : ∀ (j : Nat) t v, Tryd.f5.params[j]? = some t → args[j]? = some v → Value.okWide Tryd.prog W .any base t v)
    (hW : DataW.Whole enc Tryd.prog Tryd.f5.params.toList Rows.paramXtextsSpec.vars false W args.toList ds gs before)
    (hsz : (DataW.weightsEach Tryd.prog (Tryd.f5.params.toList ++ (Rows.OpenSpec.upto Rows.paramXtextsSpec).bare.plain.varTypes Tryd.prog) (ds ++ gs)).all (· ≤ reachBytes) = true)
    (hk : Rows.uptoSmall H (ds ++ gs) = true) (hL : laidMetH Tryd.prog Rows.paramXtextsUptoRow.laid W) (hsh : W.ShapedOpen Tryd.prog) :
    Calls Tryd.prog 5 args W fun e W' => ∃ v, e = .returned v ∧ Rows.paramXtextsSpec.post enc Tryd.prog Tryd.f5 false true false false W args v W' := by
  have hW' := hW
  obtain ⟨p, q, hA0, hV, rfl, hfz, hnd⟩ := hW
  have hA : DataW.TrodAll enc Tryd.prog W 0 (fun _ => true) true Tryd.f5.params.toList args.toList ds p := hA0
  rw [Tryd.params5] at hA hval hsz
  obtain ⟨v0, vs0, d0, ds0, p0, q0, hargs, rfl, rfl, h0, r0⟩ := trodAll_cons hA
  obtain ⟨rfl, rfl, rfl⟩ := trodAll_nil r0
  obtain rfl : args = #[v0] := by cases args; simp_all
  obtain ⟨rfl, rfl⟩ := trodVars_none hV
  obtain ⟨a0, rfl, rfl, rfl, w0⟩ := open_string Tryd.underlying9 (hval 0 9 v0 rfl rfl) h0
  clear hA0
  have s0 : a0.size ≤ 1048576 := bulk_string hk (by simp)
  simp only [List.append_nil] at hW'
  refine (walk a0 s0 W (tabsX_of hL hsh)).mono fun e W' ⟨he, bel⟩ => ?_
  subst he
  exact ⟨_, rfl, _, _, _, [], [], [], hW', trodAll_mk1 (shut_bool Tryd.underlying4 _), trodAll_cons_mk (shut_string Tryd.underlying9 w0) trodAll_mk0, rfl, bel.frame _, fun h => by cases h⟩

set_option maxRecDepth 100000 in
theorem laid_met (os : Os) : laidMet Tryd.prog Rows.paramXtextsUptoRow.laid ((laidWorld os).forCall (fun _ _ => 0) ⟨#[], #[.string ByteArray.empty], []⟩).memory :=
  laidMet_of_run' 8 (by kernel_rfl) (by kernel_rfl)
set_option maxRecDepth 100000 in
theorem reads (os : Os) {H : Type} (enc : TypeId × Value → H) : ∃ places, DataW.whole enc Tryd.prog ((laidWorld os).forCall (fun _ _ => 0) ⟨#[], #[.string ByteArray.empty], []⟩).memory Tryd.f5.params.toList Rows.paramXtextsSpec.vars false #[Value.string ByteArray.empty].toList 8 = some ([.lit (.string [])], [], places) :=
  ⟨[], by kernel_rfl⟩

set_option maxRecDepth 100000 in
theorem lifted (os : Os) (started : os.Started) (H : Type) (enc : TypeId × Value → H) (F : Stop.Interp) :
    ReturnsInHanded {} Tryd.checked os 5 .any ((Rows.OpenSpec.upto Rows.paramXtextsSpec).preRow enc Tryd.prog Tryd.f5 Rows.paramXtextsUptoRow.domain false Rows.paramXtextsUptoRow.laid) (((Rows.OpenSpec.upto Rows.paramXtextsSpec).at F).post enc Tryd.prog Tryd.f5 false true false false) := by
  obtain ⟨places, hx⟩ := reads os enc
  refine returnsInHanded_of_row (C := Tryd.checked) (s := Rows.OpenSpec.upto Rows.paramXtextsSpec) own started (by kernel_rfl) Tryd.func5
    (witness_row_at (enc := enc) (C := Tryd.checked) false (laidWorld os) #[.string ByteArray.empty] rfl (by kernel_rfl) (by kernel_rfl) (by kernel_rfl)
      (OpenSpec.preRow_of_cond 8 hx (by kernel_rfl) (fun k hk => by cases hk; kernel_rfl) (by kernel_rfl) (laid_met os))) ?_
  intro W base args ds gs before hval hW _ hcond hsz hL hsh _
  exact contract H enc W base args ds gs before hval hW hsz (hcond _ rfl) hL hsh

theorem said : Rows.ParamXtextsUptoSaid :=
  OpenClaim.holds_of_cond 5 Tryd.f5 rfl rfl rfl rfl rfl rfl rfl ⟨rfl, rfl, rfl, rfl, rfl⟩ rfl rfl rfl rfl rfl (by kernel_rfl) Tryd.func5 (by kernel_rfl)
    (of_decide_eq_true (by kernel_rfl)) (by unfold Func.isWrapper; first | (rw [if_pos (by decide +kernel)]; kernel_rfl) | (rw [if_neg (by decide +kernel)]; exact ⟨rfl, rfl⟩))
    (fun os started H enc _ F => by rw [OpenClaim.pre_eq_preRow]; exact lifted os started H enc F)

/-- No parameter wants a stand-in; the program's own looks are off. -/
theorem plain (f : FuncId) (fn : Func) (hf : Tryd.pinned.checked.prog.funcNamed "posthorn/posthornlaw10.ParamXtexts" = some f) (hfn : Tryd.pinned.checked.prog.funcs[f]? = some fn) :
    false = Tryd.pinned.checked.prog.looks [] ∧ ∀ (j : Nat) t, fn.params[j]? = some t → Tryd.pinned.checked.prog.wantsStandIn t = false := by
  obtain rfl : f = 5 := Option.some.inj ((show Tryd.prog.funcNamed "posthorn/posthornlaw10.ParamXtexts" = some 5 by kernel_rfl).symm.trans hf) |>.symm
  obtain rfl : fn = Tryd.f5 := (Option.some.inj (Tryd.func5.symm.trans hfn)).symm
  refine ⟨by kernel_rfl, fun j t ht => ?_⟩
  rw [Tryd.params5] at ht
  have hm : t ∈ [9] := by simpa using Array.mem_of_getElem? ht
  have hall : ([9].all fun u => !Tryd.prog.wantsStandIn u) = true := by kernel_rfl
  exact (show Tryd.prog.wantsStandIn t = false by simpa using List.all_eq_true.1 hall t hm)

/-- The card. -/
theorem card : Rows.ParamXtextsUptoCardSaid :=
  Claim7.holds_tied_plain_at .later [] _ _ _ _ said (fun _ h => by cases h) (by kernel_rfl) (fun _ h => by cases h) paramXtextsUpto_row_tie rfl ⟨rfl, rfl⟩ (by kernel_rfl) rfl plain (by kernel_rfl)
end Go.Proofs.YtjpmfgmoekpcpaaDoor.paramXtexts
namespace Go.Proofs.YtjpmfgmoekpcpaaDoor
theorem paramXtextsUpto_card : Rows.ParamXtextsUptoCardSaid := paramXtexts.card
#print axioms paramXtextsUpto_card
end Go.Proofs.YtjpmfgmoekpcpaaDoor
