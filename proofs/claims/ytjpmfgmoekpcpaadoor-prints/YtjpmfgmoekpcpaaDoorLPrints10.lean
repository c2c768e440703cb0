/-
  For all parameters of bulk at most 1048576 the statement ParamPrints returns true.
-/
import Derived.Test.YtjpmfgmoekpcpaaDoorYz10
import Derived.Test.YtjpmfgmoekpcpaaDoorLk10
import Derived.Test.YtjpmfgmoekpcpaaDoorOpenP10
import Derived.ProofKit
import Derived.ChangeMaps5
import Derived.OpenShut
import Derived.ShutString
import Derived.ChangeOld
import Derived.SizedLaws
namespace Go.Proofs.YtjpmfgmoekpcpaaDoor.paramPrints
open Go.ChangeShapes Go.WideShapes Go.ChangeAt Go.RowKit

theorem prV_form (x : Except Nat (List UInt8)) : ∃ (T : ByteArray) (er : Int), prV x = .tuple #[.string T, .int .i64 er] := by
  cases x with
  | error e => exact ⟨⟨#[]⟩, e, rfl⟩
  | ok t => exact ⟨tx t, 0, rfl⟩
theorem one_A : prt [⟨[65], [], false⟩] = .ok [32, 65] := by kernel_rfl
theorem lent_pms {w : World} {B g : Nat} {l : List Pm} (ho : w.ownsRow B 31 3 (.slice (some ⟨g, 0, none⟩) (l.length + 70) (l.length + 70)) (l.length + 70) (cellsP (l ++ List.replicate 70 mrk))) : Pms (some ⟨g, 0, none⟩) l w :=
  .inr ⟨g, 0, rfl, (ho.lt g rfl).2, fun j u hj => by
    rw [Nat.zero_add]
    have hj2 : (cellsP (l ++ List.replicate 70 mrk))[j]? = some u := by
      rw [cellsP_append, List.getElem?_append_left]
      · exact hj
      · rcases Nat.lt_or_ge j (cellsP l).length with h' | h'
        · exact h'
        · rw [List.getElem?_eq_none h'] at hj; cases hj
    have := ho.cells rfl j u hj2
    rw [Addr.add_lit, Nat.zero_add] at this
    exact this⟩
theorem pms_A (w : World) : Pms (some ⟨w.heap.size, 0, none⟩) [⟨[65], [], false⟩] (w.alloc (.cells #[.string ⟨#[65]⟩, .string ⟨#[]⟩, .bool false] 31)) :=
  .inr ⟨w.heap.size, 0, rfl, by simp, fun j u hj => by
    match j, hj with
    | 0, hj => simp [cellsP, pmC] at hj; subst hj; simp; rfl
    | 1, hj => simp [cellsP, pmC] at hj; subst hj; simp; rfl
    | 2, hj => simp [cellsP, pmC] at hj; subst hj; simp⟩
set_option maxHeartbeats 8000000 in
set_option maxRecDepth 100000 in
theorem walk (a : Option Addr) (l : List Pm) (cap : Nat) {w : World} (ha : Pms a l w) (hnc : a = none → cap = 0) (hl : l.length ≤ 1048576) (htot : totP l ≤ 1048576) (ht : Tp w) :
    Calls Tryd.prog 4 #[.slice a l.length cap] w fun e w' => e = .returned (.bool true) ∧ Below w.heap.size w w' := by
  obtain ⟨T, er, hT⟩ := prV_form (prt l)
  have hz : (wrA l).length ≤ 100000000 := by have := wrA_tot l; omega
  have hm : ∀ p ∈ l, p.name.length ≤ 100000000 ∧ p.val.length ≤ 100000000 := fun p hp => by have := totP_mem l p hp; omega
  have HLT : Hid (Calls Tryd.prog 11 #[.slice a l.length cap] w fun e w' => ∃ g, e = .returned (.slice (some ⟨g, 0, none⟩) l.length (l.length + 70)) ∧ w'.ownsRow w.heap.size 31 3 (.slice (some ⟨g, 0, none⟩) (l.length + 70) (l.length + 70)) (l.length + 70) (cellsP (l ++ List.replicate 70 mrk)) ∧ Below w.heap.size w w') := lentP_any a cap l w ha hnc hl
  have HPR : Hid (∀ g wx, Below w.heap.size w wx → wx.ownsRow w.heap.size 31 3 (.slice (some ⟨g, 0, none⟩) (l.length + 70) (l.length + 70)) (l.length + 70) (cellsP (l ++ List.replicate 70 mrk)) → Calls Tryd.prog 12 #[.slice (some ⟨g, 0, none⟩) l.length (l.length + 70)] wx fun e w' => e = .returned (.tuple #[.string T, .int .i64 er]) ∧ w'.ownsRow w.heap.size 31 3 (.slice (some ⟨g, 0, none⟩) (l.length + 70) (l.length + 70)) (l.length + 70) (cellsP (l ++ List.replicate 70 mrk)) ∧ Below w.heap.size w w') := fun g wx hx ho => by
    have := pprint_any (some ⟨g, 0, none⟩) (l.length + 70) l wx (lent_pms ho) (by omega) hz hm (ht.below hx).tab (ht.below hx).fst
    rw [hT] at this
    refine this.mono ?_
    rintro e w' ⟨rfl, hb⟩
    exact ⟨rfl, ownP_below ho hb, hx.trans (hb.mono hx.size)⟩
  have HYR : Hid (∀ g wx, Below w.heap.size w wx → wx.ownsRow w.heap.size 31 3 (.slice (some ⟨g, 0, none⟩) (l.length + 70) (l.length + 70)) (l.length + 70) (cellsP (l ++ List.replicate 70 mrk)) → Calls Tryd.prog 13 #[.slice a l.length cap] wx fun e w' => e = .returned (.tuple #[.string T, .int .i64 er]) ∧ w'.ownsRow w.heap.size 31 3 (.slice (some ⟨g, 0, none⟩) (l.length + 70) (l.length + 70)) (l.length + 70) (cellsP (l ++ List.replicate 70 mrk)) ∧ Below w.heap.size w w') := fun g wx hx ho => by
    have := yprint_any a cap l wx (ha.below hx) (by omega) hz hm
    rw [hT] at this
    refine this.mono ?_
    rintro e w' ⟨rfl, hb⟩
    exact ⟨rfl, ownP_below ho hb, hx.trans (hb.mono hx.size)⟩
  have HON : Hid (∀ g wx, Below w.heap.size w wx → wx.ownsRow w.heap.size 31 3 (.slice (some ⟨g, 0, none⟩) (l.length + 70) (l.length + 70)) (l.length + 70) (cellsP (l ++ List.replicate 70 mrk)) → Calls Tryd.prog 12 #[.slice (some ⟨wx.heap.size, 0, none⟩) 1 1] (wx.alloc (.cells #[.string ⟨#[65]⟩, .string ⟨#[]⟩, .bool false] 31)) fun e w' => e = .returned (.tuple #[.string ⟨#[32, 65]⟩, .int .i64 0]) ∧ w'.ownsRow w.heap.size 31 3 (.slice (some ⟨g, 0, none⟩) (l.length + 70) (l.length + 70)) (l.length + 70) (cellsP (l ++ List.replicate 70 mrk)) ∧ Below w.heap.size w w') := fun g wx hx ho => by
    have hx2 := hx.alloc hx.size (.cells #[.string ⟨#[65]⟩, .string ⟨#[]⟩, .bool false] 31)
    have := pprint_any (some ⟨wx.heap.size, 0, none⟩) 1 [⟨[65], [], false⟩] _ (pms_A wx) (by show 1 ≤ _; omega) (by show 2 ≤ _; omega) (fun p hp => by simp at hp; subst hp; exact ⟨by show 1 ≤ _; omega, by show 0 ≤ _; omega⟩) (ht.below hx2).tab (ht.below hx2).fst
    rw [one_A] at this
    refine this.mono ?_
    rintro e w' ⟨rfl, hb⟩
    exact ⟨rfl, ownP_below (ho.alloc _) hb, hx2.trans (hb.mono hx2.size)⟩
  have HKP : Hid (∀ g wx, Below w.heap.size w wx → wx.ownsRow w.heap.size 31 3 (.slice (some ⟨g, 0, none⟩) (l.length + 70) (l.length + 70)) (l.length + 70) (cellsP (l ++ List.replicate 70 mrk)) → Calls Tryd.prog 14 #[.slice (some ⟨g, 0, none⟩) l.length (l.length + 70), .slice a l.length cap] wx fun e w' => e = .returned (.bool true) ∧ Below w.heap.size w w') := fun g wx hx ho => by
    refine (keptP_any a cap g w.heap.size l wx (ha.below hx) hl ho).mono ?_
    rintro e w' ⟨rfl, hb⟩
    exact ⟨rfl, hx.trans (hb.mono hx.size)⟩
  clear hT hz hm ht ha hnc htot
  go_enter Tryd.func4, Tryd.ntmps4
  go_wp2_with fail
  refine HLT.out.mono ?_
  rintro e w1 ⟨g, rfl, o1, b1⟩
  go_wp2_with fail
  refine (HPR.out g w1 b1 o1).mono ?_
  rintro e w2 ⟨rfl, o2, b2⟩
  go_wp2_with fail
  refine (HYR.out g w2 b2 o2).mono ?_
  rintro e w3 ⟨rfl, o3, b3⟩
  go_wp2_with fail
  refine (HON.out g w3 b3 o3).mono ?_
  rintro e w4 ⟨rfl, o4, b4⟩
  go_wp2_with fail
  refine (HKP.out g w4 b4 o4).mono ?_
  rintro e w5 ⟨rfl, b5⟩
  go_wp2
  go_ret
  exact ⟨rfl, b5⟩

set_option maxRecDepth 100000 in
theorem contract (H : Type) (enc : TypeId × Value → H) (W : World) (base : Nat) (args : Array Value) (ds gs : List (DataW H)) (before : List MemPlace)
    (hval : ∀ (j : Nat) t v, Tryd.f4.params[j]? = some t → args[j]? = some v → Value.okWide Tryd.prog W .any base t v)
    (hW : DataW.Whole enc Tryd.prog Tryd.f4.params.toList Rows.paramPrintsSpec.vars false W args.toList ds gs before)
    (hk : Rows.uptoSmall H (ds ++ gs) = true) (hL : laidMetH Tryd.prog Rows.paramPrintsUptoRow.laid W) (hsh : W.ShapedOpen Tryd.prog) :
    Calls Tryd.prog 4 args W fun e W' => ∃ v, e = .returned v ∧ Rows.paramPrintsSpec.post enc Tryd.prog Tryd.f4 false true false false W args v W' := by
  have hW' := hW
  obtain ⟨p, q, hA0, hV, rfl, hfz, hnd⟩ := hW
  have hA : DataW.TrodAll enc Tryd.prog W 0 (fun _ => true) true Tryd.f4.params.toList args.toList ds p := hA0
  rw [Tryd.params4] at hA hval
  obtain ⟨v0, vs0, d0, ds0, p0, q0, hargs, rfl, rfl, h0, r0⟩ := trodAll_cons hA
  obtain ⟨rfl, rfl, rfl⟩ := trodAll_nil r0
  obtain rfl : args = #[v0] := by cases args; simp_all
  obtain ⟨rfl, rfl⟩ := trodVars_none hV
  have k0 := h0
  have lt0 : ∀ x ∈ p0, x.block < W.heap.size := by obtain ⟨m, hm⟩ := k0; exact DataW.trod_lt m _ _ _ hm
  obtain ⟨a0, len0, cap0, rfl⟩ := okWide_slice Tryd.underlying22 (hval 0 22 v0 rfl rfl)
  obtain ⟨l0, e0, row0, nn0, bk0, bt0⟩ := open_pms h0
  have bu0 := Nat.le_trans (bulk_mem (d := d0) (by simp)) (of_decide_eq_true hk)
  have s0 : l0.length ≤ 1048576 := Nat.le_trans bk0 bu0
  have t0 : totP l0 ≤ 1048576 := Nat.le_trans bt0 bu0
  subst e0
  clear hA0
  refine (walk a0 l0 cap0 row0 nn0 s0 t0 (tabsP_of hL hsh)).mono fun e W' ⟨he, bel⟩ => ?_
  subst he
  exact ⟨_, rfl, _, _, _, [], _, [], hW', trodAll_mk1 (shut_bool Tryd.underlying4 _), trodAll_cons_mk (Below.trod laidOut (by kernel_rfl) (of_decide_eq_true (by kernel_rfl)) k0 bel lt0) trodAll_mk0, rfl, bel.frame _, fun h => by cases h⟩

set_option maxRecDepth 100000 in
theorem laid_met (os : Os) : laidMet Tryd.prog Rows.paramPrintsUptoRow.laid ((laidWorldP os).forCall (fun _ _ => 0) ⟨#[], #[.slice none 0 0], []⟩).memory :=
  laidMet_of_run' 8 (by kernel_rfl) (by kernel_rfl)
set_option maxRecDepth 100000 in
theorem reads (os : Os) {H : Type} (enc : TypeId × Value → H) : ∃ places, DataW.whole enc Tryd.prog ((laidWorldP os).forCall (fun _ _ => 0) ⟨#[], #[.slice none 0 0], []⟩).memory Tryd.f4.params.toList Rows.paramPrintsSpec.vars false #[Value.slice none 0 0].toList 8 = some ([.nil], [], places) :=
  ⟨[], by kernel_rfl⟩

set_option maxRecDepth 100000 in
theorem lifted (os : Os) (started : os.Started) (H : Type) (enc : TypeId × Value → H) (F : Stop.Interp) :
    ReturnsInHanded {} Tryd.checked os 4 .any ((Rows.OpenSpec.upto Rows.paramPrintsSpec).preRow enc Tryd.prog Tryd.f4 Rows.paramPrintsUptoRow.domain false Rows.paramPrintsUptoRow.laid) (((Rows.OpenSpec.upto Rows.paramPrintsSpec).at F).post enc Tryd.prog Tryd.f4 false true false false) := by
  obtain ⟨places, hx⟩ := reads os enc
  refine returnsInHanded_of_row (C := Tryd.checked) (s := Rows.OpenSpec.upto Rows.paramPrintsSpec) own started (by kernel_rfl) Tryd.func4
    (witness_row_at (enc := enc) (C := Tryd.checked) false (laidWorldP os) #[.slice none 0 0] rfl (by kernel_rfl) (by kernel_rfl) (by kernel_rfl)
      (OpenSpec.preRow_of_cond 8 hx (by kernel_rfl) (fun k hk => by cases hk; kernel_rfl) (by kernel_rfl) (laid_met os))) ?_
  intro W base args ds gs before hval hW _ hcond _ hL hsh _
  exact contract H enc W base args ds gs before hval hW (hcond _ rfl) hL hsh

theorem said : Rows.ParamPrintsUptoSaid :=
  OpenClaim.holds_of_cond 4 Tryd.f4 rfl rfl rfl rfl rfl rfl rfl ⟨rfl, rfl, rfl, rfl, rfl⟩ rfl rfl rfl rfl rfl (by kernel_rfl) Tryd.func4 (by kernel_rfl)
    (of_decide_eq_true (by kernel_rfl)) (by unfold Func.isWrapper; first | (rw [if_pos (by decide +kernel)]; kernel_rfl) | (rw [if_neg (by decide +kernel)]; exact ⟨rfl, rfl⟩))
    (fun os started H enc _ F => by rw [OpenClaim.pre_eq_preRow]; exact lifted os started H enc F)

/-- No parameter wants a stand-in; the program's own looks are off. -/
theorem plain (f : FuncId) (fn : Func) (hf : Tryd.pinned.checked.prog.funcNamed "posthorn/posthornlaw10.ParamPrints" = some f) (hfn : Tryd.pinned.checked.prog.funcs[f]? = some fn) :
    false = Tryd.pinned.checked.prog.looks [] ∧ ∀ (j : Nat) t, fn.params[j]? = some t → Tryd.pinned.checked.prog.wantsStandIn t = false := by
  obtain rfl : f = 4 := Option.some.inj ((show Tryd.prog.funcNamed "posthorn/posthornlaw10.ParamPrints" = some 4 by kernel_rfl).symm.trans hf) |>.symm
  obtain rfl : fn = Tryd.f4 := (Option.some.inj (Tryd.func4.symm.trans hfn)).symm
  refine ⟨by kernel_rfl, fun j t ht => ?_⟩
  rw [Tryd.params4] at ht
  have hm : t ∈ [22] := by simpa using Array.mem_of_getElem? ht
  have hall : ([22].all fun u => !Tryd.prog.wantsStandIn u) = true := by kernel_rfl
  exact (show Tryd.prog.wantsStandIn t = false by simpa using List.all_eq_true.1 hall t hm)

/-- The card. -/
theorem card : Rows.ParamPrintsUptoCardSaid :=
  Claim7.holds_tied_plain_at .later [] _ _ _ _ said (fun _ h => by cases h) (by kernel_rfl) (fun _ h => by cases h) paramPrintsUpto_row_tie rfl ⟨rfl, rfl⟩ (by kernel_rfl) rfl plain (by kernel_rfl)
end Go.Proofs.YtjpmfgmoekpcpaaDoor.paramPrints
namespace Go.Proofs.YtjpmfgmoekpcpaaDoor
theorem paramPrintsUpto_card : Rows.ParamPrintsUptoCardSaid := paramPrints.card
#print axioms paramPrintsUpto_card
end Go.Proofs.YtjpmfgmoekpcpaaDoor
