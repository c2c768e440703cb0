/-
  For every two hosts and every number the statement DomainSames returns true.
-/
import Derived.Test.YtnlgbopdbihnjaaGreatDoorRs8
import Derived.Test.YtnlgbopdbihnjaaGreatDoorRw8
import Derived.ProofKit
import Derived.ChangeMaps5
import Derived.OpenShut
import Derived.ShutString
import Derived.ChangeOld
import Derived.SizedLaws
namespace Go.Proofs.YtnlgbopdbihnjaaGreatDoor.domainSames
open Go.ChangeShapes Go.WideShapes Go.ChangeAt Go.RowKit

set_option maxHeartbeats 16000000 in
set_option maxRecDepth 100000 in
theorem walkW (VA VB : Array Value) (za : VA.size = 18) (zb : VB.size = 18) (n : Int) (sm wn : Bool) (w : World)
    (HS : Hid (∀ wx, Below w.heap.size w wx → Calls Tryz.prog 13 #[.agg VA, .agg VB] wx fun e w' => e = .returned (.bool sm) ∧ Below wx.heap.size wx w')) (HR : Hid (∀ wx, Below w.heap.size w wx → Calls Tryz.prog 29 #[.agg VA, .agg VB] wx fun e w' => e = .returned (.bool sm) ∧ Below wx.heap.size wx w')) (HI : Hid (∀ wx, Below w.heap.size w wx → Calls Tryz.prog 15 #[.agg VA, .agg VB, .int .i64 n] wx fun e w' => e = .returned (.bool wn) ∧ Below wx.heap.size wx w')) (HJ : Hid (∀ wx, Below w.heap.size w wx → Calls Tryz.prog 30 #[.agg VA, .agg VB, .int .i64 n] wx fun e w' => e = .returned (.bool wn) ∧ Below wx.heap.size wx w')) (HW : Hid (∀ wx, Below w.heap.size w wx → Calls Tryz.prog 9 #[] wx fun e w' => e = .returned (.bool true) ∧ Below wx.heap.size wx w')) :
    Calls Tryz.prog 7 #[.agg VA, .agg VB, .int .i64 n] w fun e w' => e = .returned (.bool true) ∧ Below w.heap.size w w' := by
  have L1 : Hid (Lies ((w.alloc (.cells VA 28)).alloc (.cells VB 28)) w.heap.size VA 28) := (Lies.new w _ _).alloc _
  have L2 : Hid (Lies ((w.alloc (.cells VA 28)).alloc (.cells VB 28)) (w.heap.size + 1) VB 28) := new_one w _ _ _
  have KB : Hid (Below w.heap.size w ((w.alloc (.cells VA 28)).alloc (.cells VB 28))) := ((Below.refl _ _).alloc (Nat.le_refl _) _).alloc (by simp) _
  have hss : (sm == sm) = true := by cases sm <;> rfl
  have hww : (wn == wn) = true := by cases wn <;> rfl
  go_enter Tryz.func7, Tryz.ntmps7
  go_upto_region 1 with fail
  generalize (w.alloc (.cells VA 28)).alloc (.cells VB 28) = v0 at L1 L2 KB ⊢
  refine wp_region_late (fun wx => Below v0.heap.size v0 wx) 22 (by kernel_rfl) (Below.refl _ v0).drew (fun hHeld => ?_)
  refine wpAnyE_tk (i := 0) (d := some 7) (v := .agg VA) rfl (by kernel_rfl) (by kernel_rfl) (by kernel_rfl) rfl (fun _ _ _ h => h) rfl rfl ?hy (by assumption) ?_
  case hy => exact fun w' hSw => exec_load_row 28 _ rfl (w.heap.size) rfl VA 28 _ (L1.out.below hSw L1.out.lt) Tryz.underlying28 rfl (by rw [za]; exact infoHo)
  simp only [Act.put, List.setIfInBounds_toArray, List.set_cons_zero, List.set_cons_succ]
  refine wpAnyE_tk (i := 1) (d := some 8) (v := .agg VB) rfl (by kernel_rfl) (by kernel_rfl) (by kernel_rfl) rfl (fun _ _ _ h => h) rfl rfl ?hy (by assumption) ?_
  case hy => exact fun w' hSw => exec_load_row 28 _ rfl (w.heap.size + 1) rfl VB 28 _ (L2.out.below hSw L2.out.lt) Tryz.underlying28 rfl (by rw [zb]; exact infoHo)
  simp only [Act.put, List.setIfInBounds_toArray, List.set_cons_zero, List.set_cons_succ]
  refine wpAnyE_tk (i := 3) (d := some 10) (v := .agg VA) rfl (by kernel_rfl) (by kernel_rfl) (by kernel_rfl) rfl (fun _ _ _ h => h) rfl rfl ?hy (by assumption) ?_
  case hy => exact fun w' hSw => exec_load_row 28 _ rfl (w.heap.size) rfl VA 28 _ (L1.out.below hSw L1.out.lt) Tryz.underlying28 rfl (by rw [za]; exact infoHo)
  simp only [Act.put, List.setIfInBounds_toArray, List.set_cons_zero, List.set_cons_succ]
  refine wpAnyE_tk (i := 4) (d := some 11) (v := .agg VB) rfl (by kernel_rfl) (by kernel_rfl) (by kernel_rfl) rfl (fun _ _ _ h => h) rfl rfl ?hy (by assumption) ?_
  case hy => exact fun w' hSw => exec_load_row 28 _ rfl (w.heap.size + 1) rfl VB 28 _ (L2.out.below hSw L2.out.lt) Tryz.underlying28 rfl (by rw [zb]; exact infoHo)
  simp only [Act.put, List.setIfInBounds_toArray, List.set_cons_zero, List.set_cons_succ]
  refine wpAnyE_on (i := 2) (by kernel_rfl) rfl rfl ?_
  go_simp
  refine Calls.mono (HS.out _ (KB.out.trans (((Below.refl _ v0).drew).mono KB.out.size))) ?_
  rintro e y1 ⟨rfl, hc1⟩
  have hx1 : Below v0.heap.size v0 y1 := ((Below.refl _ v0).drew).trans hc1
  refine ⟨hx1, ?_⟩
  clear hc1
  refine wpAnyE_on (i := 5) (by kernel_rfl) rfl rfl ?_
  go_simp
  refine Calls.mono (HR.out _ (KB.out.trans ((hx1).mono KB.out.size))) ?_
  rintro e y2 ⟨rfl, hc2⟩
  have hx2 : Below v0.heap.size v0 y2 := hx1.trans (hc2.mono hx1.size)
  refine ⟨hx2, ?_⟩
  clear hc2
  refine wpAnyE_tk (i := 6) (d := some 13) (v := ?_) rfl (by kernel_rfl) (by kernel_rfl) (by kernel_rfl) rfl (fun _ _ _ h => h) rfl rfl ?hy (by assumption) ?_
  case hy => (intro w' hSw; (try dsimp only at hSw); go_simp <;> (first | with_reducible rfl | omega | skip))
  simp only [Act.put, List.setIfInBounds_toArray, List.set_cons_zero, List.set_cons_succ]
  refine wpAnyE_tk (i := 7) (d := some 14) (v := ?_) rfl (by kernel_rfl) (by kernel_rfl) (by kernel_rfl) rfl (fun _ _ _ h => h) rfl rfl ?hy (by assumption) ?_
  case hy => (intro w' hSw; (try dsimp only at hSw); go_simp <;> (first | with_reducible rfl | omega | skip))
  simp only [Act.put, List.setIfInBounds_toArray, List.set_cons_zero, List.set_cons_succ]
  refine wpAnyE_tk (i := 8) (d := some 15) (v := .agg VA) rfl (by kernel_rfl) (by kernel_rfl) (by kernel_rfl) rfl (fun _ _ _ h => h) rfl rfl ?hy (by assumption) ?_
  case hy => exact fun w' hSw => exec_load_row 28 _ rfl (w.heap.size) rfl VA 28 _ (L1.out.below hSw L1.out.lt) Tryz.underlying28 rfl (by rw [za]; exact infoHo)
  simp only [Act.put, List.setIfInBounds_toArray, List.set_cons_zero, List.set_cons_succ]
  refine wpAnyE_tk (i := 9) (d := some 16) (v := .agg VB) rfl (by kernel_rfl) (by kernel_rfl) (by kernel_rfl) rfl (fun _ _ _ h => h) rfl rfl ?hy (by assumption) ?_
  case hy => exact fun w' hSw => exec_load_row 28 _ rfl (w.heap.size + 1) rfl VB 28 _ (L2.out.below hSw L2.out.lt) Tryz.underlying28 rfl (by rw [zb]; exact infoHo)
  simp only [Act.put, List.setIfInBounds_toArray, List.set_cons_zero, List.set_cons_succ]
  refine wpAnyE_tk (i := 10) (d := some 17) (v := ?_) rfl (by kernel_rfl) (by kernel_rfl) (by kernel_rfl) rfl (fun _ _ _ h => h) rfl rfl ?hy (by assumption) ?_
  case hy => (intro w' hSw; (try dsimp only at hSw); go_simp <;> (first | with_reducible rfl | omega | skip))
  simp only [Act.put, List.setIfInBounds_toArray, List.set_cons_zero, List.set_cons_succ]
  refine wpAnyE_tk (i := 12) (d := some 19) (v := .agg VA) rfl (by kernel_rfl) (by kernel_rfl) (by kernel_rfl) rfl (fun _ _ _ h => h) rfl rfl ?hy (by assumption) ?_
  case hy => exact fun w' hSw => exec_load_row 28 _ rfl (w.heap.size) rfl VA 28 _ (L1.out.below hSw L1.out.lt) Tryz.underlying28 rfl (by rw [za]; exact infoHo)
  simp only [Act.put, List.setIfInBounds_toArray, List.set_cons_zero, List.set_cons_succ]
  refine wpAnyE_tk (i := 13) (d := some 20) (v := .agg VB) rfl (by kernel_rfl) (by kernel_rfl) (by kernel_rfl) rfl (fun _ _ _ h => h) rfl rfl ?hy (by assumption) ?_
  case hy => exact fun w' hSw => exec_load_row 28 _ rfl (w.heap.size + 1) rfl VB 28 _ (L2.out.below hSw L2.out.lt) Tryz.underlying28 rfl (by rw [zb]; exact infoHo)
  simp only [Act.put, List.setIfInBounds_toArray, List.set_cons_zero, List.set_cons_succ]
  refine wpAnyE_tk (i := 14) (d := some 21) (v := ?_) rfl (by kernel_rfl) (by kernel_rfl) (by kernel_rfl) rfl (fun _ _ _ h => h) rfl rfl ?hy (by assumption) ?_
  case hy => (intro w' hSw; (try dsimp only at hSw); go_simp <;> (first | with_reducible rfl | omega | skip))
  simp only [Act.put, List.setIfInBounds_toArray, List.set_cons_zero, List.set_cons_succ]
  refine wpAnyE_on (i := 11) (by kernel_rfl) rfl rfl ?_
  go_simp
  refine Calls.mono (HI.out _ (KB.out.trans ((hx2).mono KB.out.size))) ?_
  rintro e y3 ⟨rfl, hc3⟩
  have hx3 : Below v0.heap.size v0 y3 := hx2.trans (hc3.mono hx2.size)
  refine ⟨hx3, ?_⟩
  clear hc3
  refine wpAnyE_on (i := 15) (by kernel_rfl) rfl rfl ?_
  go_simp
  refine Calls.mono (HJ.out _ (KB.out.trans ((hx3).mono KB.out.size))) ?_
  rintro e y4 ⟨rfl, hc4⟩
  have hx4 : Below v0.heap.size v0 y4 := hx3.trans (hc4.mono hx3.size)
  refine ⟨hx4, ?_⟩
  clear hc4
  refine wpAnyE_tk (i := 16) (d := some 23) (v := ?_) rfl (by kernel_rfl) (by kernel_rfl) (by kernel_rfl) rfl (fun _ _ _ h => h) rfl rfl ?hy (by assumption) ?_
  case hy => (intro w' hSw; (try dsimp only at hSw); go_simp <;> (first | with_reducible rfl | omega | skip))
  simp only [Act.put, List.setIfInBounds_toArray, List.set_cons_zero, List.set_cons_succ]
  refine wpAnyE_tk (i := 17) (d := some 24) (v := ?_) rfl (by kernel_rfl) (by kernel_rfl) (by kernel_rfl) rfl (fun _ _ _ h => h) rfl rfl ?hy (by assumption) ?_
  case hy => (intro w' hSw; (try dsimp only at hSw); go_simp <;> (first | with_reducible rfl | omega | skip))
  simp only [Act.put, List.setIfInBounds_toArray, List.set_cons_zero, List.set_cons_succ]
  refine wpAnyE_tk (i := 18) (d := some 25) (v := ?_) rfl (by kernel_rfl) (by kernel_rfl) (by kernel_rfl) rfl (fun _ _ _ h => h) rfl rfl ?hy (by assumption) ?_
  case hy => (intro w' hSw; (try dsimp only at hSw); go_simp <;> (first | with_reducible rfl | omega | skip))
  simp only [Act.put, List.setIfInBounds_toArray, List.set_cons_zero, List.set_cons_succ]
  refine wpAnyE_on (i := 19) (by kernel_rfl) rfl rfl ?_
  go_simp
  refine Calls.mono (HW.out _ (KB.out.trans ((hx4).mono KB.out.size))) ?_
  rintro e y5 ⟨rfl, hc5⟩
  have hx5 : Below v0.heap.size v0 y5 := hx4.trans (hc5.mono hx4.size)
  refine ⟨hx5, ?_⟩
  clear hc5
  refine wpAnyE_tk (i := 20) (d := some 27) (v := ?_) rfl (by kernel_rfl) (by kernel_rfl) (by kernel_rfl) rfl (fun _ _ _ h => h) rfl rfl ?hy (by assumption) ?_
  case hy => (intro w' hSw; (try dsimp only at hSw); go_simp <;> (first | with_reducible rfl | omega | skip))
  simp only [Act.put, List.setIfInBounds_toArray, List.set_cons_zero, List.set_cons_succ]
  refine wpAnyE_tk (i := 21) (d := some 6) (v := ?_) rfl (by kernel_rfl) (by kernel_rfl) (by kernel_rfl) rfl (fun _ _ _ h => h) rfl rfl ?hy (by assumption) ?_
  case hy => (intro w' hSw; (try dsimp only at hSw); go_simp <;> (first | with_reducible rfl | omega | skip))
  simp only [Act.put, List.setIfInBounds_toArray, List.set_cons_zero, List.set_cons_succ]
  refine wpAnyE_done (by kernel_rfl) ?_ _
  have KB6 : Hid (Below w.heap.size w y5) := KB.out.trans ((hx5).mono KB.out.size)
  have L1n : Hid (Lies y5 (w.heap.size) VA 28) := L1.out.below (hx5) L1.out.lt
  clear L1
  have L1 := L1n
  clear L1n
  have L2n : Hid (Lies y5 (w.heap.size + 1) VB 28) := L2.out.below (hx5) L2.out.lt
  clear L2
  have L2 := L2n
  clear L2n
  have hb6 : Hid (Below v0.heap.size v0 y5) := hx5
  clear hHeld hx1 hx2 hx3 hx4 hx5 KB
  go_wp2
  go_ret
  exact ⟨rfl, KB6.out⟩

theorem walk (a : Ho) (oka : a.Ok) (_ : -9223372036854775808 ≤ a.k ∧ a.k ≤ 9223372036854775807) (sa : a.n.length ≤ 140737488351232) (b : Ho) (okb : b.Ok) (_ : -9223372036854775808 ≤ b.k ∧ b.k ≤ 9223372036854775807) (sb : b.n.length ≤ 140737488351232) (n : Int) (hn : -9223372036854775808 ≤ n ∧ n ≤ 9223372036854775807) (w : World) (ht : Tc w) :
    Calls Tryz.prog 7 #[hostV a, hostV b, .int .i64 n] w fun e w' => e = .returned (.bool true) ∧ Below w.heap.size w w' := by
  have HT : Hid (∀ wx, Below w.heap.size w wx → Tc wx) := fun wx hb => ht.below hb
  exact walkW _ _ (hostC_size a oka.len) (hostC_size b okb.len) n (same asciiL a b) (within a b n) w (fun wx hx => sme_any a b oka okb wx (HT.out wx hx) sa sb) (fun wx hx => rsame_any a b oka okb wx (HT.out wx hx) sa sb) (fun wx hx => wth_any a b oka okb n hn.1 hn.2 wx (HT.out wx hx) sa sb) (fun wx _ => rwithin_any a b oka okb n hn.1 hn.2 wx sa sb) (fun wx hx => wakes_any wx (HT.out wx hx))

set_option maxRecDepth 100000 in
theorem contract (H : Type) (enc : TypeId × Value → H) (W : World) (base : Nat) (args : Array Value) (ds gs : List (DataW H)) (before : List MemPlace)
    (hval : ∀ (j : Nat) t v, Tryz.f7.params[j]? = some t → args[j]? = some v → Value.okWide Tryz.prog W .any base t v)
    (hW : DataW.Whole enc Tryz.prog Tryz.f7.params.toList Rows.domainSamesSpec.vars false W args.toList ds gs before)
    (hsz : (DataW.weightsEach Tryz.prog (Tryz.f7.params.toList ++ (OpenSpec.ofChange Rows.domainSamesSpec).bare.plain.varTypes Tryz.prog) (ds ++ gs)).all (· ≤ reachBytes) = true)
    (hL : laidMetH Tryz.prog Rows.domainSamesRow.laid W) (hsh : W.ShapedOpen Tryz.prog) :
    Calls Tryz.prog 7 args W fun e W' => ∃ v, e = .returned v ∧ Rows.domainSamesSpec.post enc Tryz.prog Tryz.f7 false true false false W args v W' := by
  have hW' := hW
  obtain ⟨p, q, hA0, hV, rfl, hfz, hnd⟩ := hW
  have hA : DataW.TrodAll enc Tryz.prog W 0 (fun _ => true) true Tryz.f7.params.toList args.toList ds p := hA0
  rw [Tryz.params7] at hA hval hsz
  obtain ⟨v0, vs0, d0, ds0, p0, q0, hargs, rfl, rfl, h0, r0⟩ := trodAll_cons hA
  obtain ⟨v1, vs1, d1, ds1, p1, q1, rfl, rfl, rfl, h1, r1⟩ := trodAll_cons r0
  obtain ⟨v2, vs2, d2, ds2, p2, q2, rfl, rfl, rfl, h2, r2⟩ := trodAll_cons r1
  obtain ⟨rfl, rfl, rfl⟩ := trodAll_nil r2
  obtain rfl : args = #[v0, v1, v2] := by cases args; simp_all
  obtain ⟨rfl, rfl⟩ := trodVars_none hV
  have k0 := h0
  have lt0 : ∀ x ∈ p0, x.block < W.heap.size := by obtain ⟨m, hm⟩ := k0; exact DataW.trod_lt m _ _ _ hm
  obtain ⟨a0, rfl, b0, e0⟩ := open_host (hval 0 28 v0 rfl rfl) h0
  have k1 := h1
  have lt1 : ∀ x ∈ p1, x.block < W.heap.size := by obtain ⟨m, hm⟩ := k1; exact DataW.trod_lt m _ _ _ hm
  obtain ⟨a1, rfl, b1, e1⟩ := open_host (hval 1 28 v1 rfl rfl) h1
  obtain ⟨a2, rfl, rfl, rfl, w2⟩ := open_int Tryz.underlying3 (hval 2 3 v2 rfl rfl) h2
  have b2 := bounds_i64 w2
  clear hA0
  have s0 := host_size (j := 0) hsz rfl rfl e0
  have s1 := host_size (j := 1) hsz rfl rfl e1
  refine (walk a0 b0.1 b0.2 s0 a1 b1.1 b1.2 s1 a2 b2 W (tabs8_of hL hsh)).mono fun e W' ⟨he, bel⟩ => ?_
  subst he
  exact ⟨_, rfl, _, _, _, [], _, [], hW', trodAll_mk1 (shut_bool Tryz.underlying4 _), trodAll_cons_mk (Below.trod laidOut (by kernel_rfl) (of_decide_eq_true (by kernel_rfl)) k0 bel lt0) (trodAll_cons_mk (Below.trod laidOut (by kernel_rfl) (of_decide_eq_true (by kernel_rfl)) k1 bel lt1) (trodAll_cons_mk (shut_int Tryz.underlying3 w2) trodAll_mk0)), rfl, bel.frame _, fun h => by cases h⟩

set_option maxRecDepth 100000 in
theorem laid_met (os : Os) : laidMet Tryz.prog Rows.domainSamesRow.laid ((laidWorld8 os).forCall (fun _ _ => 0) ⟨#[], #[.agg #[.int .i64 0, .string ByteArray.empty, .int .u8 0, .int .u8 0, .int .u8 0, .int .u8 0, .int .u8 0, .int .u8 0, .int .u8 0, .int .u8 0, .int .u8 0, .int .u8 0, .int .u8 0, .int .u8 0, .int .u8 0, .int .u8 0, .int .u8 0, .int .u8 0], .agg #[.int .i64 0, .string ByteArray.empty, .int .u8 0, .int .u8 0, .int .u8 0, .int .u8 0, .int .u8 0, .int .u8 0, .int .u8 0, .int .u8 0, .int .u8 0, .int .u8 0, .int .u8 0, .int .u8 0, .int .u8 0, .int .u8 0, .int .u8 0, .int .u8 0], .int .i64 0], []⟩).memory :=
  laidMet_of_run' 8 (by kernel_rfl) (by kernel_rfl)
set_option maxRecDepth 100000 in
theorem reads (os : Os) {H : Type} (enc : TypeId × Value → H) : ∃ places, DataW.whole enc Tryz.prog ((laidWorld8 os).forCall (fun _ _ => 0) ⟨#[], #[.agg #[.int .i64 0, .string ByteArray.empty, .int .u8 0, .int .u8 0, .int .u8 0, .int .u8 0, .int .u8 0, .int .u8 0, .int .u8 0, .int .u8 0, .int .u8 0, .int .u8 0, .int .u8 0, .int .u8 0, .int .u8 0, .int .u8 0, .int .u8 0, .int .u8 0], .agg #[.int .i64 0, .string ByteArray.empty, .int .u8 0, .int .u8 0, .int .u8 0, .int .u8 0, .int .u8 0, .int .u8 0, .int .u8 0, .int .u8 0, .int .u8 0, .int .u8 0, .int .u8 0, .int .u8 0, .int .u8 0, .int .u8 0, .int .u8 0, .int .u8 0], .int .i64 0], []⟩).memory Tryz.f7.params.toList Rows.domainSamesSpec.vars false #[Value.agg #[.int .i64 0, .string ByteArray.empty, .int .u8 0, .int .u8 0, .int .u8 0, .int .u8 0, .int .u8 0, .int .u8 0, .int .u8 0, .int .u8 0, .int .u8 0, .int .u8 0, .int .u8 0, .int .u8 0, .int .u8 0, .int .u8 0, .int .u8 0, .int .u8 0], Value.agg #[.int .i64 0, .string ByteArray.empty, .int .u8 0, .int .u8 0, .int .u8 0, .int .u8 0, .int .u8 0, .int .u8 0, .int .u8 0, .int .u8 0, .int .u8 0, .int .u8 0, .int .u8 0, .int .u8 0, .int .u8 0, .int .u8 0, .int .u8 0, .int .u8 0], Value.int .i64 0].toList 8 = some ([.agg [.lit (.int .i64 0), .lit (.string []), .agg [.lit (.int .u8 0), .lit (.int .u8 0), .lit (.int .u8 0), .lit (.int .u8 0), .lit (.int .u8 0), .lit (.int .u8 0), .lit (.int .u8 0), .lit (.int .u8 0), .lit (.int .u8 0), .lit (.int .u8 0), .lit (.int .u8 0), .lit (.int .u8 0), .lit (.int .u8 0), .lit (.int .u8 0), .lit (.int .u8 0), .lit (.int .u8 0)]], .agg [.lit (.int .i64 0), .lit (.string []), .agg [.lit (.int .u8 0), .lit (.int .u8 0), .lit (.int .u8 0), .lit (.int .u8 0), .lit (.int .u8 0), .lit (.int .u8 0), .lit (.int .u8 0), .lit (.int .u8 0), .lit (.int .u8 0), .lit (.int .u8 0), .lit (.int .u8 0), .lit (.int .u8 0), .lit (.int .u8 0), .lit (.int .u8 0), .lit (.int .u8 0), .lit (.int .u8 0)]], .lit (.int .i64 0)], [], places) :=
  ⟨[], by kernel_rfl⟩

set_option maxRecDepth 100000 in
theorem lifted (os : Os) (started : os.Started) (H : Type) (enc : TypeId × Value → H) (F : Stop.Interp) :
    ReturnsInHanded {} Tryz.checked os 7 .any ((OpenSpec.ofChange Rows.domainSamesSpec).preRow enc Tryz.prog Tryz.f7 Rows.domainSamesRow.domain false Rows.domainSamesRow.laid) (((OpenSpec.ofChange Rows.domainSamesSpec).at F).post enc Tryz.prog Tryz.f7 false true false false) := by
  obtain ⟨places, hx⟩ := reads os enc
  refine returnsInHanded_of_row (C := Tryz.checked) (s := OpenSpec.ofChange Rows.domainSamesSpec) own started (by kernel_rfl) Tryz.func7
    (witness_row_at (enc := enc) (C := Tryz.checked) false (laidWorld8 os) #[.agg #[.int .i64 0, .string ByteArray.empty, .int .u8 0, .int .u8 0, .int .u8 0, .int .u8 0, .int .u8 0, .int .u8 0, .int .u8 0, .int .u8 0, .int .u8 0, .int .u8 0, .int .u8 0, .int .u8 0, .int .u8 0, .int .u8 0, .int .u8 0, .int .u8 0], .agg #[.int .i64 0, .string ByteArray.empty, .int .u8 0, .int .u8 0, .int .u8 0, .int .u8 0, .int .u8 0, .int .u8 0, .int .u8 0, .int .u8 0, .int .u8 0, .int .u8 0, .int .u8 0, .int .u8 0, .int .u8 0, .int .u8 0, .int .u8 0, .int .u8 0], .int .i64 0] rfl (by kernel_rfl) (by kernel_rfl) (by kernel_rfl)
      (OpenSpec.preRow_of_cond 8 hx (by kernel_rfl) (fun k hk => by cases hk) (by kernel_rfl) (laid_met os))) ?_
  intro W base args ds gs before hval hW _ _ hsz hL hsh _
  exact contract H enc W base args ds gs before hval hW hsz hL hsh

theorem said : Rows.DomainSamesSaid :=
  OpenClaim.holds_of_cond 7 Tryz.f7 rfl rfl rfl rfl rfl rfl rfl ⟨rfl, rfl, rfl, rfl, rfl⟩ rfl rfl rfl rfl rfl (by kernel_rfl) Tryz.func7 (by kernel_rfl)
    (of_decide_eq_true (by kernel_rfl)) (by unfold Func.isWrapper; first | (rw [if_pos (by decide +kernel)]; kernel_rfl) | (rw [if_neg (by decide +kernel)]; exact ⟨rfl, rfl⟩))
    (fun os started H enc _ F => by rw [OpenClaim.pre_eq_preRow]; exact lifted os started H enc F)

/-- No parameter wants a stand-in; the program's own looks are off. -/
theorem plain (f : FuncId) (fn : Func) (hf : Tryz.pinned.checked.prog.funcNamed "posthorn/posthornlaw08.DomainSames" = some f) (hfn : Tryz.pinned.checked.prog.funcs[f]? = some fn) :
    true = Tryz.pinned.checked.prog.looks [] ∧ ∀ (j : Nat) t, fn.params[j]? = some t → Tryz.pinned.checked.prog.wantsStandIn t = false := by
  obtain rfl : f = 7 := Option.some.inj ((show Tryz.prog.funcNamed "posthorn/posthornlaw08.DomainSames" = some 7 by kernel_rfl).symm.trans hf) |>.symm
  obtain rfl : fn = Tryz.f7 := (Option.some.inj (Tryz.func7.symm.trans hfn)).symm
  refine ⟨by kernel_rfl, fun j t ht => ?_⟩
  rw [Tryz.params7] at ht
  have hm : t ∈ [28, 28, 3] := by simpa using Array.mem_of_getElem? ht
  have hall : ([28, 28, 3].all fun u => !Tryz.prog.wantsStandIn u) = true := by kernel_rfl
  exact (show Tryz.prog.wantsStandIn t = false by simpa using List.all_eq_true.1 hall t hm)

/-- The card. -/
theorem card : Rows.DomainSamesCardSaid :=
  Claim7.holds_tied_plain_at .later [] _ _ _ _ said (fun _ h => by cases h) (by kernel_rfl) (fun _ h => by cases h) domainSames_row_tie rfl ⟨rfl, rfl⟩ (by kernel_rfl) rfl plain (by kernel_rfl)
end Go.Proofs.YtnlgbopdbihnjaaGreatDoor.domainSames
namespace Go.Proofs.YtnlgbopdbihnjaaGreatDoor
theorem domainSames_card : Rows.DomainSamesCardSaid := domainSames.card
#print axioms domainSames_card
end Go.Proofs.YtnlgbopdbihnjaaGreatDoor
