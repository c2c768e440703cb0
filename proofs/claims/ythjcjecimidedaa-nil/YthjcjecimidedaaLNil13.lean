/-
  R1, P13.4: no liner, and one that New did not make, take nothing, tell nothing and hold nothing; proved for every input.
-/
import Derived.Test.YthjcjecimidedaaWk13
import Derived.Test.YthjcjecimidedaaOpenC
import Derived.Test.YthjcjecimidedaaRows
import Derived.ProofKit
import Derived.ChangeMaps5
import Derived.OpenShut
import Derived.ShutString
import Derived.ChangeOld
import Derived.SizedLaws
namespace Go.Proofs.Ythjcjecimidedaa.lineNil
open Go.ChangeShapes Go.WideShapes Go.ChangeAt Go.RowKit

set_option maxHeartbeats 4000000 in
set_option maxRecDepth 20000 in
theorem walk {w : World} (a0 : Option Addr) (l0 : List UInt8) (cap0 : Nat) (_ : Bts a0 l0 w) (_ : l0.length ≤ 140737488351232) (_ : l0.length ≤ cap0) (_ : a0 = none → cap0 = 0) (_ : cap0 ≤ 9223372036854775807) :
    Calls Try.prog 8 #[.slice a0 l0.length cap0] w fun e w' => e = .returned (.bool true) ∧ Below w.heap.size w w' := by
  generalize l0.length = n0
  obtain ⟨W, hW⟩ : ∃ W, W = w.alloc (.cells #[.int .i64 0, .slice none 0 0, .bool false, .int .i64 0] 57) := ⟨_, rfl⟩
  have HB0 : Hid (Below w.heap.size w W) := by subst hW; exact (Below.refl _ _).alloc (Nat.le_refl _) _
  have HL0 : Hid (Lies W w.heap.size #[.int .i64 0, .slice none 0 0, .bool false, .int .i64 0] 57) := by subst hW; exact Lies.new w _ _
  have HWW : Hid (w.alloc (.cells #[.int .i64 0, .slice none 0 0, .bool false, .int .i64 0] 57) = W) := hW.symm
  clear hW
  go_enter Try.func8, Try.ntmps8
  go_wp2_with fail
  rw [HWW.out]
  clear HWW
  refine (ztake_nil _ W).mono ?_
  rintro e w1 ⟨rfl, hB1⟩
  obtain ⟨W1, hW1⟩ : ∃ W1, W1 = w1.alloc (.cells zit 35) := ⟨_, rfl⟩
  have hb1 : Below W.heap.size W W1 := by subst hW1; exact hB1.alloc hB1.size _
  have HB1 : Hid (Below w.heap.size w W1) := HB0.out.trans (hb1.mono HB0.out.size)
  have HL1 : Hid (Lies W1 w.heap.size #[.int .i64 0, .slice none 0 0, .bool false, .int .i64 0] 57) := HL0.out.below hb1 HL0.out.lt
  have HI1 : Hid (Lies W1 w1.heap.size zit 35) := by subst hW1; exact Lies.new w1 _ _
  have HWW : Hid (w1.alloc (.cells #[.int .i64 0, .string ⟨#[]⟩, .slice none 0 0, .int .i64 0, .bool false] 35) = W1) := hW1.symm
  clear hW1 hB1 hb1 HB0 HL0
  unfold itV
  go_wp2_with fail
  rw [HWW.out]
  clear HWW
  refine (ztake_zero _ w.heap.size W1 (HL1.out.cell 0) HL1.out.lt).mono ?_
  rintro e w2 ⟨rfl, hB2⟩
  obtain ⟨W2, hW2⟩ : ∃ W2, W2 = w2.alloc (.cells zit 35) := ⟨_, rfl⟩
  have hb2 : Below W1.heap.size W1 W2 := by subst hW2; exact hB2.alloc hB2.size _
  have HB2 : Hid (Below w.heap.size w W2) := HB1.out.trans (hb2.mono HB1.out.size)
  have HL2 : Hid (Lies W2 w.heap.size #[.int .i64 0, .slice none 0 0, .bool false, .int .i64 0] 57) := HL1.out.below hb2 HL1.out.lt
  have HI2 : Hid (Lies W2 w1.heap.size zit 35) := HI1.out.below hb2 HI1.out.lt
  have HJ2 : Hid (Lies W2 w2.heap.size zit 35) := by subst hW2; exact Lies.new w2 _ _
  have hs2 : W2.heap.size = w2.heap.size + 1 := by subst hW2; simp
  clear hB2 hb2 HB1 HL1 HI1
  obtain ⟨W3, hW3⟩ : ∃ W3, W3 = W2.alloc (.cells #[.int .u8 97, .int .u8 13, .int .u8 10] 5 (3, 4)) := ⟨_, rfl⟩
  have hc3 : (convert 30 30 (.slice (some ⟨w2.heap.size + 1, 0, none⟩) 3 3)).run Try.prog ((w2.alloc (.cells #[.int .i64 0, .string ⟨#[]⟩, .slice none 0 0, .int .i64 0, .bool false] 35)).alloc (.cells #[.int .u8 97, .int .u8 13, .int .u8 10] 5)) = .ok (.slice (some ⟨w2.heap.size + 1, 0, none⟩) 3 3) W3 := by subst hW3; rw [← hs2]; unfold zit at hW2; rw [← hW2]; exact Lib.run_convert_bytes_const W2 30 5 _ 3 3 Try.underlying30 Try.underlying5
  have hb3 : Below W2.heap.size W2 W3 := by subst hW3; exact (Below.refl _ _).alloc (Nat.le_refl _) _
  have HB3 : Hid (Below w.heap.size w W3) := HB2.out.trans (hb3.mono HB2.out.size)
  have HL3 : Hid (Lies W3 w.heap.size #[.int .i64 0, .slice none 0 0, .bool false, .int .i64 0] 57) := HL2.out.below hb3 HL2.out.lt
  have HI3 : Hid (Lies W3 w1.heap.size zit 35) := HI2.out.below hb3 HI2.out.lt
  have HJ3 : Hid (Lies W3 w2.heap.size zit 35) := HJ2.out.below hb3 HJ2.out.lt
  clear hW3 hb3 HB2 HL2 HI2 HJ2 hW2 hs2
  unfold itV
  go_wp2_with fail
  clear hc3
  refine (ztake_zero _ w.heap.size W3 (HL3.out.cell 0) HL3.out.lt).mono ?_
  rintro e w4 ⟨rfl, hB4⟩
  obtain ⟨W4, hW4⟩ : ∃ W4, W4 = w4.alloc (.cells zit 35) := ⟨_, rfl⟩
  have hb4 : Below W3.heap.size W3 W4 := by subst hW4; exact hB4.alloc hB4.size _
  have HB4 : Hid (Below w.heap.size w W4) := HB3.out.trans (hb4.mono HB3.out.size)
  have HL4 : Hid (Lies W4 w.heap.size #[.int .i64 0, .slice none 0 0, .bool false, .int .i64 0] 57) := HL3.out.below hb4 HL3.out.lt
  have HI4 : Hid (Lies W4 w1.heap.size zit 35) := HI3.out.below hb4 HI3.out.lt
  have HJ4 : Hid (Lies W4 w2.heap.size zit 35) := HJ3.out.below hb4 HJ3.out.lt
  have HK4 : Hid (Lies W4 w4.heap.size zit 35) := by subst hW4; exact Lies.new w4 _ _
  have HWW : Hid (w4.alloc (.cells #[.int .i64 0, .string ⟨#[]⟩, .slice none 0 0, .int .i64 0, .bool false] 35) = W4) := hW4.symm
  clear hW4 hB4 hb4 HB3 HL3 HI3 HJ3
  unfold itV
  go_wp2_with fail
  rw [HWW.out]
  clear HWW
  refine (wakes_any W4).mono ?_
  rintro e w5 ⟨rfl, hB5⟩
  have HB5 : Hid (Below w.heap.size w w5) := HB4.out.trans (hB5.mono HB4.out.size)
  obtain ⟨⟨a0, a1, a2, a3, a4⟩, -⟩ := it_cells (HI4.out.below hB5 HI4.out.lt)
  obtain ⟨⟨b0, b1, b2, b3, b4⟩, -⟩ := it_cells (HJ4.out.below hB5 HJ4.out.lt)
  obtain ⟨⟨d0, d1, d2, d3, d4⟩, -⟩ := it_cells (HK4.out.below hB5 HK4.out.lt)
  have H0 : Hid (Calls Try.prog 16 #[.pointer none] w5 fun e w' => e = .returned (.int .i64 0) ∧ w' = w5) := zheld_nil w5
  have H1 : Hid (Calls Try.prog 16 #[.pointer (some ⟨w.heap.size, 0, none⟩)] w5 fun e w' => e = .returned (.int .i64 0) ∧ w' = w5) := zheld_zero w.heap.size w5 ((HL4.out.below hB5 HL4.out.lt).cell 0)
  have hemp : ((⟨#[]⟩ ++ ⟨#[]⟩ ++ ⟨#[]⟩ : ByteArray)).toList = [] := by decide +kernel
  clear HI4 HJ4 HK4 HL4 hB5 HB4
  go_wp2_with fail
  refine H0.out.mono ?_
  rintro e w6 ⟨rfl, rfl⟩
  go_wp2_with fail
  refine H1.out.mono ?_
  rintro e w7 ⟨rfl, rfl⟩
  go_wp2_with fail
  go_ret
  exact ⟨rfl, HB5.out⟩

theorem own : ownKnob Try.prog.godebug = none := by kernel_rfl
theorem laidOut : laidOutB Try.prog = true := by kernel_rfl
set_option maxRecDepth 100000 in
theorem contract (H : Type) (enc : TypeId × Value → H) (W : World) (base : Nat) (args : Array Value) (ds gs : List (DataW H)) (before : List MemPlace)
    (hval : ∀ (j : Nat) t v, Try.f8.params[j]? = some t → args[j]? = some v → Value.okWide Try.prog W .any base t v)
    (hW : DataW.Whole enc Try.prog Try.f8.params.toList Rows.lineNilSpec.vars false W args.toList ds gs before)
    (hsz : (DataW.weightsEach Try.prog (Try.f8.params.toList ++ Rows.lineNilSpec.plain.varTypes Try.prog) (ds ++ gs)).all (· ≤ reachBytes) = true)
    :
    Calls Try.prog 8 args W fun e W' => ∃ v, e = .returned v ∧ Rows.lineNilSpec.post enc Try.prog Try.f8 false true false false W args v W' := by
  have hW' := hW
  obtain ⟨p, q, hA0, hV, rfl, hfz, hnd⟩ := hW
  have hA : DataW.TrodAll enc Try.prog W 0 (fun _ => true) true Try.f8.params.toList args.toList ds p := hA0
  rw [Try.params8] at hA hval hsz
  obtain ⟨v0, vs0, d0, ds0, p0, q0, hargs, rfl, rfl, h0, r0⟩ := trodAll_cons hA
  obtain ⟨rfl, rfl, rfl⟩ := trodAll_nil r0
  obtain rfl : args = #[v0] := by cases args; simp_all
  obtain ⟨rfl, rfl⟩ := trodVars_none hV
  have k0 := h0
  have lt0 : ∀ x ∈ p0, x.block < W.heap.size := by obtain ⟨m, hm⟩ := k0; exact DataW.trod_lt m _ _ _ hm
  obtain ⟨a0, len0, cap0, rfl⟩ := okWide_slice Try.underlying30 (hval 0 30 v0 rfl rfl)
  obtain ⟨l0, e0, row0, cp0, bd0⟩ := open_bytes h0
  have nn0 := open_none k0
  clear hA0
  have s0 : l0.length ≤ 140737488351232 := by
    rcases bd0 with ⟨el, sp, rfl, hl⟩ | ⟨rfl, hl⟩
    · have := sized_slice hsz (j := 0) (t := 30) (e := 5) rfl rfl Try.underlying30
      rw [bytes5] at this
      simp only [reachBytes] at this
      omega
    · omega
  subst e0
  refine (walk a0 l0 cap0 row0 s0 cp0 nn0 (open_cap k0)).mono fun e W' ⟨he, bel⟩ => ?_
  subst he
  exact ⟨_, rfl, _, _, _, [], _, [], hW', trodAll_mk1 (shut_bool Try.underlying4 _), trodAll_cons_mk (Below.trod laidOut (by kernel_rfl) (of_decide_eq_true (by kernel_rfl)) k0 bel lt0) trodAll_mk0, rfl, bel.frame _, fun h => by cases h⟩

set_option maxRecDepth 100000 in
theorem lifted (os : Os) (started : os.Started) (H : Type) (enc : TypeId × Value → H) :
    ReturnsInHanded {} Try.checked os 8 .any (Rows.lineNilSpec.pre6 enc Try.prog Try.f8 Rows.lineNilRow.domain false) (Rows.lineNilSpec.post enc Try.prog Try.f8 false true false false) := by
  refine returnsInHanded_of_change_sized (C := Try.checked) own started (by kernel_rfl) Try.func8
    (ChangeSpec.witness6 (enc := enc) (C := Try.checked) false ⟨#[], #[.slice none 0 0], []⟩ 8 (by kernel_rfl) (by kernel_rfl) (by kernel_rfl) (by kernel_rfl)) ?_
  intro W base args ds gs before hval0 hW hcnd hsz0 _
  exact contract H enc W base args ds gs before hval0 hW hsz0

theorem over : Rows.lineNilRow.holds Try.pinned (OpenSpec.ofChange Rows.lineNilSpec) :=
  OpenClaim.holds_of_wide 8 Try.f8 rfl rfl rfl rfl rfl rfl rfl ⟨rfl, rfl, rfl, rfl, rfl⟩ rfl rfl rfl rfl rfl (by kernel_rfl) Try.func8 (by kernel_rfl)
    (of_decide_eq_true (by kernel_rfl)) (by unfold Func.isWrapper; first | (rw [if_pos (by decide +kernel)]; kernel_rfl) | (rw [if_neg (by decide +kernel)]; exact ⟨rfl, rfl⟩))
    (fun os started H enc _ => lifted os started H enc)
end Go.Proofs.Ythjcjecimidedaa.lineNil
namespace Go.Proofs.Ythjcjecimidedaa
theorem lineNil_said : Rows.LineNilSaid := lineNil.over
#print axioms lineNil_said
end Go.Proofs.Ythjcjecimidedaa
