/-
  For every message of bulk at most 1048576: Hops tells how many of the header's lines are of the name Received, as the document counts them; the message and what stands behind it stay as they were (P18.4). Condition: what comes in is of bulk at most 1048576.
-/
import Derived.Test.YthkoionigdnhgaaHe18
import Derived.Test.YthkoionigdnhgaaLb18
import Derived.Test.YthkoionigdnhgaaHs18
import Derived.Test.YthkoionigdnhgaaOb16
import Derived.Test.YthkoionigdnhgaaRows
import Derived.ProofKit
import Derived.ChangeMaps5
import Derived.OpenShut
import Derived.ShutString
import Derived.ChangeOld
import Derived.SizedLaws
namespace Go.Proofs.Ythkoionigdnhgaa.traceHops
open Go.ChangeShapes Go.WideShapes Go.ChangeAt Go.RowKit

set_option maxHeartbeats 4000000 in
set_option maxRecDepth 100000 in
theorem walk {w : World} (a0 : Option Addr) (l0 : List UInt8) (cap0 : Nat) (hr0 : Bts a0 l0 w) (hl0 : l0.length ≤ 1048576) (hc0 : l0.length ≤ cap0) (hn0 : a0 = none → cap0 = 0) (_ : cap0 ≤ 9223372036854775807) (hmx : ∃ m, w.cell? ⟨0, 0, none⟩ = some (.int .i64 m)) :
    Calls Try.prog 3 #[.slice a0 l0.length cap0] w fun e w' => e = .returned (.bool true) ∧ Below w.heap.size w w' := by
  obtain ⟨mx, hm⟩ := hmx
  have HM : Hid (w.cell? ⟨0, 0, none⟩ = some (.int .i64 mx)) := hm
  have HM0 : Hid (0 < w.heap.size) := lt_of_cellH hm
  have HB0 : Hid (Bts a0 l0 w) := hr0
  have HV := vhops_any a0 l0 l0.length cap0 rfl hc0 w hr0 (by omega)
  clear hr0 hm
  go_enter Try.func3, Try.ntmps3
  go_wp2_with fail
  refine HV.mono ?_
  rintro e w1 ⟨rfl, hB1⟩
  have HB1 : Hid (Below w.heap.size w w1) := hB1
  have HLE := lentb_any a0 l0 cap0 l0.length w1 rfl (HB0.out.below hB1) (by omega) hn0
  clear hB1 HV
  go_wp2_with fail
  refine HLE.mono ?_
  rintro e w2 ⟨v2, rfl, hO2, hB2⟩
  have HB2 : Hid (Below w.heap.size w w2) := HB1.out.trans (hB2.mono HB1.out.size)
  have hll : (l0 ++ mkH 1500).length = l0.length + 1500 := by rw [List.length_append, mkH_len]
  obtain ⟨g, c, rfl, -, -, hgc, hgm⟩ := slice_of_owns hO2 (by omega)
  have hcv : (convert 22 9 (.slice (some ⟨g, 0, none⟩) (l0.length + 1500) c)).run Try.prog w2 = .ok (.string (hS (l0 ++ mkH 1500))) w2 := own_conv hO2
  have hbt : Bts (some ⟨g, 0, none⟩) (l0 ++ mkH 1500) w2 := by
    obtain ⟨a, cp, e, h, -⟩ := own_bts hO2
    injection e with e1 e2 e3
    rw [e1]; exact h
  have hbl : Bts (some ⟨g, 0, none⟩) l0 w2 := by
    have := Bts.take hbt l0.length
    rwa [List.take_left] at this
  have hgm2 : c ≤ 9223372036854775807 := by unfold maxLen at hgm; omega
  have HHP := hops_any (some ⟨g, 0, none⟩) l0 l0.length c rfl (by omega) (fun e => by cases e) hgm2 mx w2 hbl (by omega) ((HB2.out.cell (p := ⟨0, 0, none⟩) HM0.out).trans HM.out)
  have HCV2 : Hid (∀ w', Below w2.heap.size w2 w' → (convert 22 9 (.slice (some ⟨g, 0, none⟩) (l0.length + 1500) c)).run Try.prog w' = .ok (.string (hS (l0 ++ mkH 1500))) w') := fun w' hb => by
    have := bts_back (hbt.below hb) c
    rwa [hll] at this
  have hlc : (l0.length : Int) ≤ (c : Int) := by omega
  have hlc2 : (l0.length : Int) ≤ (l0.length : Int) + 1500 := by omega
  clear hO2 hB2 HB1 HLE hbt hbl hll
  generalize hopsH l0 = N at *
  generalize hS (l0 ++ mkH 1500) = T at *
  go_wp2_with (rw [hcv])
  refine HHP.mono ?_
  rintro e w3 ⟨rfl, hB3⟩
  have HB3 : Hid (Below w.heap.size w w3) := HB2.out.trans (hB3.mono HB2.out.size)
  have hcv3 := HCV2.out w3 hB3
  have HHD := head_any mx w3 ((HB3.out.cell (p := ⟨0, 0, none⟩) HM0.out).trans HM.out)
  clear hB3 HB2 HHP hcv
  go_wp2_with (rw [hcv3])
  refine HHD.mono ?_
  rintro e w4 ⟨rfl, hB4⟩
  have HB4 : Hid (Below w.heap.size w w4) := HB3.out.trans (hB4.mono HB3.out.size)
  clear hB4 HHD HB3
  go_wp2_with fail
  go_ret
  exact ⟨rfl, HB4.out⟩

theorem own : ownKnob Try.prog.godebug = none := by kernel_rfl
theorem laidOut : laidOutB Try.prog = true := by kernel_rfl
set_option maxRecDepth 100000 in
theorem contract (H : Type) (enc : TypeId × Value → H) (W : World) (base : Nat) (args : Array Value) (ds gs : List (DataW H)) (before : List MemPlace)
    (hval : ∀ (j : Nat) t v, Try.f3.params[j]? = some t → args[j]? = some v → Value.okWide Try.prog W .any base t v)
    (hW : DataW.Whole enc Try.prog Try.f3.params.toList Rows.traceHopsSpec.vars false W args.toList ds gs before)
    (hk : Rows.uptoSmall H (ds ++ gs) = true) (hsh : W.ShapedOpen Try.prog) :
    Calls Try.prog 3 args W fun e W' => ∃ v, e = .returned v ∧ Rows.traceHopsSpec.post enc Try.prog Try.f3 false true false false W args v W' := by
  have hW' := hW
  obtain ⟨p, q, hA0, hV, rfl, hfz, hnd⟩ := hW
  have hA : DataW.TrodAll enc Try.prog W 0 (fun _ => true) true Try.f3.params.toList args.toList ds p := hA0
  rw [Try.params3] at hA hval
  obtain ⟨v0, vs0, d0, ds0, p0, q0, hargs, rfl, rfl, h0, r0⟩ := trodAll_cons hA
  obtain ⟨rfl, rfl, rfl⟩ := trodAll_nil r0
  obtain rfl : args = #[v0] := by cases args; simp_all
  obtain ⟨rfl, rfl⟩ := trodVars_none hV
  have k0 := h0
  have lt0 : ∀ x ∈ p0, x.block < W.heap.size := by obtain ⟨m, hm⟩ := k0; exact DataW.trod_lt m _ _ _ hm
  obtain ⟨a0, len0, cap0, rfl⟩ := okWide_slice Try.underlying22 (hval 0 22 v0 rfl rfl)
  obtain ⟨l0, e0, row0, cp0, bd0⟩ := open_bytes h0
  have nn0 := open_none k0
  clear hA0
  have s0 : l0.length ≤ 1048576 := by
    rcases bd0 with ⟨el, sp, rfl, hl⟩ | ⟨rfl, hl⟩
    · have := bulk_slice hk (el := el) (sp := sp) (by simp)
      omega
    · omega
  subst e0
  refine (walk a0 l0 cap0 row0 s0 cp0 nn0 (open_cap k0) (maxlen_of hsh)).mono fun e W' ⟨he, bel⟩ => ?_
  subst he
  exact ⟨_, rfl, _, _, _, [], _, [], hW', trodAll_mk1 (shut_bool Try.underlying4 _), trodAll_cons_mk (Below.trod laidOut (by kernel_rfl) (of_decide_eq_true (by kernel_rfl)) k0 bel lt0) trodAll_mk0, rfl, bel.frame _, fun h => by cases h⟩

set_option maxRecDepth 100000 in
theorem lifted (os : Os) (started : os.Started) (H : Type) (enc : TypeId × Value → H) (F : Stop.Interp) :
    ReturnsInHanded {} Try.checked os 3 .any ((Rows.OpenSpec.upto Rows.traceHopsSpec).pre6 enc Try.prog Try.f3 Rows.traceHopsUptoRow.domain false) (((Rows.OpenSpec.upto Rows.traceHopsSpec).at F).post enc Try.prog Try.f3 false true false false) := by
  refine handed_shaped (C := Try.checked) (s := Rows.OpenSpec.upto Rows.traceHopsSpec) (k := Rows.uptoSmall) rfl own started (by kernel_rfl) Try.func3
    (OpenSpec.witness (enc := enc) (C := Try.checked) (s := Rows.OpenSpec.upto Rows.traceHopsSpec) (k := Rows.uptoSmall) rfl false ⟨#[], #[.slice none 0 0], []⟩ 8 (by kernel_rfl) (by kernel_rfl) (by kernel_rfl)
      (x := ([.nil], [], [])) (by kernel_rfl) rfl (by kernel_rfl)) ?_
  intro W base args ds gs before hval hW hk hsh
  exact contract H enc W base args ds gs before hval hW hk hsh

theorem over : Rows.TraceHopsUptoSaid :=
  OpenClaim.holds_of_cond 3 Try.f3 rfl rfl rfl rfl rfl rfl rfl ⟨rfl, rfl, rfl, rfl, rfl⟩ rfl rfl rfl rfl rfl (by kernel_rfl) Try.func3 (by kernel_rfl)
    (of_decide_eq_true (by kernel_rfl)) (by unfold Func.isWrapper; first | (rw [if_pos (by decide +kernel)]; kernel_rfl) | (rw [if_neg (by decide +kernel)]; exact ⟨rfl, rfl⟩))
    (fun os started H enc _ F => lifted os started H enc F)
end Go.Proofs.Ythkoionigdnhgaa.traceHops
namespace Go.Proofs.Ythkoionigdnhgaa
theorem traceHopsUpto_said : Rows.TraceHopsUptoSaid := traceHops.over
#print axioms traceHopsUpto_said
end Go.Proofs.Ythkoionigdnhgaa
