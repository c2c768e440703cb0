/-
  P4.1, P4.3: Base64 and Rows of any bytes are what the document asks, and what is handed in stays; proved for inputs of bulk at most 1048576 (the given upto form).
-/
import Derived.Test.YtenfopabdegmhaaRows4
import Derived.Test.YtenfopabdegmhaaLent4
import Derived.Test.YtenfopabdegmhaaOpen4
import Derived.Test.YtenfopabdegmhaaConst4
import Derived.Test.YtenfopabdegmhaaRows
import Derived.ProofKit
import Derived.ChangeMaps5
import Derived.OpenShut
import Derived.ShutString
import Derived.ChangeOld
import Derived.SizedLaws
namespace Go.Proofs.Ytenfopabdegmhaa.codeRows
open Go.ChangeShapes Go.WideShapes Go.ChangeAt Go.RowKit

theorem rows_any (a : Option Addr) (l : List UInt8) (cap n : Nat) (m : Int) (w : World) (hn : n = l.length) (hb : Bts a l w) (hl : l.length ≤ 104857600) (hcap : l.length ≤ cap) (hcap2 : cap ≤ 9223372036854775807) :
    Calls Try.prog 10 #[.slice a n cap, .int .i64 m] w fun e w' => e = .returned (.tuple #[.string (rowsS l m), .int .i64 (rowsE m)]) ∧ Below w.heap.size w w' := by
  cases ho : okMost m with
  | false =>
    have e1 : rowsS l m = ⟨#[]⟩ := by unfold rowsS; rw [if_neg (by rw [ho]; decide)]
    have e2 : rowsE m = 2 := by unfold rowsE; rw [if_neg (by rw [ho]; decide)]
    rw [e1, e2]
    refine (rows_no _ m ho w).mono ?_
    rintro e w' ⟨rfl, rfl⟩
    exact ⟨rfl, Below.refl _ _⟩
  | true =>
    have e1 : rowsS l m = ⟨(rg m.toNat 0 (encL l)).toArray⟩ := by unfold rowsS; rw [if_pos ho]
    have e2 : rowsE m = 0 := by unfold rowsE; rw [if_pos ho]
    rw [e1, e2]
    obtain ⟨k, rfl⟩ : ∃ k : Nat, m = (k : Int) := by
      have := ho
      unfold okMost at this
      simp only [decide_eq_true_eq] at this
      exact Int.eq_ofNat_of_zero_le (by omega)
    exact rows_yes a l cap n k w hn hb hl hcap hcap2 ho
theorem rrows_any (a : Option Addr) (l : List UInt8) (cap n : Nat) (m : Int) (w : World) (hn : n = l.length) (hb : Bts a l w) (hl : l.length ≤ 104857600) :
    Calls Try.prog 11 #[.slice a n cap, .int .i64 m] w fun e w' => e = .returned (.tuple #[.string (rowsS l m), .int .i64 (rowsE m)]) ∧ Below w.heap.size w w' := by
  cases ho : okMost m with
  | false =>
    have e1 : rowsS l m = ⟨#[]⟩ := by unfold rowsS; rw [if_neg (by rw [ho]; decide)]
    have e2 : rowsE m = 2 := by unfold rowsE; rw [if_neg (by rw [ho]; decide)]
    rw [e1, e2]
    refine (rrows_no _ m ho w).mono ?_
    rintro e w' ⟨rfl, rfl⟩
    exact ⟨rfl, Below.refl _ _⟩
  | true =>
    have e1 : rowsS l m = ⟨(rg m.toNat 0 (encL l)).toArray⟩ := by unfold rowsS; rw [if_pos ho]
    have e2 : rowsE m = 0 := by unfold rowsE; rw [if_pos ho]
    rw [e1, e2]
    obtain ⟨k, rfl⟩ : ∃ k : Nat, m = (k : Int) := by
      have := ho
      unfold okMost at this
      simp only [decide_eq_true_eq] at this
      exact Int.eq_ofNat_of_zero_le (by omega)
    exact rrows_yes a l cap n k w hn hb hl ho
theorem man_rows : rowsS [77, 97, 110] 4 = ⟨#[84, 87, 70, 117, 13, 10]⟩ := by decide +kernel
theorem man_e : rowsE 4 = 0 := by decide +kernel
theorem fe_enc : encL [255, 254, 253] = [47, 47, 55, 57] := by decide +kernel

set_option maxHeartbeats 4000000 in
set_option maxRecDepth 100000 in
theorem walk {w : World} (a : Option Addr) (l : List UInt8) (cap : Nat) (hr : Bts a l w) (hl : l.length ≤ 1048576) (_hc : l.length ≤ cap) (hnn : a = none → cap = 0) (m : Int) (_hm : -9223372036854775808 ≤ m ∧ m ≤ 9223372036854775807) :
    Calls Try.prog 4 #[.slice a l.length cap, .int .i64 m] w fun e w' => e = .returned (.bool true) ∧ Below w.heap.size w w' := by
  obtain ⟨n, hn⟩ : ∃ n, n = l.length := ⟨_, rfl⟩
  have HBT : Hid (Bts a l w) := hr
  have HN : Hid (n = l.length) := hn
  have HLE : Hid (Calls Try.prog 9 #[.slice a n cap] w fun e w' => ∃ g c, e = .returned (.slice (some ⟨g, 0, none⟩) n c) ∧ LentB w' w.heap.size g c l ∧ Below w.heap.size w w') := lent_any a l cap n w hn hr (by omega) hnn
  rw [← hn]
  rw [← hn] at hl
  clear hr hn _hc
  go_enter Try.func4, Try.ntmps4
  go_wp2_with fail
  refine Calls.mono HLE.out ?_
  rintro e w1 ⟨g, c, rfl, hl1, hb1⟩
  have HL1 : Hid (LentB w1 w.heap.size g c l) := hl1
  have HB1 : Hid (Below w.heap.size w w1) := hb1
  obtain ⟨q1, q2, q3, q4⟩ := hl1.cap
  have HQ : Hid (l.length ≤ c) := by show _ ≤ _; omega
  clear hl1 hb1 HLE q1 q3 q4
  go_wp2_with fail
  refine Calls.mono (rows_any (some ⟨g, 0, none⟩) l c n m w1 HN.out HL1.out.bts (by rw [← HN.out]; omega) HQ.out q2) ?_
  rintro e w2 ⟨rfl, hb2⟩
  have HL2 : Hid (LentB w2 w.heap.size g c l) := HL1.out.below hb2
  have HB2 : Hid (Below w.heap.size w w2) := HB1.out.trans (hb2.mono HB1.out.size)
  clear hb2 HL1 HB1
  go_wp2_with fail
  refine Calls.mono (rrows_any a l cap n m w2 HN.out (HBT.out.below HB2.out) (by rw [← HN.out]; omega)) ?_
  rintro e w3 ⟨rfl, hb3⟩
  have HL3 : Hid (LentB w3 w.heap.size g c l) := HL2.out.below hb3
  have HB3 : Hid (Below w.heap.size w w3) := HB2.out.trans (hb3.mono HB2.out.size)
  clear hb3 HL2 HB2
  generalize rowsS l m = RS
  generalize rowsE m = RE
  have hcv := Lib.run_convert_bytes_const (P := Try.prog) w3 22 5 #[.int .u8 77, .int .u8 97, .int .u8 110] 3 3 Try.underlying22 Try.underlying5
  go_wp2_with fail
  have HL4 : Hid (LentB (w3.alloc (.cells #[.int .u8 77, .int .u8 97, .int .u8 110] 5 (3, 4))) w.heap.size g c l) := HL3.out.below ((Below.refl _ _).alloc (Nat.le_refl _) _)
  have HB4 : Hid (Below w.heap.size w (w3.alloc (.cells #[.int .u8 77, .int .u8 97, .int .u8 110] 5 (3, 4)))) := HB3.out.alloc HB3.out.size _
  have HBM : Hid (Bts (some ⟨w3.heap.size, 0, none⟩) [77, 97, 110] (w3.alloc (.cells #[.int .u8 77, .int .u8 97, .int .u8 110] 5 (3, 4)))) := const_bts w3 [77, 97, 110] (3, 4)
  have hm4 := rows_any (some ⟨w3.heap.size, 0, none⟩) [77, 97, 110] 3 3 4 (w3.alloc (.cells #[.int .u8 77, .int .u8 97, .int .u8 110] 5 (3, 4))) rfl HBM.out (by simp) (by simp) (by omega)
  rw [man_rows, man_e] at hm4
  refine Calls.mono hm4 ?_
  rintro e w5 ⟨rfl, hb5⟩
  have HL5 : Hid (LentB w5 w.heap.size g c l) := HL4.out.below hb5
  have HB5 : Hid (Below w.heap.size w w5) := HB4.out.trans (hb5.mono HB4.out.size)
  clear hb5 HL4 HB4 HBM hcv HL3 HB3 hm4
  go_wp2_with fail
  refine Calls.mono (b64_any (some ⟨g, 0, none⟩) l c n w5 HN.out HL5.out.bts (by rw [← HN.out]; omega) HQ.out q2) ?_
  rintro e w6 ⟨rfl, hb6⟩
  have HL6 : Hid (LentB w6 w.heap.size g c l) := HL5.out.below hb6
  have HB6 : Hid (Below w.heap.size w w6) := HB5.out.trans (hb6.mono HB5.out.size)
  clear hb6 HL5 HB5
  go_wp2_with fail
  refine Calls.mono (rb64_any a l cap n w6 HN.out (HBT.out.below HB6.out) (by rw [← HN.out]; omega)) ?_
  rintro e w7 ⟨rfl, hb7⟩
  have HL7 : Hid (LentB w7 w.heap.size g c l) := HL6.out.below hb7
  have HB7 : Hid (Below w.heap.size w w7) := HB6.out.trans (hb7.mono HB6.out.size)
  clear hb7 HL6 HB6
  generalize (⟨(encL l).toArray⟩ : ByteArray) = ES
  go_wp2_with fail
  refine Calls.mono (kept_any w.heap.size g c l a cap n w7 HN.out HL7.out (HBT.out.below HB7.out) (by rw [← HN.out]; omega)) ?_
  rintro e w8 ⟨rfl, rfl⟩
  go_wp2_with fail
  have h255 := b64_any (some ⟨w8.heap.size, 0, none⟩) [255, 254, 253] 3 3 (w8.alloc (.cells #[.int .u8 255, .int .u8 254, .int .u8 253] 5)) rfl (three_bts w8 5 _ _ _ 255 254 253 rfl rfl rfl 3) (by simp) (by simp) (by omega)
  rw [fe_enc] at h255
  refine Calls.mono h255 ?_
  rintro e w9 ⟨rfl, hb9⟩
  have HB9 : Hid (Below w.heap.size w w9) := (HB7.out.alloc HB7.out.size _).trans (hb9.mono (by have := HB7.out.size; simp; omega))
  clear hb9 h255
  go_wp2
  go_ret
  exact ⟨rfl, HB9.out⟩

theorem own : ownKnob Try.prog.godebug = none := by kernel_rfl
theorem laidOut : laidOutB Try.prog = true := by kernel_rfl
theorem contract (H : Type) (enc : TypeId × Value → H) (W : World) (base : Nat) (args : Array Value) (ds gs : List (DataW H)) (before : List MemPlace)
    (hval : ∀ (j : Nat) t v, Try.f4.params[j]? = some t → args[j]? = some v → Value.okWide Try.prog W .any base t v)
    (hW : DataW.Whole enc Try.prog Try.f4.params.toList Rows.codeRowsSpec.vars false W args.toList ds gs before)
    (hk : Rows.uptoSmall H (ds ++ gs) = true) :
    Calls Try.prog 4 args W fun e W' => ∃ v, e = .returned v ∧ Rows.codeRowsSpec.post enc Try.prog Try.f4 false true false false W args v W' := by
  have hW' := hW
  obtain ⟨p, q, hA0, hV, rfl, hfz, hnd⟩ := hW
  have hA : DataW.TrodAll enc Try.prog W 0 (fun _ => true) true Try.f4.params.toList args.toList ds p := hA0
  rw [Try.params4] at hA hval
  obtain ⟨v0, vs0, d0, ds0, p0, q0, hargs, rfl, rfl, h0, r0⟩ := trodAll_cons hA
  obtain ⟨v1, vs1, d1, ds1, p1, q1, rfl, rfl, rfl, h1, r1⟩ := trodAll_cons r0
  obtain ⟨rfl, rfl, rfl⟩ := trodAll_nil r1
  obtain rfl : args = #[v0, v1] := by cases args; simp_all
  obtain ⟨rfl, rfl⟩ := trodVars_none hV
  have k0 := h0
  have lt0 : ∀ x ∈ p0, x.block < W.heap.size := by obtain ⟨m, hm⟩ := k0; exact DataW.trod_lt m _ _ _ hm
  obtain ⟨a0, len0, cap0, rfl⟩ := okWide_slice Try.underlying22 (hval 0 22 v0 rfl rfl)
  obtain ⟨l0, e0, row0, cp0, bd0⟩ := open_bytes h0
  have nn0 := open_none k0
  obtain ⟨a1, rfl, rfl, rfl, w1⟩ := open_int Try.underlying3 (hval 1 3 v1 rfl rfl) h1
  have b1 := bounds_i64 w1
  clear hA0
  have s0 : l0.length ≤ 1048576 := by
    rcases bd0 with ⟨el, sp, rfl, hl⟩ | ⟨rfl, hl⟩
    · have := bulk_slice hk (el := el) (sp := sp) (by simp)
      omega
    · omega
  subst e0
  refine (walk a0 l0 cap0 row0 s0 cp0 nn0 a1 b1).mono fun e W' ⟨he, bel⟩ => ?_
  subst he
  exact ⟨_, rfl, _, _, _, [], _, [], hW', trodAll_mk1 (shut_bool Try.underlying4 _), trodAll_cons_mk (Below.trod laidOut (by kernel_rfl) (of_decide_eq_true (by kernel_rfl)) k0 bel lt0) (trodAll_cons_mk (shut_int Try.underlying3 w1) trodAll_mk0), rfl, bel.frame _, fun h => by cases h⟩

set_option maxRecDepth 100000 in
theorem lifted (os : Os) (started : os.Started) (H : Type) (enc : TypeId × Value → H) (F : Stop.Interp) :
    ReturnsInHanded {} Try.checked os 4 .any ((Rows.OpenSpec.upto Rows.codeRowsSpec).pre6 enc Try.prog Try.f4 Rows.codeRowsUptoRow.domain false) (((Rows.OpenSpec.upto Rows.codeRowsSpec).at F).post enc Try.prog Try.f4 false true false false) := by
  refine returnsInHanded_of_cond (C := Try.checked) (s := Rows.OpenSpec.upto Rows.codeRowsSpec) (k := Rows.uptoSmall) rfl own started (by kernel_rfl) Try.func4
    (OpenSpec.witness (enc := enc) (C := Try.checked) (s := Rows.OpenSpec.upto Rows.codeRowsSpec) (k := Rows.uptoSmall) rfl false ⟨#[], #[.slice none 0 0, .int .i64 0], []⟩ 8 (by kernel_rfl) (by kernel_rfl) (by kernel_rfl)
      (x := ([.nil, .lit (.int .i64 0)], [], [])) (by kernel_rfl) rfl (by kernel_rfl)) ?_
  intro W base args ds gs before hval hW _ hk _
  exact contract H enc W base args ds gs before hval hW hk

theorem over : Rows.CodeRowsUptoSaid :=
  OpenClaim.holds_of_cond 4 Try.f4 rfl rfl rfl rfl rfl rfl rfl ⟨rfl, rfl, rfl, rfl, rfl⟩ rfl rfl rfl rfl rfl (by kernel_rfl) Try.func4 (by kernel_rfl)
    (of_decide_eq_true (by kernel_rfl)) (by unfold Func.isWrapper; first | (rw [if_pos (by decide +kernel)]; kernel_rfl) | (rw [if_neg (by decide +kernel)]; exact ⟨rfl, rfl⟩))
    (fun os started H enc _ F => lifted os started H enc F)
end Go.Proofs.Ytenfopabdegmhaa.codeRows
namespace Go.Proofs.Ytenfopabdegmhaa
theorem codeRowsUpto_said : Rows.CodeRowsUptoSaid := codeRows.over
#print axioms codeRowsUpto_said
end Go.Proofs.Ytenfopabdegmhaa
