/-
  P13.5: however bytes are cut, the same items, of the same bytes; proved for inputs of bulk at most 1048576.
-/
import Derived.Test.YthjcjecimidedaaTe13
import Derived.Test.YthjcjecimidedaaOpenN
import Derived.Test.YthjcjecimidedaaRows
import Derived.ProofKit
import Derived.ChangeMaps5
import Derived.OpenShut
import Derived.ShutString
import Derived.ChangeOld
import Derived.SizedLaws
namespace Go.Proofs.Ythjcjecimidedaa.linePieces
open Go.ChangeShapes Go.WideShapes Go.ChangeAt Go.RowKit

set_option maxHeartbeats 4000000 in
set_option maxRecDepth 20000 in
theorem walk {w : World} (a0 : Option Addr) (l0 : List UInt8) (cap0 : Nat) (hr0 : Bts a0 l0 w) (hl0 : l0.length ≤ 1048576) (hc0 : l0.length ≤ cap0) (_ : a0 = none → cap0 = 0) (hm0 : cap0 ≤ 9223372036854775807) (a1 : Option Addr) (l1 : List Int) (cap1 : Nat) (hr1 : IntsB a1 l1 w) (hl1 : l1.length ≤ 1048576) (a2 : Option Addr) (l2 : List Int) (cap2 : Nat) (hr2 : IntsB a2 l2 w) (hl2 : l2.length ≤ 1048576) :
    Calls Try.prog 4 #[.slice a0 l0.length cap0, .slice a1 l1.length cap1, .slice a2 l2.length cap2] w fun e w' => e = .returned (.bool true) ∧ Below w.heap.size w w' := by
  have HB0 : Hid (Bts a0 l0 w) := hr0
  have HI1 : Hid (IntsB a1 l1 w) := hr1
  have HI2 : Hid (IntsB a2 l2 w) := hr2
  have HWK := wakes_any w
  have HBD : Hid (∀ w', Calls Try.prog 18 #[.int .i64 (l1.length : Int)] w' fun e w'' => (∃ m : Nat, e = .returned (.int .i64 (m : Int)) ∧ 1 ≤ m ∧ m ≤ 64) ∧ w'' = w') := fun w' => bound_any _ (by omega) (by omega) w'
  clear hr0 hr1 hr2
  go_enter Try.func4, Try.ntmps4
  go_wp2_with fail
  refine HWK.mono ?_
  rintro e w1 ⟨rfl, hB1⟩
  have HB1 : Hid (Below w.heap.size w w1) := hB1
  clear hB1 HWK
  go_wp2_with fail
  refine (HBD.out w1).mono ?_
  rintro e w2 ⟨⟨m, rfl, hm1, hm2⟩, rfl⟩
  clear HBD
  go_wp2_with fail
  refine (all_any m hm1 hm2 a0 l0 cap0 a1 l1 cap1 w2 (HB0.out.below HB1.out) (by omega) hc0 hm0 (ints_below HI1.out HB1.out (Nat.le_refl _)) (by omega)).mono ?_
  rintro e w3 ⟨v3, rfl, hO3, hV3, hB3⟩
  have HB3 : Hid (Below w.heap.size w w3) := HB1.out.trans (hB3.mono HB1.out.size)
  have HO3 : Hid (Ow celT 51 4 w3 v3 (rn m [] l0).1) := hO3
  clear hO3 hV3 hB3 HB1
  go_wp2_with fail
  refine (all_any m hm1 hm2 a0 l0 cap0 a2 l2 cap2 w3 (HB0.out.below HB3.out) (by omega) hc0 hm0 (ints_below HI2.out HB3.out (Nat.le_refl _)) (by omega)).mono ?_
  rintro e w4 ⟨v4, rfl, hO4, hV4, hB4⟩
  have HB4 : Hid (Below w.heap.size w w4) := HB3.out.trans (hB4.mono HB3.out.size)
  have HO5 : Hid (Ow celT 51 4 w4 v3 (rn m [] l0).1) := HO3.out.below hB4
  have HO4 : Hid (Ow celT 51 4 w4 v4 (rn m [] l0).1) := hO4
  have hlen := (rn_len m l0 []).1
  clear hO4 hV4 hB4 HB3 HO3 HB0 HI1 HI2
  generalize (rn m [] l0).1 = xs at *
  generalize (rn m [] l0).2.length = sn at *
  obtain ⟨aa, ac, rfl, has⟩ := HO5.out.shape
  obtain ⟨ba, bc, rfl, hbs⟩ := HO4.out.shape
  have HAS : Hid (xs ≠ [] → ∃ g, aa = some ⟨g, 0, none⟩) := has
  have HBS : Hid (xs ≠ [] → ∃ g, ba = some ⟨g, 0, none⟩) := hbs
  clear has hbs
  go_wp2_with fail
  go_loopw [14, 56] (fun _ iv wr => ∃ i : Nat, i ≤ xs.length ∧ iv = .int .i64 i ∧ Hid (Below w4.heap.size w4 wr)) (fun _ iv _ => xs.length - (intOf iv).toNat)
  case atStart => exact ⟨0, Nat.zero_le _, rfl, Below.refl _ _⟩
  case round =>
    obtain ⟨i, hi, rfl, HB⟩ := hrel
    by_cases hlt : i < xs.length
    · have hlt' : (i : Int) < (xs.length : Int) := by omega
      obtain ⟨ga, rfl⟩ := HAS.out (fun e => by rw [e] at hlt; cases hlt)
      obtain ⟨gb, rfl⟩ := HBS.out (fun e => by rw [e] at hlt; cases hlt)
      obtain ⟨a1, a2, a3, a4⟩ := td_elem (HO5.out.below HB.out) i hlt
      obtain ⟨b1, b2, b3, b4⟩ := td_elem (HO4.out.below HB.out) i hlt
      generalize kdI xs[i].i = kd at *
      generalize (txI xs[i].i).toArray = tx at *
      generalize yI xs[i].i = y at *
      generalize xs[i].n = nb at *
      have HBN : Hid (Below w4.heap.size w4 wr.drew) := HB.out.drew
      go_wp2_with fail
      go_region
      go_wp2_with fail
      go_round
      case rel => exact ⟨i + 1, hlt, by go_num, HBN.out⟩
      case measure => simp [intOf]; omega
    · have hlt' : ¬ (i : Int) < (xs.length : Int) := by omega
      go_wp2_with fail
      go_ret
      exact ⟨rfl, HB4.out.trans (HB.out.mono HB4.out.size)⟩

theorem own : ownKnob Try.prog.godebug = none := by kernel_rfl
theorem laidOut : laidOutB Try.prog = true := by kernel_rfl
set_option maxRecDepth 100000 in
theorem contract (H : Type) (enc : TypeId × Value → H) (W : World) (base : Nat) (args : Array Value) (ds gs : List (DataW H)) (before : List MemPlace)
    (hval : ∀ (j : Nat) t v, Try.f4.params[j]? = some t → args[j]? = some v → Value.okWide Try.prog W .any base t v)
    (hW : DataW.Whole enc Try.prog Try.f4.params.toList Rows.linePiecesSpec.vars false W args.toList ds gs before)
    (hk : Rows.uptoSmall H (ds ++ gs) = true) :
    Calls Try.prog 4 args W fun e W' => ∃ v, e = .returned v ∧ Rows.linePiecesSpec.post enc Try.prog Try.f4 false true false false W args v W' := by
  have hW' := hW
  obtain ⟨p, q, hA0, hV, rfl, hfz, hnd⟩ := hW
  have hA : DataW.TrodAll enc Try.prog W 0 (fun _ => true) true Try.f4.params.toList args.toList ds p := hA0
  rw [Try.params4] at hA hval
  obtain ⟨v0, vs0, d0, ds0, p0, q0, hargs, rfl, rfl, h0, r0⟩ := trodAll_cons hA
  obtain ⟨v1, vs1, d1, ds1, p1, q1, rfl, rfl, rfl, h1, r1⟩ := trodAll_cons r0
  obtain ⟨v2, vs2, d2, ds2, p2, q2, rfl, rfl, rfl, h2, r2⟩ := trodAll_cons r1
  obtain ⟨rfl, rfl, rfl⟩ := trodAll_nil r2
  obtain rfl : args = #[v0, v1, v2] := by cases args; simp_all
  obtain ⟨rfl, rfl⟩ := trodVars_none hV
  have k0 := h0
  have lt0 : ∀ x ∈ p0, x.block < W.heap.size := by obtain ⟨m, hm⟩ := k0; exact DataW.trod_lt m _ _ _ hm
  obtain ⟨a0, len0, cap0, rfl⟩ := okWide_slice Try.underlying30 (hval 0 30 v0 rfl rfl)
  obtain ⟨l0, e0, row0, cp0, bd0⟩ := open_bytes h0
  have nn0 := open_none k0
  have k1 := h1
  have lt1 : ∀ x ∈ p1, x.block < W.heap.size := by obtain ⟨m, hm⟩ := k1; exact DataW.trod_lt m _ _ _ hm
  obtain ⟨a1, len1, cap1, rfl⟩ := okWide_slice Try.underlying44 (hval 1 44 v1 rfl rfl)
  obtain ⟨l1, e1, row1, bd1⟩ := open_nums h1
  have k2 := h2
  have lt2 : ∀ x ∈ p2, x.block < W.heap.size := by obtain ⟨m, hm⟩ := k2; exact DataW.trod_lt m _ _ _ hm
  obtain ⟨a2, len2, cap2, rfl⟩ := okWide_slice Try.underlying44 (hval 2 44 v2 rfl rfl)
  obtain ⟨l2, e2, row2, bd2⟩ := open_nums h2
  clear hA0
  have s0 : l0.length ≤ 1048576 := by
    rcases bd0 with ⟨el, sp, rfl, hl⟩ | ⟨rfl, hl⟩
    · have := bulk_slice hk (el := el) (sp := sp) (by simp)
      omega
    · omega
  subst e0
  have s1 : l1.length ≤ 1048576 := by
    rcases bd1 with ⟨el, sp, rfl, hl⟩ | ⟨rfl, hl⟩
    · have := bulk_slice hk (el := el) (sp := sp) (by simp)
      omega
    · omega
  subst e1
  have s2 : l2.length ≤ 1048576 := by
    rcases bd2 with ⟨el, sp, rfl, hl⟩ | ⟨rfl, hl⟩
    · have := bulk_slice hk (el := el) (sp := sp) (by simp)
      omega
    · omega
  subst e2
  refine (walk a0 l0 cap0 row0 s0 cp0 nn0 (open_cap k0) a1 l1 cap1 row1 s1 a2 l2 cap2 row2 s2).mono fun e W' ⟨he, bel⟩ => ?_
  subst he
  exact ⟨_, rfl, _, _, _, [], _, [], hW', trodAll_mk1 (shut_bool Try.underlying4 _), trodAll_cons_mk (Below.trod laidOut (by kernel_rfl) (of_decide_eq_true (by kernel_rfl)) k0 bel lt0) (trodAll_cons_mk (Below.trod laidOut (by kernel_rfl) (of_decide_eq_true (by kernel_rfl)) k1 bel lt1) (trodAll_cons_mk (Below.trod laidOut (by kernel_rfl) (of_decide_eq_true (by kernel_rfl)) k2 bel lt2) trodAll_mk0)), rfl, bel.frame _, fun h => by cases h⟩

set_option maxRecDepth 100000 in
theorem lifted (os : Os) (started : os.Started) (H : Type) (enc : TypeId × Value → H) (F : Stop.Interp) :
    ReturnsInHanded {} Try.checked os 4 .any ((Rows.OpenSpec.upto Rows.linePiecesSpec).pre6 enc Try.prog Try.f4 Rows.linePiecesUptoRow.domain false) (((Rows.OpenSpec.upto Rows.linePiecesSpec).at F).post enc Try.prog Try.f4 false true false false) := by
  refine returnsInHanded_of_cond (C := Try.checked) (s := Rows.OpenSpec.upto Rows.linePiecesSpec) (k := Rows.uptoSmall) rfl own started (by kernel_rfl) Try.func4
    (OpenSpec.witness (enc := enc) (C := Try.checked) (s := Rows.OpenSpec.upto Rows.linePiecesSpec) (k := Rows.uptoSmall) rfl false ⟨#[], #[.slice none 0 0, .slice none 0 0, .slice none 0 0], []⟩ 8 (by kernel_rfl) (by kernel_rfl) (by kernel_rfl)
      (x := ([.nil, .nil, .nil], [], [])) (by kernel_rfl) rfl (by kernel_rfl)) ?_
  intro W base args ds gs before hval hW _ hk _
  exact contract H enc W base args ds gs before hval hW hk

theorem over : Rows.LinePiecesUptoSaid :=
  OpenClaim.holds_of_cond 4 Try.f4 rfl rfl rfl rfl rfl rfl rfl ⟨rfl, rfl, rfl, rfl, rfl⟩ rfl rfl rfl rfl rfl (by kernel_rfl) Try.func4 (by kernel_rfl)
    (of_decide_eq_true (by kernel_rfl)) (by unfold Func.isWrapper; first | (rw [if_pos (by decide +kernel)]; kernel_rfl) | (rw [if_neg (by decide +kernel)]; exact ⟨rfl, rfl⟩))
    (fun os started H enc _ F => lifted os started H enc F)
end Go.Proofs.Ythjcjecimidedaa.linePieces
namespace Go.Proofs.Ythjcjecimidedaa
theorem linePiecesUpto_said : Rows.LinePiecesUptoSaid := linePieces.over
#print axioms linePiecesUpto_said
end Go.Proofs.Ythjcjecimidedaa
