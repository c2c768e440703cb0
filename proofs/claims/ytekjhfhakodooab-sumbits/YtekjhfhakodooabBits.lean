/-
  P2.7: bits turned within 32 bits beside one another make another sum; proved with no condition on the input.
-/
import Derived.Test.YtekjhfhakodooabBitsPure
import Derived.Test.YtekjhfhakodooabOpen
import Derived.Test.YtekjhfhakodooabRows
import Derived.ProofKit
import Derived.OpenShut
import Derived.ChangeOld
import Derived.SizedLaws
namespace Go.Proofs.Ytekjhfhakodooab.sumBits
open Go.ChangeShapes Go.WideShapes Go.ChangeAt Go.RowKit

set_option maxRecDepth 100000 in
set_option maxHeartbeats 400000 in
theorem walk (a : Option Addr) (l : List UInt8) (ca : Nat) {w : World} (ha : Bts a l w) (sa : l.length ≤ 140737488351232) (_ : l.length ≤ ca)
    (p : Int) (_ : -9223372036854775808 ≤ p ∧ p ≤ 9223372036854775807) (mask : BitVec 32) :
    Calls Try.prog 3 #[.slice a l.length ca, .int .i64 p, .int .u32 mask.toNat] w fun e w' => e = .returned (.bool true) ∧ Below w.heap.size w w' := by
  by_cases h0 : l.length = 0
  · go_enter Try.func3, Try.ntmps3
    go_wp2_with fail
    refine (wakes_any _).mono ?_
    rintro e w3 ⟨rfl, hb3⟩
    go_wp2
    go_ret
    exact ⟨rfl, hb3⟩
  obtain ⟨ad, rfl⟩ : ∃ ad, a = some ad := by
    rcases ha with rfl | ⟨g, o, e, _⟩
    · simp at h0
    · exact ⟨_, e⟩
  have HA : Hid (Bts (some ad) l w) := ha
  clear ha
  go_enter Try.func3, Try.ntmps3
  go_wp2_with fail
  obtain ⟨t, ht⟩ : ∃ t, t = (IntKind.u64.wrap p).tmod (8 * (l.length : Int)) := ⟨_, rfl⟩
  have hu : 0 ≤ IntKind.u64.wrap p := by rw [IntKind.wrap_u64]; omega
  have t0 : 0 ≤ t := by rw [ht]; exact Int.tmod_nonneg _ hu
  have t1 : t < 8 * (l.length : Int) := by rw [ht]; exact Int.tmod_lt_of_pos _ (by omega)
  rw [← ht]
  clear ht hu
  obtain ⟨q, rfl⟩ := Int.eq_ofNat_of_zero_le t0
  generalize IntKind.u64.wrap p = up
  have hw : wrap64 (q : Int) = (q : Int) := wrap64_small q (by omega)
  rw [hw]
  have hq : q < 8 * l.length := by omega
  clear hw t0 t1
  refine (clone_some ad l ca w HA.out (by omega)).mono ?_
  rintro e w1 ⟨v, rfl, hown, hb1⟩
  obtain ⟨g, cap', rfl⟩ : ∃ g cap', v = .slice (some ⟨g, 0, none⟩) l.length cap' := by
    rcases hown.2 with ⟨rfl, h⟩ | ⟨g, cap', cur, rfl, _⟩
    · omega
    · exact ⟨g, cap', rfl⟩
  have HO1 : Hid (w1.ownsRow w.heap.size 5 1 (.slice (some ⟨g, 0, none⟩) l.length cap') l.length (cellsB l)) := hown
  have HB1 : Hid (Below w.heap.size w w1) := hb1
  clear hown hb1
  go_wp2_with fail
  go_loopw [8, 25] (fun b i wr => ∃ (k : Nat) (o : List UInt8) (m : BitVec 32), k ≤ 32 ∧ i = .int .i64 k ∧ b = .bool (m != 0#32) ∧ Hid (wr.ownsRow w.heap.size 5 1 (.slice (some ⟨g, 0, none⟩) l.length cap') l.length (cellsB o)) ∧ Hid (Below w.heap.size w wr) ∧ Hid (Turned l o (8 * l.length - q) k m)) (fun _ i _ => 32 - (intOf i).toNat)
  case atStart => exact ⟨0, l, 0#32, by omega, rfl, rfl, HO1, HB1, Turned.start _ _⟩
  case round =>
    obtain ⟨k, o, m, hk, rfl, rfl, HO, HB, HT⟩ := hrel
    by_cases hlt : k < 32
    · go_wp2_with fail
      · rename_i hbit hin K0 a0
        clear hbit
        generalize (mask.toNat : Int) / 2 ^ k = mk
        obtain ⟨j, r, P⟩ := place q k l.length hin sa
        have hol : j < o.length := by rw [HT.out.len]; exact P.ltn
        have TT := HT.out.turn hlt (by exact_mod_cast hin) (by rw [← P.eqj]; exact hol)
        have TT2 : Hid (Turned l (o.set j (o[j] ^^^ bit r)) (8 * l.length - q) (k + 1) (m ^^^ (1#32 <<< k)) ∧ m ^^^ (1#32 <<< k) ≠ 0#32) := by
          obtain rfl := P.eqj
          obtain rfl := P.eqr
          exact TT
        clear TT
        have HC : Hid ((cellsB o).set j (.int .u8 ((o[j] ^^^ bit r).toNat : Int)) = cellsB (o.set j (o[j] ^^^ bit r))) := cells_flip o j hol (bit r)
        have hcl := HO.out.cellAt j (by rw [Nat.mul_one]; exact P.ltn)
        rw [cellsB_at o j hol] at hcl
        have hfr := HO.out.frozenAt j
        have e1 := P.e1
        have e2 := P.e2
        have e3 := P.e3
        have e4 := P.e4
        have e5 := P.e5
        have e7 := P.e7
        have e8 := P.e8
        have e9 := P.e9
        have e10 := P.e10
        have i1 := P.i1
        have i0 := P.i0
        have i2 := P.i2
        have HP : Hid (Place q k l.length j r) := P
        clear P
        have e6 := bits_xor8 o[j] (bit r)
        obtain ⟨nv, hnv⟩ : ∃ nv, nv = o[j] ^^^ bit r := ⟨_, rfl⟩
        rw [← hnv] at e6 HC TT2
        obtain ⟨ov, hov⟩ : ∃ ov, ov = o[j] := ⟨_, rfl⟩
        rw [← hov] at e6 hcl
        clear hnv hov
        go_region
        clear e1 e2 e3 e4 e5 e6 e7 e8 e9 e10 i0 i1 i2 hcl hfr
        go_wp2
        go_roundw
        case rel =>
          refine ⟨k + 1, o.set j nv, m ^^^ (1#32 <<< k), by omega, by go_num, ?_, ?_, ?_, TT2.out.1⟩
          · have h1 : (m ^^^ (1#32 <<< k) != 0#32) = true := by simpa using TT2.out.2
            rw [h1]
          · show World.ownsRow _ _ _ _ _ _ _
            rw [← HC.out]
            exact (HO.out.stored j _).1.drew
          · exact (HB.out.setCell (HO.out.lt g rfl).1 _).drew
        case measure => simp [intOf]; omega
      · go_roundw
        case rel => exact ⟨k + 1, o, m, by omega, by go_num, rfl, HO, HB, HT.out.skip⟩
        case measure => simp [intOf]; omega
      · go_roundw
        case rel => exact ⟨k + 1, o, m, by omega, by go_num, rfl, HO, HB, HT.out.skip⟩
        case measure => simp [intOf]; omega
    · obtain rfl : k = 32 := by omega
      have HO2 : Hid (wr.ownsRow w.heap.size 5 1 (.slice (some ⟨g, 0, none⟩) l.length cap') o.length (cellsB o)) := by rw [HT.out.len]; exact HO.out
      obtain ⟨ar, caps, hva, hbs⟩ := own_bts HO2.out
      injection hva with e1 e2 e3
      subst e1 e3
      have CO : Hid (Calls Try.prog 8 #[.slice (some ⟨g, 0, none⟩) l.length cap'] wr fun e w' => e = .returned (.int .u32 (more 0#32 o).toNat) ∧ w' = wr) := by
        have := of_any _ o cap' wr hbs (by unfold maxLen; have := HT.out.len; omega)
        rw [HT.out.len] at this
        exact this
      have CL : Hid (Calls Try.prog 8 #[.slice (some ad) l.length ca] wr fun e w' => e = .returned (.int .u32 (more 0#32 l).toNat) ∧ w' = wr) :=
        of_any _ l ca wr (HA.out.below HB.out) (by unfold maxLen; omega)
      have hs := HT.out.spelt
      generalize more 0#32 o = mo at CO hs
      generalize more 0#32 l = ml at CL hs
      generalize (m != 0#32) = tb at hs ⊢
      clear hbs e2 HO HO2 HT
      go_wp2_with fail
      refine CO.out.mono ?_
      rintro e w2 ⟨rfl, hw2⟩
      rw [hw2]
      clear hw2
      go_wp2_with fail
      refine CL.out.mono ?_
      rintro e w2 ⟨rfl, hw2⟩
      rw [hw2]
      clear hw2
      go_wp2_with fail
      refine (wakes_any _).mono ?_
      rintro e w2 ⟨rfl, hb2⟩
      go_wp2
      go_ret
      exact ⟨rfl, HB.out.trans (hb2.mono HB.out.size)⟩
theorem own : ownKnob Try.prog.godebug = none := by kernel_rfl
theorem laidOut : laidOutB Try.prog = true := by kernel_rfl

set_option maxRecDepth 100000 in
theorem lifted (os : Os) (started : os.Started) (H : Type) (enc : TypeId × Value → H) :
    ReturnsInHanded {} Try.checked os 3 .any (Rows.sumBitsSpec.pre6 enc Try.prog Try.f3 Rows.sumBitsRow.domain false) (Rows.sumBitsSpec.post enc Try.prog Try.f3 false true false false) := by
  refine returnsInHanded_of_change_sized (C := Try.checked) own started (by kernel_rfl) Try.func3
    (ChangeSpec.witness6 (enc := enc) (C := Try.checked) false ⟨#[], #[.slice none 0 0, .int .i64 0, .int .u32 0], []⟩ 8 (by kernel_rfl) (by kernel_rfl) (by kernel_rfl) (by kernel_rfl)) ?_
  intro W base args ds gs before hval0 hW hcnd hsz0 _
  have hval : ∀ (j : Nat) t v, Try.f3.params[j]? = some t → args[j]? = some v → Value.okWide Try.prog W .any base t v := hval0
  have hW' := hW
  obtain ⟨p, q, hA0, hV, rfl, hfz, hnd⟩ := hW
  have hA : DataW.TrodAll enc Try.prog W 0 (fun _ => true) true Try.f3.params.toList args.toList ds p := hA0
  have hsz : (DataW.weightsEach Try.prog (Try.f3.params.toList ++ Rows.sumBitsSpec.plain.varTypes Try.prog) (ds ++ gs)).all (· ≤ reachBytes) = true := hsz0
  rw [Try.params3] at hA hval hsz
  obtain ⟨v0, vs0, d0, ds0, p0, q0, hargs, rfl, rfl, h0, r0⟩ := trodAll_cons hA
  obtain ⟨v1, vs1, d1, ds1, p1, q1, rfl, rfl, rfl, h1, r1⟩ := trodAll_cons r0
  obtain ⟨v2, vs2, d2, ds2, p2, q2, rfl, rfl, rfl, h2, r2⟩ := trodAll_cons r1
  obtain ⟨rfl, rfl, rfl⟩ := trodAll_nil r2
  obtain rfl : args = #[v0, v1, v2] := by cases args; simp_all
  obtain ⟨rfl, rfl⟩ := trodVars_none hV
  obtain ⟨a0, len0, cap0, rfl⟩ := okWide_slice Try.underlying22 (hval 0 22 v0 rfl rfl)
  have k0 := h0
  have lt0 : ∀ x ∈ p0, x.block < W.heap.size := by obtain ⟨m, hm⟩ := k0; exact DataW.trod_lt m _ _ _ hm
  obtain ⟨l0, e0, row0, cp0, bd0⟩ := open_bytes h0
  obtain ⟨a1, rfl, rfl, rfl, w1⟩ := open_int Try.underlying3 (hval 1 3 v1 rfl rfl) h1
  have b1 := bounds_i64 w1
  obtain ⟨a2, rfl, rfl, rfl, w2⟩ := open_int Try.underlying23 (hval 2 23 v2 rfl rfl) h2
  obtain ⟨x2, rfl⟩ := u32_of w2
  clear hA0 hval0
  have s0 : l0.length ≤ 140737488351232 := by
    rcases bd0 with ⟨el, sp, rfl, hl⟩ | ⟨rfl, hl⟩
    · have := sized_slice hsz (j := 0) (t := 22) (e := 5) rfl rfl Try.underlying22
      rw [bytes5] at this
      simp only [reachBytes] at this
      omega
    · omega
  subst e0
  refine (walk a0 l0 cap0 row0 s0 cp0 a1 b1 x2).mono fun e W' ⟨he, bel⟩ => ?_
  subst he
  exact ⟨_, rfl, _, _, _, [], _, [], hW', trodAll_mk1 (shut_bool Try.underlying4 _), trodAll_cons_mk (Below.trod laidOut (by kernel_rfl) (of_decide_eq_true (by kernel_rfl)) k0 bel lt0) (trodAll_cons_mk (shut_int Try.underlying3 w1) (trodAll_cons_mk (shut_int Try.underlying23 w2) trodAll_mk0)), rfl, bel.frame _, fun h => by cases h⟩

theorem over : Rows.sumBitsRow.holds Try.pinned (OpenSpec.ofChange Rows.sumBitsSpec) :=
  OpenClaim.holds_of_wide 3 Try.f3 rfl rfl rfl rfl rfl rfl rfl ⟨rfl, rfl, rfl, rfl, rfl⟩ rfl rfl rfl rfl rfl (by kernel_rfl) Try.func3 (by kernel_rfl)
    (of_decide_eq_true (by kernel_rfl)) (by unfold Func.isWrapper; first | (rw [if_pos (by decide +kernel)]; kernel_rfl) | (rw [if_neg (by decide +kernel)]; exact ⟨rfl, rfl⟩))
    (fun os started H enc _ => lifted os started H enc)
end Go.Proofs.Ytekjhfhakodooab.sumBits
namespace Go.Proofs.Ytekjhfhakodooab
theorem sumBits_said : Rows.SumBitsSaid := sumBits.over
#print axioms sumBits_said
end Go.Proofs.Ytekjhfhakodooab
