/-
  P13.3, P6: however long a line goes on, no more is held than its bound and eight bytes; nothing, where it has ended; proved for every input.
-/
import Derived.Test.YthjcjecimidedaaHl13
import Derived.Test.YthjcjecimidedaaOpenC
import Derived.Test.YthjcjecimidedaaRows
import Derived.ProofKit
import Derived.ChangeMaps5
import Derived.OpenShut
import Derived.ShutString
import Derived.ChangeOld
import Derived.SizedLaws
namespace Go.Proofs.Ythjcjecimidedaa.lineHeld
open Go.ChangeShapes Go.WideShapes Go.ChangeAt Go.RowKit

set_option maxHeartbeats 4000000 in
set_option maxRecDepth 20000 in
theorem walk {w : World} (mo : Int) (hmo : -9223372036854775808 ≤ mo ∧ mo ≤ 9223372036854775807) (a1 : Option Addr) (l1 : List UInt8) (cap1 : Nat) (hr1 : Bts a1 l1 w) (hl1 : l1.length ≤ 140737488351232) (hc1 : l1.length ≤ cap1) (_ : a1 = none → cap1 = 0) (hm1 : cap1 ≤ 9223372036854775807) (ti : Int) (_ : -9223372036854775808 ≤ ti ∧ ti ≤ 9223372036854775807) :
    Calls Try.prog 7 #[.int .i64 mo, .slice a1 l1.length cap1, .int .i64 ti] w fun e w' => e = .returned (.bool true) ∧ Below w.heap.size w w' := by
  have HBT : Hid (Bts a1 l1 w) := hr1
  have HWK := wakes_any w
  have HBD : Hid (∀ w', Calls Try.prog 18 #[.int .i64 mo] w' fun e w'' => (∃ m : Nat, e = .returned (.int .i64 (m : Int)) ∧ 1 ≤ m ∧ m ≤ 64) ∧ w'' = w') := fun w' => bound_any mo hmo.1 hmo.2 w'
  have ht : ti.tmod 50 < 50 := Int.tmod_lt_of_pos ti (by decide)
  obtain ⟨N, hN⟩ : ∃ N : Nat, (N : Int) = if ti.tmod 50 < 1 then 1 else ti.tmod 50 := ⟨(if ti.tmod 50 < 1 then 1 else ti.tmod 50 : Int).toNat, by split <;> omega⟩
  have hmx : max (ti.tmod 50) 1 = (N : Int) := by split at hN <;> omega
  have HNL : Hid (N ≤ 50) := by show _ ≤ _; split at hN <;> omega
  have hmy : (if ti.tmod 50 < 1 then (1 : Int) else ti.tmod 50) = (N : Int) := hN.symm
  clear hr1 ht hN
  go_enter Try.func7, Try.ntmps7
  go_wp2_with fail
  refine HWK.mono ?_
  rintro e w1 ⟨rfl, hB1⟩
  have HB1 : Hid (Below w.heap.size w w1) := hB1
  clear hB1 HWK
  go_wp2_with fail
  refine (HBD.out w1).mono ?_
  rintro e w2 ⟨⟨m, rfl, hm1', hm2'⟩, rfl⟩
  clear HBD
  go_wp2_with fail
  refine (znew_good m hm1' (by omega) w2).mono ?_
  rintro e w3 ⟨rfl, hX3, hB3⟩
  have HX3 : Hid (Ln w3 (fun k => w2.heap.size ≤ k ∧ k < w3.heap.size) w2.heap.size m []) := LnC.mono hX3 (fun k h1 h2 => ⟨h1, h2⟩)
  have HB3 : Hid (Below w2.heap.size w2 w3) := hB3
  clear hX3 hB3
  have HBW : Hid (Bts a1 l1 w2) := HBT.out.below HB1.out
  have HAL : Hid (∀ g o, a1 = some ⟨g, o, none⟩ → 0 < l1.length → g < w2.heap.size) := fun g o e h => by
    have := HBW.out
    rw [e] at this
    exact this.lt h
  clear HBT hmo
  go_wp2_with fail
  go_loopw [9, 10, 11, 26] (fun _ _ _ iv wr => ∃ i : Nat, i ≤ N ∧ iv = .int .i64 i ∧ Hid (∃ s, Ln wr (fun k => w2.heap.size ≤ k ∧ k < wr.heap.size) w2.heap.size m s) ∧ Hid (Below w2.heap.size w2 wr)) (fun _ _ _ iv _ => N - (intOf iv).toNat)
  case atStart => exact ⟨0, Nat.zero_le _, rfl, ⟨[], HX3.out⟩, HB3.out⟩
  case round =>
    obtain ⟨i, hi, rfl, HX, HB⟩ := hrel
    clear HX3 HB3
    have hN50 : N ≤ 50 := HNL.out
    by_cases hiN : i < N
    · have hiN' : (i : Int) < (N : Int) := by omega
      go_wp2_with fail
      go_loopw [9, 10, 11] (fun rv _ _ wq => ∃ (j n C : Nat) (A : Option Addr), j + n = l1.length ∧ j + C ≤ cap1 ∧ n ≤ C ∧ rv = .slice A n C ∧ (0 < n → ∃ g o, a1 = some ⟨g, o, none⟩ ∧ A = some ⟨g, o + j, none⟩) ∧ Hid (∃ s, Ln wq (fun k => w2.heap.size ≤ k ∧ k < wq.heap.size) w2.heap.size m s) ∧ Hid (Below w2.heap.size w2 wq)) (fun rv _ _ _ => lenOf rv)
      case atStart =>
        refine ⟨0, l1.length, cap1, a1, by omega, by omega, hc1, rfl, fun h => ?_, HX.out, HB.out⟩
        rcases HBW.out with e | ⟨g, o, e, _⟩
        · rw [e] at h; cases h
        · exact ⟨g, o, e, e⟩
      case round =>
        obtain ⟨j, n, C, A, hjn, hjC, hnC, rfl, hA, HX2, HB2⟩ := hrel
        clear HX HB
        by_cases hn : 0 < n
        · obtain ⟨g, o, ea, rfl⟩ := hA hn
          obtain ⟨q, hqo⟩ : ∃ q, q = o + j := ⟨_, rfl⟩
          rw [← hqo]
          have HQO : Hid (q = o + j) := hqo
          have HEA : Hid (a1 = some ⟨g, o, none⟩) := ea
          have hg2 : g < w2.heap.size := HAL.out g o ea (by omega)
          obtain ⟨s, hX2⟩ := HX2.out
          have hln : n = (l1.drop j).length := by rw [List.length_drop]; omega
          have hne : l1.drop j ≠ [] := fun e => by rw [e] at hln; simp at hln; omega
          have hbt : Bts (some ⟨g, q, none⟩) (l1.drop j) wr := by
            have h1 := HBW.out.below HB2.out
            rw [ea] at h1
            rw [hqo]
            exact bts_drop h1 j (Nat.lt_of_lt_of_le hg2 HB2.out.size)
          have HTK := ztake_any (fun k => w2.heap.size ≤ k ∧ k < wr.heap.size) w2.heap.size m s (some ⟨g, q, none⟩) (l1.drop j) n C hln (by omega) wr hX2 (fun k hk => hk.2) hbt (fun ad e h => by cases e; exact absurd h.1 (Nat.not_le.2 hg2))
          have hk1 := tk_pos m (l1.drop j) s hne
          have hk2 := tk_len m (l1.drop j) s
          rw [← hln] at hk2
          have HKE : Hid ((tk m s (l1.drop j)).2.1 ≠ .no → (tk m s (l1.drop j)).2.2 = []) := tk_yes m (l1.drop j) s
          rw [itV_is] at HTK
          have HJN : Hid (j + n = l1.length ∧ j + C ≤ cap1) := ⟨hjn, hjC⟩
          clear hA ea hqo hln hne hbt hX2 HX2 hjn hjC
          generalize (tk m s (l1.drop j)).1 = k at *
          generalize (tk m s (l1.drop j)).2.1 = it at *
          generalize (tk m s (l1.drop j)).2.2 = s2 at *
          go_wp2_with fail
          refine HTK.mono ?_
          rintro e w5 ⟨rfl, hX5, hC5⟩
          obtain ⟨W6, hW6⟩ : ∃ W6, W6 = w5.alloc (.cells #[.int .i64 (kdI it), .string ⟨(txI it).toArray⟩, .slice none 0 0, .int .i64 (yI it), .bool false] 35) := ⟨_, rfl⟩
          have hb6 : Below w5.heap.size w5 W6 := by subst hW6; exact (Below.refl _ _).alloc (Nat.le_refl _) _
          have hX6 : Ln W6 (fun k => w2.heap.size ≤ k ∧ k < W6.heap.size) w2.heap.size m s2 := (LnC.below hX5 hb6).mono (fun k h1 h2 => ⟨by rcases h1 with h1 | h1; exact h1.1; exact Nat.le_trans HB2.out.size h1, h2⟩)
          have hb5 : Below w2.heap.size w2 w5 := HB2.out.trans (hC5.to_below HB2.out.size (fun k hk => hk.1))
          have HB6 : Hid (Below w2.heap.size w2 W6) := hb5.trans (hb6.mono hb5.size)
          have HX6 : Hid (Ln W6 (fun k => w2.heap.size ≤ k ∧ k < W6.heap.size) w2.heap.size m s2) := hX6
          have HI6 : Hid (Lies W6 w5.heap.size #[.int .i64 (kdI it), .string ⟨(txI it).toArray⟩, .slice none 0 0, .int .i64 (yI it), .bool false] 35) := by subst hW6; exact Lies.new w5 _ _
          have HHD := zheld_ln _ w2.heap.size m s2 W6 hX6
          have hh1 := held_le m s2
          have HWW : Hid (w5.alloc (.cells #[.int .i64 (kdI it), .string ⟨(txI it).toArray⟩, .slice none 0 0, .int .i64 (yI it), .bool false] 35) = W6) := hW6.symm
          have HH0 : Hid (it ≠ .no → heldN m s2 = 0) := fun h => by rw [HKE.out h]; rfl
          obtain ⟨⟨d0, d1, d2, d3, d4⟩, -⟩ := it_cells HI6.out
          clear hW6 hb6 hX6 hX5 hC5 hb5 HTK HKE HB2
          generalize heldN m s2 = hn2 at *
          have e1 : decide ((k : Int) < 1) = false := by simp; omega
          have e2 : decide (n < k) = false := by simp; omega
          have e3 : decide (m + 8 < hn2) = false := by simp; omega
          have e4 : decide ((m : Int) + 8 < (hn2 : Int)) = false := by simp; omega
          have e5 : decide ((hn2 : Int) < 0) = false := by simp
          go_wp2_with (rw [HWW.out])
          refine HHD.mono ?_
          rintro e w7 ⟨rfl, rfl⟩
          go_wp2_with fail
          refine HHD.mono ?_
          rintro e w7 ⟨rfl, rfl⟩
          by_cases hit : it = .no
          · have k1 : (kdI it == 0) = true := by rw [hit]; rfl
            have k2 : (kdI it != 0) = false := by rw [hit]; rfl
            have k3 : kdI it = 0 := by rw [hit]; rfl
            clear hit
            by_cases hCk : C = k
            · have hcn0 : C - k = 0 := by omega
              have hcn1 : ¬ (k : Int) < (C : Int) := by omega
              have hcn2 : n - k = 0 := by omega
              have hnk : n = k := by omega
              subst hCk
              subst hnk
              go_wp2_with fail
              go_round
              case rel => exact ⟨j + n, 0, 0, some ⟨g, q, none⟩, by have := HJN.out; omega, by have := HJN.out; omega, Nat.le_refl _, by first | rfl | (congr 1; omega), fun h => absurd h (Nat.lt_irrefl 0), ⟨s2, HX6.out⟩, HB6.out⟩
              case measure => simp [lenOf]; omega
            · have hcn1 : (k : Int) < (C : Int) := by omega
              go_wp2_with fail
              go_round
              case rel => exact ⟨j + k, n - k, C - k, some ⟨g, q + k, none⟩, by have := HJN.out; omega, by have := HJN.out; omega, by omega, rfl, fun h => ⟨g, o, HEA.out, by rw [HQO.out, Nat.add_assoc]⟩, ⟨s2, HX6.out⟩, HB6.out⟩
              case measure => simp [lenOf]; omega
          · obtain ⟨k1, k2, k3⟩ := kdI_no hit
            have k4 : hn2 = 0 := HH0.out hit
            have k5 : ((hn2 : Int) != 0) = false := by rw [k4]; rfl
            have k6 : ((hn2 : Int) == 0) = true := by rw [k4]; rfl
            clear hit k4
            go_wp2_with fail
            refine HHD.mono ?_
            rintro e w7 ⟨rfl, rfl⟩
            by_cases hCk : C = k
            · have hcn0 : C - k = 0 := by omega
              have hcn1 : ¬ (k : Int) < (C : Int) := by omega
              have hcn2 : n - k = 0 := by omega
              have hnk : n = k := by omega
              subst hCk
              subst hnk
              go_wp2_with fail
              go_round
              case rel => exact ⟨j + n, 0, 0, some ⟨g, q, none⟩, by have := HJN.out; omega, by have := HJN.out; omega, Nat.le_refl _, by first | rfl | (congr 1; omega), fun h => absurd h (Nat.lt_irrefl 0), ⟨s2, HX6.out⟩, HB6.out⟩
              case measure => simp [lenOf]; omega
            · have hcn1 : (k : Int) < (C : Int) := by omega
              go_wp2_with fail
              go_round
              case rel => exact ⟨j + k, n - k, C - k, some ⟨g, q + k, none⟩, by have := HJN.out; omega, by have := HJN.out; omega, by omega, rfl, fun h => ⟨g, o, HEA.out, by rw [HQO.out, Nat.add_assoc]⟩, ⟨s2, HX6.out⟩, HB6.out⟩
              case measure => simp [lenOf]; omega
        · have hn' : ¬ (0 : Int) < (n : Int) := by omega
          go_wp2_with fail
          go_round
          case rel => exact ⟨i + 1, by omega, by go_num, HX2.out, HB2.out⟩
          case measure => simp [intOf]; omega
    · have hiN' : ¬ (i : Int) < (N : Int) := by omega
      go_wp2_with fail
      go_ret
      exact ⟨rfl, HB1.out.trans (HB.out.mono HB1.out.size)⟩

theorem own : ownKnob Try.prog.godebug = none := by kernel_rfl
theorem laidOut : laidOutB Try.prog = true := by kernel_rfl
set_option maxRecDepth 100000 in
theorem contract (H : Type) (enc : TypeId × Value → H) (W : World) (base : Nat) (args : Array Value) (ds gs : List (DataW H)) (before : List MemPlace)
    (hval : ∀ (j : Nat) t v, Try.f7.params[j]? = some t → args[j]? = some v → Value.okWide Try.prog W .any base t v)
    (hW : DataW.Whole enc Try.prog Try.f7.params.toList Rows.lineHeldSpec.vars false W args.toList ds gs before)
    (hsz : (DataW.weightsEach Try.prog (Try.f7.params.toList ++ Rows.lineHeldSpec.plain.varTypes Try.prog) (ds ++ gs)).all (· ≤ reachBytes) = true)
    :
    Calls Try.prog 7 args W fun e W' => ∃ v, e = .returned v ∧ Rows.lineHeldSpec.post enc Try.prog Try.f7 false true false false W args v W' := by
  have hW' := hW
  obtain ⟨p, q, hA0, hV, rfl, hfz, hnd⟩ := hW
  have hA : DataW.TrodAll enc Try.prog W 0 (fun _ => true) true Try.f7.params.toList args.toList ds p := hA0
  rw [Try.params7] at hA hval hsz
  obtain ⟨v0, vs0, d0, ds0, p0, q0, hargs, rfl, rfl, h0, r0⟩ := trodAll_cons hA
  obtain ⟨v1, vs1, d1, ds1, p1, q1, rfl, rfl, rfl, h1, r1⟩ := trodAll_cons r0
  obtain ⟨v2, vs2, d2, ds2, p2, q2, rfl, rfl, rfl, h2, r2⟩ := trodAll_cons r1
  obtain ⟨rfl, rfl, rfl⟩ := trodAll_nil r2
  obtain rfl : args = #[v0, v1, v2] := by cases args; simp_all
  obtain ⟨rfl, rfl⟩ := trodVars_none hV
  obtain ⟨a0, rfl, rfl, rfl, w0⟩ := open_int Try.underlying3 (hval 0 3 v0 rfl rfl) h0
  have b0 := bounds_i64 w0
  have k1 := h1
  have lt1 : ∀ x ∈ p1, x.block < W.heap.size := by obtain ⟨m, hm⟩ := k1; exact DataW.trod_lt m _ _ _ hm
  obtain ⟨a1, len1, cap1, rfl⟩ := okWide_slice Try.underlying30 (hval 1 30 v1 rfl rfl)
  obtain ⟨l1, e1, row1, cp1, bd1⟩ := open_bytes h1
  have nn1 := open_none k1
  obtain ⟨a2, rfl, rfl, rfl, w2⟩ := open_int Try.underlying3 (hval 2 3 v2 rfl rfl) h2
  have b2 := bounds_i64 w2
  clear hA0
  have s1 : l1.length ≤ 140737488351232 := by
    rcases bd1 with ⟨el, sp, rfl, hl⟩ | ⟨rfl, hl⟩
    · have := sized_slice hsz (j := 1) (t := 30) (e := 5) rfl rfl Try.underlying30
      rw [bytes5] at this
      simp only [reachBytes] at this
      omega
    · omega
  subst e1
  refine (walk a0 b0 a1 l1 cap1 row1 s1 cp1 nn1 (open_cap k1) a2 b2).mono fun e W' ⟨he, bel⟩ => ?_
  subst he
  exact ⟨_, rfl, _, _, _, [], _, [], hW', trodAll_mk1 (shut_bool Try.underlying4 _), trodAll_cons_mk (shut_int Try.underlying3 w0) (trodAll_cons_mk (Below.trod laidOut (by kernel_rfl) (of_decide_eq_true (by kernel_rfl)) k1 bel lt1) (trodAll_cons_mk (shut_int Try.underlying3 w2) trodAll_mk0)), rfl, bel.frame _, fun h => by cases h⟩

set_option maxRecDepth 100000 in
theorem lifted (os : Os) (started : os.Started) (H : Type) (enc : TypeId × Value → H) :
    ReturnsInHanded {} Try.checked os 7 .any (Rows.lineHeldSpec.pre6 enc Try.prog Try.f7 Rows.lineHeldRow.domain false) (Rows.lineHeldSpec.post enc Try.prog Try.f7 false true false false) := by
  refine returnsInHanded_of_change_sized (C := Try.checked) own started (by kernel_rfl) Try.func7
    (ChangeSpec.witness6 (enc := enc) (C := Try.checked) false ⟨#[], #[.int .i64 0, .slice none 0 0, .int .i64 0], []⟩ 8 (by kernel_rfl) (by kernel_rfl) (by kernel_rfl) (by kernel_rfl)) ?_
  intro W base args ds gs before hval0 hW hcnd hsz0 _
  exact contract H enc W base args ds gs before hval0 hW hsz0

theorem over : Rows.lineHeldRow.holds Try.pinned (OpenSpec.ofChange Rows.lineHeldSpec) :=
  OpenClaim.holds_of_wide 7 Try.f7 rfl rfl rfl rfl rfl rfl rfl ⟨rfl, rfl, rfl, rfl, rfl⟩ rfl rfl rfl rfl rfl (by kernel_rfl) Try.func7 (by kernel_rfl)
    (of_decide_eq_true (by kernel_rfl)) (by unfold Func.isWrapper; first | (rw [if_pos (by decide +kernel)]; kernel_rfl) | (rw [if_neg (by decide +kernel)]; exact ⟨rfl, rfl⟩))
    (fun os started H enc _ => lifted os started H enc)
end Go.Proofs.Ythjcjecimidedaa.lineHeld
namespace Go.Proofs.Ythjcjecimidedaa
theorem lineHeld_said : Rows.LineHeldSaid := lineHeld.over
#print axioms lineHeld_said
end Go.Proofs.Ythjcjecimidedaa
