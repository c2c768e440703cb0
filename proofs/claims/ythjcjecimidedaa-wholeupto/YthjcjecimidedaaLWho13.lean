/-
  P13.2, P13.6: the items are those of the stretches between the line ends of the whole, in their order, each what its own bytes make it; proved for inputs of bulk at most 1048576.
-/
import Derived.Test.YthjcjecimidedaaTe13
import Derived.Test.YthjcjecimidedaaWhP
import Derived.Test.YthjcjecimidedaaOpenN
import Derived.Test.YthjcjecimidedaaRows
import Derived.ProofKit
import Derived.ChangeMaps5
import Derived.OpenShut
import Derived.ShutString
import Derived.ChangeOld
import Derived.SizedLaws
namespace Go.Proofs.Ythjcjecimidedaa.lineWhole
open Go.ChangeShapes Go.WideShapes Go.ChangeAt Go.RowKit

set_option maxHeartbeats 8000000 in
set_option maxRecDepth 20000 in
theorem walk {w : World} (mo : Int) (hmo : -9223372036854775808 ≤ mo ∧ mo ≤ 9223372036854775807) (a1 : Option Addr) (l1 : List UInt8) (cap1 : Nat) (hr1 : Bts a1 l1 w) (hl1 : l1.length ≤ 1048576) (hc1 : l1.length ≤ cap1) (_ : a1 = none → cap1 = 0) (hm1 : cap1 ≤ 9223372036854775807) (a2 : Option Addr) (l2 : List Int) (cap2 : Nat) (hr2 : IntsB a2 l2 w) (hl2 : l2.length ≤ 1048576) :
    Calls Try.prog 5 #[.int .i64 mo, .slice a1 l1.length cap1, .slice a2 l2.length cap2] w fun e w' => e = .returned (.bool true) ∧ Below w.heap.size w w' := by
  have HR1 : Hid (Bts a1 l1 w) := hr1
  have HI2 : Hid (IntsB a2 l2 w) := hr2
  have HWK := wakes_any w
  have HBD : Hid (∀ w', Calls Try.prog 18 #[.int .i64 mo] w' fun e w'' => (∃ m : Nat, e = .returned (.int .i64 (m : Int)) ∧ 1 ≤ m ∧ m ≤ 64) ∧ w'' = w') := fun w' => bound_any mo hmo.1 hmo.2 w'
  clear hr1 hr2 hmo
  go_enter Try.func5, Try.ntmps5
  go_wp2_with fail
  refine HWK.mono ?_
  rintro e w1 ⟨rfl, hB1⟩
  have HB1 : Hid (Below w.heap.size w w1) := hB1
  clear hB1 HWK
  go_wp2_with fail
  refine (HBD.out w1).mono ?_
  rintro e w2 ⟨⟨m, rfl, hm1', hm2'⟩, rfl⟩
  clear HBD
  go_wp2_with fail
  refine (all_any m hm1' hm2' a1 l1 cap1 a2 l2 cap2 w2 (HR1.out.below HB1.out) (by omega) hc1 hm1 (ints_below HI2.out HB1.out (Nat.le_refl _)) (by omega)).mono ?_
  rintro e w3 ⟨v3, rfl, hO3, hV3, hB3⟩
  have HB3 : Hid (Below w.heap.size w w3) := HB1.out.trans (hB3.mono HB1.out.size)
  have HO3 : Hid (Ow celT 51 4 w3 v3 (rn m [] l1).1) := hO3
  have HR3 : Hid (Bts a1 l1 w3) := HR1.out.below HB3.out
  have hxl := (rn_len m l1 []).1
  have hsl := (rn_len m l1 []).2
  obtain ⟨xs, hxs⟩ : ∃ xs, xs = (rn m [] l1).1 := ⟨_, rfl⟩
  obtain ⟨sn, hsn⟩ : ∃ sn, sn = (rn m [] l1).2.length := ⟨_, rfl⟩
  have HFN : Hid (∀ k fr P, Wh m l1 k fr P → l1.length ≤ P + 1 → k = xs.length ∧ sn = l1.length - fr) := fun k fr P h hP => by rw [hxs, hsn]; exact h.fin hP
  have HHT : Hid (∀ k fr i, Wh m l1 k fr i → (hi : i + 1 < l1.length) → l1[i] = 13 → l1[i + 1] = 10 → (∃ hk : k < xs.length, xs[k] = ⟨lineOf m ((l1.take i).drop fr), (i - fr) + 2⟩) ∧ Wh m l1 (k + 1) (i + 2) (i + 2)) := fun k fr i h hi e1 e2 => by subst hxs; exact h.hit hi e1 e2
  have HKL : Hid (∀ k fr P, Wh m l1 k fr P → k ≤ xs.length) := fun k fr P h => by rw [hxs]; exact h.kl
  rw [← hxs] at HO3 hxl
  rw [← hsn]
  clear hO3 hV3 hB3 HB1 HR1 HI2 hxs hsn hsl
  obtain ⟨ax, cx, hv3, hax⟩ := HO3.out.shape
  subst hv3
  have HAX : Hid (xs ≠ [] → ∃ g, ax = some ⟨g, 0, none⟩) := hax
  clear hax
  go_wp2_with fail
  go_loopw [10, 11, 12, 13, 14, 15, 16] (fun kv fv iv _ _ _ _ wr => ∃ (k fr i P : Nat), i ≤ l1.length ∧ kv = .int .i64 (k : Nat) ∧ fv = .int .i64 (fr : Nat) ∧ iv = .int .i64 (i : Nat) ∧ Hid (Wh m l1 k fr P) ∧ Hid (P = i ∨ (i + 1 = fr ∧ P = fr)) ∧ Hid (Below w3.heap.size w3 wr)) (fun _ _ iv _ _ _ _ _ => l1.length + 1 - (intOf iv).toNat)
  case atStart => exact ⟨0, 0, 0, 0, Nat.zero_le _, rfl, rfl, rfl, Wh.start m l1, .inl rfl, Below.refl _ _⟩
  case round =>
    obtain ⟨k, fr, i, P, hil, rfl, rfl, rfl, HW, HP, HB⟩ := hrel
    have hfP := HW.out.le
    have hPu := HW.out.ub
    have hkx := HKL.out k fr P HW.out
    have hfl : fr ≤ l1.length := by omega
    have hkl : k ≤ 1048576 := by omega
    clear hfP hPu
    by_cases hlt : i + 1 < l1.length
    · have hlt' : (i : Int) + 1 < (l1.length : Int) := by omega
      obtain ⟨g, o, rfl, hg, hc⟩ := (HR3.out.below HB.out).cell i (by omega)
      have hd : wr.cell? ⟨g, o + (i + 1), none⟩ = some (.int .u8 (l1[i + 1].toNat : Int)) := by
        obtain ⟨g', o', e, _, hd⟩ := (HR3.out.below HB.out).cell (i + 1) hlt
        cases e
        exact hd
      by_cases h13 : l1[i] = 13
      · have e13 : ((l1[i].toNat : Int) == 13) = true := by rw [h13]; rfl
        have f13 : ((l1[i].toNat : Int) != 13) = false := by rw [h13]; rfl
        by_cases h10 : l1[i + 1] = 10
        · have e10 : ((l1[i + 1].toNat : Int) == 10) = true := by rw [h10]; rfl
          have f10 : ((l1[i + 1].toNat : Int) != 10) = false := by rw [h10]; rfl
          by_cases hif : i < fr
          · have hif' : (i : Int) < (fr : Int) := by omega
            have hPf : i + 1 = fr ∧ P = fr := by
              rcases HP.out with h | h
              · have := HW.out.le; omega
              · exact h
            have HN : Hid (Wh m l1 k fr (i + 1)) := by rw [hPf.1, ← hPf.2]; exact hPf.2 ▸ HW.out
            clear hPf h13 h10
            generalize l1[i] = c at *
            generalize l1[i + 1] = d at *
            go_wp2_with fail
            go_round
            case rel => exact ⟨k, fr, i + 1, i + 1, by omega, rfl, rfl, by go_num, HN.out, .inl rfl, HB.out⟩
            case measure => simp [intOf]; omega
          · have hif' : ¬ (i : Int) < (fr : Int) := by omega
            have hPi : P = i := by rcases HP.out with h | h <;> omega
            subst hPi
            obtain ⟨⟨hk, hxk⟩, hW2⟩ := HHT.out k fr P HW.out hlt h13 h10
            have HN : Hid (Wh m l1 (k + 1) (P + 2) (P + 2)) := hW2
            obtain ⟨s, hs⟩ : ∃ s, s = (l1.take P).drop fr := ⟨_, rfl⟩
            have hsl : s.length = P - fr := by rw [hs, List.length_drop, List.length_take]; omega
            have hbs : Bts (some ⟨g, o + fr, none⟩) s wr := by
              rw [hs]
              exact bts_drop ((HR3.out.below HB.out).take P) fr hg
            have hcv := bts_back hbs (cap1 - fr)
            rw [hsl] at hcv
            rw [← hs] at hxk
            obtain ⟨ga, rfl⟩ := HAX.out (fun e => by rw [e] at hk; cases hk)
            obtain ⟨t1, t2, t3, t4⟩ := td_elem (HO3.out.below HB.out) k hk
            rw [hxk] at t1 t2 t3 t4
            dsimp only at t1 t2 t3 t4
            have hfi : (fr : Int) ≤ (P : Int) := by omega
            have hfc : (fr : Int) < (cap1 : Int) := by omega
            have hpc : (P : Int) ≤ (cap1 : Int) := by omega
            have HSL : Hid (s.length = P - fr) := hsl
            clear hs hsl hbs hxk hW2 h13 h10
            generalize l1[P] = c at *
            generalize l1[P + 1] = d at *
            have hs63 : s.length ≤ 1048576 := by have := HSL.out; omega
            go_wp2_with fail
            go_loopw [14, 15] (fun bv jv wq => ∃ j : Nat, j ≤ s.length ∧ bv = .bool (bareB (s.take j)) ∧ jv = .int .i64 (j : Nat) ∧ Hid (wq = wr)) (fun _ jv _ => s.length - (intOf jv).toNat)
            case atStart => exact ⟨0, Nat.zero_le _, rfl, rfl, rfl⟩
            case round =>
              obtain ⟨j, hj, rfl, rfl, hweq⟩ := hrel
              have hw2 := hweq.out
              subst hw2
              clear hweq
              by_cases hjl : j < s.length
              · have hjl' : (j : Int) < (s.length : Int) := by omega
                have hbt := bare_take s j hjl
                have HBTK : Hid (bareB (s.take (j + 1)) = (bareB (s.take j) || (s[j] == 13 || s[j] == 10))) := hbt
                clear hbt
                generalize bareB (s.take j) = bb at *
                cases bb with
                | true =>
                  go_wp2_with fail
                  go_round
                  case rel => exact ⟨j + 1, hjl, by rw [HBTK.out]; rfl, by go_num, by first | exact rfl | exact trivial⟩
                  case measure => simp [intOf]; omega
                | false =>
                  have hjB : j < (ByteArray.mk s.toArray).size := by show j < s.toArray.size; simpa using hjl
                  have hsj : (ByteArray.mk s.toArray)[j]'hjB = s[j] := rfl
                  by_cases g13 : s[j] = 13
                  · have q13 : ((((ByteArray.mk s.toArray)[j]'hjB).toNat : Int) == 13) = true := by rw [hsj, g13]; rfl
                    rw [g13] at HBTK
                    clear hsj g13
                    go_wp2_with fail
                    go_round
                    case rel => exact ⟨j + 1, hjl, by rw [HBTK.out]; rfl, by go_num, by first | exact rfl | exact trivial⟩
                    case measure => simp [intOf]; omega
                  · have q13 : ((((ByteArray.mk s.toArray)[j]'hjB).toNat : Int) == 13) = false := by
                      rw [beq_eq_false_iff_ne, hsj]
                      exact fun h => g13 (UInt8.toNat_inj.1 (by simpa using (by omega : s[j].toNat = 13)))
                    have r13 : (s[j] == 13) = false := by simpa using g13
                    by_cases g10 : s[j] = 10
                    · have q10 : ((((ByteArray.mk s.toArray)[j]'hjB).toNat : Int) == 10) = true := by rw [hsj, g10]; rfl
                      rw [g10] at HBTK
                      clear hsj g13 g10 r13
                      go_wp2_with fail
                      go_round
                      case rel => exact ⟨j + 1, hjl, by rw [HBTK.out]; rfl, by go_num, by first | exact rfl | exact trivial⟩
                      case measure => simp [intOf]; omega
                    · have q10 : ((((ByteArray.mk s.toArray)[j]'hjB).toNat : Int) == 10) = false := by
                        rw [beq_eq_false_iff_ne, hsj]
                        exact fun h => g10 (UInt8.toNat_inj.1 (by simpa using (by omega : s[j].toNat = 10)))
                      have r10 : (s[j] == 10) = false := by simpa using g10
                      rw [r13, r10] at HBTK
                      clear hsj g13 g10 r13 r10
                      go_wp2_with fail
                      go_round
                      case rel => exact ⟨j + 1, hjl, by rw [HBTK.out]; rfl, by go_num, by first | exact rfl | exact trivial⟩
                      case measure => simp [intOf]; omega
              · have hjl' : ¬ (j : Int) < (s.length : Int) := by omega
                obtain rfl : j = s.length := by omega
                rw [List.take_length]
                have hkx' : (k : Int) < (xs.length : Int) := by omega
                have hkx'' : ¬ (xs.length : Int) ≤ (k : Int) := by omega
                have hsz : ((P - fr + 2 : Nat) : Int) = (s.length : Int) + 2 := by rw [HSL.out]; omega
                rw [hsz] at t4
                clear hsz hcv
                have hBN : ∀ ob, Below w3.heap.size w3 (wr.alloc ob) := fun ob => HB.out.alloc HB.out.size ob
                have HBN : Hid (∀ ob, Below w3.heap.size w3 (wr.alloc ob)) := hBN
                clear hBN
                have hP2 : P + 1 ≤ l1.length := by omega
                cases hbb : bareB s with
                | true =>
                  rw [item_bare hbb] at t1 t2 t3
                  simp only [kdI, txI, yI] at t1 t2 t3
                  clear hbb
                  go_wp2_with fail
                  go_round
                  case rel => exact ⟨k + 1, P + 2, P + 1, P + 2, hP2, by go_num, by go_num, by go_num, HN.out, .inr ⟨rfl, rfl⟩, HBN.out _⟩
                  case measure => simp [intOf]; omega
                | false =>
                  by_cases hlong : m < s.length
                  · have hlong' : (m : Int) < (s.length : Int) := by omega
                    rw [item_long hbb hlong] at t1 t2 t3
                    simp only [kdI, txI, yI] at t1 t2 t3
                    clear hbb
                    go_wp2_with fail
                    go_round
                    case rel => exact ⟨k + 1, P + 2, P + 1, P + 2, hP2, by go_num, by go_num, by go_num, HN.out, .inr ⟨rfl, rfl⟩, HBN.out _⟩
                    case measure => simp [intOf]; omega
                  · have hlong' : ¬ (m : Int) < (s.length : Int) := by omega
                    rw [item_line hbb hlong] at t1 t2 t3
                    simp only [kdI, txI, yI] at t1 t2 t3
                    clear hbb
                    go_wp2_with fail
                    go_round
                    case rel => exact ⟨k + 1, P + 2, P + 1, P + 2, hP2, by go_num, by go_num, by go_num, HN.out, .inr ⟨rfl, rfl⟩, HBN.out _⟩
                    case measure => simp [intOf]; omega
        · have e10 : ((l1[i + 1].toNat : Int) == 10) = false := by
            rw [beq_eq_false_iff_ne]
            exact fun h => h10 (UInt8.toNat_inj.1 (by simpa using (by omega : l1[i + 1].toNat = 10)))
          have f10 : ((l1[i + 1].toNat : Int) != 10) = true := by rw [bne, e10]; rfl
          have HN : Hid (Wh m l1 k fr (i + 1)) := by
            rcases HP.out with h | h
            · have h2 := HW.out
              rw [h] at h2
              exact h2.step hlt (fun hh => h10 hh.2)
            · rw [h.1, ← h.2]; exact h.2 ▸ HW.out
          clear h13 h10
          generalize l1[i] = c at *
          generalize l1[i + 1] = d at *
          go_wp2_with fail
          go_round
          case rel => exact ⟨k, fr, i + 1, i + 1, by omega, rfl, rfl, by go_num, HN.out, .inl rfl, HB.out⟩
          case measure => simp [intOf]; omega
      · have e13 : ((l1[i].toNat : Int) == 13) = false := by
          rw [beq_eq_false_iff_ne]
          exact fun h => h13 (UInt8.toNat_inj.1 (by simpa using (by omega : l1[i].toNat = 13)))
        have f13 : ((l1[i].toNat : Int) != 13) = true := by rw [bne, e13]; rfl
        have HN : Hid (Wh m l1 k fr (i + 1)) := by
          rcases HP.out with h | h
          · have h2 := HW.out
            rw [h] at h2
            exact h2.step hlt (fun hh => h13 hh.1)
          · rw [h.1, ← h.2]; exact h.2 ▸ HW.out
        clear h13
        generalize l1[i] = c at *
        generalize l1[i + 1] = d at *
        go_wp2_with fail
        go_round
        case rel => exact ⟨k, fr, i + 1, i + 1, by omega, rfl, rfl, by go_num, HN.out, .inl rfl, HB.out⟩
        case measure => simp [intOf]; omega
    · have hlt' : ¬ (i : Int) + 1 < (l1.length : Int) := by omega
      have hfin := HFN.out k fr P HW.out (by rcases HP.out with h | h <;> omega)
      have q1 : ((k : Int) == (xs.length : Int)) = true := by rw [hfin.1]; simp
      have q2 : ((sn : Int) == (l1.length : Int) - (fr : Int)) = true := by rw [hfin.2]; simp; omega
      obtain ⟨e1, e2⟩ := hfin
      have q3 : (l1.length : Int) - (fr : Int) = (sn : Int) := by omega
      subst e1
      clear e2 q2
      go_wp2_with fail
      go_ret
      exact ⟨rfl, HB3.out.trans (HB.out.mono HB3.out.size)⟩

theorem own : ownKnob Try.prog.godebug = none := by kernel_rfl
theorem laidOut : laidOutB Try.prog = true := by kernel_rfl
set_option maxRecDepth 100000 in
theorem contract (H : Type) (enc : TypeId × Value → H) (W : World) (base : Nat) (args : Array Value) (ds gs : List (DataW H)) (before : List MemPlace)
    (hval : ∀ (j : Nat) t v, Try.f5.params[j]? = some t → args[j]? = some v → Value.okWide Try.prog W .any base t v)
    (hW : DataW.Whole enc Try.prog Try.f5.params.toList Rows.lineWholeSpec.vars false W args.toList ds gs before)
    (hk : Rows.uptoSmall H (ds ++ gs) = true) :
    Calls Try.prog 5 args W fun e W' => ∃ v, e = .returned v ∧ Rows.lineWholeSpec.post enc Try.prog Try.f5 false true false false W args v W' := by
  have hW' := hW
  obtain ⟨p, q, hA0, hV, rfl, hfz, hnd⟩ := hW
  have hA : DataW.TrodAll enc Try.prog W 0 (fun _ => true) true Try.f5.params.toList args.toList ds p := hA0
  rw [Try.params5] at hA hval
  obtain ⟨v0, vs0, d0, ds0, p0, q0, hargs, rfl, rfl, h0, r0⟩ := trodAll_cons hA
  obtain ⟨v1, vs1, d1, ds1, p1, q1, rfl, rfl, rfl, h1, r1⟩ := trodAll_cons r0
  obtain ⟨v2, vs2, d2, ds2, p2, q2, rfl, rfl, rfl, h2, r2⟩ := trodAll_cons r1
  obtain ⟨rfl, rfl, rfl⟩ := trodAll_nil r2
  obtain rfl : args = #[v0, v1, v2] := by cases args; simp_all
  obtain ⟨rfl, rfl⟩ := trodVars_none hV
  obtain ⟨a0, rfl, rfl, rfl, w0⟩ := open_int Try.underlying3 (hval 0 3 v0 rfl rfl) h0
  have b0 := bounds_i64 w0
  have k1 := h1
  have lt1 : ∀ x ∈ p1, x.block < W.heap.size := by obtain ⟨m, hm⟩ := k1; exact DataW.trod_lt m _ _ _ hm
  obtain ⟨a1, len1, cap1, rfl⟩ := okWide_slice Try.underlying30 (hval 1 30 v1 rfl rfl)
  obtain ⟨l1, e1, row1, cp1, bd1⟩ := open_bytes h1
  have nn1 := open_none k1
  have k2 := h2
  have lt2 : ∀ x ∈ p2, x.block < W.heap.size := by obtain ⟨m, hm⟩ := k2; exact DataW.trod_lt m _ _ _ hm
  obtain ⟨a2, len2, cap2, rfl⟩ := okWide_slice Try.underlying44 (hval 2 44 v2 rfl rfl)
  obtain ⟨l2, e2, row2, bd2⟩ := open_nums h2
  clear hA0
  have s1 : l1.length ≤ 1048576 := by
    rcases bd1 with ⟨el, sp, rfl, hl⟩ | ⟨rfl, hl⟩
    · have := bulk_slice hk (el := el) (sp := sp) (by simp)
      omega
    · omega
  subst e1
  have s2 : l2.length ≤ 1048576 := by
    rcases bd2 with ⟨el, sp, rfl, hl⟩ | ⟨rfl, hl⟩
    · have := bulk_slice hk (el := el) (sp := sp) (by simp)
      omega
    · omega
  subst e2
  refine (walk a0 b0 a1 l1 cap1 row1 s1 cp1 nn1 (open_cap k1) a2 l2 cap2 row2 s2).mono fun e W' ⟨he, bel⟩ => ?_
  subst he
  exact ⟨_, rfl, _, _, _, [], _, [], hW', trodAll_mk1 (shut_bool Try.underlying4 _), trodAll_cons_mk (shut_int Try.underlying3 w0) (trodAll_cons_mk (Below.trod laidOut (by kernel_rfl) (of_decide_eq_true (by kernel_rfl)) k1 bel lt1) (trodAll_cons_mk (Below.trod laidOut (by kernel_rfl) (of_decide_eq_true (by kernel_rfl)) k2 bel lt2) trodAll_mk0)), rfl, bel.frame _, fun h => by cases h⟩

set_option maxRecDepth 100000 in
theorem lifted (os : Os) (started : os.Started) (H : Type) (enc : TypeId × Value → H) (F : Stop.Interp) :
    ReturnsInHanded {} Try.checked os 5 .any ((Rows.OpenSpec.upto Rows.lineWholeSpec).pre6 enc Try.prog Try.f5 Rows.lineWholeUptoRow.domain false) (((Rows.OpenSpec.upto Rows.lineWholeSpec).at F).post enc Try.prog Try.f5 false true false false) := by
  refine returnsInHanded_of_cond (C := Try.checked) (s := Rows.OpenSpec.upto Rows.lineWholeSpec) (k := Rows.uptoSmall) rfl own started (by kernel_rfl) Try.func5
    (OpenSpec.witness (enc := enc) (C := Try.checked) (s := Rows.OpenSpec.upto Rows.lineWholeSpec) (k := Rows.uptoSmall) rfl false ⟨#[], #[.int .i64 0, .slice none 0 0, .slice none 0 0], []⟩ 8 (by kernel_rfl) (by kernel_rfl) (by kernel_rfl)
      (x := ([.lit (.int .i64 0), .nil, .nil], [], [])) (by kernel_rfl) rfl (by kernel_rfl)) ?_
  intro W base args ds gs before hval hW _ hk _
  exact contract H enc W base args ds gs before hval hW hk

theorem over : Rows.LineWholeUptoSaid :=
  OpenClaim.holds_of_cond 5 Try.f5 rfl rfl rfl rfl rfl rfl rfl ⟨rfl, rfl, rfl, rfl, rfl⟩ rfl rfl rfl rfl rfl (by kernel_rfl) Try.func5 (by kernel_rfl)
    (of_decide_eq_true (by kernel_rfl)) (by unfold Func.isWrapper; first | (rw [if_pos (by decide +kernel)]; kernel_rfl) | (rw [if_neg (by decide +kernel)]; exact ⟨rfl, rfl⟩))
    (fun os started H enc _ F => lifted os started H enc F)
end Go.Proofs.Ythjcjecimidedaa.lineWhole
namespace Go.Proofs.Ythjcjecimidedaa
theorem lineWholeUpto_said : Rows.LineWholeUptoSaid := lineWhole.over
#print axioms lineWholeUpto_said
end Go.Proofs.Ythjcjecimidedaa
