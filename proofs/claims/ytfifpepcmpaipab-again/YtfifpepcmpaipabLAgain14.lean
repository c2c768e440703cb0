/-
  P14.10: where each line that begins with a dot begins with two, and nothing stands alone, what was told, stuffed, is the stream; proved for inputs of bulk at most 1048576.
-/
import Derived.Test.YtfifpepcmpaipabHr14
import Derived.Test.YtfifpepcmpaipabBg14
import Derived.Test.YtfifpepcmpaipabOpenN
import Derived.Test.YtfifpepcmpaipabRows
import Derived.ProofKit
import Derived.ChangeMaps5
import Derived.OpenShut
import Derived.ShutString
import Derived.ChangeOld
import Derived.SizedLaws
namespace Go.Proofs.Ytfifpepcmpaipab.dotsAgain
open Go.ChangeShapes Go.WideShapes Go.ChangeAt Go.RowKit

theorem run_slH (a : Option Addr) (n cap q : Nat) (h2 : q ≤ cap) (w : World) : (Instr.sliceAt 22 (.slice a n cap) none (some (.int .i64 (q : Int))) none).run Try.prog w = .ok (.slice a q cap) w := by
  have hu : Try.prog.underlying 22 = some (.slice (Try.prog.elem 22)) := Try.underlying22
  have hs : (sizeOf (Try.prog.elem 22)).run Try.prog w = .ok 1 w := by
    obtain ⟨i0, hi0, hz0, hz1, hz2⟩ := info_parts info5
    have : (sizeOf 5).run Try.prog w = .ok 1 w := by go_simp
    exact this
  rw [run_sliceAt_slice (h := hu), run_slice_h (ht := hu) (h0 := by omega) (h2 := by omega), hs]
  cases a <;> simp [Result.andThen, sliced, Addr.add]
/-- No line that begins with one dot alone was found. -/
theorem dbl_of {p : List UInt8} (h : ∀ i ∈ bgs p (p.length - 1), ¬ (i + 3 < p.length ∧ p[i]? = some 46 ∧ ¬ p[i + 1]? = some 46)) : Dbl p := by
  intro i hi hl h46
  have hm : i ∈ bgs p (p.length - 1) := by
    unfold bgs
    rcases hl with e | ⟨u, e⟩
    · have : i = 0 := by
        have := congrArg List.length e
        simp at this
        rcases this with h | h
        · exact h
        · subst h; simp at hi
      rw [this]
      exact List.mem_cons_self
    · refine List.mem_cons_of_mem _ ?_
      have hlen : i = u.length + 2 := by
        have := congrArg List.length e
        rw [List.length_take, Nat.min_eq_left (by omega)] at this
        simpa using this
      rw [List.mem_filter, List.mem_range'_1]
      refine ⟨by omega, ?_⟩
      have e1 : p[u.length]? = some 13 := by
        rw [← List.getElem?_take_of_lt (show u.length < i by omega), e]
        simp
      have e2 : p[u.length + 1]? = some 10 := by
        rw [← List.getElem?_take_of_lt (show u.length + 1 < i by omega), e]
        simp
      unfold eol
      rw [show i - 2 = u.length by omega, show i - 1 = u.length + 1 by omega, e1, e2]
      rfl
  apply Classical.byContradiction
  intro hn
  exact h i hm ⟨hi, h46, hn⟩
set_option maxHeartbeats 8000000 in
set_option maxRecDepth 20000 in
theorem walk {w : World} (a1 : Option Addr) (l1 : List UInt8) (cap1 : Nat) (hr1 : Bts a1 l1 w) (hl1 : l1.length ≤ 1048576) (hc1 : l1.length ≤ cap1) (hn1 : a1 = none → cap1 = 0) (hm1 : cap1 ≤ 9223372036854775807) (ca : Option Addr) (zs : List Int) (ccap : Nat) (hz : IntsB ca zs w) (hzl : zs.length ≤ 1048576) :
    Calls Try.prog 3 #[.slice a1 l1.length cap1, .slice ca zs.length ccap] w fun e w' => e = .returned (.bool true) ∧ Below w.heap.size w w' := by
  have hlc : l1.length ≤ cap1 := hc1
  have HPE : Hid (PeOk w ⟨a1, l1, cap1⟩) := ⟨hr1, hc1, hm1, hn1⟩
  have HZ : Hid (IntsB ca zs w) := hz
  have HN1 := dnew_good 16777216 16777216 (by decide) (by decide) (by decide) (by decide) w
  obtain ⟨T, hT⟩ : ∃ T, Ds.new.run 16777216 16777216 l1 = T := ⟨_, rfl⟩
  have HT : Hid (Ds.new.run 16777216 16777216 l1 = T) := hT
  have HNL : Hid (T.1 ≤ l1.length) := by rw [← hT]; exact Ds.run_len _ _ _ _
  have hbig : ¬ (16777216 : Int) < (l1.length : Int) := by omega
  clear hr1 hz hT hc1 hn1 hm1
  go_enter Try.func3, Try.ntmps3
  go_wp2_with fail
  refine HN1.mono ?_
  rintro e w1 ⟨rfl, hR1, hB1⟩
  have HR1 : Hid (Rd w1 w.heap.size 16777216 16777216 Ds.new) := hR1
  have HB1 : Hid (Below w.heap.size w w1) := hB1
  have HPC := lpieces_any a1 l1 l1.length cap1 rfl ca zs zs.length ccap rfl w1 (HPE.out.below HB1.out) (by omega) (ints_below HZ.out HB1.out (Nat.le_refl _)) (by omega)
  clear hR1 hB1 HN1
  go_wp2_with fail
  refine HPC.mono ?_
  rintro e w2 ⟨v2, xs2, rfl, hO2, hN2, hX2, hP2, hL2, hB2⟩
  have HB2 : Hid (Below w.heap.size w w2) := HB1.out.trans (hB2.mono HB1.out.size)
  have HR2 : Rd w2 w.heap.size 16777216 16777216 Ds.new := HR1.out.below hB2 HR1.out.lt
  have HHR := lhear_any w.heap.size 16777216 16777216 w2 v2 xs2 HR2 hO2 (fun x hx => pein_of (hP2 x hx) HR1.out hB2 hN2) (by rw [hX2]; omega) (by omega) T (by rw [hX2]; exact HT.out)
  have HN2 : Hid (∀ k, v2.ownBlock = some k → w1.heap.size ≤ k) := hN2
  obtain ⟨va, vc, hv2, -⟩ := hO2.shape
  subst hv2
  simp only [hC_arr] at HHR
  clear hO2 hN2 hX2 hP2 hL2 hB2 HPC HR2
  go_wp2_with fail
  refine HHR.mono ?_
  rintro e w3 ⟨tv3, va3, vc3, rfl, hO3, hN3, hC3⟩
  obtain ⟨n, o, x⟩ := T
  dsimp only at *
  obtain ⟨g3, cap3, rfl, hb3, -⟩ := own_bts hO3
  have HB3 : Hid (Below w.heap.size w w3) := HB2.out.trans (hC3.to_below HB2.out.size (fun k e => by
    rcases e with e | e
    · omega
    · have := HN2.out k e; have := HB1.out.size; omega))
  clear HHR hC3 hN3 HN2 HR1 HB1 HB2 hO3
  obtain ⟨K, hK⟩ : ∃ K, imK (x.im 16777216) = K := ⟨_, rfl⟩
  obtain ⟨Y, hY⟩ : ∃ Y, imY (x.im 16777216) = Y := ⟨_, rfl⟩
  obtain ⟨Hh, hHh⟩ : ∃ Hh, imH (x.im 16777216) = Hh := ⟨_, rfl⟩
  obtain ⟨en, hen⟩ : ∃ en, x.ended = en := ⟨_, rfl⟩
  rw [hK, hY, hHh, hen]
  have HEN : Hid (x.ended = en ∧ imY (x.im 16777216) = Y) := ⟨hen, hY⟩
  clear hen hK hY hHh
  obtain ⟨W4, hW4⟩ : ∃ W4, W4 = w3.alloc (.cells #[.slice g3 o.length cap3, .int .i64 (n : Int), .bool en, .int .i64 K, .string ⟨#[]⟩, .slice va3 0 vc3, .int .i64 Y, .bool Hh, .bool true] 32) := ⟨_, rfl⟩
  have hB4 : Below w3.heap.size w3 W4 := by subst hW4; exact (Below.refl _ _).alloc (Nat.le_refl _) _
  have HB4 : Hid (Below w.heap.size w W4) := HB3.out.trans (hB4.mono HB3.out.size)
  have HL4 : Hid (Lies W4 w3.heap.size #[.slice g3 o.length cap3, .int .i64 (n : Int), .bool en, .int .i64 K, .string ⟨#[]⟩, .slice va3 0 vc3, .int .i64 Y, .bool Hh, .bool true] 32) := by subst hW4; exact Lies.new w3 _ _
  have HBT4 : Hid (Bts g3 o W4) := hb3.below hB4
  have HWW : Hid (w3.alloc (.cells #[.slice g3 o.length cap3, .int .i64 (n : Int), .bool en, .int .i64 K, .string ⟨#[]⟩, .slice va3 0 vc3, .int .i64 Y, .bool Hh, .bool true] 32) = W4) := hW4.symm
  obtain ⟨⟨c0, c1, c2, c3, c4, c5, c6, c7, c8⟩, -⟩ := hC_cells HL4.out
  clear hW4 hB4 HB3 hb3
  have HWY : Hid (x.why 16777216 = if x.bare = true then 130 else 0) := by
    have := why_small (t := 16777216) (a := 16777216) (l := l1) (by omega) (by omega)
    rw [HT.out] at this
    exact this
  cases en with
  | false =>
    clear c0 c1 c3 c4 c5 c6 c7
    go_wp2_with (rw [HWW.out])
    refine (wakes_any _).mono ?_
    rintro e wk ⟨rfl, hBk⟩
    have HBk : Hid (Below w.heap.size w wk) := HB4.out.trans (hBk.mono HB4.out.size)
    clear hBk
    go_wp2_with fail
    go_ret
    exact ⟨rfl, HBk.out⟩
  | true =>
    have hp6 : x.p = 6 := by simpa [Ds.ended] using HEN.out.1
    have hY : Y = x.why 16777216 := by rw [← HEN.out.2, im_fin hp6]; rfl
    cases hb : x.bare with
    | true =>
      obtain rfl : Y = 130 := by rw [hY, HWY.out, hb]; rfl
      clear c0 c1 c3 c4 c5 c7 hp6 hY hb
      go_wp2_with (rw [HWW.out])
      refine (wakes_any _).mono ?_
      rintro e wk ⟨rfl, hBk⟩
      have HBk : Hid (Below w.heap.size w wk) := HB4.out.trans (hBk.mono HB4.out.size)
      clear hBk
      go_wp2_with fail
      go_ret
      exact ⟨rfl, HBk.out⟩
    | false =>
      obtain rfl : Y = 0 := by rw [hY, HWY.out, hb]; rfl
      have hnl : n ≤ l1.length := HNL.out
      have HAG : Hid (Dbl (l1.take n) → stuffL o = l1.take n ∧ wholeI o = 0) := fun hD => by
        have := again_all (t := 16777216) (a := 16777216) (l := l1) (by omega) (by rw [HT.out]; exact hp6) (by rw [HT.out]; exact hb) (by rw [HT.out]; exact hD)
        rw [HT.out] at this
        exact this
      have HOL : Hid (o.length ≤ 2 * l1.length) := by
        have := (Ds.run_size 16777216 16777216 l1 Ds.new).2.2
        rw [HT.out] at this
        exact this
      have hsl := run_slH a1 l1.length cap1 n (by omega)
      have hpl : (l1.take n).length = n := by rw [List.length_take]; omega
      have HPT : Hid (Bts a1 (l1.take n) w) := HPE.out.bt.take n
      have HBG := lbegins_any a1 (l1.take n) n cap1 hpl.symm (by omega) W4 (HPT.out.below HB4.out)
      obtain ⟨B, hB⟩ : ∃ B, bgs (l1.take n) ((l1.take n).length - 1) = B := ⟨_, rfl⟩
      rw [hB] at HBG
      have HBB : Hid (bgs (l1.take n) ((l1.take n).length - 1) = B) := hB
      have HBL : Hid (B.length ≤ 1048577) := by rw [← hB]; have := bgs_len (l1.take n) ((l1.take n).length - 1); show _ ≤ _; omega
      have HPL : Hid ((l1.take n).length = n) := hpl
      have HBE : Hid (∀ i, (h : i < B.length) → B[i] ≤ n) := fun i h => by
        have hm : B[i] ∈ bgs (l1.take n) ((l1.take n).length - 1) := by rw [hB]; exact List.getElem_mem h
        rcases bgs_mem hm with h | h <;> omega
      have hbl : B.length ≤ 1048577 := HBL.out
      generalize l1.take n = P at *
      clear hp6 hY hb hB hpl HEN HWY HZ HT HNL c3 c4 c5 c7
      go_wp2_with (rw [HWW.out])
      refine HBG.mono ?_
      rintro e w5 ⟨g5, cap5, rfl, hO5, -, hB5⟩
      have HB5 : Hid (Below w.heap.size w w5) := HB4.out.trans (hB5.mono HB4.out.size)
      have HO5 : Hid (Ow celN 3 1 w5 (.slice (some ⟨g5, 0, none⟩) B.length cap5) B) := hO5
      have HBT5 : Hid (Bts g3 o w5) := HBT4.out.below hB5
      have HPT5 : Hid (Bts a1 P w5) := HPT.out.below HB5.out
      have hd0 := (hC_cells (HL4.out.below hB5 HL4.out.lt)).1.1
      clear hO5 hB5 HBG HL4 HBT4 HB4 HWW hsl c0 c1 c2 c6 c8
      go_wp2_with fail
      go_loopw [10, 59] (fun _ jv wr => ∃ j : Nat, j ≤ B.length ∧ jv = .int .i64 j ∧ wr = w5 ∧ Hid (∀ i ∈ B.take j, ¬ (i + 3 < P.length ∧ P[i]? = some 46 ∧ ¬ P[i + 1]? = some 46))) (fun _ jv _ => B.length - (intOf jv).toNat)
      case atStart => exact ⟨0, Nat.zero_le _, rfl, rfl, by show ∀ i ∈ _, _; simp⟩
      case round =>
        obtain ⟨j, hj, rfl, rfl, HI⟩ := hrel
        by_cases hlt : j < B.length
        · have hcell := num_cell HO5.out j hlt
          have hat := HBE.out j hlt
          have HNX : Hid (∀ h : ¬ (B[j] + 3 < P.length ∧ P[B[j]]? = some 46 ∧ ¬ P[B[j] + 1]? = some 46), ∀ i ∈ B.take (j + 1), ¬ (i + 3 < P.length ∧ P[i]? = some 46 ∧ ¬ P[i + 1]? = some 46)) := fun h i hi => by
            rw [List.take_succ_eq_append_getElem hlt] at hi
            rcases List.mem_append.1 hi with h1 | h1
            · exact HI.out i h1
            · rw [List.mem_singleton.1 h1]; exact h
          clear HI
          generalize B[j] = at_ at *
          by_cases h3 : at_ + 3 < n
          · have h3' : (at_ : Int) < (n : Int) - 3 := by omega
            have hp1 : at_ < P.length := by rw [HPL.out]; omega
            have hp2 : at_ + 1 < P.length := by rw [HPL.out]; omega
            obtain ⟨gp, qp, rfl, hgp, hrow⟩ := HPT5.out.resolve_left (fun e => by rw [e] at hp1; cases hp1)
            have hc1 := hrow at_ hp1
            have hc2 := hrow (at_ + 1) hp2
            have HG1 : P[at_]? = some P[at_] := List.getElem?_eq_getElem hp1
            have HG2 : P[at_ + 1]? = some P[at_ + 1] := List.getElem?_eq_getElem hp2
            rw [HG1, HG2] at HNX
            clear hrow HG1 HG2
            have hq : qp + at_ + 1 = qp + (at_ + 1) := Nat.add_assoc _ _ _
            have h4 : (at_ : Int) < (n : Int) := by omega
            have h5 : (at_ : Int) + 1 < (n : Int) := by omega
            generalize P[at_] = d1 at *
            generalize P[at_ + 1] = d2 at *
            by_cases h46 : d1 = 46
            · have k46 : ((d1.toNat : Int) == 46) = true := u8v h46
              by_cases h46b : d2 = 46
              · have k46b : ((d2.toNat : Int) == 46) = true := u8v h46b
                have k46c : ((d2.toNat : Int) != 46) = false := by simp [bne, k46b]
                have HN2 := HNX.out (by rw [h46b]; simp)
                have HN3 : Hid (∀ i ∈ B.take (j + 1), ¬ (i + 3 < P.length ∧ P[i]? = some 46 ∧ ¬ P[i + 1]? = some 46)) := HN2
                clear HN2 HNX h46 h46b
                go_wp2_with fail
                go_round
                case rel => exact ⟨j + 1, hlt, by go_num, trivial, HN3.out⟩
                case measure => simp [intOf]; omega
              · have k46b : ((d2.toNat : Int) == 46) = false := u8w h46b
                have k46c : ((d2.toNat : Int) != 46) = true := by simp [bne, k46b]
                clear HNX h46 h46b
                go_wp2_with fail
                refine (wakes_any _).mono ?_
                rintro e wk ⟨rfl, hBk⟩
                have HBk : Hid (Below w.heap.size w wk) := HB5.out.trans (hBk.mono HB5.out.size)
                clear hBk
                go_wp2_with fail
                go_ret
                exact ⟨rfl, HBk.out⟩
            · have k46 : ((d1.toNat : Int) == 46) = false := u8w h46
              have HN2 := HNX.out (by simp [h46])
              have HN3 : Hid (∀ i ∈ B.take (j + 1), ¬ (i + 3 < P.length ∧ P[i]? = some 46 ∧ ¬ P[i + 1]? = some 46)) := HN2
              clear HN2 HNX h46
              go_wp2_with fail
              go_round
              case rel => exact ⟨j + 1, hlt, by go_num, trivial, HN3.out⟩
              case measure => simp [intOf]; omega
          · have h3' : ¬ (at_ : Int) < (n : Int) - 3 := by omega
            have HN2 := HNX.out (by rw [HPL.out]; exact fun h => h3 h.1)
            have HN3 : Hid (∀ i ∈ B.take (j + 1), ¬ (i + 3 < P.length ∧ P[i]? = some 46 ∧ ¬ P[i + 1]? = some 46)) := HN2
            clear HN2 HNX h3
            go_wp2_with fail
            go_round
            case rel => exact ⟨j + 1, hlt, by go_num, trivial, HN3.out⟩
            case measure => simp [intOf]; omega
        · obtain rfl : j = B.length := by omega
          have hag := HAG.out (dbl_of (by rw [HBB.out]; have := HI.out; rw [List.take_length] at this; exact this))
          have HST := dstuff_ok g3 o o.length cap3 rfl (by have := HOL.out; omega) wr HBT5.out hag.2
          rw [hag.1] at HST
          clear hag HI HAG
          go_wp2_with fail
          refine HST.mono ?_
          rintro e w6 ⟨v6, rfl, hO6, hB6⟩
          have HB6 : Hid (Below w.heap.size w w6) := HB5.out.trans (hB6.mono HB5.out.size)
          obtain ⟨g6, cap6, rfl, hb6, -⟩ := own_bts hO6
          have HEQ := beq_yes g6 a1 P P.length n cap6 cap1 rfl HPL.out.symm w6 hb6 (HPT.out.below HB6.out)
          clear hO6 hB6 hb6 HST
          go_wp2_with fail
          refine HEQ.mono ?_
          rintro e w7 ⟨rfl, rfl⟩
          go_wp2_with fail
          refine (wakes_any _).mono ?_
          rintro e wk ⟨rfl, hBk⟩
          have HBk : Hid (Below w.heap.size w wk) := HB6.out.trans (hBk.mono HB6.out.size)
          clear hBk
          go_wp2_with fail
          go_ret
          exact ⟨rfl, HBk.out⟩

theorem own : ownKnob Try.prog.godebug = none := by kernel_rfl
theorem laidOut : laidOutB Try.prog = true := by kernel_rfl
set_option maxRecDepth 100000 in
theorem contract (H : Type) (enc : TypeId × Value → H) (W : World) (base : Nat) (args : Array Value) (ds gs : List (DataW H)) (before : List MemPlace)
    (hval : ∀ (j : Nat) t v, Try.f3.params[j]? = some t → args[j]? = some v → Value.okWide Try.prog W .any base t v)
    (hW : DataW.Whole enc Try.prog Try.f3.params.toList Rows.dotsAgainSpec.vars false W args.toList ds gs before)
    (hk : Rows.uptoSmall H (ds ++ gs) = true) :
    Calls Try.prog 3 args W fun e W' => ∃ v, e = .returned v ∧ Rows.dotsAgainSpec.post enc Try.prog Try.f3 false true false false W args v W' := by
  have hW' := hW
  obtain ⟨p, q, hA0, hV, rfl, hfz, hnd⟩ := hW
  have hA : DataW.TrodAll enc Try.prog W 0 (fun _ => true) true Try.f3.params.toList args.toList ds p := hA0
  rw [Try.params3] at hA hval
  obtain ⟨v0, vs0, d0, ds0, p0, q0, hargs, rfl, rfl, h0, r0⟩ := trodAll_cons hA
  obtain ⟨v1, vs1, d1, ds1, p1, q1, rfl, rfl, rfl, h1, r1⟩ := trodAll_cons r0
  obtain ⟨rfl, rfl, rfl⟩ := trodAll_nil r1
  obtain rfl : args = #[v0, v1] := by cases args; simp_all
  obtain ⟨rfl, rfl⟩ := trodVars_none hV
  have k0 := h0
  have lt0 : ∀ x ∈ p0, x.block < W.heap.size := by obtain ⟨m, hm⟩ := k0; exact DataW.trod_lt m _ _ _ hm
  obtain ⟨a0, len0, cap0, rfl⟩ := okWide_slice Try.underlying22 (hval 0 22 v0 rfl rfl)
  obtain ⟨l0, e0, row0, cp0, bd0⟩ := open_bytes h0
  have nn0 := open_none k0
  have k1 := h1
  have lt1 : ∀ x ∈ p1, x.block < W.heap.size := by obtain ⟨m, hm⟩ := k1; exact DataW.trod_lt m _ _ _ hm
  obtain ⟨a1, len1, cap1, rfl⟩ := okWide_slice Try.underlying23 (hval 1 23 v1 rfl rfl)
  obtain ⟨l1, e1, row1, bd1⟩ := open_nums h1
  clear hA0
  have s0 : l0.length ≤ 1048576 := by
    rcases bd0 with ⟨el, sp, rfl, hl⟩ | ⟨rfl, hl⟩
    · have := bulk_slice hk (el := el) (sp := sp) (by simp)
      omega
    · omega
  subst e0
  have s1 : l1.length ≤ 1048576 := by
    rcases bd1 with ⟨el, sp, rfl, hl⟩ | ⟨rfl, hl⟩
    · have := bulk_slice hk (el := el) (sp := sp) (by simp)
      omega
    · omega
  subst e1
  refine (walk a0 l0 cap0 row0 s0 cp0 nn0 (open_cap k0) a1 l1 cap1 row1 s1).mono fun e W' ⟨he, bel⟩ => ?_
  subst he
  exact ⟨_, rfl, _, _, _, [], _, [], hW', trodAll_mk1 (shut_bool Try.underlying4 _), trodAll_cons_mk (Below.trod laidOut (by kernel_rfl) (of_decide_eq_true (by kernel_rfl)) k0 bel lt0) (trodAll_cons_mk (Below.trod laidOut (by kernel_rfl) (of_decide_eq_true (by kernel_rfl)) k1 bel lt1) trodAll_mk0), rfl, bel.frame _, fun h => by cases h⟩

set_option maxRecDepth 100000 in
theorem lifted (os : Os) (started : os.Started) (H : Type) (enc : TypeId × Value → H) (F : Stop.Interp) :
    ReturnsInHanded {} Try.checked os 3 .any ((Rows.OpenSpec.upto Rows.dotsAgainSpec).pre6 enc Try.prog Try.f3 Rows.dotsAgainUptoRow.domain false) (((Rows.OpenSpec.upto Rows.dotsAgainSpec).at F).post enc Try.prog Try.f3 false true false false) := by
  refine returnsInHanded_of_cond (C := Try.checked) (s := Rows.OpenSpec.upto Rows.dotsAgainSpec) (k := Rows.uptoSmall) rfl own started (by kernel_rfl) Try.func3
    (OpenSpec.witness (enc := enc) (C := Try.checked) (s := Rows.OpenSpec.upto Rows.dotsAgainSpec) (k := Rows.uptoSmall) rfl false ⟨#[], #[.slice none 0 0, .slice none 0 0], []⟩ 8 (by kernel_rfl) (by kernel_rfl) (by kernel_rfl)
      (x := ([.nil, .nil], [], [])) (by kernel_rfl) rfl (by kernel_rfl)) ?_
  intro W base args ds gs before hval hW _ hk _
  exact contract H enc W base args ds gs before hval hW hk

theorem over : Rows.DotsAgainUptoSaid :=
  OpenClaim.holds_of_cond 3 Try.f3 rfl rfl rfl rfl rfl rfl rfl ⟨rfl, rfl, rfl, rfl, rfl⟩ rfl rfl rfl rfl rfl (by kernel_rfl) Try.func3 (by kernel_rfl)
    (of_decide_eq_true (by kernel_rfl)) (by unfold Func.isWrapper; first | (rw [if_pos (by decide +kernel)]; kernel_rfl) | (rw [if_neg (by decide +kernel)]; exact ⟨rfl, rfl⟩))
    (fun os started H enc _ F => lifted os started H enc F)
end Go.Proofs.Ytfifpepcmpaipab.dotsAgain
namespace Go.Proofs.Ytfifpepcmpaipab
theorem dotsAgainUpto_said : Rows.DotsAgainUptoSaid := dotsAgain.over
#print axioms dotsAgainUpto_said
end Go.Proofs.Ytfifpepcmpaipab
