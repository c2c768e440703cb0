/-
  P2.8: of three rows of one length, laid over one another, the sum is the three sums laid over one another; proved with no condition on the input.
-/
import Derived.Test.YtekjhfhakodooabOverPure
import Derived.Test.YtekjhfhakodooabOpen
import Derived.Test.YtekjhfhakodooabRows
import Derived.ProofKit
import Derived.OpenShut
import Derived.ChangeOld
import Derived.SizedLaws
namespace Go.Proofs.Ytekjhfhakodooab.sumOver
open Go.ChangeShapes Go.WideShapes Go.ChangeAt Go.RowKit

set_option maxRecDepth 100000 in
theorem walk (a : Option Addr) (la : List UInt8) (ca : Nat) {w : World} (ha : Bts a la w) (sa : la.length ≤ 140737488351232) (qa : la.length ≤ ca)
    (b : Option Addr) (lb : List UInt8) (cb : Nat) (hb : Bts b lb w) (_ : lb.length ≤ 140737488351232) (qb : lb.length ≤ cb)
    (c : Option Addr) (lc : List UInt8) (cc : Nat) (hc : Bts c lc w) (_ : lc.length ≤ 140737488351232) (qc : lc.length ≤ cc) :
    Calls Try.prog 4 #[.slice a la.length ca, .slice b lb.length cb, .slice c lc.length cc] w fun e w' => e = .returned (.bool true) ∧ Below w.heap.size w w' := by
  obtain ⟨i0, hi, hz0, hz1, hz2⟩ := info_parts info5
  obtain ⟨n, hn⟩ : ∃ n : Nat, n = min (min la.length lb.length) lc.length := ⟨_, rfl⟩
  have na : n ≤ la.length := by omega
  have nb : n ≤ lb.length := by omega
  have nc : n ≤ lc.length := by omega
  have hmin : ∀ w', (Builtin.min_ #[3, 3, 3] 3 #[.int .i64 (la.length : Int), .int .i64 (lb.length : Int), .int .i64 (lc.length : Int)]).run Try.prog w' = .ok (.int .i64 (n : Int)) w' := fun w' => by
    rw [run_min_int3]
    congr 2
    split <;> split at * <;> omega
  obtain ⟨x, hx⟩ : ∃ x, x = la.take n := ⟨_, rfl⟩
  obtain ⟨y, hy⟩ : ∃ y, y = lb.take n := ⟨_, rfl⟩
  obtain ⟨z, hz⟩ : ∃ z, z = lc.take n := ⟨_, rfl⟩
  have xl : x.length = n := by rw [hx, List.length_take]; omega
  have yl : y.length = n := by rw [hy, List.length_take]; omega
  have zl : z.length = n := by rw [hz, List.length_take]; omega
  have BX : Hid (Bts a x w) := by rw [hx]; exact ha.take n
  have BY : Hid (Bts b y w) := by rw [hy]; exact hb.take n
  have BZ : Hid (Bts c z w) := by rw [hz]; exact hc.take n
  obtain ⟨s, hs⟩ : ∃ s, s = over (over x y) z := ⟨_, rfl⟩
  have sl : s.length = n := by rw [hs, over_length _ _ (by rw [over_length _ _ (by omega)]; omega), over_length _ _ (by omega)]; exact xl
  have HM : Hid (more 0#32 s = more 0#32 x ^^^ more 0#32 y ^^^ more 0#32 z) := by rw [hs]; exact more_over x y z (by omega) (by omega)
  have HV : Hid (∀ k (h1 : k < s.length) (h2 : k < x.length) (h3 : k < y.length) (h4 : k < z.length), s[k] = x[k] ^^^ y[k] ^^^ z[k]) := by subst hs; exact fun k h1 h2 h3 h4 => over_at x y z k h2 h3 h4 h1
  have XL : Hid (x.length = n) := xl
  have YL : Hid (y.length = n) := yl
  have ZL : Hid (z.length = n) := zl
  have SL : Hid (s.length = n) := sl
  clear hx hy hz ha hb hc hs hn xl yl zl sl
  go_enter Try.func4, Try.ntmps4
  go_wp2_with (at_make; refine wpList_make_full _ rfl _ _ 22 rfl w.heap.size 5 i0 (.int .u8 0) 1 Try.underlying22 hi hz0 hz1 .i64 .i64 _ _ n rfl rfl (by omega) (by omega) (by rw [hz2]; omega) (by unfold maxLen; omega) (by simp) ?_)
  intro w1 hown hgrow
  rw [made_zero] at hown
  have HO : Hid (w1.ownsRow w.heap.size 5 1 (.slice (some ⟨w.heap.size, 0, none⟩) n n) n (cellsB (fillL s 0))) := by
    show w1.ownsRow _ _ _ _ _ _
    rw [fillL_zero, SL.out]
    exact hown
  have HB : Hid (Below w.heap.size w w1) := (Below.refl _ _).grown hgrow (Nat.le_refl _) (fun k h => by cases h)
  clear hmin hown hgrow
  go_wp2_with fail
  go_loopw [21] (fun i wr => ∃ k : Nat, k ≤ n ∧ i = .int .i64 k ∧ Hid (wr.ownsRow w.heap.size 5 1 (.slice (some ⟨w.heap.size, 0, none⟩) n n) n (cellsB (fillL s k))) ∧ Hid (Below w.heap.size w wr)) (fun i _ => n - (intOf i).toNat)
  case atStart => exact ⟨0, Nat.zero_le _, rfl, HO, HB⟩
  case round =>
    obtain ⟨k, hk, rfl, HO, HB⟩ := hrel
    by_cases hlt : k < n
    · have kx : k < x.length := by rw [XL.out]; exact hlt
      have ky : k < y.length := by rw [YL.out]; exact hlt
      have kz : k < z.length := by rw [ZL.out]; exact hlt
      have ks : k < s.length := by rw [SL.out]; exact hlt
      obtain ⟨ga, oa, rfl, ga1, ca1⟩ := BX.out.cell k kx
      obtain ⟨gb, ob, rfl, gb1, cb1⟩ := BY.out.cell k ky
      obtain ⟨gc, oc, rfl, gc1, cc1⟩ := BZ.out.cell k kz
      have hv : s[k] = x[k] ^^^ y[k] ^^^ z[k] := HV.out k ks kx ky kz
      have HW : Hid (s[k] = x[k] ^^^ y[k] ^^^ z[k]) := hv
      have HN : Hid ((cellsB (fillL s k)).set k (.int .u8 (s[k].toNat : Int)) = cellsB (fillL s (k + 1))) := cells_step s k ks
      obtain ⟨p, hp⟩ : ∃ p, p = x[k] := ⟨_, rfl⟩
      obtain ⟨q, hq⟩ : ∃ q, q = y[k] := ⟨_, rfl⟩
      obtain ⟨r, hr⟩ : ∃ r, r = z[k] := ⟨_, rfl⟩
      rw [← hp] at ca1 hv
      rw [← hq] at cb1 hv
      rw [← hr] at cc1 hv
      obtain ⟨sv, hsv⟩ : ∃ sv, sv = s[k] := ⟨_, rfl⟩
      obtain ⟨pq, hpq⟩ : ∃ pq, pq = p ^^^ q := ⟨_, rfl⟩
      rw [← hsv] at hv HN
      rw [← hpq] at hv
      have hcl := HO.out.cellAt k (by omega)
      have hfr := HO.out.frozenAt k
      have c1 : wr.cell? ⟨ga, oa + k, none⟩ = some (.int .u8 (p.toNat : Int)) := (HB.out.cell (p := ⟨ga, oa + k, none⟩) ga1).trans ca1
      have c2 : wr.cell? ⟨gb, ob + k, none⟩ = some (.int .u8 (q.toNat : Int)) := (HB.out.cell (p := ⟨gb, ob + k, none⟩) gb1).trans cb1
      have c3 : wr.cell? ⟨gc, oc + k, none⟩ = some (.int .u8 (r.toNat : Int)) := (HB.out.cell (p := ⟨gc, oc + k, none⟩) gc1).trans cc1
      have b1 := bits_xor8 p q
      have b2 := bits_xor8 pq r
      rw [← hpq] at b1
      rw [← hv] at b2
      clear hv hp hq hr HW hsv hpq
      clear ca1 cb1 cc1
      have hcs : (cellsB (fillL s k))[k]? = some (.int .u8 ((fillL s k)[k]'(by rw [fillL_length s k (by omega)]; exact ks)).toNat) := cellsB_at _ _ _
      rw [hcs] at hcl
      clear hcs
      have n1 : ga ≠ w.heap.size := by omega
      have n2 : gb ≠ w.heap.size := by omega
      have n3 : gc ≠ w.heap.size := by omega
      have HK : Hid (∀ v, ((wr.drew.setCell ⟨w.heap.size, k, none⟩ v).cell? ⟨ga, oa + k, none⟩ = some (.int .u8 (p.toNat : Int)) ∧ (wr.drew.setCell ⟨w.heap.size, k, none⟩ v).cell? ⟨gb, ob + k, none⟩ = some (.int .u8 (q.toNat : Int)) ∧ (wr.drew.setCell ⟨w.heap.size, k, none⟩ v).cell? ⟨gc, oc + k, none⟩ = some (.int .u8 (r.toNat : Int)))) := fun v =>
        ⟨(World.cell?_setCell_other _ _ _ _ (by intro e; injection e; omega)).trans c1, (World.cell?_setCell_other _ _ _ _ (by intro e; injection e; omega)).trans c2, (World.cell?_setCell_other _ _ _ _ (by intro e; injection e; omega)).trans c3⟩
      clear n1 n2 n3
      have i0' : (0 : Int) ≤ (k : Int) := by omega
      have i1 : (k : Int) < (la.length : Int) := by omega
      have i2 : (k : Int) < (lb.length : Int) := by omega
      have i3 : (k : Int) < (lc.length : Int) := by omega
      have i4 : (k : Int) < (n : Int) := by omega
      go_wp2_with fail
      go_region_held3 (fun w' => w'.cell? ⟨ga, oa + k, none⟩ = some (.int .u8 (p.toNat : Int)) ∧ w'.cell? ⟨gb, ob + k, none⟩ = some (.int .u8 (q.toNat : Int)) ∧ w'.cell? ⟨gc, oc + k, none⟩ = some (.int .u8 (r.toNat : Int))) (first | exact ⟨c1, c2, c3⟩ | exact HK.out _) (fail)
      rename_i hHeld
      clear hHeld HK c1 c2 c3 b1 b2 hcl hfr i0' i1 i2 i3 i4
      go_wp2
      go_roundw
      case rel =>
        refine ⟨k + 1, by omega, by go_num, ?_, ?_⟩
        · show World.ownsRow _ _ _ _ _ _ _
          rw [← HN.out]
          exact (HO.out.stored k _).1.drew
        · exact (HB.out.setCell (by simp) _).drew
      case measure => simp [intOf]; omega
    · obtain rfl : k = n := by omega
      have hfa : fillL s k = s := by have := fillL_all s; rw [SL.out] at this; exact this
      rw [hfa] at HO
      have HO2 : Hid (wr.ownsRow w.heap.size 5 1 (.slice (some ⟨w.heap.size, 0, none⟩) k k) s.length (cellsB s)) := by rw [SL.out]; exact HO.out
      obtain ⟨ar, caps, hva, hbs⟩ := own_bts HO2.out
      injection hva with e1 e2 e3
      subst e1 e3
      have CS : Hid (Calls Try.prog 8 #[.slice (some ⟨w.heap.size, 0, none⟩) k k] wr.drew fun e w' => e = .returned (.int .u32 (more 0#32 s).toNat) ∧ w' = wr.drew) := by
        have := of_any _ s k wr.drew hbs (by unfold maxLen; omega)
        rw [SL.out] at this
        exact this
      have CX : Hid (Calls Try.prog 8 #[.slice a k ca] wr.drew fun e w' => e = .returned (.int .u32 (more 0#32 x).toNat) ∧ w' = wr.drew) := by
        have := of_any _ x ca wr.drew (BX.out.below HB.out.drew) (by unfold maxLen; have := XL.out; omega)
        rw [XL.out] at this
        exact this
      have CY : Hid (Calls Try.prog 8 #[.slice b k cb] wr.drew fun e w' => e = .returned (.int .u32 (more 0#32 y).toNat) ∧ w' = wr.drew) := by
        have := of_any _ y cb wr.drew (BY.out.below HB.out.drew) (by unfold maxLen; have := YL.out; omega)
        rw [YL.out] at this
        exact this
      have CZ : Hid (Calls Try.prog 8 #[.slice c k cc] wr.drew fun e w' => e = .returned (.int .u32 (more 0#32 z).toNat) ∧ w' = wr.drew) := by
        have := of_any _ z cc wr.drew (BZ.out.below HB.out.drew) (by unfold maxLen; have := ZL.out; omega)
        rw [ZL.out] at this
        exact this
      clear hbs e2 hfa HO HO2
      have hm := HM.out
      generalize more 0#32 s = ms at CS hm
      generalize more 0#32 x = mx at CX hm
      generalize more 0#32 y = my at CY hm
      generalize more 0#32 z = mz at CZ hm
      have b1 := bits_xor mx my
      generalize mx ^^^ my = mxy at b1 hm
      have b2 := bits_xor mxy mz
      rw [← hm] at b2
      clear hm HM HV
      have i0' : (0 : Int) ≤ (k : Int) := by omega
      have i1 : (k : Int) ≤ (ca : Int) := by omega
      have i2 : (k : Int) ≤ (cb : Int) := by omega
      have i3 : (k : Int) ≤ (cc : Int) := by omega
      go_wp2_with fail
      go_region_held3 (fun _ => True) (trivial)
        (first
          | (go_at_call 8; refine CS.out.mono ?_; rintro e w2 ⟨rfl, rfl⟩)
          | (go_at_call 8; refine CX.out.mono ?_; rintro e w2 ⟨rfl, rfl⟩)
          | (go_at_call 8; refine CY.out.mono ?_; rintro e w2 ⟨rfl, rfl⟩)
          | (go_at_call 8; refine CZ.out.mono ?_; rintro e w2 ⟨rfl, rfl⟩)
          | (go_at_call 6; refine (wakes_any _).mono ?_; rintro e w2 ⟨rfl, hb2⟩))
      rename_i hHeld
      clear hHeld b1 b2
      go_wp2
      go_ret
      exact ⟨rfl, HB.out.drew.trans (hb2.mono HB.out.size)⟩
theorem own : ownKnob Try.prog.godebug = none := by kernel_rfl
theorem laidOut : laidOutB Try.prog = true := by kernel_rfl

set_option maxRecDepth 100000 in
theorem lifted (os : Os) (started : os.Started) (H : Type) (enc : TypeId × Value → H) :
    ReturnsInHanded {} Try.checked os 4 .any (Rows.sumOverSpec.pre6 enc Try.prog Try.f4 Rows.sumOverRow.domain false) (Rows.sumOverSpec.post enc Try.prog Try.f4 false true false false) := by
  refine returnsInHanded_of_change_sized (C := Try.checked) own started (by kernel_rfl) Try.func4
    (ChangeSpec.witness6 (enc := enc) (C := Try.checked) false ⟨#[], #[.slice none 0 0, .slice none 0 0, .slice none 0 0], []⟩ 8 (by kernel_rfl) (by kernel_rfl) (by kernel_rfl) (by kernel_rfl)) ?_
  intro W base args ds gs before hval0 hW hcnd hsz0 _
  have hval : ∀ (j : Nat) t v, Try.f4.params[j]? = some t → args[j]? = some v → Value.okWide Try.prog W .any base t v := hval0
  have hW' := hW
  obtain ⟨p, q, hA0, hV, rfl, hfz, hnd⟩ := hW
  have hA : DataW.TrodAll enc Try.prog W 0 (fun _ => true) true Try.f4.params.toList args.toList ds p := hA0
  have hsz : (DataW.weightsEach Try.prog (Try.f4.params.toList ++ Rows.sumOverSpec.plain.varTypes Try.prog) (ds ++ gs)).all (· ≤ reachBytes) = true := hsz0
  rw [Try.params4] at hA hval hsz
  obtain ⟨v0, vs0, d0, ds0, p0, q0, hargs, rfl, rfl, h0, r0⟩ := trodAll_cons hA
  obtain ⟨v1, vs1, d1, ds1, p1, q1, rfl, rfl, rfl, h1, r1⟩ := trodAll_cons r0
  obtain ⟨v2, vs2, d2, ds2, p2, q2, rfl, rfl, rfl, h2, r2⟩ := trodAll_cons r1
  obtain ⟨rfl, rfl, rfl⟩ := trodAll_nil r2
  obtain rfl : args = #[v0, v1, v2] := by cases args; simp_all
  obtain ⟨rfl, rfl⟩ := trodVars_none hV
  obtain ⟨a0, len0, cap0, rfl⟩ := okWide_slice Try.underlying22 (hval 0 22 v0 rfl rfl)
  have k0 := h0
  have lt0 : ∀ x ∈ p0, x.block < W.heap.size := by obtain ⟨m, hm⟩ := k0; exact DataW.trod_lt m _ _ _ hm
  obtain ⟨l0, e0, row0, cp0, bd0⟩ := open_bytes h0
  obtain ⟨a1, len1, cap1, rfl⟩ := okWide_slice Try.underlying22 (hval 1 22 v1 rfl rfl)
  have k1 := h1
  have lt1 : ∀ x ∈ p1, x.block < W.heap.size := by obtain ⟨m, hm⟩ := k1; exact DataW.trod_lt m _ _ _ hm
  obtain ⟨l1, e1, row1, cp1, bd1⟩ := open_bytes h1
  obtain ⟨a2, len2, cap2, rfl⟩ := okWide_slice Try.underlying22 (hval 2 22 v2 rfl rfl)
  have k2 := h2
  have lt2 : ∀ x ∈ p2, x.block < W.heap.size := by obtain ⟨m, hm⟩ := k2; exact DataW.trod_lt m _ _ _ hm
  obtain ⟨l2, e2, row2, cp2, bd2⟩ := open_bytes h2
  clear hA0 hval0
  have s0 : l0.length ≤ 140737488351232 := by
    rcases bd0 with ⟨el, sp, rfl, hl⟩ | ⟨rfl, hl⟩
    · have := sized_slice hsz (j := 0) (t := 22) (e := 5) rfl rfl Try.underlying22
      rw [bytes5] at this
      simp only [reachBytes] at this
      omega
    · omega
  subst e0
  have s1 : l1.length ≤ 140737488351232 := by
    rcases bd1 with ⟨el, sp, rfl, hl⟩ | ⟨rfl, hl⟩
    · have := sized_slice hsz (j := 1) (t := 22) (e := 5) rfl rfl Try.underlying22
      rw [bytes5] at this
      simp only [reachBytes] at this
      omega
    · omega
  subst e1
  have s2 : l2.length ≤ 140737488351232 := by
    rcases bd2 with ⟨el, sp, rfl, hl⟩ | ⟨rfl, hl⟩
    · have := sized_slice hsz (j := 2) (t := 22) (e := 5) rfl rfl Try.underlying22
      rw [bytes5] at this
      simp only [reachBytes] at this
      omega
    · omega
  subst e2
  refine (walk a0 l0 cap0 row0 s0 cp0 a1 l1 cap1 row1 s1 cp1 a2 l2 cap2 row2 s2 cp2).mono fun e W' ⟨he, bel⟩ => ?_
  subst he
  exact ⟨_, rfl, _, _, _, [], _, [], hW', trodAll_mk1 (shut_bool Try.underlying4 _), trodAll_cons_mk (Below.trod laidOut (by kernel_rfl) (of_decide_eq_true (by kernel_rfl)) k0 bel lt0) (trodAll_cons_mk (Below.trod laidOut (by kernel_rfl) (of_decide_eq_true (by kernel_rfl)) k1 bel lt1) (trodAll_cons_mk (Below.trod laidOut (by kernel_rfl) (of_decide_eq_true (by kernel_rfl)) k2 bel lt2) trodAll_mk0)), rfl, bel.frame _, fun h => by cases h⟩

theorem over : Rows.sumOverRow.holds Try.pinned (OpenSpec.ofChange Rows.sumOverSpec) :=
  OpenClaim.holds_of_wide 4 Try.f4 rfl rfl rfl rfl rfl rfl rfl ⟨rfl, rfl, rfl, rfl, rfl⟩ rfl rfl rfl rfl rfl (by kernel_rfl) Try.func4 (by kernel_rfl)
    (of_decide_eq_true (by kernel_rfl)) (by unfold Func.isWrapper; first | (rw [if_pos (by decide +kernel)]; kernel_rfl) | (rw [if_neg (by decide +kernel)]; exact ⟨rfl, rfl⟩))
    (fun os started H enc _ => lifted os started H enc)
end Go.Proofs.Ytekjhfhakodooab.sumOver
namespace Go.Proofs.Ytekjhfhakodooab
theorem sumOver_said : Rows.SumOverSaid := sumOver.over
#print axioms sumOver_said
end Go.Proofs.Ytekjhfhakodooab
