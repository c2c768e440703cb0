/-
  The program's counter of Punycode: the bias, the bounds and the digits of a step.
-/
import Derived.Test.YtnlgbopdbihnjaaGreatDoorPunS
import Derived.Test.YtnlgbopdbihnjaaGreatDoorBld5
namespace Go.Proofs.YtnlgbopdbihnjaaGreatDoor
open Go.RowKit

set_option maxHeartbeats 1000000 in
set_option maxRecDepth 100000 in
theorem bound_any (i bias : Nat) (hi : i ≤ 4294967296) (hb : bias ≤ 8589934592) (w : World) :
    Calls Tryz.prog 168 #[.int .i64 i, .int .i64 bias] w fun e w' => e = .returned (.int .i64 (bnd i bias)) ∧ w' = w := by
  have HB : Hid ((bnd i bias : Int) = min (max (36 * ((i : Int) + 1) - bias) 1) 26) := by
    show _ = _
    unfold bnd
    omega
  have hw : IntKind.i64.wrap (36 * ((i : Int) + 1) - bias) = 36 * ((i : Int) + 1) - bias := by rw [IntKind.wrap_i64]; omega
  go_enter Tryz.func168, Tryz.ntmps168
  go_wp2
  go_ret
  refine ⟨ret_i64 ?_, rfl⟩
  rw [HB.out]

set_option maxHeartbeats 1000000 in
set_option maxRecDepth 100000 in
theorem biasb_any (s h : Nat) (first : Bool) (hs : s ≤ 2147483647) (h0 : 0 < h) (hh : h ≤ 4294967296) (w : World) :
    Calls Tryz.prog 170 #[.int .i64 s, .int .i64 h, .bool first] w fun e w' => e = .returned (.int .i64 (biasB s h first)) ∧ w' = w := by
  have q2 : (s : Int).tdiv 2 = ((s / 2 : Nat) : Int) := by rw [Int.tdiv_eq_ediv_of_nonneg (by omega)]; omega
  have q7 : (s : Int).tdiv 700 = ((s / 700 : Nat) : Int) := by rw [Int.tdiv_eq_ediv_of_nonneg (by omega)]; omega
  have HB : Hid (biasB s h first = biasL ((if first then s / 700 else s / 2) + (if first then s / 700 else s / 2) / h) 0) := rfl
  generalize hB : biasB s h first = B at HB ⊢
  clear hB
  cases first
  · simp only [Bool.false_eq_true, if_false] at HB
    have hd2 : s / 2 ≤ 2147483647 := by omega
    generalize s / 2 = d at HB q2 hd2
    have qh : (d : Int).tdiv h = ((d / h : Nat) : Int) := by rw [Int.tdiv_eq_ediv_of_nonneg (by omega), Int.natCast_ediv]
    have hdh := Nat.div_le_self d h
    generalize d / h = dh at HB qh hdh
    go_enter Tryz.func170, Tryz.ntmps170
    go_wp2
    go_loop [7, 8] (fun dv kv => ∃ x k : Nat, dv = .int .i64 x ∧ kv = .int .i64 k ∧ x ≤ 4294967296 ∧ k + 36 * x ≤ 154618822656 ∧ Hid (B = biasL x k)) (fun dv _ => (intOf dv).toNat)
    case atStart => exact ⟨d + dh, 0, by go_num, rfl, by omega, by omega, HB⟩
    case round =>
      obtain ⟨x, k, rfl, rfl, hx, hk, HX⟩ := hrel
      by_cases hl : 455 < x
      · have q35 : (x : Int).tdiv 35 = ((x / 35 : Nat) : Int) := by rw [Int.tdiv_eq_ediv_of_nonneg (by omega)]; omega
        have HX2 : Hid (B = biasL (x / 35) (k + 36)) := by show _ = _; rw [HX.out, biasL_go hl]
        have hx35 : x / 35 < x := by omega
        have hk35 : k + 36 + 36 * (x / 35) ≤ 154618822656 := by omega
        generalize x / 35 = y at q35 HX2 hx35 hk35
        go_wp2
        go_round
        case rel => exact ⟨y, k + 36, by first | rfl | go_num, by go_num, by omega, hk35, HX2⟩
        case measure => simp [intOf]; omega
      · have qe : (36 * (x : Int)).tdiv ((x : Int) + 38) = ((36 * x / (x + 38) : Nat) : Int) := by rw [Int.tdiv_eq_ediv_of_nonneg (by omega), Int.natCast_ediv]; push_cast; rfl
        have HX2 : Hid (B = k + 36 * x / (x + 38)) := by show _ = _; rw [HX.out, biasL_end hl]
        have hle : 36 * x / (x + 38) ≤ 36 * x := Nat.div_le_self _ _
        generalize 36 * x / (x + 38) = y at qe HX2 hle
        go_wp2
        go_ret
        exact ⟨ret_i64 (by rw [HX2.out]; push_cast; rfl), rfl⟩
  · simp only [if_true] at HB
    have hd2 : s / 700 ≤ 2147483647 := by omega
    generalize s / 700 = d at HB q7 hd2
    have qh : (d : Int).tdiv h = ((d / h : Nat) : Int) := by rw [Int.tdiv_eq_ediv_of_nonneg (by omega), Int.natCast_ediv]
    have hdh := Nat.div_le_self d h
    generalize d / h = dh at HB qh hdh
    have hs2 : s / 2 ≤ 2147483647 := by omega
    generalize s / 2 = d2 at q2 hs2
    go_enter Tryz.func170, Tryz.ntmps170
    go_wp2
    go_loop [7, 8] (fun dv kv => ∃ x k : Nat, dv = .int .i64 x ∧ kv = .int .i64 k ∧ x ≤ 4294967296 ∧ k + 36 * x ≤ 154618822656 ∧ Hid (B = biasL x k)) (fun dv _ => (intOf dv).toNat)
    case atStart => exact ⟨d + dh, 0, by go_num, rfl, by omega, by omega, HB⟩
    case round =>
      obtain ⟨x, k, rfl, rfl, hx, hk, HX⟩ := hrel
      by_cases hl : 455 < x
      · have q35 : (x : Int).tdiv 35 = ((x / 35 : Nat) : Int) := by rw [Int.tdiv_eq_ediv_of_nonneg (by omega)]; omega
        have HX2 : Hid (B = biasL (x / 35) (k + 36)) := by show _ = _; rw [HX.out, biasL_go hl]
        have hx35 : x / 35 < x := by omega
        have hk35 : k + 36 + 36 * (x / 35) ≤ 154618822656 := by omega
        generalize x / 35 = y at q35 HX2 hx35 hk35
        go_wp2
        go_round
        case rel => exact ⟨y, k + 36, by first | rfl | go_num, by go_num, by omega, hk35, HX2⟩
        case measure => simp [intOf]; omega
      · have qe : (36 * (x : Int)).tdiv ((x : Int) + 38) = ((36 * x / (x + 38) : Nat) : Int) := by rw [Int.tdiv_eq_ediv_of_nonneg (by omega), Int.natCast_ediv]; push_cast; rfl
        have HX2 : Hid (B = k + 36 * x / (x + 38)) := by show _ = _; rw [HX.out, biasL_end hl]
        have hle : 36 * x / (x + 38) ≤ 36 * x := Nat.div_le_self _ _
        generalize 36 * x / (x + 38) = y at qe HX2 hle
        go_wp2
        go_ret
        exact ⟨ret_i64 (by rw [HX2.out]; push_cast; rfl), rfl⟩

theorem But.drew' {g : Nat} {w w' : World} (h : But g w w') : But g w w'.drew := ⟨h.os, h.tape, h.output, h.size, h.block⟩
/-- A counter in memory. -/
def CtAt (w : World) (g : Nat) (n i h bias : Int) (gone : Bool) : Prop := Lies w g #[.int .i32 n, .int .i64 i, .int .i64 h, .int .i64 bias, .bool gone] 164
set_option maxHeartbeats 1000000 in
set_option maxRecDepth 100000 in
theorem cstep_any (g : Nat) (n i h bias : Int) (gone : Bool) (r p : Int) (w : World) (hc : CtAt w g n i h bias gone) (hr : 0 ≤ r ∧ r ≤ 1114111) (hn : 0 ≤ n ∧ n ≤ 1114111) (hh : 0 ≤ h ∧ h ≤ 4294967296) (hp : 0 ≤ p ∧ p ≤ 4294967296) (hi : 0 ≤ i ∧ i ≤ 4294967296) :
    Calls Tryz.prog 138 #[.pointer (some ⟨g, 0, none⟩), .int .i32 r, .int .i64 p] w fun e w' => e = .returned (.int .i64 ((r - n) * (h + 1) + p - i)) ∧ w' = w.drew := by
  have c0 := Lies.cell hc 0
  have c1 := Lies.cell hc 1
  have c2 := Lies.cell hc 2
  simp at c0 c1 c2
  have hlt := Lies.lt hc
  have m1 : (r - n) * (h + 1) ≤ 1114111 * (h + 1) := Int.mul_le_mul_of_nonneg_right (by omega) (by omega)
  have m2 : (-1114111) * (h + 1) ≤ (r - n) * (h + 1) := Int.mul_le_mul_of_nonneg_right (by omega) (by omega)
  have w0 : IntKind.i64.wrap ((r - n) * (h + 1)) = (r - n) * (h + 1) := by rw [IntKind.wrap_i64]; omega
  have w1 : IntKind.i64.wrap ((r - n) * (h + 1) + p) = (r - n) * (h + 1) + p := by rw [IntKind.wrap_i64]; omega
  have w2 : IntKind.i64.wrap ((r - n) * (h + 1) + p - i) = (r - n) * (h + 1) + p - i := by rw [IntKind.wrap_i64]; omega
  clear hc m1 m2
  go_enter Tryz.func138, Tryz.ntmps138
  go_wp2_with fail
  go_region
  go_wp2
  go_ret
  exact ⟨rfl, rfl⟩

set_option maxHeartbeats 2000000 in
set_option maxRecDepth 100000 in
/-- The counter goes on behind a step. -/
theorem cnext_any (g : Nat) (n i : Int) (h s p : Nat) (bias : Int) (gone : Bool) (r : Int) (w : World) (hc : CtAt w g n i h bias gone) (hh : h ≤ 4294967295) (hs : s ≤ 2147483647) (hp : p ≤ 4294967296) :
    Calls Tryz.prog 140 #[.pointer (some ⟨g, 0, none⟩), .int .i64 s, .int .i32 r, .int .i64 p] w fun e w' => e = .returned (.tuple #[]) ∧ But g w w' ∧ CtAt w' g r ((p + 1 : Nat) : Int) ((h + 1 : Nat) : Int) (biasB s (h + 1) (!gone) : Nat) true := by
  have c0 := Lies.cell hc 0
  have c1 := Lies.cell hc 1
  have c2 := Lies.cell hc 2
  have c3 := Lies.cell hc 3
  have c4 := Lies.cell hc 4
  simp at c0 c1 c2 c3 c4
  have f0 := Lies.frozen hc 0
  have f1 := Lies.frozen hc 1
  have f2 := Lies.frozen hc 2
  have f3 := Lies.frozen hc 3
  have f4 := Lies.frozen hc 4
  have hlt := Lies.lt hc
  have HC : Hid (CtAt w g n i h bias gone) := hc
  have HB : Hid (∀ wx, Calls Tryz.prog 170 #[.int .i64 s, .int .i64 ((h : Int) + 1), .bool (!gone)] wx fun e w' => e = .returned (.int .i64 (biasB s (h + 1) (!gone) : Nat)) ∧ w' = wx) := fun wx => by
    have := biasb_any s (h + 1) (!gone) hs (by omega) (by omega) wx
    push_cast at this
    exact this
  generalize biasB s (h + 1) (!gone) = B at HB ⊢
  have HBT : Hid (But g w (((((w.setCell ⟨g, 0, none⟩ (.int .i32 r)).setCell ⟨g, 1, none⟩ (.int .i64 ((p : Int) + 1))).setCell ⟨g, 2, none⟩ (.int .i64 ((h : Int) + 1))).setCell ⟨g, 3, none⟩ (.int .i64 B)).drew.setCell ⟨g, 4, none⟩ (.bool true))) := ((((((But.refl g w).set 0 _).set 1 _).set 2 _).set 3 _).drew').set 4 _
  have HCT : Hid (CtAt (((((w.setCell ⟨g, 0, none⟩ (.int .i32 r)).setCell ⟨g, 1, none⟩ (.int .i64 ((p : Int) + 1))).setCell ⟨g, 2, none⟩ (.int .i64 ((h : Int) + 1))).setCell ⟨g, 3, none⟩ (.int .i64 B)).drew.setCell ⟨g, 4, none⟩ (.bool true)) g r ((p + 1 : Nat) : Int) ((h + 1 : Nat) : Int) B true) := by
    have := Lies.set (Lies.drew (Lies.set (Lies.set (Lies.set (Lies.set hc 0 (.int .i32 r)) 1 (.int .i64 ((p : Int) + 1))) 2 (.int .i64 ((h : Int) + 1))) 3 (.int .i64 B))) 4 (.bool true)
    simp only [List.setIfInBounds_toArray, List.set_cons_zero, List.set_cons_succ] at this
    show Lies _ _ _ _
    rw [show (((p + 1 : Nat)) : Int) = (p : Int) + 1 from by push_cast; rfl, show (((h + 1 : Nat)) : Int) = (h : Int) + 1 from by push_cast; rfl]
    exact this
  clear hc
  go_enter Tryz.func140, Tryz.ntmps140
  go_wp2_with fail
  go_region_with (go_at_call 170; refine (HB.out _).mono ?_; rintro e w' ⟨rfl, rfl⟩)
  all_goals go_wp2
  all_goals go_end0
  all_goals exact ⟨rfl, HBT.out, HCT.out⟩

set_option maxHeartbeats 1000000 in
set_option maxRecDepth 100000 in
theorem cnt_any (h : Nat) (w : World) :
    Calls Tryz.prog 134 #[.int .i64 h] w fun e w' => e = .returned (.agg #[.int .i32 128, .int .i64 0, .int .i64 h, .int .i64 72, .bool false]) ∧ Below w.heap.size w w' := by
  go_enter Tryz.func134, Tryz.ntmps134
  go_wp2
  (try simp only [Exit.inBlock, Exit.then])
  refine bodyPost_ret (v := .agg #[.int .i32 128, .int .i64 0, .int .i64 h, .int .i64 72, .bool false]) (by simp [results, Tryz.results134, go_sem]) rfl ⟨rfl, (Below.refl _ _).alloc (Nat.le_refl _) _⟩

set_option maxHeartbeats 1000000 in
set_option maxRecDepth 100000 in
theorem digof_any (v : Nat) (hv : v < 36) (w : World) :
    Calls Tryz.prog 169 #[.int .u8 v] w fun e w' => e = .returned (.int .u8 ((dgt v).toNat : Int)) ∧ w' = w := by
  by_cases h : v < 26
  · have HD : Hid (((dgt v).toNat : Int) = 97 + v) := by
      show _ = _
      unfold dgt
      rw [if_pos h, UInt8.toNat_ofNat']
      omega
    go_enter Tryz.func169, Tryz.ntmps169
    go_wp2
    go_ret
    exact ⟨by rw [HD.out]; rfl, rfl⟩
  · have HD : Hid (((dgt v).toNat : Int) = 48 + v - 26) := by
      show _ = _
      unfold dgt
      rw [if_neg h, UInt8.toNat_ofNat']
      omega
    go_enter Tryz.func169, Tryz.ntmps169
    go_wp2
    go_ret
    exact ⟨by rw [HD.out]; rfl, rfl⟩

end Go.Proofs.YtnlgbopdbihnjaaGreatDoor
/-
  The program's writeStep.
-/
namespace Go.Proofs.YtnlgbopdbihnjaaGreatDoor
open Go.RowKit

set_option maxHeartbeats 2000000 in
set_option maxRecDepth 100000 in
/-- The digits of a step are written. -/
theorem wstep_any (B b : Nat) (l : List UInt8) (s bias : Nat) (w : World) (h : Bl B b l w) (hs : s ≤ 2147483647) (hb : bias ≤ 8589934592) (hlen : l.length + 4294967296 ≤ 140737488355328) (hBw : B ≤ w.heap.size) :
    Calls Tryz.prog 139 #[.pointer (some ⟨b, 0, none⟩), .int .i64 s, .int .i64 bias] w fun e w' => e = .returned (.tuple #[]) ∧ Bl B b (l ++ digs s 0 bias) w' ∧ Wrote B b w w' := by
  have HB : Hid (Bl B b l w) := h
  clear h
  go_enter Tryz.func139, Tryz.ntmps139
  go_wp2_with fail
  go_loopw [1, 6] (fun qv pv wr => ∃ (q p : Nat) (acc : List UInt8), qv = .int .i64 q ∧ pv = .int .i64 p ∧ q + p ≤ s ∧ acc.length = p ∧ Hid (acc ++ digs q p bias = digs s 0 bias) ∧ Hid (Bl B b (l ++ acc) wr) ∧ Hid (Wrote B b w wr)) (fun qv _ _ => (intOf qv).toNat)
  case atStart => exact ⟨s, 0, [], rfl, rfl, by omega, rfl, rfl, by show Bl _ _ _ _; rw [List.append_nil]; exact HB.out, Wrote.refl _ _ _⟩
  case round =>
    obtain ⟨q, p, acc, rfl, rfl, hqp, hal, HD, HBl, HW⟩ := hrel
    have hbn := bound_any p bias (by omega) hb wr
    have hb1 := bnd_pos p bias
    have hb2 := bnd_le p bias
    have hsz := HW.out.below.size
    by_cases hq : q < bnd p bias
    · have HD2 : Hid (acc ++ [dgt q] = digs s 0 bias) := by
        have := HD.out
        rw [digs_last hq] at this
        exact this
      generalize bnd p bias = t at hbn hb1 hb2 hq
      have hdo := digof_any q (by omega) wr
      have hwb := wbyte_any B b (l ++ acc) (dgt q) wr HBl.out (by simp; omega) (by omega)
      go_wp2_with fail
      refine hbn.mono ?_
      rintro e w1 ⟨rfl, rfl⟩
      go_wp2_with fail
      refine hdo.mono ?_
      rintro e w1 ⟨rfl, rfl⟩
      go_wp2_with fail
      refine hwb.mono ?_
      rintro e w2 ⟨rfl, b2, m2⟩
      go_wp2
      go_end0
      refine ⟨rfl, ?_, HW.out.trans m2⟩
      rw [List.append_assoc, HD2.out] at b2
      exact b2
    · have hless := digs_less hq
      have HD2 : Hid ((acc ++ [dgt (bnd p bias + (q - bnd p bias) % (36 - bnd p bias))]) ++ digs ((q - bnd p bias) / (36 - bnd p bias)) (p + 1) bias = digs s 0 bias) := by
        have := HD.out
        rw [digs_more hq] at this
        show _ = _
        rw [List.append_assoc]
        exact this
      have hm : (q - bnd p bias) % (36 - bnd p bias) < 36 - bnd p bias := Nat.mod_lt _ (by omega)
      generalize bnd p bias = t at *
      have e1 : ((q : Int) - t) = ((q - t : Nat) : Int) := by omega
      have e2 : ((36 : Int) - t) = ((36 - t : Nat) : Int) := by omega
      have tm : ((q : Int) - t).tmod (36 - t) = (((q - t) % (36 - t) : Nat) : Int) := by rw [e1, e2, Int.tmod_eq_emod_of_nonneg (by omega), Int.natCast_emod]
      have td : ((q : Int) - t).tdiv (36 - t) = (((q - t) / (36 - t) : Nat) : Int) := by rw [e1, e2, Int.tdiv_eq_ediv_of_nonneg (by omega), Int.natCast_ediv]
      generalize (q - t) % (36 - t) = M at tm HD2 hm
      generalize (q - t) / (36 - t) = D at td HD2 hless
      have hdo := digof_any (t + M) (by omega) wr
      have hwb := wbyte_any B b (l ++ acc) (dgt (t + M)) wr HBl.out (by simp; omega) (by omega)
      push_cast at hdo
      have hz : ¬ ((36 : Int) - t = 0) := by omega
      clear e1 e2
      go_wp2_with fail
      refine hbn.mono ?_
      rintro e w1 ⟨rfl, rfl⟩
      go_wp2_with fail
      refine hdo.mono ?_
      rintro e w1 ⟨rfl, rfl⟩
      go_wp2_with fail
      refine hwb.mono ?_
      rintro e w2 ⟨rfl, b2, m2⟩
      have HB2 : Hid (Bl B b (l ++ (acc ++ [dgt (t + M)])) w2) := by
        rw [List.append_assoc] at b2
        exact b2
      have HW2 : Hid (Wrote B b w w2) := HW.out.trans m2
      clear b2 m2 hwb
      go_wp2
      go_roundw
      case rel => exact ⟨D, p + 1, acc ++ [dgt (t + M)], by first | rfl | go_num, by go_num, by omega, by simp [hal], HD2, HB2, HW2⟩
      case measure => simp [intOf]; omega
end Go.Proofs.YtnlgbopdbihnjaaGreatDoor
