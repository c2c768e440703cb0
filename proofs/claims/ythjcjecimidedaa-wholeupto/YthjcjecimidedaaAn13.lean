/-
  All that a liner tells of any bytes that are cut into pieces.
-/
import Derived.Test.YthjcjecimidedaaAl13
namespace Go.Proofs.Ythjcjecimidedaa
open Go.RowKit

set_option maxHeartbeats 4000000 in
set_option maxRecDepth 20000 in
theorem all_nil (m : Nat) (hm1 : 1 ≤ m) (hm2 : m ≤ 64) (a : Option Addr) (cap : Nat) (ca : Option Addr) (zs : List Int) (ccap : Nat) (w : World) (hz : IntsB ca zs w) (hzl : zs.length ≤ 1099511627776) :
    Calls Try.prog 19 #[.int .i64 (m : Int), .slice a 0 cap, .slice ca zs.length ccap] w fun e w' => e = .returned (.tuple #[.slice none 0 0, .int .i64 0, .bool true]) ∧ Below w.heap.size w w' := by
  have HZ : Hid (IntsB ca zs w) := hz
  have HNW := znew_good m hm1 (by omega) w
  clear hz
  go_enter Try.func19, Try.ntmps19
  go_wp2_with fail
  refine HNW.mono ?_
  rintro e w1 ⟨rfl, -, hB1⟩
  have HB1 : Hid (Below w.heap.size w w1) := hB1
  clear hB1 HNW
  go_wp2_with fail
  go_loopw [11, 12, 13, 14, 15, 16, 17, 18] (fun ov av sv iv _ _ _ _ wr => ∃ (i : Nat), i ≤ zs.length + 1 ∧ ov = .slice none 0 0 ∧ av = .int .i64 0 ∧ sv = .int .i64 0 ∧ iv = .int .i64 (i : Nat) ∧ Hid (Below w.heap.size w wr)) (fun _ _ _ iv _ _ _ _ _ => zs.length + 2 - (intOf iv).toNat)
  case atStart => exact ⟨0, Nat.zero_le _, rfl, rfl, rfl, rfl, HB1.out⟩
  case round =>
    obtain ⟨i, hi, rfl, rfl, rfl, rfl, HB⟩ := hrel
    clear HB1
    by_cases hlt : i ≤ zs.length
    · have hlt' : ¬ ((zs.length : Int) < (i : Int)) := by omega
      have hlt'' : (i : Int) ≤ (zs.length : Int) := by omega
      by_cases hlast : i = zs.length
      · have hl1 : ¬ (i : Int) < (zs.length : Int) := by omega
        have HNX : Hid (i + 1 ≤ zs.length + 1) := by show _ ≤ _; omega
        clear hlast
        go_wp2_with fail
        refine wp_loop_rounds 1 ?_
        rw [rounds_succ]
        go_wp2_with fail
        go_round
        case rel => exact ⟨i + 1, HNX.out, rfl, rfl, rfl, by go_num, HB.out⟩
        case measure => simp [intOf]; omega
      · have hl1 : (i : Int) < (zs.length : Int) := by omega
        have hlz : i < zs.length := by omega
        have hzi : Ints ca zs wr := by
          rcases HZ.out.1 with e | ⟨cg, co, e, hcg, hcc⟩
          · exact .inl e
          · exact .inr ⟨cg, co, e, Nat.lt_of_lt_of_le hcg HB.out.size, fun j hj => (HB.out.cell (p := ⟨cg, co + j, none⟩) hcg).trans (hcc j hj)⟩
        obtain ⟨cg, co, rfl, hcg, hcc⟩ := hzi.resolve_left (fun e => by rw [e] at hlz; cases hlz)
        have hcz := hcc i hlz
        have HNX : Hid (i + 1 ≤ zs.length + 1) := by show _ ≤ _; omega
        clear hzi hcc hlast
        generalize zs[i] = z at *
        obtain ⟨M, hM⟩ : ∃ M : Nat, (M : Int) = max 0 (z.tmod 9) := ⟨(max 0 (z.tmod 9)).toNat, by omega⟩
        have hM1 : (if (0 : Int) < z.tmod 9 then z.tmod 9 else 0) = (M : Int) := by split <;> omega
        have hM2 : max (0 : Int) (z.tmod 9) = (M : Int) := hM.symm
        have hq1 : min (0 : Int) (M : Int) = 0 := by omega
        have hq2 : (if (M : Int) < 0 then (M : Int) else 0) = 0 := by split <;> omega
        clear hM
        go_wp2_with fail
        refine wp_loop_rounds 1 ?_
        rw [rounds_succ]
        go_wp2_with fail
        go_round
        case rel => exact ⟨i + 1, HNX.out, rfl, rfl, rfl, by go_num, HB.out⟩
        case measure => simp [intOf]; omega
    · have hlt' : (zs.length : Int) < (i : Int) := by omega
      have hlt'' : ¬ (i : Int) ≤ (zs.length : Int) := by omega
      go_wp2_with fail
      go_ret3
      exact ⟨rfl, HB.out⟩
theorem all_any (m : Nat) (hm1 : 1 ≤ m) (hm2 : m ≤ 64) (a : Option Addr) (l : List UInt8) (cap : Nat) (ca : Option Addr) (zs : List Int) (ccap : Nat) (w : World) (hb : Bts a l w) (hl : l.length ≤ 4194304) (hc : l.length ≤ cap) (hcm : cap ≤ 9223372036854775807) (hz : IntsB ca zs w) (hzl : zs.length ≤ 1099511627776) :
    Calls Try.prog 19 #[.int .i64 (m : Int), .slice a l.length cap, .slice ca zs.length ccap] w fun e w' => ∃ v, e = .returned (.tuple #[v, .int .i64 ((rn m [] l).2.length : Nat), .bool true]) ∧ Ow celT 51 4 w' v (rn m [] l).1 ∧ (∀ k, v.ownBlock = some k → w.heap.size ≤ k) ∧ Below w.heap.size w w' := by
  by_cases h0 : 0 < l.length
  · rcases id hb with e | ⟨g, o, rfl, _, _⟩
    · rw [e] at h0; cases h0
    · exact all_some m hm1 hm2 g o l cap ca zs ccap w hb h0 hl hc hcm hz hzl
  · obtain rfl : l = [] := List.eq_nil_of_length_eq_zero (by omega)
    refine (all_nil m hm1 hm2 a cap ca zs ccap w hz hzl).mono ?_
    rintro e w' ⟨rfl, h⟩
    exact ⟨_, rfl, Ow.nil _ _ _ _, (fun k e => by cases e), h⟩
end Go.Proofs.Ythjcjecimidedaa
