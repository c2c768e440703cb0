/-
  The program's writeStep.
-/
import Derived.Test.YtedgimkffkflbabGreatDoorCtr
namespace Go.Proofs.YtedgimkffkflbabGreatDoor
open Go.RowKit

set_option maxHeartbeats 2000000 in
set_option maxRecDepth 100000 in
/-- The digits of a step are written. -/
theorem wstep_any (B b : Nat) (l : List UInt8) (s bias : Nat) (w : World) (h : Bl B b l w) (hs : s ≤ 2147483647) (hb : bias ≤ 8589934592) (hlen : l.length + 4294967296 ≤ 140737488355328) (hBw : B ≤ w.heap.size) :
    Calls Tryz.prog 53 #[.pointer (some ⟨b, 0, none⟩), .int .i64 s, .int .i64 bias] w fun e w' => e = .returned (.tuple #[]) ∧ Bl B b (l ++ digs s 0 bias) w' ∧ Wrote B b w w' := by
  have HB : Hid (Bl B b l w) := h
  clear h
  go_enter Tryz.func53, Tryz.ntmps53
  go_wp2_with fail
  go_loopw [1, 6] (fun qv pv wr => ∃ (q p : Nat) (acc : List UInt8), qv = .int .i64 q ∧ pv = .int .i64 p ∧ q + p ≤ s ∧ acc.length = p ∧ Hid (acc ++ digs q p bias = digs s 0 bias) ∧ Hid (Bl B b (l ++ acc) wr) ∧ Hid (Wrote B b w wr)) (fun qv _ _ => (intOf qv).toNat)
  case atStart => exact ⟨s, 0, [], rfl, rfl, by omega, rfl, rfl, by show Bl _ _ _ _; rw [List.append_nil]; exact HB.out, Wrote.refl _ _ _⟩
  case round =>
    obtain ⟨q, p, acc, rfl, rfl, hqp, hal, HD, HBl, HW⟩ := hrel
    have hbn := bound_any p bias (by omega) hb wr
    have hb1 := bnd_pos p bias
    have hb2 := bnd_le p bias
    have hsz := HW.out.below.size
    by_cases hq : q < bnd p bias
    · have HD2 : Hid (acc ++ [dgt q] = digs s 0 bias) := by
        have := HD.out
        rw [digs_last hq] at this
        exact this
      generalize bnd p bias = t at hbn hb1 hb2 hq
      have hdo := digof_any q (by omega) wr
      have hwb := wbyte_any B b (l ++ acc) (dgt q) wr HBl.out (by simp; omega) (by omega)
      go_wp2_with fail
      refine hbn.mono ?_
      rintro e w1 ⟨rfl, rfl⟩
      go_wp2_with fail
      refine hdo.mono ?_
      rintro e w1 ⟨rfl, rfl⟩
      go_wp2_with fail
      refine hwb.mono ?_
      rintro e w2 ⟨rfl, b2, m2⟩
      go_wp2
      go_end0
      refine ⟨rfl, ?_, HW.out.trans m2⟩
      rw [List.append_assoc, HD2.out] at b2
      exact b2
    · have hless := digs_less hq
      have HD2 : Hid ((acc ++ [dgt (bnd p bias + (q - bnd p bias) % (36 - bnd p bias))]) ++ digs ((q - bnd p bias) / (36 - bnd p bias)) (p + 1) bias = digs s 0 bias) := by
        have := HD.out
        rw [digs_more hq] at this
        show _ = _
        rw [List.append_assoc]
        exact this
      have hm : (q - bnd p bias) % (36 - bnd p bias) < 36 - bnd p bias := Nat.mod_lt _ (by omega)
      generalize bnd p bias = t at *
      have e1 : ((q : Int) - t) = ((q - t : Nat) : Int) := by omega
      have e2 : ((36 : Int) - t) = ((36 - t : Nat) : Int) := by omega
      have tm : ((q : Int) - t).tmod (36 - t) = (((q - t) % (36 - t) : Nat) : Int) := by rw [e1, e2, Int.tmod_eq_emod_of_nonneg (by omega), Int.natCast_emod]
      have td : ((q : Int) - t).tdiv (36 - t) = (((q - t) / (36 - t) : Nat) : Int) := by rw [e1, e2, Int.tdiv_eq_ediv_of_nonneg (by omega), Int.natCast_ediv]
      generalize (q - t) % (36 - t) = M at tm HD2 hm
      generalize (q - t) / (36 - t) = D at td HD2 hless
      have hdo := digof_any (t + M) (by omega) wr
      have hwb := wbyte_any B b (l ++ acc) (dgt (t + M)) wr HBl.out (by simp; omega) (by omega)
      push_cast at hdo
      have hz : ¬ ((36 : Int) - t = 0) := by omega
      clear e1 e2
      go_wp2_with fail
      refine hbn.mono ?_
      rintro e w1 ⟨rfl, rfl⟩
      go_wp2_with fail
      refine hdo.mono ?_
      rintro e w1 ⟨rfl, rfl⟩
      go_wp2_with fail
      refine hwb.mono ?_
      rintro e w2 ⟨rfl, b2, m2⟩
      have HB2 : Hid (Bl B b (l ++ (acc ++ [dgt (t + M)])) w2) := by
        rw [List.append_assoc] at b2
        exact b2
      have HW2 : Hid (Wrote B b w w2) := HW.out.trans m2
      clear b2 m2 hwb
      go_wp2
      go_roundw
      case rel => exact ⟨D, p + 1, acc ++ [dgt (t + M)], by first | rfl | go_num, by go_num, by omega, by simp [hal], HD2, HB2, HW2⟩
      case measure => simp [intOf]; omega
end Go.Proofs.YtedgimkffkflbabGreatDoor
