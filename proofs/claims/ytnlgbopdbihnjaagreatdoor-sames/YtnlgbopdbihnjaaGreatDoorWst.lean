/-
  The document's letters.
-/
import Derived.Test.YtnlgbopdbihnjaaGreatDoorBck
import Derived.Test.YtnlgbopdbihnjaaGreatDoorLate5
import Derived.Test.YtnlgbopdbihnjaaGreatDoorCtr
namespace Go.Proofs.YtnlgbopdbihnjaaGreatDoor
open Go.RowKit

theorem dg_ext : ∀ v : Fin 36, ((⟨#[97, 98, 99, 100, 101, 102, 103, 104, 105, 106, 107, 108, 109, 110, 111, 112, 113, 114, 115, 116, 117, 118, 119, 120, 121, 122, 48, 49, 50, 51, 52, 53, 54, 55, 56, 57]⟩ : ByteArray).extract v.val (v.val + 1)) = ⟨#[dgt v.val]⟩ := by decide +kernel

theorem ba_cons (x : UInt8) (l : List UInt8) : (⟨#[x]⟩ : ByteArray) ++ ⟨l.toArray⟩ = ⟨(x :: l).toArray⟩ := by
  apply ByteArray.ext
  rw [ByteArray.data_append]
  simp

set_option maxHeartbeats 4000000 in
set_option maxRecDepth 100000 in
theorem dlet_any (q : Nat) : ∀ (i bias : Nat) (w : World), q ≤ 2147483647 → i + q ≤ 4294967296 → bias ≤ 8589934592 →
    Calls Tryz.prog 101 #[.int .i64 q, .int .i64 i, .int .i64 bias] w fun e w' => e = .returned (.string ⟨(digs q i bias).toArray⟩) ∧ Below w.heap.size w w' := by
  induction q using Nat.strongRecOn with
  | _ q ih =>
    intro i bias w hq hi hb
    have HBN := dbound_any i bias (by omega) hb w
    have hb1 := bnd_pos i bias
    have hb2 := bnd_le i bias
    by_cases h : q < bnd i bias
    · have HD : Hid (digs q i bias = [dgt q]) := digs_last h
      have hx := dg_ext ⟨q, by omega⟩
      simp only at hx
      generalize bnd i bias = t at *
      have h' : (q : Int) < (t : Int) := by omega
      go_enter Tryz.func101, Tryz.ntmps101
      go_wp2_with fail
      refine HBN.mono ?_
      rintro e w1 ⟨rfl, rfl⟩
      clear HBN ih
      go_wp2
      go_ret
      exact ⟨by rw [HD.out]; rfl, Below.refl _ _⟩
    · have HD : Hid (_ = _) := digs_more h
      have hl := digs_less h
      have hm : (q - bnd i bias) % (36 - bnd i bias) < 36 - bnd i bias := Nat.mod_lt _ (by omega)
      have hx := dg_ext ⟨bnd i bias + (q - bnd i bias) % (36 - bnd i bias), by omega⟩
      simp only at hx
      have HIH : Hid (∀ wx, Calls Tryz.prog 101 #[.int .i64 (((q - bnd i bias) / (36 - bnd i bias) : Nat) : Int), .int .i64 ((i + 1 : Nat) : Int), .int .i64 bias] wx fun e w' => e = .returned (.string ⟨(digs ((q - bnd i bias) / (36 - bnd i bias)) (i + 1) bias).toArray⟩) ∧ Below wx.heap.size wx w') := fun wx => ih _ hl (i + 1) bias wx (by omega) (by omega) hb
      have t1 : ((q : Int) - (bnd i bias : Nat)).tmod (36 - ((bnd i bias : Nat) : Int)) = (((q - bnd i bias) % (36 - bnd i bias) : Nat) : Int) := by
        rw [Int.tmod_eq_emod_of_nonneg (by omega), show (q : Int) - (bnd i bias : Nat) = ((q - bnd i bias : Nat) : Int) from by omega, show 36 - ((bnd i bias : Nat) : Int) = ((36 - bnd i bias : Nat) : Int) from by omega]
        push_cast
        rfl
      have t2 : ((q : Int) - (bnd i bias : Nat)).tdiv (36 - ((bnd i bias : Nat) : Int)) = (((q - bnd i bias) / (36 - bnd i bias) : Nat) : Int) := by
        rw [Int.tdiv_eq_ediv_of_nonneg (by omega), show (q : Int) - (bnd i bias : Nat) = ((q - bnd i bias : Nat) : Int) from by omega, show 36 - ((bnd i bias : Nat) : Int) = ((36 - bnd i bias : Nat) : Int) from by omega]
        push_cast
        rfl
      have h' : ¬ (q : Int) < ((bnd i bias : Nat) : Int) := by omega
      have h36 : ¬ (36 - ((bnd i bias : Nat) : Int) = 0) := by omega
      generalize (q - bnd i bias) / (36 - bnd i bias) = DV at *
      generalize (q - bnd i bias) % (36 - bnd i bias) = MD at *
      generalize bnd i bias = t at *
      have hnl : ¬ 9223372036854775807 < 1 + (digs DV (i + 1) bias).length := by have := digs_length DV (i + 1) bias; omega
      generalize digs DV (i + 1) bias = DL at *
      clear ih h
      go_enter Tryz.func101, Tryz.ntmps101
      go_wp2_with fail
      refine HBN.mono ?_
      rintro e w1 ⟨rfl, rfl⟩
      clear HBN
      obtain ⟨V, hV⟩ : ∃ V : Nat, V = t + MD := ⟨_, rfl⟩
      have hVi : (t : Int) + (MD : Int) = (V : Int) := by omega
      rw [← hV] at hx HD
      have hV36 : V < 36 := by omega
      clear hV
      have hi1 : ((i + 1 : Nat) : Int) = (i : Int) + 1 := by push_cast; rfl
      rw [hi1] at HIH
      clear hi1
      have hwV : IntKind.i64.wrap ((V : Int) + 1) = (V : Int) + 1 := by rw [IntKind.wrap_i64]; omega
      have hwq : IntKind.i64.wrap ((q : Int) - (t : Int)) = (q : Int) - (t : Int) := by rw [IntKind.wrap_i64]; omega
      have hwt : IntKind.i64.wrap (36 - (t : Int)) = 36 - (t : Int) := by rw [IntKind.wrap_i64]; omega
      have hwi : IntKind.i64.wrap ((i : Int) + 1) = (i : Int) + 1 := by rw [IntKind.wrap_i64]; omega
      have hwd : IntKind.i64.wrap (DV : Int) = (DV : Int) := by rw [IntKind.wrap_i64]; omega
      have hv0 : 0 ≤ (V : Int) + 1 := by omega
      have hv1 : (V : Int) + 1 ≤ 36 := by omega
      have hv2 : ((V : Int) + 1).toNat = V + 1 := by omega
      have hv3 : (V : Int) ≤ (V : Int) + 1 := by omega
      go_wp2_with fail
      refine wp_region_late (fun _ => True) 16 (by kernel_rfl) trivial (fun hHeld => ?_)
      refine wpAnyE_tk (i := 0) (d := some 27) (v := ?_) rfl (by kernel_rfl) (by kernel_rfl) (by kernel_rfl) rfl (fun _ _ _ h => h) rfl rfl ?hy (by assumption) ?_
      case hy => (intro w' hSw; (try dsimp only at hSw); go_simp <;> (try with_reducible rfl))
      simp only [Act.put, List.setIfInBounds_toArray, List.set_cons_zero, List.set_cons_succ]
      refine wpAnyE_tk (i := 1) (d := some 28) (v := ?_) rfl (by kernel_rfl) (by kernel_rfl) (by kernel_rfl) rfl (fun _ _ _ h => h) rfl rfl ?hy (by assumption) ?_
      case hy => (intro w' hSw; (try dsimp only at hSw); go_simp <;> (try with_reducible rfl))
      simp only [Act.put, List.setIfInBounds_toArray, List.set_cons_zero, List.set_cons_succ]
      refine wpAnyE_tk (i := 2) (d := some 29) (v := .int .i64 ((V : Int) + 1)) rfl (by kernel_rfl) (by kernel_rfl) (by kernel_rfl) rfl (fun _ _ _ h => h) rfl rfl ?hy (by assumption) ?_
      case hy => (intro w' hSw; (try dsimp only at hSw); go_simp <;> (try with_reducible rfl))
      simp only [Act.put, List.setIfInBounds_toArray, List.set_cons_zero, List.set_cons_succ]
      refine wpAnyE_tk (i := 3) (d := some 30) (v := .string ⟨#[dgt V]⟩) rfl (by kernel_rfl) (by kernel_rfl) (by kernel_rfl) rfl (fun _ _ _ h => h) rfl rfl ?hy (by assumption) ?_
      case hy => (intro w' hSw; (try dsimp only at hSw); go_simp <;> (try with_reducible rfl))
      simp only [Act.put, List.setIfInBounds_toArray, List.set_cons_zero, List.set_cons_succ]
      refine wpAnyE_tk (i := 4) (d := some 31) (v := ?_) rfl (by kernel_rfl) (by kernel_rfl) (by kernel_rfl) rfl (fun _ _ _ h => h) rfl rfl ?hy (by assumption) ?_
      case hy => (intro w' hSw; (try dsimp only at hSw); go_simp <;> (try with_reducible rfl))
      simp only [Act.put, List.setIfInBounds_toArray, List.set_cons_zero, List.set_cons_succ]
      refine wpAnyE_tk (i := 5) (d := some 32) (v := ?_) rfl (by kernel_rfl) (by kernel_rfl) (by kernel_rfl) rfl (fun _ _ _ h => h) rfl rfl ?hy (by assumption) ?_
      case hy => (intro w' hSw; (try dsimp only at hSw); go_simp <;> (try with_reducible rfl))
      simp only [Act.put, List.setIfInBounds_toArray, List.set_cons_zero, List.set_cons_succ]
      refine wpAnyE_tk (i := 6) (d := some 33) (v := .int .i64 ((q : Int) - (t : Int))) rfl (by kernel_rfl) (by kernel_rfl) (by kernel_rfl) rfl (fun _ _ _ h => h) rfl rfl ?hy (by assumption) ?_
      case hy => (intro w' hSw; (try dsimp only at hSw); go_simp <;> (try with_reducible rfl))
      simp only [Act.put, List.setIfInBounds_toArray, List.set_cons_zero, List.set_cons_succ]
      refine wpAnyE_tk (i := 7) (d := some 34) (v := ?_) rfl (by kernel_rfl) (by kernel_rfl) (by kernel_rfl) rfl (fun _ _ _ h => h) rfl rfl ?hy (by assumption) ?_
      case hy => (intro w' hSw; (try dsimp only at hSw); go_simp <;> (try with_reducible rfl))
      simp only [Act.put, List.setIfInBounds_toArray, List.set_cons_zero, List.set_cons_succ]
      refine wpAnyE_tk (i := 8) (d := some 35) (v := .int .i64 (36 - (t : Int))) rfl (by kernel_rfl) (by kernel_rfl) (by kernel_rfl) rfl (fun _ _ _ h => h) rfl rfl ?hy (by assumption) ?_
      case hy => (intro w' hSw; (try dsimp only at hSw); go_simp <;> (try with_reducible rfl))
      simp only [Act.put, List.setIfInBounds_toArray, List.set_cons_zero, List.set_cons_succ]
      refine wpAnyE_tk (i := 9) (d := some 36) (v := .int .i64 DV) rfl (by kernel_rfl) (by kernel_rfl) (by kernel_rfl) rfl (fun _ _ _ h => h) rfl rfl ?hy (by assumption) ?_
      case hy => (intro w' hSw; (try dsimp only at hSw); go_simp <;> (try with_reducible rfl))
      simp only [Act.put, List.setIfInBounds_toArray, List.set_cons_zero, List.set_cons_succ]
      refine wpAnyE_tk (i := 10) (d := some 37) (v := ?_) rfl (by kernel_rfl) (by kernel_rfl) (by kernel_rfl) rfl (fun _ _ _ h => h) rfl rfl ?hy (by assumption) ?_
      case hy => (intro w' hSw; (try dsimp only at hSw); go_simp <;> (try with_reducible rfl))
      simp only [Act.put, List.setIfInBounds_toArray, List.set_cons_zero, List.set_cons_succ]
      refine wpAnyE_tk (i := 11) (d := some 38) (v := .int .i64 ((i : Int) + 1)) rfl (by kernel_rfl) (by kernel_rfl) (by kernel_rfl) rfl (fun _ _ _ h => h) rfl rfl ?hy (by assumption) ?_
      case hy => (intro w' hSw; (try dsimp only at hSw); go_simp <;> (try with_reducible rfl))
      simp only [Act.put, List.setIfInBounds_toArray, List.set_cons_zero, List.set_cons_succ]
      refine wpAnyE_tk (i := 12) (d := some 39) (v := ?_) rfl (by kernel_rfl) (by kernel_rfl) (by kernel_rfl) rfl (fun _ _ _ h => h) rfl rfl ?hy (by assumption) ?_
      case hy => (intro w' hSw; (try dsimp only at hSw); go_simp <;> (try with_reducible rfl))
      simp only [Act.put, List.setIfInBounds_toArray, List.set_cons_zero, List.set_cons_succ]
      refine wpAnyE_on (i := 13) (by kernel_rfl) rfl rfl ?_
      go_simp
      refine (HIH.out _).mono ?_
      rintro e w2 ⟨rfl, b2⟩
      have HB2 : Hid (Below w1.heap.size w1 w2) := (Below.refl _ w1).drew.trans b2
      clear b2 hHeld
      have hHeld : True := trivial
      refine wpAnyE_tk (i := 14) (d := some 41) (v := .string (⟨#[dgt V]⟩ ++ ⟨DL.toArray⟩)) rfl (by kernel_rfl) (by kernel_rfl) (by kernel_rfl) rfl (fun _ _ _ h => h) rfl rfl ?hy (by assumption) ?_
      case hy => (intro w' hSw; (try dsimp only at hSw); go_simp <;> (try with_reducible rfl))
      simp only [Act.put, List.setIfInBounds_toArray, List.set_cons_zero, List.set_cons_succ]
      refine wpAnyE_tk (i := 15) (d := some 6) (v := ?_) rfl (by kernel_rfl) (by kernel_rfl) (by kernel_rfl) rfl (fun _ _ _ h => h) rfl rfl ?hy (by assumption) ?_
      case hy => (intro w' hSw; (try dsimp only at hSw); go_simp <;> (try with_reducible rfl))
      simp only [Act.put, List.setIfInBounds_toArray, List.set_cons_zero, List.set_cons_succ]
      refine wpAnyE_done (by kernel_rfl) ?_ _
      go_wp2
      go_ret
      refine ⟨?_, HB2.out⟩
      rw [HD.out, ← ba_cons]
      rfl
end Go.Proofs.YtnlgbopdbihnjaaGreatDoor
/-
  The program's writeStep.
-/
namespace Go.Proofs.YtnlgbopdbihnjaaGreatDoor
open Go.RowKit

set_option maxHeartbeats 2000000 in
set_option maxRecDepth 100000 in
/-- The digits of a step are written. -/
theorem wstep_any (B b : Nat) (l : List UInt8) (s bias : Nat) (w : World) (h : Bl B b l w) (hs : s ≤ 2147483647) (hb : bias ≤ 8589934592) (hlen : l.length + 4294967296 ≤ 140737488355328) (hBw : B ≤ w.heap.size) :
    Calls Tryz.prog 139 #[.pointer (some ⟨b, 0, none⟩), .int .i64 s, .int .i64 bias] w fun e w' => e = .returned (.tuple #[]) ∧ Bl B b (l ++ digs s 0 bias) w' ∧ Wrote B b w w' := by
  have HB : Hid (Bl B b l w) := h
  clear h
  go_enter Tryz.func139, Tryz.ntmps139
  go_wp2_with fail
  go_loopw [1, 6] (fun qv pv wr => ∃ (q p : Nat) (acc : List UInt8), qv = .int .i64 q ∧ pv = .int .i64 p ∧ q + p ≤ s ∧ acc.length = p ∧ Hid (acc ++ digs q p bias = digs s 0 bias) ∧ Hid (Bl B b (l ++ acc) wr) ∧ Hid (Wrote B b w wr)) (fun qv _ _ => (intOf qv).toNat)
  case atStart => exact ⟨s, 0, [], rfl, rfl, by omega, rfl, rfl, by show Bl _ _ _ _; rw [List.append_nil]; exact HB.out, Wrote.refl _ _ _⟩
  case round =>
    obtain ⟨q, p, acc, rfl, rfl, hqp, hal, HD, HBl, HW⟩ := hrel
    have hbn := bound_any p bias (by omega) hb wr
    have hb1 := bnd_pos p bias
    have hb2 := bnd_le p bias
    have hsz := HW.out.below.size
    by_cases hq : q < bnd p bias
    · have HD2 : Hid (acc ++ [dgt q] = digs s 0 bias) := by
        have := HD.out
        rw [digs_last hq] at this
        exact this
      generalize bnd p bias = t at hbn hb1 hb2 hq
      have hdo := digof_any q (by omega) wr
      have hwb := wbyte_any B b (l ++ acc) (dgt q) wr HBl.out (by simp; omega) (by omega)
      go_wp2_with fail
      refine hbn.mono ?_
      rintro e w1 ⟨rfl, rfl⟩
      go_wp2_with fail
      refine hdo.mono ?_
      rintro e w1 ⟨rfl, rfl⟩
      go_wp2_with fail
      refine hwb.mono ?_
      rintro e w2 ⟨rfl, b2, m2⟩
      go_wp2
      go_end0
      refine ⟨rfl, ?_, HW.out.trans m2⟩
      rw [List.append_assoc, HD2.out] at b2
      exact b2
    · have hless := digs_less hq
      have HD2 : Hid ((acc ++ [dgt (bnd p bias + (q - bnd p bias) % (36 - bnd p bias))]) ++ digs ((q - bnd p bias) / (36 - bnd p bias)) (p + 1) bias = digs s 0 bias) := by
        have := HD.out
        rw [digs_more hq] at this
        show _ = _
        rw [List.append_assoc]
        exact this
      have hm : (q - bnd p bias) % (36 - bnd p bias) < 36 - bnd p bias := Nat.mod_lt _ (by omega)
      generalize bnd p bias = t at *
      have e1 : ((q : Int) - t) = ((q - t : Nat) : Int) := by omega
      have e2 : ((36 : Int) - t) = ((36 - t : Nat) : Int) := by omega
      have tm : ((q : Int) - t).tmod (36 - t) = (((q - t) % (36 - t) : Nat) : Int) := by rw [e1, e2, Int.tmod_eq_emod_of_nonneg (by omega), Int.natCast_emod]
      have td : ((q : Int) - t).tdiv (36 - t) = (((q - t) / (36 - t) : Nat) : Int) := by rw [e1, e2, Int.tdiv_eq_ediv_of_nonneg (by omega), Int.natCast_ediv]
      generalize (q - t) % (36 - t) = M at tm HD2 hm
      generalize (q - t) / (36 - t) = D at td HD2 hless
      have hdo := digof_any (t + M) (by omega) wr
      have hwb := wbyte_any B b (l ++ acc) (dgt (t + M)) wr HBl.out (by simp; omega) (by omega)
      push_cast at hdo
      have hz : ¬ ((36 : Int) - t = 0) := by omega
      clear e1 e2
      go_wp2_with fail
      refine hbn.mono ?_
      rintro e w1 ⟨rfl, rfl⟩
      go_wp2_with fail
      refine hdo.mono ?_
      rintro e w1 ⟨rfl, rfl⟩
      go_wp2_with fail
      refine hwb.mono ?_
      rintro e w2 ⟨rfl, b2, m2⟩
      have HB2 : Hid (Bl B b (l ++ (acc ++ [dgt (t + M)])) w2) := by
        rw [List.append_assoc] at b2
        exact b2
      have HW2 : Hid (Wrote B b w w2) := HW.out.trans m2
      clear b2 m2 hwb
      go_wp2
      go_roundw
      case rel => exact ⟨D, p + 1, acc ++ [dgt (t + M)], by first | rfl | go_num, by go_num, by omega, by simp [hal], HD2, HB2, HW2⟩
      case measure => simp [intOf]; omega
end Go.Proofs.YtnlgbopdbihnjaaGreatDoor
