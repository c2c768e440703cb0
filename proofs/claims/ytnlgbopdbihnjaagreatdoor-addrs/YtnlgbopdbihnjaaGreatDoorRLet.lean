/-
  The document's letters.
-/
import Derived.Test.YtnlgbopdbihnjaaGreatDoorRStp
import Derived.Test.YtnlgbopdbihnjaaGreatDoorLate5
namespace Go.Proofs.YtnlgbopdbihnjaaGreatDoor
open Go.RowKit

theorem dg_ext : ∀ v : Fin 36, ((⟨#[97, 98, 99, 100, 101, 102, 103, 104, 105, 106, 107, 108, 109, 110, 111, 112, 113, 114, 115, 116, 117, 118, 119, 120, 121, 122, 48, 49, 50, 51, 52, 53, 54, 55, 56, 57]⟩ : ByteArray).extract v.val (v.val + 1)) = ⟨#[dgt v.val]⟩ := by decide +kernel

theorem ba_cons (x : UInt8) (l : List UInt8) : (⟨#[x]⟩ : ByteArray) ++ ⟨l.toArray⟩ = ⟨(x :: l).toArray⟩ := by
  apply ByteArray.ext
  rw [ByteArray.data_append]
  simp

set_option maxHeartbeats 4000000 in
set_option maxRecDepth 100000 in
theorem dlet_any (q : Nat) : ∀ (i bias : Nat) (w : World), q ≤ 2147483647 → i + q ≤ 4294967296 → bias ≤ 8589934592 →
    Calls Tryz.prog 101 #[.int .i64 q, .int .i64 i, .int .i64 bias] w fun e w' => e = .returned (.string ⟨(digs q i bias).toArray⟩) ∧ Below w.heap.size w w' := by
  induction q using Nat.strongRecOn with
  | _ q ih =>
    intro i bias w hq hi hb
    have HBN := dbound_any i bias (by omega) hb w
    have hb1 := bnd_pos i bias
    have hb2 := bnd_le i bias
    by_cases h : q < bnd i bias
    · have HD : Hid (digs q i bias = [dgt q]) := digs_last h
      have hx := dg_ext ⟨q, by omega⟩
      simp only at hx
      generalize bnd i bias = t at *
      have h' : (q : Int) < (t : Int) := by omega
      go_enter Tryz.func101, Tryz.ntmps101
      go_wp2_with fail
      refine HBN.mono ?_
      rintro e w1 ⟨rfl, rfl⟩
      clear HBN ih
      go_wp2
      go_ret
      exact ⟨by rw [HD.out]; rfl, Below.refl _ _⟩
    · have HD : Hid (_ = _) := digs_more h
      have hl := digs_less h
      have hm : (q - bnd i bias) % (36 - bnd i bias) < 36 - bnd i bias := Nat.mod_lt _ (by omega)
      have hx := dg_ext ⟨bnd i bias + (q - bnd i bias) % (36 - bnd i bias), by omega⟩
      simp only at hx
      have HIH : Hid (∀ wx, Calls Tryz.prog 101 #[.int .i64 (((q - bnd i bias) / (36 - bnd i bias) : Nat) : Int), .int .i64 ((i + 1 : Nat) : Int), .int .i64 bias] wx fun e w' => e = .returned (.string ⟨(digs ((q - bnd i bias) / (36 - bnd i bias)) (i + 1) bias).toArray⟩) ∧ Below wx.heap.size wx w') := fun wx => ih _ hl (i + 1) bias wx (by omega) (by omega) hb
      have t1 : ((q : Int) - (bnd i bias : Nat)).tmod (36 - ((bnd i bias : Nat) : Int)) = (((q - bnd i bias) % (36 - bnd i bias) : Nat) : Int) := by
        rw [Int.tmod_eq_emod_of_nonneg (by omega), show (q : Int) - (bnd i bias : Nat) = ((q - bnd i bias : Nat) : Int) from by omega, show 36 - ((bnd i bias : Nat) : Int) = ((36 - bnd i bias : Nat) : Int) from by omega]
        push_cast
        rfl
      have t2 : ((q : Int) - (bnd i bias : Nat)).tdiv (36 - ((bnd i bias : Nat) : Int)) = (((q - bnd i bias) / (36 - bnd i bias) : Nat) : Int) := by
        rw [Int.tdiv_eq_ediv_of_nonneg (by omega), show (q : Int) - (bnd i bias : Nat) = ((q - bnd i bias : Nat) : Int) from by omega, show 36 - ((bnd i bias : Nat) : Int) = ((36 - bnd i bias : Nat) : Int) from by omega]
        push_cast
        rfl
      have h' : ¬ (q : Int) < ((bnd i bias : Nat) : Int) := by omega
      have h36 : ¬ (36 - ((bnd i bias : Nat) : Int) = 0) := by omega
      generalize (q - bnd i bias) / (36 - bnd i bias) = DV at *
      generalize (q - bnd i bias) % (36 - bnd i bias) = MD at *
      generalize bnd i bias = t at *
      have hnl : ¬ 9223372036854775807 < 1 + (digs DV (i + 1) bias).length := by have := digs_length DV (i + 1) bias; omega
      generalize digs DV (i + 1) bias = DL at *
      clear ih h
      go_enter Tryz.func101, Tryz.ntmps101
      go_wp2_with fail
      refine HBN.mono ?_
      rintro e w1 ⟨rfl, rfl⟩
      clear HBN
      obtain ⟨V, hV⟩ : ∃ V : Nat, V = t + MD := ⟨_, rfl⟩
      have hVi : (t : Int) + (MD : Int) = (V : Int) := by omega
      rw [← hV] at hx HD
      have hV36 : V < 36 := by omega
      clear hV
      have hi1 : ((i + 1 : Nat) : Int) = (i : Int) + 1 := by push_cast; rfl
      rw [hi1] at HIH
      clear hi1
      have hwV : IntKind.i64.wrap ((V : Int) + 1) = (V : Int) + 1 := by rw [IntKind.wrap_i64]; omega
      have hwq : IntKind.i64.wrap ((q : Int) - (t : Int)) = (q : Int) - (t : Int) := by rw [IntKind.wrap_i64]; omega
      have hwt : IntKind.i64.wrap (36 - (t : Int)) = 36 - (t : Int) := by rw [IntKind.wrap_i64]; omega
      have hwi : IntKind.i64.wrap ((i : Int) + 1) = (i : Int) + 1 := by rw [IntKind.wrap_i64]; omega
      have hwd : IntKind.i64.wrap (DV : Int) = (DV : Int) := by rw [IntKind.wrap_i64]; omega
      have hv0 : 0 ≤ (V : Int) + 1 := by omega
      have hv1 : (V : Int) + 1 ≤ 36 := by omega
      have hv2 : ((V : Int) + 1).toNat = V + 1 := by omega
      have hv3 : (V : Int) ≤ (V : Int) + 1 := by omega
      go_wp2_with fail
      refine wp_region_late (fun _ => True) 16 (by kernel_rfl) trivial (fun hHeld => ?_)
      refine wpAnyE_tk (i := 0) (d := some 27) (v := ?_) rfl (by kernel_rfl) (by kernel_rfl) (by kernel_rfl) rfl (fun _ _ _ h => h) rfl rfl ?hy (by assumption) ?_
      case hy => (intro w' hSw; (try dsimp only at hSw); go_simp <;> (try with_reducible rfl))
      simp only [Act.put, List.setIfInBounds_toArray, List.set_cons_zero, List.set_cons_succ]
      refine wpAnyE_tk (i := 1) (d := some 28) (v := ?_) rfl (by kernel_rfl) (by kernel_rfl) (by kernel_rfl) rfl (fun _ _ _ h => h) rfl rfl ?hy (by assumption) ?_
      case hy => (intro w' hSw; (try dsimp only at hSw); go_simp <;> (try with_reducible rfl))
      simp only [Act.put, List.setIfInBounds_toArray, List.set_cons_zero, List.set_cons_succ]
      refine wpAnyE_tk (i := 2) (d := some 29) (v := .int .i64 ((V : Int) + 1)) rfl (by kernel_rfl) (by kernel_rfl) (by kernel_rfl) rfl (fun _ _ _ h => h) rfl rfl ?hy (by assumption) ?_
      case hy => (intro w' hSw; (try dsimp only at hSw); go_simp <;> (try with_reducible rfl))
      simp only [Act.put, List.setIfInBounds_toArray, List.set_cons_zero, List.set_cons_succ]
      refine wpAnyE_tk (i := 3) (d := some 30) (v := .string ⟨#[dgt V]⟩) rfl (by kernel_rfl) (by kernel_rfl) (by kernel_rfl) rfl (fun _ _ _ h => h) rfl rfl ?hy (by assumption) ?_
      case hy => (intro w' hSw; (try dsimp only at hSw); go_simp <;> (try with_reducible rfl))
      simp only [Act.put, List.setIfInBounds_toArray, List.set_cons_zero, List.set_cons_succ]
      refine wpAnyE_tk (i := 4) (d := some 31) (v := ?_) rfl (by kernel_rfl) (by kernel_rfl) (by kernel_rfl) rfl (fun _ _ _ h => h) rfl rfl ?hy (by assumption) ?_
      case hy => (intro w' hSw; (try dsimp only at hSw); go_simp <;> (try with_reducible rfl))
      simp only [Act.put, List.setIfInBounds_toArray, List.set_cons_zero, List.set_cons_succ]
      refine wpAnyE_tk (i := 5) (d := some 32) (v := ?_) rfl (by kernel_rfl) (by kernel_rfl) (by kernel_rfl) rfl (fun _ _ _ h => h) rfl rfl ?hy (by assumption) ?_
      case hy => (intro w' hSw; (try dsimp only at hSw); go_simp <;> (try with_reducible rfl))
      simp only [Act.put, List.setIfInBounds_toArray, List.set_cons_zero, List.set_cons_succ]
      refine wpAnyE_tk (i := 6) (d := some 33) (v := .int .i64 ((q : Int) - (t : Int))) rfl (by kernel_rfl) (by kernel_rfl) (by kernel_rfl) rfl (fun _ _ _ h => h) rfl rfl ?hy (by assumption) ?_
      case hy => (intro w' hSw; (try dsimp only at hSw); go_simp <;> (try with_reducible rfl))
      simp only [Act.put, List.setIfInBounds_toArray, List.set_cons_zero, List.set_cons_succ]
      refine wpAnyE_tk (i := 7) (d := some 34) (v := ?_) rfl (by kernel_rfl) (by kernel_rfl) (by kernel_rfl) rfl (fun _ _ _ h => h) rfl rfl ?hy (by assumption) ?_
      case hy => (intro w' hSw; (try dsimp only at hSw); go_simp <;> (try with_reducible rfl))
      simp only [Act.put, List.setIfInBounds_toArray, List.set_cons_zero, List.set_cons_succ]
      refine wpAnyE_tk (i := 8) (d := some 35) (v := .int .i64 (36 - (t : Int))) rfl (by kernel_rfl) (by kernel_rfl) (by kernel_rfl) rfl (fun _ _ _ h => h) rfl rfl ?hy (by assumption) ?_
      case hy => (intro w' hSw; (try dsimp only at hSw); go_simp <;> (try with_reducible rfl))
      simp only [Act.put, List.setIfInBounds_toArray, List.set_cons_zero, List.set_cons_succ]
      refine wpAnyE_tk (i := 9) (d := some 36) (v := .int .i64 DV) rfl (by kernel_rfl) (by kernel_rfl) (by kernel_rfl) rfl (fun _ _ _ h => h) rfl rfl ?hy (by assumption) ?_
      case hy => (intro w' hSw; (try dsimp only at hSw); go_simp <;> (try with_reducible rfl))
      simp only [Act.put, List.setIfInBounds_toArray, List.set_cons_zero, List.set_cons_succ]
      refine wpAnyE_tk (i := 10) (d := some 37) (v := ?_) rfl (by kernel_rfl) (by kernel_rfl) (by kernel_rfl) rfl (fun _ _ _ h => h) rfl rfl ?hy (by assumption) ?_
      case hy => (intro w' hSw; (try dsimp only at hSw); go_simp <;> (try with_reducible rfl))
      simp only [Act.put, List.setIfInBounds_toArray, List.set_cons_zero, List.set_cons_succ]
      refine wpAnyE_tk (i := 11) (d := some 38) (v := .int .i64 ((i : Int) + 1)) rfl (by kernel_rfl) (by kernel_rfl) (by kernel_rfl) rfl (fun _ _ _ h => h) rfl rfl ?hy (by assumption) ?_
      case hy => (intro w' hSw; (try dsimp only at hSw); go_simp <;> (try with_reducible rfl))
      simp only [Act.put, List.setIfInBounds_toArray, List.set_cons_zero, List.set_cons_succ]
      refine wpAnyE_tk (i := 12) (d := some 39) (v := ?_) rfl (by kernel_rfl) (by kernel_rfl) (by kernel_rfl) rfl (fun _ _ _ h => h) rfl rfl ?hy (by assumption) ?_
      case hy => (intro w' hSw; (try dsimp only at hSw); go_simp <;> (try with_reducible rfl))
      simp only [Act.put, List.setIfInBounds_toArray, List.set_cons_zero, List.set_cons_succ]
      refine wpAnyE_on (i := 13) (by kernel_rfl) rfl rfl ?_
      go_simp
      refine (HIH.out _).mono ?_
      rintro e w2 ⟨rfl, b2⟩
      have HB2 : Hid (Below w1.heap.size w1 w2) := (Below.refl _ w1).drew.trans b2
      clear b2 hHeld
      have hHeld : True := trivial
      refine wpAnyE_tk (i := 14) (d := some 41) (v := .string (⟨#[dgt V]⟩ ++ ⟨DL.toArray⟩)) rfl (by kernel_rfl) (by kernel_rfl) (by kernel_rfl) rfl (fun _ _ _ h => h) rfl rfl ?hy (by assumption) ?_
      case hy => (intro w' hSw; (try dsimp only at hSw); go_simp <;> (try with_reducible rfl))
      simp only [Act.put, List.setIfInBounds_toArray, List.set_cons_zero, List.set_cons_succ]
      refine wpAnyE_tk (i := 15) (d := some 6) (v := ?_) rfl (by kernel_rfl) (by kernel_rfl) (by kernel_rfl) rfl (fun _ _ _ h => h) rfl rfl ?hy (by assumption) ?_
      case hy => (intro w' hSw; (try dsimp only at hSw); go_simp <;> (try with_reducible rfl))
      simp only [Act.put, List.setIfInBounds_toArray, List.set_cons_zero, List.set_cons_succ]
      refine wpAnyE_done (by kernel_rfl) ?_ _
      go_wp2
      go_ret
      refine ⟨?_, HB2.out⟩
      rw [HD.out, ← ba_cons]
      rfl
end Go.Proofs.YtnlgbopdbihnjaaGreatDoor
