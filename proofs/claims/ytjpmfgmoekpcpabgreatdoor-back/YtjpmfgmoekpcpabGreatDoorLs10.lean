/-
  Plain: bytes below 128; what Print answers.
-/
import Derived.Test.YtjpmfgmoekpcpabGreatDoorPmB
import Derived.Test.YtjpmfgmoekpcpabGreatDoorRow
import Derived.Test.YtjpmfgmoekpcpabGreatDoorRs10
import Derived.Test.YtjpmfgmoekpcpabGreatDoorSm10
namespace Go.Proofs.YtjpmfgmoekpcpabGreatDoor

theorem asc_is (c : UInt8) : isB 13 (c.toNat : Int) = decide (c.toNat < 128) := by
  have h : ∀ b : Fin 256, isB 13 (b.val : Int) = decide (b.val < 128) := by decide +kernel
  exact h ⟨c.toNat, c.toNat_lt⟩
theorem bad13 (l : List UInt8) : badN 13 l = l.length ↔ ∀ c ∈ l, c.toNat < 128 := by
  induction l with
  | nil => simp [badN]
  | cons b t ih =>
    unfold badN
    rw [asc_is]
    by_cases h : b.toNat < 128
    · simp [h, ← ih]
    · simp [h]
theorem prtL_is : ∀ (l : List Pm) (t : List UInt8), prtL l = .ok t → t = wrA l
  | [], t, h => by injection h with h; exact h.symm
  | p :: r, t, h => by
    obtain ⟨_, _, u, hu, rfl⟩ := prtL_cons h
    rw [prtL_is r u hu]
    rfl
theorem prtL_err : ∀ (l : List Pm) (e : Nat), prtL l = .error e → e ≠ 0
  | [], e, h => by cases h
  | p :: r, e, h => by
    unfold prtL at h
    split at h
    · split at h
      · split at h
        · rename_i e' he
          injection h with h
          exact h ▸ prtL_err r e' he
        · cases h
      · injection h with h; omega
    · injection h with h; omega
theorem prt_err (l : List Pm) (e : Nat) (h : prt l = .error e) : e ≠ 0 := by
  unfold prt at h
  split at h
  · injection h with h; omega
  · exact prtL_err l e h
theorem prt_ok (l : List Pm) (t : List UInt8) (h : prt l = .ok t) : l.length ≤ 16 ∧ prtL l = .ok t := by
  unfold prt at h
  split at h
  · cases h
  · exact ⟨by omega, h⟩
end Go.Proofs.YtjpmfgmoekpcpabGreatDoor
/-
  The statements' own same.
-/
namespace Go.Proofs.YtjpmfgmoekpcpabGreatDoor
open Go.RowKit

set_option maxHeartbeats 4000000 in
set_option maxRecDepth 100000 in
theorem lsame_eq (a b : Option Addr) (ca cb : Nat) (l : List Pm) (w : World) (ha : Pms a l w) (hb : Pms b l w) (hl : l.length ≤ 1125899906842624) :
    Calls Tryz.prog 13 #[.slice a l.length ca, .slice b l.length cb] w fun e w' => e = .returned (.bool true) ∧ Below w.heap.size w w' := by
  have HA : Hid (Pms a l w) := ha
  have HB : Hid (Pms b l w) := hb
  clear ha hb
  go_enter Tryz.func13, Tryz.ntmps13
  go_wp2
  go_loopw [13] (fun i wr => ∃ k : Nat, k ≤ l.length ∧ i = .int .i64 k ∧ Hid (∃ n, wr = w.drewN n)) (fun i _ => l.length - (intOf i).toNat)
  case atStart => exact ⟨0, Nat.zero_le _, rfl, 0, rfl⟩
  case round =>
    obtain ⟨k, hk, rfl, HD⟩ := hrel
    obtain ⟨nd, hnd⟩ := HD.out
    subst hnd
    by_cases hlt : k < l.length
    · obtain ⟨g, o, hga, a0, a1, a2⟩ := (HA.out.drewN nd).at k hlt
      obtain ⟨g2, o2, hgb, b0, b1, b2⟩ := (HB.out.drewN nd).at k hlt
      subst hga
      subst hgb
      obtain ⟨wn, hwn⟩ : ∃ wn, wn = w.drewN nd := ⟨_, rfl⟩
      rw [← hwn] at a0 a1 a2 b0 b1 b2 ⊢
      have HWN : Hid (wn = w.drewN nd) := hwn
      clear hwn HD
      generalize tx l[k].name = nm at a0 b0
      generalize tx l[k].val = vl at a1 b1
      generalize l[k].has = hs at a2 b2
      go_wp2_with fail
      go_quiet (fail)
      go_wp2
      go_roundw
      case rel => exact ⟨k + 1, by omega, by go_num, by rw [HWN.out]; exact ⟨_, by rw [World.drewN_drewN]⟩⟩
      case measure => simp [intOf]; omega
    · go_wp2
      go_ret
      exact ⟨rfl, below_drN _ _⟩
end Go.Proofs.YtjpmfgmoekpcpabGreatDoor
