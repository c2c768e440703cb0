/-
  The contract of the document's Same.
-/
import Derived.Test.YtjpmfgmoekpcpabGreatDoorOwnT
import Derived.Test.YtjpmfgmoekpcpabGreatDoorRUpT
import Derived.Test.YtjpmfgmoekpcpabGreatDoorPureHex
import Derived.Deep.RegionWith
namespace Go.Proofs.YtjpmfgmoekpcpabGreatDoor
open Go.RowKit

set_option maxHeartbeats 400000 in
theorem rsamet_any (a b : ByteArray) (w : World) (ha : a.size ≤ 140737488351232) (hb : b.size ≤ 140737488351232) :
    Calls Tryz.prog 65 #[.string a, .string b] w fun e w' => e = .returned (.bool (sameB a b)) ∧ Below w.heap.size w w' := by
  go_enter Tryz.func65, Tryz.ntmps65
  go_wp2_with fail
  refine (rupper_any a _ ha).mono ?_
  rintro e w1 ⟨rfl, hb1⟩
  go_wp2_with fail
  refine (rupper_any b _ hb).mono ?_
  rintro e w2 ⟨rfl, hb2⟩
  go_wp2
  go_ret
  exact ⟨rfl, hb1.trans (hb2.mono hb1.size)⟩
end Go.Proofs.YtjpmfgmoekpcpabGreatDoor
/-
  The contract of the document's Digit, of a digit to the base sixteen.
-/
namespace Go.Proofs.YtjpmfgmoekpcpabGreatDoor
open Go.RowKit

theorem same_fin : ∀ m : Fin 16, ∀ b : Fin 256, isB 4 (b.val : Int) = true → (upL ((⟨#[48, 49, 50, 51, 52, 53, 54, 55, 56, 57, 65, 66, 67, 68, 69, 70]⟩ : ByteArray).extract m.val (m.val + 1)).data.toList == upL [UInt8.ofNat b.val]) = decide (m.val = hexV b.val) := by decide +kernel
theorem same_dig (m : Nat) (hm : m < 16) (b : UInt8) (hb : isB 4 (b.toNat : Int) = true) : sameB ((⟨#[48, 49, 50, 51, 52, 53, 54, 55, 56, 57, 65, 66, 67, 68, 69, 70]⟩ : ByteArray).extract m (m + 1)) ⟨#[b]⟩ = decide (m = hexV b.toNat) := by
  unfold sameB
  rw [ByteArray.toList_eq, ByteArray.toList_eq]
  have := same_fin ⟨m, hm⟩ ⟨b.toNat, b.toNat_lt⟩ hb
  have e : UInt8.ofNat b.toNat = b := by simp
  simp only [e] at this
  exact this
theorem one_back (b : UInt8) (w : World) : (convert 57 9 (.slice (some ⟨w.heap.size, 0, none⟩) 1 1)).run Tryz.prog (w.alloc (.cells #[.int .u8 (b.toNat : Int)] 5)).drew = .ok (.string ⟨#[b]⟩) (w.alloc (.cells #[.int .u8 (b.toNat : Int)] 5)).drew := by
  exact run_convert_bytes_back (P := Tryz.prog) (w.alloc (.cells #[.int .u8 (b.toNat : Int)] 5)).drew 57 9 5 ⟨w.heap.size, 0, none⟩ 1 [b] Tryz.underlying57 Tryz.underlying5 Tryz.underlying9 (fun j hj => by
    have : j = 0 := by simpa using hj
    subst this
    simp [Addr.add])

set_option maxRecDepth 100000 in
set_option maxHeartbeats 2000000 in
theorem rdigit_any (b : UInt8) (w : World) (hb : isB 4 (b.toNat : Int) = true) :
    Calls Tryz.prog 46 #[.int .u8 (b.toNat : Int)] w fun e w' => e = .returned (.int .i64 (hexV b.toNat : Int)) ∧ Below w.heap.size w w' := by
  have hv := hexV_lt b hb
  obtain ⟨v, hvv⟩ : ∃ v : Nat, v = hexV b.toNat := ⟨_, rfl⟩
  have HS : Hid (∀ m, m < 16 → sameB ((⟨#[48, 49, 50, 51, 52, 53, 54, 55, 56, 57, 65, 66, 67, 68, 69, 70]⟩ : ByteArray).extract m (m + 1)) ⟨#[b]⟩ = decide (m = v)) := fun m hm => by rw [hvv]; exact same_dig m hm b hb
  rw [← hvv] at hv ⊢
  clear hb hvv
  go_enter Tryz.func46, Tryz.ntmps46
  go_wp2
  go_loopw [3] (fun i wr => ∃ m : Nat, m ≤ v ∧ i = .int .i64 m ∧ Hid (Below w.heap.size w wr)) (fun i _ => 16 - (intOf i).toNat)
  case atStart => exact ⟨0, Nat.zero_le _, rfl, Below.refl _ _⟩
  case round =>
    obtain ⟨m, hm, rfl, HB⟩ := hrel
    have hm6 : m < 16 := by omega
    have hsm := HS.out m hm6
    have hcv := one_back b wr
    have b1 : (0 : Int) ≤ (m : Int) := by omega
    have b2 : (m : Int) + 1 ≤ 16 := by omega
    have b3 : (0 : Int) ≤ (m : Int) + 1 := by omega
    have b4 : (m : Int) ≤ (m : Int) + 1 := by omega
    have q1 : IntKind.i64.wrap ((m : Int) + 1) = (m : Int) + 1 := by rw [IntKind.wrap_i64]; omega
    have HE : Hid (((⟨#[48, 49, 50, 51, 52, 53, 54, 55, 56, 57, 65, 66, 67, 68, 69, 70]⟩ : ByteArray).extract m (m + 1)).size ≤ 140737488351232) := by
      show _ ≤ _
      rw [ByteArray.size_extract]
      omega
    have HBA := (HB.out.alloc HB.out.size (.cells #[.int .u8 (b.toNat : Int)] 5)).drew
    have HE1 : Hid ((⟨#[b]⟩ : ByteArray).size ≤ 140737488351232) := by show (1 : Nat) ≤ _; omega
    by_cases hmv : m = v
    · rw [decide_eq_true hmv] at hsm
      have HMV : Hid (m = v) := hmv
      clear hmv
      go_wp2_with fail
      go_region_with (first | (go_at_call 65; refine (rsamet_any _ ⟨#[b]⟩ _ HE.out HE1.out).mono ?_; rintro e w' ⟨rfl, hb1⟩))
      all_goals
        have hb2 := HBA.trans (hb1.mono HBA.size)
        clear hb1
        go_wp2
        go_ret
        exact ⟨by rw [← HMV.out]; rfl, hb2⟩
    · rw [decide_eq_false hmv] at hsm
      go_wp2_with fail
      go_region_with (first | (go_at_call 65; refine (rsamet_any _ ⟨#[b]⟩ _ HE.out HE1.out).mono ?_; rintro e w' ⟨rfl, hb1⟩))
      all_goals
        have hb2 := HBA.trans (hb1.mono HBA.size)
        clear hb1
        go_wp2
        go_roundw
        case rel => exact ⟨m + 1, by omega, by go_num, hb2⟩
        case measure => simp [intOf]; omega
end Go.Proofs.YtjpmfgmoekpcpabGreatDoor
