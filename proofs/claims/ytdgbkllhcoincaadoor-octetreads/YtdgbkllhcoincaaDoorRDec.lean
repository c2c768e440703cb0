/-
  The contract of the document's Decimal.
-/
import Derived.Test.YtdgbkllhcoincaaDoorProg
import Derived.Test.YtdgbkllhcoincaaDoorPureCmp
import Derived.WalkKit
import Derived.WalkSpells
import Derived.WalkLawsBesides
import Derived.Below
namespace Go.Proofs.YtdgbkllhcoincaaDoor
open Go.RowKit

theorem ret_st {a b : ByteArray} (h : a = b) : Ending.returned (.string a) = .returned (.string b) := by rw [h]

theorem one_dig : ∀ d : Fin 10, (⟨#[48, 49, 50, 51, 52, 53, 54, 55, 56, 57]⟩ : ByteArray).extract d.val (d.val + 1) = ⟨#[UInt8.ofNat (48 + d.val)]⟩ := by decide +kernel
theorem one_dig_at (i d : Nat) (h : i = d) (hd : d < 10) (j : Nat) (hj : j = d + 1) : (⟨#[48, 49, 50, 51, 52, 53, 54, 55, 56, 57]⟩ : ByteArray).extract i j = ⟨#[UInt8.ofNat (48 + d)]⟩ := by
  subst h
  subst hj
  exact one_dig ⟨i, hd⟩

theorem join_data (s : ByteArray) (d : Nat) (hd : d < 10) : (((⟨#[48, 49, 50, 51, 52, 53, 54, 55, 56, 57]⟩ : ByteArray).extract d (d + 1)) ++ s).data.toList = UInt8.ofNat (48 + d) :: s.data.toList := by
  rw [one_dig_at d d rfl hd (d + 1) rfl, ByteArray.data_append, Array.toList_append]
  rfl
theorem last_dig (N n : Nat) (s : ByteArray) (h : Lib.decDigits N = Lib.decDigits n ++ s.data.toList) (hn : n < 10) : ((⟨#[48, 49, 50, 51, 52, 53, 54, 55, 56, 57]⟩ : ByteArray).extract n (n + 1)) ++ s = decS N := by
  apply ByteArray.ext
  apply Array.ext'
  rw [join_data s n hn, decS_list, h, Lib.decDigits, dif_pos hn]
  rfl
theorem next_dig (N n : Nat) (s : ByteArray) (h : Lib.decDigits N = Lib.decDigits n ++ s.data.toList) (hn : ¬ n < 10) :
    Lib.decDigits N = Lib.decDigits (n / 10) ++ (((⟨#[48, 49, 50, 51, 52, 53, 54, 55, 56, 57]⟩ : ByteArray).extract (n % 10) (n % 10 + 1)) ++ s).data.toList := by
  rw [join_data s (n % 10) (by omega), h, Lib.decDigits, dif_neg hn]
  simp
theorem piece_size (N n : Nat) (s : ByteArray) (h : Lib.decDigits N = Lib.decDigits n ++ s.data.toList) (hN : N < 18446744073709551616) : s.size ≤ 20 := by
  have h1 := dec_size N hN
  have h2 : (⟨(Lib.decDigits N).toArray⟩ : ByteArray).size = (Lib.decDigits N).length := List.size_toArray
  have h3 : (Lib.decDigits N).length = (Lib.decDigits n).length + s.size := by
    rw [h, List.length_append, Array.length_toList]
    rfl
  omega

set_option maxRecDepth 100000 in
set_option maxHeartbeats 1000000 in
theorem rdec_any (N : Nat) (hN : N < 18446744073709551616) (w : World) :
    Calls Tryd.prog 25 #[.int .u64 (N : Int)] w fun e w' => e = .returned (.string (decS N)) ∧ w' = w := by
  have hlN := dec_size N hN
  go_enter Tryd.func25, Tryd.ntmps25
  go_wp2
  go_loop [0, 3] (fun v u => ∃ (n : Nat) (s : ByteArray), n < 18446744073709551616 ∧ v = .int .u64 (n : Int) ∧ u = .string s ∧ Hid (Lib.decDigits N = Lib.decDigits n ++ s.data.toList) ∧ s.size ≤ 20) (fun v _ => (intOf v).toNat)
  case atStart => exact ⟨N, ⟨#[]⟩, hN, rfl, rfl, by show _ = _; simp, by decide⟩
  case round =>
    obtain ⟨n, s, hn, rfl, rfl, HD, hs⟩ := hrel
    by_cases h10 : n < 10
    · go_wp2
      go_ret
      exact ⟨ret_st (last_dig N n s HD.out h10), rfl⟩
    · have HN := next_dig N n s HD.out h10
      have HS := piece_size N (n / 10) _ HN hN
      have HNN : Hid _ := HN
      have HSS : Hid _ := HS
      clear HN HS
      go_wp2
      go_round
      case rel => exact ⟨n / 10, _, by omega, by go_num, rfl, HNN.out, HSS.out⟩
      case measure => simp [intOf]; omega
end Go.Proofs.YtdgbkllhcoincaaDoor
