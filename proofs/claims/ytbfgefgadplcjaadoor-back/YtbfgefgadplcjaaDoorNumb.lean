/-
  The contract of octet.Number.
-/
import Derived.Test.YtbfgefgadplcjaaDoorSpan4
import Derived.Test.YtbfgefgadplcjaaDoorPureNum
namespace Go.Proofs.YtbfgefgadplcjaaDoor
open Go.RowKit

theorem ret_num {a b c d : Int} (h1 : a = b) (h2 : c = d) : Ending.returned (.tuple #[.int .u64 a, .int .i64 c]) = .returned (.tuple #[.int .u64 b, .int .i64 d]) := by rw [h1, h2]

set_option maxRecDepth 100000 in
set_option maxHeartbeats 1000000 in
theorem number_bad (s : ByteArray) (most : Int) (w : World) (ht : Table w) (hs : s.size ≤ maxLen) (hok : ¬ numOk s.data.toList) :
    Calls Tryd.prog 63 #[.string s, .int .u64 most] w fun e w' => e = .returned (.tuple #[.int .u64 0, .int .i64 10]) ∧ w' = w := by
  have hl : s.data.toList.length = s.size := by rw [Array.length_toList]; rfl
  unfold numOk at hok
  rw [hl] at hok
  have hb := badN_le 2 s.data.toList
  rw [hl] at hb
  have ms := hs
  unfold maxLen at ms
  by_cases h1 : s.size < 1
  · go_enter Tryd.func63, Tryd.ntmps63
    go_wp2
    go_ret2
    exact ⟨rfl, rfl⟩
  · by_cases h2 : 20 < s.size
    · go_enter Tryd.func63, Tryd.ntmps63
      go_wp2
      go_ret2
      exact ⟨rfl, rfl⟩
    · have h3 : badN 2 s.data.toList < s.size := by omega
      clear hok hl
      go_enter Tryd.func63, Tryd.ntmps63
      go_wp2_with fail
      refine (bad_anyT 2 s _ ht hs).mono ?_
      rintro e w' ⟨rfl, rfl⟩
      go_wp2
      go_ret2
      exact ⟨rfl, rfl⟩

set_option maxRecDepth 100000 in
set_option maxHeartbeats 1000000 in
theorem number_ok (s : ByteArray) (most : Int) (w : World) (ht : Table w) (hs : s.size ≤ maxLen) (h0 : 0 ≤ most) (h64 : most ≤ 18446744073709551615) (hok : numOk s.data.toList) :
    Calls Tryd.prog 63 #[.string s, .int .u64 most] w fun e w' => e = .returned (.tuple #[.int .u64 (numVal s.data.toList most), .int .i64 (numCode s.data.toList most)]) ∧ w' = w := by
  have hl : s.data.toList.length = s.size := by rw [Array.length_toList]; rfl
  have HOK : Hid (numOk s.data.toList) := hok
  obtain ⟨h1, h2, h3⟩ := hok
  have hall := badN_all 2 s.data.toList h3
  rw [hl] at h1 h2 h3
  have HA : Hid (∀ k, (h : k < s.size) → 48 ≤ s[k].toNat ∧ s[k].toNat ≤ 57) := fun k h => digit_iff _ (hall k (by omega))
  clear hall hl
  have ms := hs
  unfold maxLen at ms
  have h3' : ((badN 2 s.data.toList : Nat) : Int) = (s.size : Int) := by omega
  go_enter Tryd.func63, Tryd.ntmps63
  go_wp2_with fail
  refine (bad_anyT 2 s _ ht hs).mono ?_
  rintro e w' ⟨rfl, rfl⟩
  clear h3
  go_wp2
  clear h3'
  go_loop [6, 26] (fun n i => ∃ k : Nat, k ≤ s.size ∧ i = .int .i64 k ∧ n = .int .u64 (numV (s.data.toList.take k) : Int) ∧ Hid ((numV (s.data.toList.take k) : Int) ≤ most)) (fun _ i => s.size - (intOf i).toNat)
  case atStart => exact ⟨0, Nat.zero_le _, rfl, rfl, h0⟩
  case round =>
    obtain ⟨k, hk, rfl, rfl, HM⟩ := hrel
    by_cases hlt : k < s.size
    · obtain ⟨d1, d2⟩ := HA.out k hlt
      have hst := numV_snoc s.data.toList k (by simpa using hlt)
      have hst2 : numV (s.data.toList.take (k + 1)) = numV (s.data.toList.take k) * 10 + (s[k].toNat - 48) := hst
      clear hst
      have hmo := numV_mono s.data.toList (k + 1)
      obtain ⟨n, hn⟩ : ∃ n : Nat, n = numV (s.data.toList.take k) := ⟨_, rfl⟩
      obtain ⟨n', hn'⟩ : ∃ n : Nat, n = numV (s.data.toList.take (k + 1)) := ⟨_, rfl⟩
      rw [← hn, ← hn'] at hst2
      rw [← hn'] at hmo
      rw [← hn] at HM ⊢
      have hm := HM.out
      clear HM
      obtain ⟨x, hx⟩ : ∃ x : Nat, x = s[k].toNat := ⟨_, rfl⟩
      rw [← hx] at d1 d2 hst2
      have HX : Hid (n' = n * 10 + (x - 48)) := hst2
      have HN : Hid (n' = numV (s.data.toList.take (k + 1))) := hn'
      have HXX : Hid (x = s[k].toNat) := hx
      have hidx : s[k].toNat = x := hx.symm
      clear hn hn' hst2 hx
      have HMO : Hid (n' ≤ numV s.data.toList) := hmo
      clear hmo
      by_cases c1 : most < (x : Int) - 48
      · have HR : Hid _ := num_over s.data.toList most HOK.out (by have := HMO.out; have := HX.out; omega)
        go_wp2
        go_ret2
        exact ⟨ret_num HR.out.1.symm HR.out.2.symm, rfl⟩
      · by_cases c2 : (most - ((x : Int) - 48)) / 10 < (n : Int)
        · have HR : Hid _ := num_over s.data.toList most HOK.out (by have := HMO.out; have := HX.out; omega)
          go_wp2
          go_ret2
          exact ⟨ret_num HR.out.1.symm HR.out.2.symm, rfl⟩
        · have c3 : (n : Int) * 10 + ((x : Int) - 48) ≤ most := by omega
          go_wp2
          go_round
          case rel => exact ⟨k + 1, by omega, by go_num, by rw [← HN.out, HX.out]; go_num, by show _ ≤ _; rw [← HN.out, HX.out]; omega⟩
          case measure => simp [intOf]; omega
    · have hk' : k = s.size := by omega
      have e : s.data.toList.take k = s.data.toList := List.take_of_length_le (by simp; omega)
      rw [e] at HM ⊢
      have HR : Hid _ := num_in s.data.toList most HOK.out HM.out
      clear e
      go_wp2
      go_ret2
      exact ⟨ret_num HR.out.1.symm HR.out.2.symm, rfl⟩

/-- octet.Number. -/
theorem number_any (s : ByteArray) (most : Int) (w : World) (ht : Table w) (hs : s.size ≤ maxLen) (h0 : 0 ≤ most) (h64 : most ≤ 18446744073709551615) :
    Calls Tryd.prog 63 #[.string s, .int .u64 most] w fun e w' => e = .returned (.tuple #[.int .u64 (numVal s.data.toList most), .int .i64 (numCode s.data.toList most)]) ∧ w' = w := by
  by_cases hok : numOk s.data.toList
  · exact number_ok s most w ht hs h0 h64 hok
  · rw [(num_bad _ most hok).1, (num_bad _ most hok).2]
    exact number_bad s most w ht hs hok
end Go.Proofs.YtbfgefgadplcjaaDoor
