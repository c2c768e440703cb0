/-
  The contracts of octet.Span and octet.Bad of a text.
-/
import Derived.Test.YtbfgefgadplcjaaDoorLate
import Derived.Test.YtbfgefgadplcjaaDoorPureNum
namespace Go.Proofs.YtbfgefgadplcjaaDoor
open Go.RowKit

theorem ret_i64T {a b : Int} (h : a = b) : Ending.returned (.int .i64 a) = .returned (.int .i64 b) := by rw [h]

set_option maxRecDepth 100000 in
set_option maxHeartbeats 400000 in
theorem span_negT (c f : Int) (s : ByteArray) (w : World) (hf : f < 0) :
    Calls Tryd.prog 86 #[.int .i64 c, .string s, .int .i64 f] w fun e w' => e = .returned (.int .i64 f) ∧ w' = w := by
  go_enter Tryd.func86, Tryd.ntmps86
  go_wp2
  go_ret
  exact ⟨rfl, rfl⟩

set_option maxRecDepth 100000 in
set_option maxHeartbeats 400000 in
theorem span_behindT (c f : Int) (s : ByteArray) (w : World) (hs : s.size ≤ maxLen) (hf : (s.size : Int) ≤ f) :
    Calls Tryd.prog 86 #[.int .i64 c, .string s, .int .i64 f] w fun e w' => e = .returned (.int .i64 f) ∧ w' = w := by
  unfold maxLen at hs
  have hn : ¬ f < 0 := by omega
  have hl : ¬ f < (s.size : Int) := by omega
  go_enter Tryd.func86, Tryd.ntmps86
  go_wp2
  refine wp_loop_rounds 1 ?_
  rw [rounds_succ]
  go_wp2
  go_ret
  exact ⟨rfl, rfl⟩

set_option maxRecDepth 100000 in
set_option maxHeartbeats 400000 in
theorem span_inT (c : Int) (f : Nat) (s : ByteArray) (w : World) (ht : Table w) (hs : s.size ≤ maxLen) (hf : f ≤ s.size) :
    Calls Tryd.prog 86 #[.int .i64 c, .string s, .int .i64 f] w fun e w' => e = .returned (.int .i64 (f + badN c (s.data.toList.drop f))) ∧ w' = w := by
  unfold maxLen at hs
  have HT : Hid (Table w) := ht
  clear ht
  go_enter Tryd.func86, Tryd.ntmps86
  go_wp2
  go_loop [7] (fun i => ∃ m : Nat, m ≤ s.size ∧ i = .int .i64 m ∧ Hid (f + badN c (s.data.toList.drop f) = m + badN c (s.data.toList.drop m))) (fun i => s.size - (intOf i).toNat)
  case atStart => exact ⟨f, hf, rfl, rfl⟩
  case round =>
    obtain ⟨m, hm, rfl, HM⟩ := hrel
    by_cases hlt : m < s.size
    · by_cases hb : isB c (s[m].toNat : Int) = true
      · have HN : Hid (f + badN c (s.data.toList.drop f) = (m + 1) + badN c (s.data.toList.drop (m + 1))) := by
          have := badN_yes c s.data.toList m (by simpa using hlt) hb
          show _ = _
          rw [HM.out, this]; omega
        go_wp2_with (go_at_call 80; refine (is_any _ _ _ HT.out).mono ?_; rintro e w' ⟨rfl, rfl⟩)
        go_round
        case rel => exact ⟨m + 1, by omega, by go_num, HN⟩
        case measure => simp [intOf]; omega
      · have hb' : isB c (s[m].toNat : Int) = false := by simpa using hb
        have HN : Hid (f + badN c (s.data.toList.drop f) = m) := by
          have := badN_no c s.data.toList m (by simpa using hlt) hb'
          show _ = _
          rw [HM.out, this]; omega
        clear hb
        go_wp2_with (go_at_call 80; refine (is_any _ _ _ HT.out).mono ?_; rintro e w' ⟨rfl, rfl⟩)
        go_ret
        exact ⟨ret_i64T (by have := HN.out; omega), rfl⟩
    · have HN : Hid (f + badN c (s.data.toList.drop f) = m) := by
        have := badN_end c s.data.toList m (by simp; omega)
        show _ = _
        rw [HM.out, this]; omega
      go_wp2
      go_ret
      exact ⟨ret_i64T (by have := HN.out; omega), rfl⟩

theorem span_anyT (c f : Int) (s : ByteArray) (w : World) (ht : Table w) (hs : s.size ≤ maxLen) :
    Calls Tryd.prog 86 #[.int .i64 c, .string s, .int .i64 f] w fun e w' => e = .returned (.int .i64 (spanI c s.data.toList f)) ∧ w' = w := by
  by_cases h0 : f < 0
  · rw [spanI_neg _ _ _ h0]
    exact span_negT c f s w h0
  · by_cases h1 : (s.size : Int) ≤ f
    · rw [spanI_behind _ _ _ (by simpa using h1)]
      exact span_behindT c f s w hs h1
    · obtain ⟨n, rfl⟩ := Int.eq_ofNat_of_zero_le (show 0 ≤ f by omega)
      rw [spanI_nat]
      exact span_inT c n s w ht hs (by omega)

set_option maxRecDepth 100000 in
theorem bad_anyT (c : Int) (s : ByteArray) (w : World) (ht : Table w) (hs : s.size ≤ maxLen) :
    Calls Tryd.prog 76 #[.int .i64 c, .string s] w fun e w' => e = .returned (.int .i64 (badN c s.data.toList)) ∧ w' = w := by
  have hz := spanI_zero c s.data.toList
  go_enter Tryd.func76, Tryd.ntmps76
  go_wp2_with fail
  refine (span_anyT c 0 s _ ht hs).mono ?_
  rintro e w' ⟨rfl, rfl⟩
  go_wp2
  go_ret
  exact ⟨rfl, rfl⟩
end Go.Proofs.YtbfgefgadplcjaaDoor
/-
  The contract of octet.Number.
-/
namespace Go.Proofs.YtbfgefgadplcjaaDoor
open Go.RowKit

theorem ret_num {a b c d : Int} (h1 : a = b) (h2 : c = d) : Ending.returned (.tuple #[.int .u64 a, .int .i64 c]) = .returned (.tuple #[.int .u64 b, .int .i64 d]) := by rw [h1, h2]

set_option maxRecDepth 100000 in
set_option maxHeartbeats 1000000 in
theorem number_bad (s : ByteArray) (most : Int) (w : World) (ht : Table w) (hs : s.size ≤ maxLen) (hok : ¬ numOk s.data.toList) :
    Calls Tryd.prog 63 #[.string s, .int .u64 most] w fun e w' => e = .returned (.tuple #[.int .u64 0, .int .i64 10]) ∧ w' = w := by
  have hl : s.data.toList.length = s.size := by rw [Array.length_toList]; rfl
  unfold numOk at hok
  rw [hl] at hok
  have hb := badN_le 2 s.data.toList
  rw [hl] at hb
  have ms := hs
  unfold maxLen at ms
  by_cases h1 : s.size < 1
  · go_enter Tryd.func63, Tryd.ntmps63
    go_wp2
    go_ret2
    exact ⟨rfl, rfl⟩
  · by_cases h2 : 20 < s.size
    · go_enter Tryd.func63, Tryd.ntmps63
      go_wp2
      go_ret2
      exact ⟨rfl, rfl⟩
    · have h3 : badN 2 s.data.toList < s.size := by omega
      clear hok hl
      go_enter Tryd.func63, Tryd.ntmps63
      go_wp2_with fail
      refine (bad_anyT 2 s _ ht hs).mono ?_
      rintro e w' ⟨rfl, rfl⟩
      go_wp2
      go_ret2
      exact ⟨rfl, rfl⟩

set_option maxRecDepth 100000 in
set_option maxHeartbeats 1000000 in
theorem number_ok (s : ByteArray) (most : Int) (w : World) (ht : Table w) (hs : s.size ≤ maxLen) (h0 : 0 ≤ most) (h64 : most ≤ 18446744073709551615) (hok : numOk s.data.toList) :
    Calls Tryd.prog 63 #[.string s, .int .u64 most] w fun e w' => e = .returned (.tuple #[.int .u64 (numVal s.data.toList most), .int .i64 (numCode s.data.toList most)]) ∧ w' = w := by
  have hl : s.data.toList.length = s.size := by rw [Array.length_toList]; rfl
  have HOK : Hid (numOk s.data.toList) := hok
  obtain ⟨h1, h2, h3⟩ := hok
  have hall := badN_all 2 s.data.toList h3
  rw [hl] at h1 h2 h3
  have HA : Hid (∀ k, (h : k < s.size) → 48 ≤ s[k].toNat ∧ s[k].toNat ≤ 57) := fun k h => digit_iff _ (hall k (by omega))
  clear hall hl
  have ms := hs
  unfold maxLen at ms
  have h3' : ((badN 2 s.data.toList : Nat) : Int) = (s.size : Int) := by omega
  go_enter Tryd.func63, Tryd.ntmps63
  go_wp2_with fail
  refine (bad_anyT 2 s _ ht hs).mono ?_
  rintro e w' ⟨rfl, rfl⟩
  clear h3
  go_wp2
  clear h3'
  go_loop [6, 26] (fun n i => ∃ k : Nat, k ≤ s.size ∧ i = .int .i64 k ∧ n = .int .u64 (numV (s.data.toList.take k) : Int) ∧ Hid ((numV (s.data.toList.take k) : Int) ≤ most)) (fun _ i => s.size - (intOf i).toNat)
  case atStart => exact ⟨0, Nat.zero_le _, rfl, rfl, h0⟩
  case round =>
    obtain ⟨k, hk, rfl, rfl, HM⟩ := hrel
    by_cases hlt : k < s.size
    · obtain ⟨d1, d2⟩ := HA.out k hlt
      have hst := numV_snoc s.data.toList k (by simpa using hlt)
      have hst2 : numV (s.data.toList.take (k + 1)) = numV (s.data.toList.take k) * 10 + (s[k].toNat - 48) := hst
      clear hst
      have hmo := numV_mono s.data.toList (k + 1)
      obtain ⟨n, hn⟩ : ∃ n : Nat, n = numV (s.data.toList.take k) := ⟨_, rfl⟩
      obtain ⟨n', hn'⟩ : ∃ n : Nat, n = numV (s.data.toList.take (k + 1)) := ⟨_, rfl⟩
      rw [← hn, ← hn'] at hst2
      rw [← hn'] at hmo
      rw [← hn] at HM ⊢
      have hm := HM.out
      clear HM
      obtain ⟨x, hx⟩ : ∃ x : Nat, x = s[k].toNat := ⟨_, rfl⟩
      rw [← hx] at d1 d2 hst2
      have HX : Hid (n' = n * 10 + (x - 48)) := hst2
      have HN : Hid (n' = numV (s.data.toList.take (k + 1))) := hn'
      have HXX : Hid (x = s[k].toNat) := hx
      have hidx : s[k].toNat = x := hx.symm
      clear hn hn' hst2 hx
      have HMO : Hid (n' ≤ numV s.data.toList) := hmo
      clear hmo
      by_cases c1 : most < (x : Int) - 48
      · have HR : Hid _ := num_over s.data.toList most HOK.out (by have := HMO.out; have := HX.out; omega)
        go_wp2
        go_ret2
        exact ⟨ret_num HR.out.1.symm HR.out.2.symm, rfl⟩
      · by_cases c2 : (most - ((x : Int) - 48)) / 10 < (n : Int)
        · have HR : Hid _ := num_over s.data.toList most HOK.out (by have := HMO.out; have := HX.out; omega)
          go_wp2
          go_ret2
          exact ⟨ret_num HR.out.1.symm HR.out.2.symm, rfl⟩
        · have c3 : (n : Int) * 10 + ((x : Int) - 48) ≤ most := by omega
          go_wp2
          go_round
          case rel => exact ⟨k + 1, by omega, by go_num, by rw [← HN.out, HX.out]; go_num, by show _ ≤ _; rw [← HN.out, HX.out]; omega⟩
          case measure => simp [intOf]; omega
    · have hk' : k = s.size := by omega
      have e : s.data.toList.take k = s.data.toList := List.take_of_length_le (by simp; omega)
      rw [e] at HM ⊢
      have HR : Hid _ := num_in s.data.toList most HOK.out HM.out
      clear e
      go_wp2
      go_ret2
      exact ⟨ret_num HR.out.1.symm HR.out.2.symm, rfl⟩

/-- octet.Number. -/
theorem number_any (s : ByteArray) (most : Int) (w : World) (ht : Table w) (hs : s.size ≤ maxLen) (h0 : 0 ≤ most) (h64 : most ≤ 18446744073709551615) :
    Calls Tryd.prog 63 #[.string s, .int .u64 most] w fun e w' => e = .returned (.tuple #[.int .u64 (numVal s.data.toList most), .int .i64 (numCode s.data.toList most)]) ∧ w' = w := by
  by_cases hok : numOk s.data.toList
  · exact number_ok s most w ht hs h0 h64 hok
  · rw [(num_bad _ most hok).1, (num_bad _ most hok).2]
    exact number_bad s most w ht hs hok
end Go.Proofs.YtbfgefgadplcjaaDoor
