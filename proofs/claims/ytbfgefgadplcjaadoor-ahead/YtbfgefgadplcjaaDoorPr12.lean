/-
  Codes, texts, statuses beside codes; what stands ahead of a text.
-/
import Derived.Test.YtbfgefgadplcjaaDoorRowl
import Derived.Test.YtbfgefgadplcjaaDoorRo12
namespace Go.Proofs.YtbfgefgadplcjaaDoor
open Go.RowKit

theorem wrap_rng (n : Int) : 0 ≤ IntKind.u64.wrap n ∧ IntKind.u64.wrap n < 18446744073709551616 := by
  simp [IntKind.wrap, IntKind.bits, IntKind.signed]
  omega
theorem dcW_any (n : Int) (w : World) (ht : Tb w) : Calls Tryd.prog 48 #[.int .u64 (IntKind.u64.wrap n)] w fun e w' => e = .returned (.string (tx (dcW n))) ∧ Below w.heap.size w w' := by
  have h := wrap_rng n
  unfold dcW
  generalize IntKind.u64.wrap n = m at *
  obtain ⟨k, rfl⟩ : ∃ k : Nat, m = (k : Int) := ⟨m.toNat, by omega⟩
  exact decm_any k (by omega) w ht.pow
set_option maxHeartbeats 1000000 in
theorem iscode_any (n : Int) (w : World) (ht : Tb w) : Calls Tryd.prog 34 #[.int .i64 n] w fun e w' => e = .returned (.bool (isCd n)) ∧ Below w.heap.size w w' := by
  have HD := dcW_any n w ht
  have HDG : Hid (∀ k : Nat, k < 3 → ∀ c : UInt8, ∀ w', Below w.heap.size w w' → Calls Tryd.prog 49 #[.int .i64 (k : Int), .int .u8 (c.toNat : Int)] w' fun e w2 => e = .returned (.bool (digB k c)) ∧ w2 = w') := fun k hk c w' hb => iscd_any k hk c w' (ht.on hb).dig
  clear ht
  by_cases hl : (dcW n).length = 3
  · obtain ⟨a, b, c, habc⟩ : ∃ a b c, dcW n = [a, b, c] := by
      match h : dcW n, hl with
      | [a, b, c], _ => exact ⟨a, b, c, rfl⟩
    have hcd : isCd n = (digB 0 a && digB 1 b && digB 2 c) := by unfold isCd; rw [habc]; rfl
    rw [hcd]
    rw [habc] at HD
    have hsz : (tx [a, b, c]).size = 3 := rfl
    have D0 : Hid (∀ w', Below w.heap.size w w' → Calls Tryd.prog 49 #[.int .i64 (0 : Int), .int .u8 (a.toNat : Int)] w' fun e w2 => e = .returned (.bool (digB 0 a)) ∧ w2 = w') := HDG.out 0 (by decide) a
    have D1 : Hid (∀ w', Below w.heap.size w w' → Calls Tryd.prog 49 #[.int .i64 (1 : Int), .int .u8 (b.toNat : Int)] w' fun e w2 => e = .returned (.bool (digB 1 b)) ∧ w2 = w') := HDG.out 1 (by decide) b
    have D2 : Hid (∀ w', Below w.heap.size w w' → Calls Tryd.prog 49 #[.int .i64 (2 : Int), .int .u8 (c.toNat : Int)] w' fun e w2 => e = .returned (.bool (digB 2 c)) ∧ w2 = w') := HDG.out 2 (by decide) c
    clear habc hl hcd HDG
    go_enter Tryd.func34, Tryd.ntmps34
    go_wp2_with fail
    refine HD.mono ?_
    rintro e w1 ⟨rfl, hB1⟩
    have HB1 : Hid (Below w.heap.size w w1) := hB1
    clear hB1 HD
    go_wp2_with fail
    go_loop [4, 11] (fun _ iv => ∃ k : Nat, k ≤ 3 ∧ iv = .int .i64 k ∧ Hid (∀ j, j < k → digB j ([a, b, c].getD j 0) = true)) (fun _ iv => 3 - (intOf iv).toNat)
    case atStart => exact ⟨0, by omega, rfl, fun j hj => by omega⟩
    case round =>
      obtain ⟨k, hk, rfl, HA⟩ := hrel
      obtain rfl | rfl | rfl | rfl : k = 0 ∨ k = 1 ∨ k = 2 ∨ k = 3 := by omega
      · cases hd : digB 0 a with
        | true =>
          have HA2 : Hid (∀ j, j < 1 → digB j ([a, b, c].getD j 0) = true) := fun j hj => by
            by_cases e : j = 0
            · subst e; exact hd
            · exact HA.out j (by omega)
          rw [hd] at D0
          go_wp2_with (go_at_call 49; refine (D0.out _ HB1.out).mono ?_; rintro e w2 ⟨rfl, rfl⟩)
          go_round
          case rel => exact ⟨1, by omega, rfl, HA2.out⟩
          case measure => simp [intOf]
        | false =>
          rw [hd] at D0
          have HXX : Hid ((digB 0 a && digB 1 b && digB 2 c) = false) := by show _ = _; rw [hd]; simp
          go_wp2_with (go_at_call 49; refine (D0.out _ HB1.out).mono ?_; rintro e w2 ⟨rfl, rfl⟩)
          go_ret
          exact ⟨by rw [HXX.out]; rfl, HB1.out⟩
      · cases hd : digB 1 b with
        | true =>
          have HA2 : Hid (∀ j, j < 2 → digB j ([a, b, c].getD j 0) = true) := fun j hj => by
            by_cases e : j = 1
            · subst e; exact hd
            · exact HA.out j (by omega)
          rw [hd] at D1
          go_wp2_with (go_at_call 49; refine (D1.out _ HB1.out).mono ?_; rintro e w2 ⟨rfl, rfl⟩)
          go_round
          case rel => exact ⟨2, by omega, rfl, HA2.out⟩
          case measure => simp [intOf]
        | false =>
          rw [hd] at D1
          have HXX : Hid ((digB 0 a && digB 1 b && digB 2 c) = false) := by show _ = _; rw [hd]; simp
          go_wp2_with (go_at_call 49; refine (D1.out _ HB1.out).mono ?_; rintro e w2 ⟨rfl, rfl⟩)
          go_ret
          exact ⟨by rw [HXX.out]; rfl, HB1.out⟩
      · cases hd : digB 2 c with
        | true =>
          have HA2 : Hid (∀ j, j < 3 → digB j ([a, b, c].getD j 0) = true) := fun j hj => by
            by_cases e : j = 2
            · subst e; exact hd
            · exact HA.out j (by omega)
          rw [hd] at D2
          go_wp2_with (go_at_call 49; refine (D2.out _ HB1.out).mono ?_; rintro e w2 ⟨rfl, rfl⟩)
          go_round
          case rel => exact ⟨3, by omega, rfl, HA2.out⟩
          case measure => simp [intOf]
        | false =>
          rw [hd] at D2
          have HXX : Hid ((digB 0 a && digB 1 b && digB 2 c) = false) := by show _ = _; rw [hd]; simp
          go_wp2_with (go_at_call 49; refine (D2.out _ HB1.out).mono ?_; rintro e w2 ⟨rfl, rfl⟩)
          go_ret
          exact ⟨by rw [HXX.out]; rfl, HB1.out⟩
      · have HXX : Hid ((digB 0 a && digB 1 b && digB 2 c) = true) := by
          have h0 := HA.out 0 (by decide)
          have h1 := HA.out 1 (by decide)
          have h2 := HA.out 2 (by decide)
          simp only [List.getD_eq_getElem?_getD, List.getElem?_cons_zero, List.getElem?_cons_succ, Option.getD_some] at h0 h1 h2
          show _ = _
          rw [h0, h1, h2]; rfl
        go_wp2
        go_ret
        exact ⟨by rw [HXX.out]; rfl, HB1.out⟩
  · have hcd : isCd n = false := by unfold isCd; rw [decide_eq_false hl]; rfl
    rw [hcd]
    have hlen : (tx (dcW n)).size ≠ 3 := by rw [tx_size]; exact hl
    have hsz : (((tx (dcW n)).size : Int) == 3) = false := by rw [beq_eq_false_iff_ne]; omega
    have hsz2 : (((tx (dcW n)).size : Int) != 3) = true := by rw [bne, hsz]; rfl
    generalize tx (dcW n) = X at *
    clear hl hlen hcd HDG
    go_enter Tryd.func34, Tryd.ntmps34
    go_wp2_with fail
    refine HD.mono ?_
    rintro e w1 ⟨rfl, hB1⟩
    have HB1 : Hid (Below w.heap.size w w1) := hB1
    clear hB1 HD
    go_wp2
    go_ret
    exact ⟨rfl, HB1.out⟩
set_option maxHeartbeats 1000000 in
theorem istext_s (s : ByteArray) (hl : s.size ≤ 140737488355328) (w : World) (ht : Tb w) : Calls Tryd.prog 52 #[.string s] w fun e w' => e = .returned (.bool (txtB s.data.toList)) ∧ w' = w := by
  have HI : Hid (∀ c : UInt8, Calls Tryd.prog 71 #[.int .u8 (c.toNat : Int)] w fun e w' => e = .returned (.bool (txB c)) ∧ w' = w) := fun c => istb_any c w ht.cls
  clear ht
  go_enter Tryd.func52, Tryd.ntmps52
  go_wp2_with fail
  go_loop [3, 6] (fun _ iv => ∃ k : Nat, k ≤ s.size ∧ iv = .int .i64 k ∧ Hid (∀ j (hj : j < k) (h : j < s.size), txB s[j] = true)) (fun _ iv => s.size - (intOf iv).toNat)
  case atStart => exact ⟨0, Nat.zero_le _, rfl, fun j hj => by omega⟩
  case round =>
    obtain ⟨k, hk, rfl, HA⟩ := hrel
    by_cases hlt : k < s.size
    · have hlt' : (k : Int) < (s.size : Int) := by omega
      have HI1 := HI.out s[k]
      cases hd : txB s[k] with
      | true =>
        have HA2 : Hid (∀ j (hj : j < k + 1) (h : j < s.size), txB s[j] = true) := fun j hj h => by
          by_cases e : j = k
          · subst e; exact hd
          · exact HA.out j (by omega) h
        rw [hd] at HI1
        clear HA
        go_wp2_with (go_at_call 71; refine HI1.mono ?_; rintro e w2 ⟨rfl, rfl⟩)
        go_round
        case rel => exact ⟨k + 1, hlt, by go_num, HA2.out⟩
        case measure => simp [intOf]; omega
      | false =>
        have HXX : Hid (txtB s.data.toList = false) := by
          show _ = _
          unfold txtB
          rw [Bool.eq_false_iff]
          intro h
          rw [List.all_eq_true] at h
          have := h (s.data.toList[k]'(by rw [len_list]; exact hlt)) (List.getElem_mem _)
          rw [show txB (s.data.toList[k]'(by rw [len_list]; exact hlt)) = txB s[k] from rfl, hd] at this
          cases this
        rw [hd] at HI1
        clear HA
        go_wp2_with (go_at_call 71; refine HI1.mono ?_; rintro e w2 ⟨rfl, rfl⟩)
        go_ret
        exact ⟨by rw [HXX.out]; rfl, rfl⟩
    · have hlt' : ¬ (k : Int) < (s.size : Int) := by omega
      have HXX : Hid (txtB s.data.toList = true) := by
        show _ = _
        unfold txtB
        rw [List.all_eq_true]
        intro x hx
        obtain ⟨j, hj, rfl⟩ := List.mem_iff_getElem.1 hx
        rw [len_list] at hj
        exact HA.out j (by omega) hj
      clear HA
      go_wp2
      go_ret
      exact ⟨by rw [HXX.out]; rfl, rfl⟩
theorem istext_any (l : List UInt8) (hl : l.length ≤ 140737488355328) (w : World) (ht : Tb w) : Calls Tryd.prog 52 #[.string (tx l)] w fun e w' => e = .returned (.bool (txtB l)) ∧ w' = w := by
  have := istext_s (tx l) (by rw [tx_size]; exact hl) w ht
  rwa [tx_list] at this
end Go.Proofs.YtbfgefgadplcjaaDoor
