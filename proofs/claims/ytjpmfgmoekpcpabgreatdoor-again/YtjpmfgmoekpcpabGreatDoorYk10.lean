/-
  The document's keyword, till and value.
-/
import Derived.Test.YtjpmfgmoekpcpabGreatDoorRs10
import Derived.Test.YtjpmfgmoekpcpabGreatDoorGrown
import Derived.Test.YtjpmfgmoekpcpabGreatDoorPk10
import Derived.Test.YtjpmfgmoekpcpabGreatDoorROne
import Derived.Lib.ConvBytes
namespace Go.Proofs.YtjpmfgmoekpcpabGreatDoor
open Go.RowKit

set_option maxHeartbeats 1000000 in
set_option maxRecDepth 100000 in
theorem ykw_any (s : ByteArray) (f : Nat) (hf : f ≤ s.size) (hs : s.size ≤ 1125899906842624) (w : World) :
    Calls Tryz.prog 34 #[.string s, .int .i64 (f : Nat)] w fun e w' => e = .returned (.int .i64 (kwN (s.data.toList.drop f) : Nat)) ∧ w' = w := by
  have HSP := rspan_any 10 f s w (by unfold maxLen; omega)
  rw [spanI_nat] at HSP
  by_cases hlt : f < s.size
  · have hfl : f < s.data.toList.length := by rw [len_list]; exact hlt
    have HI := ris_is 3 s[f] w
    have hk := kwN_at s.data.toList f hfl
    have hnl : ¬ (s.size : Int) ≤ (f : Int) := by omega
    cases h3 : isB 3 (s[f].toNat : Int) with
    | true =>
      rw [if_pos (show isB 3 (s.data.toList[f].toNat : Int) = true from h3)] at hk
      rw [hk]
      rw [h3] at HI
      have HI' : Hid (Calls Tryz.prog 44 #[.int .i64 3, .int .u8 (s[f].toNat : Int)] w fun e w' => e = .returned (.bool true) ∧ w' = w) := HI
      have HS' : Hid (Calls Tryz.prog 83 #[.int .i64 10, .string s, .int .i64 (f : Int)] w fun e w' => e = .returned (.int .i64 ((f : Int) + ((badN 10 (s.data.toList.drop f) : Nat) : Int))) ∧ w' = w) := HSP
      have hbl := badN_le 10 (s.data.toList.drop f)
      rw [List.length_drop, len_list] at hbl
      generalize badN 10 (s.data.toList.drop f) = m at HS' hbl ⊢
      clear HI HSP h3 hk
      go_enter Tryz.func34, Tryz.ntmps34
      go_wp2_with (first | (go_at_call 44; refine HI'.out.mono ?_; rintro e wd ⟨rfl, rfl⟩) | (go_at_call 83; refine HS'.out.mono ?_; rintro e wd ⟨rfl, rfl⟩))
      go_ret
      exact ⟨ret_i64 (by omega), rfl⟩
    | false =>
      rw [if_neg (show ¬ isB 3 (s.data.toList[f].toNat : Int) = true from by rw [show isB 3 (s.data.toList[f].toNat : Int) = false from h3]; simp)] at hk
      rw [hk]
      rw [h3] at HI
      have HI' : Hid (Calls Tryz.prog 44 #[.int .i64 3, .int .u8 (s[f].toNat : Int)] w fun e w' => e = .returned (.bool false) ∧ w' = w) := HI
      clear HI HSP h3 hk
      go_enter Tryz.func34, Tryz.ntmps34
      go_wp2_with (first | (go_at_call 44; refine HI'.out.mono ?_; rintro e wd ⟨rfl, rfl⟩))
      go_ret
      exact ⟨rfl, rfl⟩
  · have hnl : (s.size : Int) ≤ (f : Int) := by omega
    have hk : kwN (s.data.toList.drop f) = 0 := by
      rw [List.drop_eq_nil_of_le (by rw [len_list]; omega)]
      rfl
    rw [hk]
    clear HSP hk
    go_enter Tryz.func34, Tryz.ntmps34
    go_wp2
    go_ret
    exact ⟨rfl, rfl⟩

set_option maxHeartbeats 1000000 in
set_option maxRecDepth 100000 in
theorem ytill_any (s : ByteArray) (f : Nat) (b : UInt8) (hf : f ≤ s.size) (hs : s.size ≤ 1125899906842624) (w : World) :
    Calls Tryz.prog 39 #[.string s, .int .i64 (f : Nat), .int .u8 (b.toNat : Int)] w fun e w' => e = .returned (.int .i64 (f + (tilB b (s.data.toList.drop f)).length : Nat)) ∧ w' = w := by
  go_enter Tryz.func39, Tryz.ntmps39
  go_wp2
  go_loop [1] (fun i => ∃ k : Nat, k ≤ s.size ∧ i = .int .i64 k ∧ Hid (f + (tilB b (s.data.toList.drop f)).length = k + (tilB b (s.data.toList.drop k)).length)) (fun i => s.size - (intOf i).toNat)
  case atStart => exact ⟨f, hf, rfl, rfl⟩
  case round =>
    obtain ⟨k, hk, rfl, HH⟩ := hrel
    by_cases hlt : k < s.size
    · have HD : Hid (s.data.toList.drop k = s[k] :: s.data.toList.drop (k + 1)) := List.drop_eq_getElem_cons (by rw [len_list]; exact hlt)
      obtain ⟨_, hne⟩ := beq_u8 s[k] b (b.toNat : Int) rfl
      by_cases hb : s[k] = b
      · rw [decide_eq_true hb] at hne
        have HE : Hid (f + (tilB b (s.data.toList.drop f)).length = k) := by
          show _ = _
          rw [HH.out, HD.out, hb, tilB_eq]
          rfl
        clear HH HD hb
        go_wp2
        go_ret
        exact ⟨ret_i64 (a := (k : Int)) (by have := HE.out; omega), rfl⟩
      · rw [decide_eq_false hb] at hne
        have HE : Hid (f + (tilB b (s.data.toList.drop f)).length = k + 1 + (tilB b (s.data.toList.drop (k + 1))).length) := by
          show _ = _
          rw [HH.out, HD.out, tilB_ne hb, List.length_cons]
          omega
        clear HH HD hb
        go_wp2
        go_round
        case rel => exact ⟨k + 1, by omega, by go_num, HE⟩
        case measure => simp [intOf]; omega
    · have HE : Hid (f + (tilB b (s.data.toList.drop f)).length = k) := by
        show _ = _
        rw [HH.out, List.drop_eq_nil_of_le (by rw [len_list]; omega)]
        rfl
      clear HH
      go_wp2
      go_ret
      exact ⟨ret_i64 (a := (k : Int)) (by have := HE.out; omega), rfl⟩

theorem vl_low_fin : ∀ b : Fin 256, (UInt8.ofNat b.val).toNat < 128 → vlB false (UInt8.ofNat b.val) = isB 8 ((UInt8.ofNat b.val).toNat : Int) ∧ vlB true (UInt8.ofNat b.val) = isB 8 ((UInt8.ofNat b.val).toNat : Int) := by decide +kernel
theorem vl_high_fin : ∀ b : Fin 256, 128 ≤ (UInt8.ofNat b.val).toNat → vlB false (UInt8.ofNat b.val) = false ∧ vlB true (UInt8.ofNat b.val) = true := by decide +kernel
theorem vl_low (c : UInt8) (wide : Bool) (h : c.toNat < 128) : vlB wide c = isB 8 (c.toNat : Int) := by
  have := vl_low_fin ⟨c.toNat, c.toNat_lt⟩
  simp only [show UInt8.ofNat c.toNat = c by simp] at this
  cases wide
  · exact (this h).1
  · exact (this h).2
theorem vl_high (c : UInt8) (wide : Bool) (h : 128 ≤ c.toNat) : vlB wide c = wide := by
  have := vl_high_fin ⟨c.toNat, c.toNat_lt⟩
  simp only [show UInt8.ofNat c.toNat = c by simp] at this
  cases wide
  · exact (this h).1
  · exact (this h).2
theorem conv_b10 (w : World) (s : ByteArray) : ∃ c w', (convert 9 57 (.string s)).run Tryz.prog w = .ok (.slice (some ⟨w.heap.size, 0, none⟩) s.size c) w' ∧ RowL s.data.toList w.heap.size 0 w' ∧ s.size ≤ c ∧ Below w.heap.size w w' ∧ w.heap.size < w'.heap.size := by
  refine ⟨_, _, Lib.run_convert_string_bytes w 9 57 5 s Tryz.underlying9 Tryz.underlying57 Tryz.underlying5, fun j hj => ?_, grownCap_ge _ _ _ _, ?_, ?_⟩
  · rw [Nat.zero_add, Lib.bytesWorld_cell w 5 s j (by rw [len_list] at hj; exact hj)]
    congr 3
    rw [List.getD_eq_getElem?_getD, List.getElem?_eq_getElem hj]
    rfl
  · exact ⟨rfl, rfl, rfl, by rw [Lib.bytesWorld_size]; omega, fun k hk => Lib.bytesWorld_at_old w 5 s k hk⟩
  · rw [Lib.bytesWorld_size]
    omega
/-- What value tells. -/
def valI (wide : Bool) (l : List UInt8) : Int := if l.length = 0 ∨ badV wide l < l.length then (badV wide l : Int) else -1
theorem valI_here {wide : Bool} {l : List UInt8} {k : Nat} (h : badV wide l = k) (hk : k < l.length) : valI wide l = k := by
  unfold valI
  rw [if_pos (Or.inr (by omega)), h]

set_option maxHeartbeats 4000000 in
set_option maxRecDepth 100000 in
theorem yval_any (s : ByteArray) (wide : Bool) (hs : s.size ≤ 1125899906842624) (w : World) :
    Calls Tryz.prog 36 #[.string s, .bool wide] w fun e w' => e = .returned (.int .i64 (valI wide s.data.toList)) ∧ Below w.heap.size w w' := by
  have he := s_isEmpty s
  by_cases h0 : s.data.toList.length = 0
  · rw [decide_eq_true h0] at he
    have hv : valI wide s.data.toList = 0 := by
      have : s.data.toList = [] := List.eq_nil_of_length_eq_zero h0
      rw [this]
      rfl
    rw [hv]
    clear hv h0
    go_enter Tryz.func36, Tryz.ntmps36
    go_wp2
    go_ret
    exact ⟨rfl, Below.refl _ _⟩
  · rw [decide_eq_false h0] at he
    obtain ⟨c, w2, hconv, hrow, hc1, hb2, hz2⟩ := conv_b10 w s
    have HBT : Hid (Bts (some ⟨w.heap.size, 0, none⟩) s.data.toList w2) := .inr ⟨w.heap.size, 0, rfl, by omega, hrow⟩
    have HD : Hid (Calls Tryz.prog 84 #[.slice (some ⟨w.heap.size, 0, none⟩) s.size c] w2 fun e w' => e = .returned (.int .i64 (badU s.data.toList)) ∧ Below w.heap.size w w') := by
      have := dbad_any (some ⟨w.heap.size, 0, none⟩) s.data.toList c w2 HBT.out (by rw [len_list]; omega) (by rw [len_list]; omega)
      rw [len_list] at this
      show Calls _ _ _ _ _
      refine this.mono ?_
      rintro e w' ⟨rfl, hb⟩
      exact ⟨rfl, hb2.trans (hb.mono hb2.size)⟩
    have HI : Hid (∀ (b : UInt8), Calls Tryz.prog 44 #[.int .i64 8, .int .u8 (b.toNat : Int)] w fun e w' => e = .returned (.bool (isB 8 (b.toNat : Int))) ∧ w' = w) := fun b => ris_is 8 b w
    clear hrow hb2 hz2 HBT hc1
    go_enter Tryz.func36, Tryz.ntmps36
    go_wp2
    go_loop [5] (fun i => ∃ k : Nat, k ≤ s.size ∧ i = .int .i64 k ∧ Hid (∀ j (hj : j < k) (h : j < s.size), vlB wide s[j] = true)) (fun i => s.size - (intOf i).toNat)
    case atStart => exact ⟨0, Nat.zero_le _, rfl, fun j hj => by omega⟩
    case round =>
      obtain ⟨k, hk, rfl, HA⟩ := hrel
      by_cases hlt : k < s.size
      · have HON : Hid (vlB wide s[k] = true → ∀ j (hj : j < k + 1) (h : j < s.size), vlB wide s[j] = true) := fun hv j hj h => by
          by_cases e : j = k
          · subst e; exact hv
          · exact HA.out j (by omega) h
        have HNO : Hid (vlB wide s[k] = false → valI wide s.data.toList = k) := fun hv => valI_here (badV_here wide _ k (by rw [len_list]; exact hlt) (fun j hj => HA.out j hj (by omega)) hv) (by rw [len_list]; exact hlt)
        by_cases h128 : s[k].toNat < 128
        · have hlo := vl_low s[k] wide h128
          have b1 : (s[k].toNat : Int) < 128 := by omega
          have b2 : ¬ (128 : Int) ≤ (s[k].toNat : Int) := by omega
          cases h8 : isB 8 (s[k].toNat : Int) with
          | true =>
            have HA2 : Hid (∀ j (hj : j < k + 1) (h : j < s.size), vlB wide s[j] = true) := HON.out (by rw [hlo, h8])
            clear HON HNO HA hlo HD hconv
            go_wp2_with (go_at_call 44; refine (HI.out _).mono ?_; rintro e wd ⟨rfl, rfl⟩)
            go_round
            case rel => exact ⟨k + 1, by omega, by go_num, HA2⟩
            case measure => simp [intOf]; omega
          | false =>
            have HX : Hid (valI wide s.data.toList = k) := HNO.out (by rw [hlo, h8])
            clear HON HNO HA hlo HD hconv
            go_wp2_with (go_at_call 44; refine (HI.out _).mono ?_; rintro e wd ⟨rfl, rfl⟩)
            go_ret
            exact ⟨by rw [HX.out]; rfl, Below.refl _ _⟩
        · have hlo := vl_high s[k] wide (by omega)
          have b1 : ¬ (s[k].toNat : Int) < 128 := by omega
          have b2 : (128 : Int) ≤ (s[k].toNat : Int) := by omega
          cases wide with
          | true =>
            have HA2 : Hid (∀ j (hj : j < k + 1) (h : j < s.size), vlB true s[j] = true) := HON.out hlo
            clear HON HNO HA hlo HD hconv
            go_wp2_with (go_at_call 44; refine (HI.out _).mono ?_; rintro e wd ⟨rfl, rfl⟩)
            go_round
            case rel => exact ⟨k + 1, by omega, by go_num, HA2⟩
            case measure => simp [intOf]; omega
          | false =>
            have HX : Hid (valI false s.data.toList = k) := HNO.out hlo
            clear HON HNO HA hlo HD hconv
            go_wp2_with (go_at_call 44; refine (HI.out _).mono ?_; rintro e wd ⟨rfl, rfl⟩)
            go_ret
            exact ⟨by rw [HX.out]; rfl, Below.refl _ _⟩
      · have hV : badV wide s.data.toList = badU s.data.toList := badV_whole wide _ (fun j hj => HA.out j (by rw [len_list] at hj; omega) (by rw [len_list] at hj; omega))
        have hle := badU_le s.data.toList
        rw [len_list] at hle h0
        by_cases hbu : badU s.data.toList < s.size
        · have HX : Hid (valI wide s.data.toList = badU s.data.toList) := valI_here hV (by rw [len_list]; exact hbu)
          generalize badU s.data.toList = m at HD HX hbu
          clear HA hV hle h0
          go_wp2_with (go_at_call 84; refine HD.out.mono ?_; rintro e w3 ⟨rfl, hb3⟩)
          go_ret
          exact ⟨by rw [HX.out]; rfl, hb3⟩
        · have HX : Hid (valI wide s.data.toList = -1) := by
            show _ = _
            unfold valI
            rw [hV, if_neg (by rw [len_list]; omega)]
          generalize badU s.data.toList = m at HD hbu
          clear HA hV hle h0
          go_wp2_with (go_at_call 84; refine HD.out.mono ?_; rintro e w3 ⟨rfl, hb3⟩)
          go_ret
          exact ⟨by rw [HX.out]; rfl, hb3⟩
end Go.Proofs.YtjpmfgmoekpcpabGreatDoor
