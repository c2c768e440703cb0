/-
  The program's smaller functions on parameters: keywordEnd, badValue, isKeyword, isValue; strings.Cut at one byte.
-/
import Derived.Test.YtjpmfgmoekpcpabGreatDoorSpan4
import Derived.Test.YtjpmfgmoekpcpabGreatDoorUnhex4
import Derived.Test.YtjpmfgmoekpcpabGreatDoorPmP
import Derived.Test.YtjpmfgmoekpcpabGreatDoorChk2
import Derived.Test.YtjpmfgmoekpcpabGreatDoorShi
import Derived.Deep.QuietTactic
import Derived.BigQuiet
namespace Go.Proofs.YtjpmfgmoekpcpabGreatDoor
open Go.RowKit

theorem kwN_at (l : List UInt8) (f : Nat) (h : f < l.length) : kwN (l.drop f) = if isB 3 (l[f].toNat : Int) = true then badN 10 (l.drop f) else 0 := by
  rw [List.drop_eq_getElem_cons h, kwN]
set_option maxHeartbeats 400000 in
theorem kend_any (s : ByteArray) (f : Nat) (hf : f ≤ s.size) (hs : s.size ≤ 1125899906842624) (w : World) (ht : Table w) :
    Calls Tryz.prog 80 #[.string s, .int .i64 (f : Nat)] w fun e w' => e = .returned (.int .i64 (f + kwN (s.data.toList.drop f) : Nat)) ∧ w' = w := by
  have h3 := span_anyT 3 f s w ht (by unfold maxLen; omega)
  have h10 := span_anyT 10 f s w ht (by unfold maxLen; omega)
  rw [spanI_nat] at h3 h10
  by_cases hlt : ∃ h : f < s.size, isB 3 (s[f].toNat : Int) = true
  · obtain ⟨hl, h⟩ := hlt
    have hfl : f < s.data.toList.length := by rw [len_list]; exact hl
    have e1 : badN 3 (s.data.toList.drop f) = badN 3 (s.data.toList.drop (f + 1)) + 1 := badN_yes 3 _ f hfl h
    have e2 : kwN (s.data.toList.drop f) = badN 10 (s.data.toList.drop f) := by rw [kwN_at _ _ hfl, if_pos (show isB 3 (s.data.toList[f].toNat : Int) = true from h)]
    rw [e1] at h3
    rw [e2]
    have H3 : Hid (Calls Tryz.prog 38 #[.int .i64 3, .string s, .int .i64 (f : Int)] w fun e w' => e = .returned (.int .i64 ((f : Int) + ((badN 3 (s.data.toList.drop (f + 1)) + 1 : Nat) : Int))) ∧ w' = w) := h3
    have H10 : Hid (Calls Tryz.prog 38 #[.int .i64 10, .string s, .int .i64 (f : Int)] w fun e w' => e = .returned (.int .i64 ((f : Int) + ((badN 10 (s.data.toList.drop f) : Nat) : Int))) ∧ w' = w) := h10
    generalize badN 3 (s.data.toList.drop (f + 1)) = n at H3
    generalize badN 10 (s.data.toList.drop f) = m at H10 ⊢
    have hne : ((f : Int) + ((n + 1 : Nat) : Int) == (f : Int)) = false := by rw [beq_eq_false_iff_ne]; omega
    clear h3 h10 e1 e2
    go_enter Tryz.func80, Tryz.ntmps80
    go_wp2_with fail
    refine H3.out.mono ?_
    rintro e w' ⟨rfl, rfl⟩
    go_wp2_with fail
    refine H10.out.mono ?_
    rintro e w' ⟨rfl, rfl⟩
    go_wp2
    go_ret
    exact ⟨by push_cast; rfl, rfl⟩
  · have e1 : badN 3 (s.data.toList.drop f) = 0 := by
      by_cases hl : f < s.size
      · exact badN_no 3 _ f (by rw [len_list]; exact hl) (by cases h : isB 3 (s[f].toNat : Int) with
          | false => exact h
          | true => exact absurd ⟨hl, h⟩ hlt)
      · exact badN_end 3 _ f (by rw [len_list]; omega)
    have e2 : kwN (s.data.toList.drop f) = 0 := by
      by_cases hl : f < s.size
      · rw [kwN_at _ _ (by rw [len_list]; exact hl), if_neg (show ¬ isB 3 (s.data.toList[f].toNat : Int) = true from fun h => hlt ⟨hl, h⟩)]
      · rw [List.drop_eq_nil_of_le (by rw [len_list]; omega)]
        rfl
    rw [e1] at h3
    rw [e2]
    have H3 : Hid (Calls Tryz.prog 38 #[.int .i64 3, .string s, .int .i64 (f : Int)] w fun e w' => e = .returned (.int .i64 ((f : Int) + ((0 : Nat) : Int))) ∧ w' = w) := h3
    have hne : ((f : Int) + ((0 : Nat) : Int) == (f : Int)) = true := by simp
    clear h3 h10 e1 e2
    go_enter Tryz.func80, Tryz.ntmps80
    go_wp2_with fail
    refine H3.out.mono ?_
    rintro e w' ⟨rfl, rfl⟩
    go_wp2
    go_ret
    exact ⟨rfl, rfl⟩

theorem badV_here (wide : Bool) : ∀ (l : List UInt8) (k : Nat) (h : k < l.length), (∀ j (hj : j < k), vlB wide (l[j]'(by omega)) = true) → vlB wide l[k] = false → badV wide l = k := by
  have tk : ∀ (l : List UInt8) (k : Nat) (h : k < l.length), (∀ j (hj : j < k), vlB wide (l[j]'(by omega)) = true) → vlB wide l[k] = false → (l.takeWhile (vlB wide)).length = k := by
    intro l
    induction l with
    | nil => intro k h; simp at h
    | cons b r ih =>
      intro k h ha hn
      cases k with
      | zero => rw [List.takeWhile_cons, if_neg (by simpa using hn)]; rfl
      | succ k =>
        have hb : vlB wide b = true := ha 0 (by omega)
        rw [List.takeWhile_cons, if_pos hb, List.length_cons, ih k (by simpa using h) (fun j hj => by simpa using ha (j + 1) (by omega)) (by simpa using hn)]
  intro l k h ha hn
  have e := tk l k h ha hn
  unfold badV
  rw [e, if_pos h]
theorem badV_whole (wide : Bool) (l : List UInt8) (h : ∀ j (hj : j < l.length), vlB wide l[j] = true) : badV wide l = badU l := by
  have tk : ∀ l : List UInt8, (∀ j (hj : j < l.length), vlB wide l[j] = true) → l.takeWhile (vlB wide) = l := by
    intro l
    induction l with
    | nil => intro _; rfl
    | cons b r ih =>
      intro ha
      have hb : vlB wide b = true := ha 0 (by simp)
      rw [List.takeWhile_cons, if_pos hb, ih (fun j hj => ha (j + 1) (by simpa using hj))]
  unfold badV
  rw [tk l h, if_neg (Nat.lt_irrefl _)]

set_option maxHeartbeats 2000000 in
set_option maxRecDepth 100000 in
theorem bv_any (s : ByteArray) (wide : Bool) (hs : s.size ≤ 1125899906842624) (w : World) (ht : Table w) (hf : Fst w) :
    Calls Tryz.prog 81 #[.string s, .bool wide] w fun e w' => e = .returned (.int .i64 (badV wide s.data.toList : Nat)) ∧ Below w.heap.size w w' := by
  have HU := ubs_any s w hf (by omega)
  have HUB : Hid (Calls Tryz.prog 112 #[.string s] w fun e w' => e = .returned (.int .i64 (badU s.data.toList)) ∧ Below w.heap.size w w') := HU
  have HI : Hid (∀ (c : Int) (b : UInt8), Calls Tryz.prog 18 #[.int .i64 c, .int .u8 (b.toNat : Int)] w fun e w' => e = .returned (.bool (isB c (b.toNat : Int))) ∧ w' = w) := fun c b => is_any c _ w ht
  clear HU ht hf
  go_enter Tryz.func81, Tryz.ntmps81
  go_wp2
  go_loop [8] (fun i => ∃ k : Nat, k ≤ s.size ∧ i = .int .i64 k ∧ Hid (∀ j (hj : j < k) (h : j < s.size), vlB wide s[j] = true)) (fun i => s.size - (intOf i).toNat)
  case atStart => exact ⟨0, Nat.zero_le _, rfl, fun j hj => by omega⟩
  case round =>
    obtain ⟨k, hk, rfl, HA⟩ := hrel
    by_cases hlt : k < s.size
    · have HON : Hid (vlB wide s[k] = true → ∀ j (hj : j < k + 1) (h : j < s.size), vlB wide s[j] = true) := fun hv j hj h => by
        by_cases e : j = k
        · subst e; exact hv
        · exact HA.out j (by omega) h
      have HNO : Hid (vlB wide s[k] = false → badV wide s.data.toList = k) := fun hv => badV_here wide _ k (by rw [len_list]; exact hlt) (fun j hj => HA.out j hj (by omega)) hv
      cases h8 : isB 8 (s[k].toNat : Int) with
      | true =>
        have HA2 : Hid (∀ j (hj : j < k + 1) (h : j < s.size), vlB wide s[j] = true) := HON.out (by unfold vlB; rw [h8]; rfl)
        clear HON HNO HA
        go_wp2_with (go_at_call 18; refine (HI.out _ _).mono ?_; rintro e wd ⟨rfl, rfl⟩)
        go_round
        case rel => exact ⟨k + 1, by omega, by go_num, HA2⟩
        case measure => simp [intOf]; omega
      | false =>
        cases wide with
        | false =>
          have HX : Hid (badV false s.data.toList = k) := HNO.out (by unfold vlB; rw [h8]; rfl)
          clear HON HNO HA
          go_wp2_with (go_at_call 18; refine (HI.out _ _).mono ?_; rintro e wd ⟨rfl, rfl⟩)
          go_ret
          exact ⟨by rw [HX.out]; rfl, Below.refl _ _⟩
        | true =>
          cases h14 : isB 14 (s[k].toNat : Int) with
          | true =>
            have HA2 : Hid (∀ j (hj : j < k + 1) (h : j < s.size), vlB true s[j] = true) := HON.out (by unfold vlB; rw [h8, h14]; rfl)
            clear HON HNO HA
            go_wp2_with (go_at_call 18; refine (HI.out _ _).mono ?_; rintro e wd ⟨rfl, rfl⟩)
            go_round
            case rel => exact ⟨k + 1, by omega, by go_num, HA2⟩
            case measure => simp [intOf]; omega
          | false =>
            have HX : Hid (badV true s.data.toList = k) := HNO.out (by unfold vlB; rw [h8, h14]; rfl)
            clear HON HNO HA
            go_wp2_with (go_at_call 18; refine (HI.out _ _).mono ?_; rintro e wd ⟨rfl, rfl⟩)
            go_ret
            exact ⟨by rw [HX.out]; rfl, Below.refl _ _⟩
    · have HX : Hid (badV wide s.data.toList = badU s.data.toList) := badV_whole wide _ (fun j hj => HA.out j (by rw [len_list] at hj; omega) (by rw [len_list] at hj; omega))
      clear HA
      go_wp2_with (first | (go_at_call 112; refine HUB.out.mono ?_; rintro e w2 ⟨rfl, hb2⟩))
      go_ret
      exact ⟨by rw [HX.out]; rfl, hb2⟩

theorem s_empty (s : ByteArray) : (s.toList == ([] : List UInt8)) = decide (s.data.toList.length = 0) := by
  rw [ByteArray.toList_eq]
  cases s.data.toList <;> rfl
theorem s_isEmpty (s : ByteArray) : s.toList.isEmpty = decide (s.data.toList.length = 0) := by
  rw [ByteArray.toList_eq]
  cases s.data.toList <;> rfl
set_option maxHeartbeats 1000000 in
theorem isk_any (s : ByteArray) (hs : s.size ≤ 1125899906842624) (w : World) (ht : Table w) :
    Calls Tryz.prog 29 #[.string s] w fun e w' => e = .returned (.bool (decide (s.data.toList.length ≠ 0) && decide (kwN s.data.toList = s.data.toList.length))) ∧ w' = w := by
  have HK := kend_any s 0 (Nat.zero_le _) hs w ht
  rw [List.drop_zero, Nat.zero_add] at HK
  have HKE : Hid (Calls Tryz.prog 80 #[.string s, .int .i64 0] w fun e w' => e = .returned (.int .i64 (kwN s.data.toList : Nat)) ∧ w' = w) := HK
  clear HK ht
  have he := s_isEmpty s
  by_cases h0 : s.data.toList.length = 0
  · rw [decide_eq_true h0] at he
    have hr : (decide (s.data.toList.length ≠ 0) && decide (kwN s.data.toList = s.data.toList.length)) = false := by simp [h0]
    rw [hr]
    clear hr h0
    go_enter Tryz.func29, Tryz.ntmps29
    go_wp2
    go_ret
    exact ⟨rfl, rfl⟩
  · rw [decide_eq_false h0] at he
    have hr : (decide (s.data.toList.length ≠ 0) && decide (kwN s.data.toList = s.data.toList.length)) = (((kwN s.data.toList : Nat) : Int) == (s.size : Int)) := by
      rw [len_list, Bool.eq_iff_iff]
      rw [len_list] at h0
      simp [h0]
      omega
    rw [hr]
    generalize kwN s.data.toList = n at HKE ⊢
    clear hr h0
    go_enter Tryz.func29, Tryz.ntmps29
    go_wp2_with (go_at_call 80; refine HKE.out.mono ?_; rintro e wd ⟨rfl, rfl⟩)
    go_ret
    exact ⟨rfl, rfl⟩
set_option maxHeartbeats 1000000 in
theorem isv_any (s : ByteArray) (hs : s.size ≤ 1125899906842624) (w : World) (ht : Table w) (hf : Fst w) :
    Calls Tryz.prog 31 #[.string s] w fun e w' => e = .returned (.bool (decide (s.data.toList.length ≠ 0) && decide (badV true s.data.toList = s.data.toList.length))) ∧ Below w.heap.size w w' := by
  have HK := bv_any s true hs w ht hf
  have HKE : Hid (Calls Tryz.prog 81 #[.string s, .bool true] w fun e w' => e = .returned (.int .i64 (badV true s.data.toList : Nat)) ∧ Below w.heap.size w w') := HK
  clear HK ht hf
  have he := s_isEmpty s
  by_cases h0 : s.data.toList.length = 0
  · rw [decide_eq_true h0] at he
    have hr : (decide (s.data.toList.length ≠ 0) && decide (badV true s.data.toList = s.data.toList.length)) = false := by simp [h0]
    rw [hr]
    clear hr h0
    go_enter Tryz.func31, Tryz.ntmps31
    go_wp2
    go_ret
    exact ⟨rfl, Below.refl _ _⟩
  · rw [decide_eq_false h0] at he
    have hr : (decide (s.data.toList.length ≠ 0) && decide (badV true s.data.toList = s.data.toList.length)) = (((badV true s.data.toList : Nat) : Int) == (s.size : Int)) := by
      rw [len_list, Bool.eq_iff_iff]
      rw [len_list] at h0
      simp [h0]
      omega
    rw [hr]
    generalize badV true s.data.toList = n at HKE ⊢
    clear hr h0
    go_enter Tryz.func31, Tryz.ntmps31
    go_wp2_with (go_at_call 81; refine HKE.out.mono ?_; rintro e w2 ⟨rfl, hb2⟩)
    go_ret
    exact ⟨rfl, hb2⟩

theorem tilB_ne {b c : UInt8} (h : b ≠ c) (l : List UInt8) : tilB c (b :: l) = b :: tilB c l := by unfold tilB; rw [List.takeWhile_cons, if_pos (by simpa using h)]
theorem tilB_eq (c : UInt8) (l : List UInt8) : tilB c (c :: l) = [] := by unfold tilB; rw [List.takeWhile_cons, if_neg (by simp)]
theorem idx_til (c : UInt8) : ∀ l : List UInt8, Lib.indexByte l c = if (tilB c l).length < l.length then ((tilB c l).length : Int) else -1
  | [] => rfl
  | b :: l => by
    have ih := idx_til c l
    have hl := tilB_len c l
    by_cases hb : b = c
    · subst hb
      rw [tilB_eq, Lib.indexByte]
      simp
    · have h1 : (b == c) = false := by simpa using hb
      rw [tilB_ne hb, Lib.indexByte, h1, ih]
      simp only [List.length_cons, Bool.false_eq_true, if_false]
      by_cases hlt : (tilB c l).length < l.length
      · rw [if_pos hlt, if_neg (by rw [beq_iff_eq]; omega), if_pos (by omega)]
        push_cast
        rfl
      · rw [if_neg hlt, if_pos (by decide), if_neg (by omega)]
theorem til_all (c : UInt8) (l : List UInt8) (h : ¬ (tilB c l).length < l.length) : tilB c l = l := by
  rw [tilB_take]
  exact List.take_of_length_le (by omega)
set_option maxHeartbeats 1000000 in
theorem cut1_any (s : ByteArray) (c : UInt8) (hs : s.size ≤ 1125899906842624) (w : World) :
    Calls Tryz.prog 85 #[.string s, .string ⟨#[c]⟩] w fun e w' => e = .returned (.tuple #[.string (tx (tilB c s.data.toList)), .string (tx (s.data.toList.drop ((tilB c s.data.toList).length + 1))), .bool (decide ((tilB c s.data.toList).length < s.data.toList.length))]) ∧ Below w.heap.size w w' := by
  have HC : Hid (Calls Tryz.prog 116 #[.string s, .string ⟨#[c]⟩] w fun e w' => e = .returned (.tuple #[.string (tx (tilB c s.data.toList)), .string (tx (s.data.toList.drop ((tilB c s.data.toList).length + 1))), .bool (decide ((tilB c s.data.toList).length < s.data.toList.length))]) ∧ Below w.heap.size w w') := by
    show Calls _ _ _ _ _
    have HX := Tryz.stringslite_Index_one s c w
    rw [idx_til] at HX
    by_cases hlt : (tilB c s.data.toList).length < s.data.toList.length
    · rw [if_pos hlt] at HX
      have e1 : tx (tilB c s.data.toList) = s.extract 0 (tilB c s.data.toList).length := by rw [tx_ext, List.drop_zero, ← tilB_take]
      have e2 : tx (s.data.toList.drop ((tilB c s.data.toList).length + 1)) = s.extract ((tilB c s.data.toList).length + 1) s.size := by rw [tx_ext, List.take_of_length_le (by rw [len_list]; exact Nat.le_refl _)]
      rw [e1, e2, decide_eq_true hlt]
      rw [len_list] at hlt
      have HXX : Hid (Calls Tryz.prog 128 #[.string s, .string ⟨#[c]⟩] w fun e w' => e = .returned (.int .i64 ((tilB c s.data.toList).length : Int)) ∧ w' = w) := HX
      generalize (tilB c s.data.toList).length = n at HXX hlt ⊢
      clear HX e1 e2
      have b1 : (0 : Int) ≤ (n : Int) := by omega
      have b2 : (n : Int) ≤ (s.size : Int) := by omega
      have b3 : (0 : Int) ≤ (n : Int) + 1 := by omega
      have b4 : (n : Int) + 1 ≤ (s.size : Int) := by omega
      have q1 : IntKind.i64.wrap ((n : Int) + 1) = (n : Int) + 1 := by rw [IntKind.wrap_i64]; omega
      have hsz : (⟨#[c]⟩ : ByteArray).size = 1 := rfl
      go_enter Tryz.func116, Tryz.ntmps116
      go_wp2_with (go_at_call 128; refine HXX.out.mono ?_; rintro e wd ⟨rfl, rfl⟩)
      go_quiet (fail)
      go_wp2
      exact bodyPost_ret (v := .tuple #[.string (s.extract 0 n), .string (s.extract (n + 1) s.size), .bool true]) (by simp [results, Tryz.results116, go_sem]) rfl ⟨rfl, below_drN _ _⟩
    · rw [if_neg hlt] at HX
      rw [decide_eq_false hlt, til_all c _ hlt, tx_back, List.drop_eq_nil_of_le (by omega)]
      have HXX : Hid (Calls Tryz.prog 128 #[.string s, .string ⟨#[c]⟩] w fun e w' => e = .returned (.int .i64 (-1)) ∧ w' = w) := HX
      clear HX hlt
      go_enter Tryz.func116, Tryz.ntmps116
      go_wp2_with (go_at_call 128; refine HXX.out.mono ?_; rintro e wd ⟨rfl, rfl⟩)
      exact bodyPost_ret (v := .tuple #[.string s, .string ⟨#[]⟩, .bool false]) (by simp [results, Tryz.results116, go_sem]) rfl ⟨rfl, Below.refl _ _⟩
  generalize tx (tilB c s.data.toList) = A at HC ⊢
  generalize tx (s.data.toList.drop ((tilB c s.data.toList).length + 1)) = B at HC ⊢
  generalize decide ((tilB c s.data.toList).length < s.data.toList.length) = b at HC ⊢
  go_enter Tryz.func85, Tryz.ntmps85
  go_wp2_with (go_at_call 116; refine HC.out.mono ?_; rintro e w2 ⟨rfl, hb2⟩)
  exact bodyPost_ret (v := .tuple #[.string A, .string B, .bool b]) (by simp [results, Tryz.results85, go_sem]) rfl ⟨rfl, hb2⟩
end Go.Proofs.YtjpmfgmoekpcpabGreatDoor
