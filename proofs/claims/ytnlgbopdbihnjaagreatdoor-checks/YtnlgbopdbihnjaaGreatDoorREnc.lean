/-
  The document's letter, digit, Small, Sixth and Tagged.
-/
import Derived.Test.YtnlgbopdbihnjaaGreatDoorRcP
import Derived.Test.YtnlgbopdbihnjaaGreatDoorSm8
import Derived.Test.YtnlgbopdbihnjaaGreatDoorV4a
import Derived.Test.YtnlgbopdbihnjaaGreatDoorUtfE
import Derived.Test.YtnlgbopdbihnjaaGreatDoorChk
import Derived.Test.YtnlgbopdbihnjaaGreatDoorDec
import Derived.Test.YtnlgbopdbihnjaaGreatDoorPureBad
namespace Go.Proofs.YtnlgbopdbihnjaaGreatDoor
open Go.RowKit

theorem let_case (c : UInt8) : letB c = decide ((65 ≤ c.toNat ∧ c.toNat ≤ 90) ∨ (97 ≤ c.toNat ∧ c.toNat ≤ 122)) := by
  unfold letB
  rw [Bool.eq_iff_iff]
  simp
set_option maxHeartbeats 1000000 in
set_option maxRecDepth 100000 in
theorem letter_any (c : UInt8) (w : World) : Calls Tryz.prog 93 #[.int .u8 (c.toNat : Int)] w fun e w' => e = .returned (.bool (letB c)) ∧ w' = w := by
  rw [let_case]
  obtain ⟨x, hx⟩ : ∃ x, x = c.toNat := ⟨_, rfl⟩
  rw [← hx]
  clear hx
  by_cases h1 : 65 ≤ x
  · by_cases h2 : x ≤ 90
    · rw [decide_eq_true (.inl ⟨h1, h2⟩)]
      go_enter Tryz.func93, Tryz.ntmps93
      go_wp2_with fail
      go_ret
      exact ⟨by first | rfl | (simp; omega), rfl⟩
    · by_cases h3 : 97 ≤ x
      · by_cases h4 : x ≤ 122
        · rw [decide_eq_true (.inr ⟨h3, h4⟩)]
          go_enter Tryz.func93, Tryz.ntmps93
          go_wp2_with fail
          go_ret
          exact ⟨by first | rfl | (simp; omega), rfl⟩
        · rw [decide_eq_false (by omega)]
          go_enter Tryz.func93, Tryz.ntmps93
          go_wp2_with fail
          go_ret
          exact ⟨by first | rfl | (simp; omega), rfl⟩
      · rw [decide_eq_false (by omega)]
        go_enter Tryz.func93, Tryz.ntmps93
        go_wp2_with fail
        go_ret
        exact ⟨by first | rfl | (simp; omega), rfl⟩
  · have h3 : ¬ 97 ≤ x := by omega
    rw [decide_eq_false (by omega)]
    go_enter Tryz.func93, Tryz.ntmps93
    go_wp2_with fail
    go_ret
    exact ⟨by first | rfl | (simp; omega), rfl⟩
set_option maxHeartbeats 1000000 in
set_option maxRecDepth 100000 in
theorem digit_any (c : UInt8) (w : World) : Calls Tryz.prog 94 #[.int .u8 (c.toNat : Int)] w fun e w' => e = .returned (.bool (dgB c)) ∧ w' = w := by
  unfold dgB
  obtain ⟨x, hx⟩ : ∃ x, x = c.toNat := ⟨_, rfl⟩
  rw [← hx]
  clear hx
  by_cases h1 : 48 ≤ x
  · by_cases h2 : x ≤ 57
    · rw [decide_eq_true h1, decide_eq_true h2]
      go_enter Tryz.func94, Tryz.ntmps94
      go_wp2_with fail
      go_ret
      exact ⟨by first | rfl | (simp; omega), rfl⟩
    · rw [decide_eq_true h1, decide_eq_false h2]
      go_enter Tryz.func94, Tryz.ntmps94
      go_wp2_with fail
      go_ret
      exact ⟨by first | rfl | (simp; omega), rfl⟩
  · rw [decide_eq_false h1]
    go_enter Tryz.func94, Tryz.ntmps94
    go_wp2_with fail
    go_ret
    exact ⟨by first | rfl | (simp; omega), rfl⟩

theorem SmRel.put2 {s : ByteArray} {B : Nat} {w wr : World} {k : Nat} (h : SmRel s B w k wr) (hk : k < s.size) (h1 : 65 ≤ (s.data.toList.getD k 0).toNat) (h2 : (s.data.toList.getD k 0).toNat ≤ 90) :
    SmRel s B w (k + 1) (wr.setCell ⟨B, k, none⟩ (.int .u8 (((s.data.toList.getD k 0).toNat : Int) + 32))) := by
  have := h.put hk h1 h2
  rw [show ((s.data.toList.getD k 0).toNat : Int) - 65 + 97 = ((s.data.toList.getD k 0).toNat : Int) + 32 from by omega] at this
  exact this
set_option maxRecDepth 100000 in
set_option maxHeartbeats 1000000 in
theorem rsmall_any (s : ByteArray) (w : World) (hs : s.size ≤ maxLen) :
    Calls Tryz.prog 56 #[.string s] w fun e w' => e = .returned (.string (smS s)) ∧ Below w.heap.size w w' := by
  unfold maxLen at hs
  have hconv := run_bytes_of_string (P := Tryz.prog) w 9 88 5 s Tryz.underlying9 Tryz.underlying88 Tryz.underlying5
  obtain ⟨cap, hcap⟩ : ∃ c, c = grownCap w s.size 0 5 := ⟨_, rfl⟩
  rw [← hcap] at hconv
  obtain ⟨n, hn⟩ : ∃ n, n = (bytesRow s cap).size := ⟨_, rfl⟩
  rw [← hn] at hconv
  have HR : Hid (SmRel s w.heap.size w 0 (w.alloc (.cells (bytesRow s cap) 5 (n, n + 1))).drew) := SmRel.start s w cap n hn
  clear hcap hn
  go_enter Tryz.func56, Tryz.ntmps56
  go_wp2
  go_loopw [9] (fun i wr => ∃ k : Nat, k ≤ s.size ∧ i = .int .i64 k ∧ Hid (SmRel s w.heap.size w k wr)) (fun i _ => s.size - (intOf i).toNat)
  case atStart => exact ⟨0, Nat.zero_le _, rfl, HR⟩
  case round =>
    obtain ⟨k, hk, rfl, HK⟩ := hrel
    by_cases hlt : k < s.size
    · have hc := HK.out.cell k hlt
      have hf := HK.out.free k hlt
      rw [smAt_self] at hc
      obtain ⟨x, hx⟩ : ∃ x : UInt8, x = s.data.toList.getD k 0 := ⟨_, rfl⟩
      rw [← hx] at hc
      have HX : Hid (x = s.data.toList.getD k 0) := hx
      clear hx
      have hx1 : x.toNat < 256 := x.toNat_lt
      by_cases h1 : 65 ≤ x.toNat
      · by_cases h2 : x.toNat ≤ 90
        · have HN : Hid (SmRel s w.heap.size w (k + 1) (wr.setCell ⟨w.heap.size, k, none⟩ (.int .u8 ((x.toNat : Int) + 32)))) := by
            have := HK.out.put2 hlt (by rw [← HX.out]; exact h1) (by rw [← HX.out]; exact h2)
            rw [← HX.out] at this
            exact this
          clear HK
          go_wp2
          go_roundw
          case rel => exact ⟨k + 1, by omega, by go_num, HN⟩
          case measure => simp [intOf]; omega
        · have HN : Hid (SmRel s w.heap.size w (k + 1) wr) := HK.out.same (by rw [← HX.out]; omega)
          clear HK
          go_wp2
          go_roundw
          case rel => exact ⟨k + 1, by omega, by go_num, HN⟩
          case measure => simp [intOf]; omega
      · have HN : Hid (SmRel s w.heap.size w (k + 1) wr) := HK.out.same (by rw [← HX.out]; omega)
        clear HK
        go_wp2
        go_roundw
        case rel => exact ⟨k + 1, by omega, by go_num, HN⟩
        case measure => simp [intOf]; omega
    · have he : k = s.size := by omega
      subst he
      have hback := HK.out.back cap
      have HB : Hid (Below w.heap.size w wr) := HK.out.below
      clear HK
      go_wp2
      go_ret
      exact ⟨rfl, HB.out⟩
end Go.Proofs.YtnlgbopdbihnjaaGreatDoor
/-
  The document's Sixth and Tagged.
-/
namespace Go.Proofs.YtnlgbopdbihnjaaGreatDoor
open Go.RowKit

theorem sml_six (t : ByteArray) (h5 : 5 ≤ t.size) : sixB t.data.toList = ((smS (t.extract 0 5)).data.toList == [105, 112, 118, 54, 58]) := by
  unfold sixB smS
  rw [decide_eq_true (by rw [len_list]; exact h5), Bool.true_and]
  have : (t.extract 0 5).data.toList = t.data.toList.take 5 := by simp
  rw [this]
  rw [Bool.eq_iff_iff]
  simp
set_option maxHeartbeats 1000000 in
set_option maxRecDepth 100000 in
theorem sixth_any (t : ByteArray) (w : World) : Calls Tryz.prog 52 #[.string t] w fun e w' => e = .returned (.bool (sixB t.data.toList)) ∧ Below w.heap.size w w' := by
  by_cases h5 : 5 ≤ t.size
  · have h5' : (4 : Int) < (t.size : Int) := by omega
    have HS : Hid (Calls Tryz.prog 56 #[.string (t.extract 0 5)] w fun e w' => e = .returned (.string (smS (t.extract 0 5))) ∧ Below w.heap.size w w') := rsmall_any (t.extract 0 5) w (by rw [ByteArray.size_extract]; unfold maxLen; omega)
    have HR : Hid (sixB t.data.toList = ((smS (t.extract 0 5)).data.toList == [105, 112, 118, 54, 58])) := sml_six t h5
    generalize smS (t.extract 0 5) = X at HS HR
    go_enter Tryz.func52, Tryz.ntmps52
    go_wp2_with fail
    refine HS.out.mono ?_
    rintro e w1 ⟨rfl, hb1⟩
    have HB1 : Hid (Below w.heap.size w w1) := hb1
    clear hb1
    go_wp2_with fail
    go_ret
    exact ⟨by rw [HR.out, ← ByteArray.toList_eq]; rfl, HB1.out⟩
  · have h5' : ¬ (4 : Int) < (t.size : Int) := by omega
    have hr : sixB t.data.toList = false := by
      unfold sixB
      rw [decide_eq_false (by rw [len_list]; exact h5), Bool.false_and]
    rw [hr]
    go_enter Tryz.func52, Tryz.ntmps52
    go_wp2_with fail
    go_ret
    exact ⟨rfl, Below.refl _ _⟩

def optI (o : Option Nat) : Int := match o with
  | none => -1
  | some p => p
theorem b_eq (c : UInt8) (n : UInt8) (m : Int) (hm : m = (n.toNat : Int)) : ((c.toNat : Int) == m) = decide (c = n) ∧ ((c.toNat : Int) != m) = !decide (c = n) := by
  have : ((c.toNat : Int) == m) = decide (c = n) := by
    subst hm
    rw [Bool.eq_iff_iff, beq_iff_eq, decide_eq_true_eq, Int.natCast_inj, UInt8.toNat_inj]
  refine ⟨this, ?_⟩
  rw [bne, this]
/-- The first k bytes are of a label. -/
def AllF (f : UInt8 → Bool) (t : ByteArray) (a k : Nat) : Prop := ∀ j (h : j < t.size), a ≤ j → j < k → f t[j] = true
theorem AllF.step {f : UInt8 → Bool} {t : ByteArray} {a k : Nat} (h : AllF f t a k) (hk : k < t.size) (hc : f t[k] = true) : AllF f t a (k + 1) := fun j hj h1 h2 => by
  rcases Nat.lt_or_ge j k with h' | h'
  · exact h j hj h1 h'
  · obtain rfl : j = k := by omega
    exact hc
theorem AllF.none (f : UInt8 → Bool) (t : ByteArray) (a : Nat) : AllF f t a a := fun j _ h1 h2 => absurd h1 (by omega)
theorem get_list (t : ByteArray) (k : Nat) (h : k < t.data.toList.length) : t.data.toList[k] = t[k]'(by rw [len_list] at h; exact h) := rfl
theorem AllF.sp {f : UInt8 → Bool} {t : ByteArray} {k : Nat} (h : AllF f t 0 k) (hk : k ≤ t.size) (hs : ∀ h : k < t.size, f t[k] = false) : spB f t.data.toList = k :=
  spB_eq f _ k (by rw [len_list]; exact hk) (fun j hj h' => by rw [get_list]; exact h j _ (Nat.zero_le _) h') (fun hj => by rw [get_list]; exact hs _)
theorem AllF.sp2 {f : UInt8 → Bool} {t : ByteArray} {a k : Nat} (h : AllF f t a k) (ha : a ≤ k) (hk : k ≤ t.size) (hs : ∀ h : k < t.size, f t[k] = false) : spB f (t.data.toList.drop a) = k - a :=
  spB_eq f _ (k - a) (by rw [List.length_drop, len_list]; omega) (fun j hj h' => by
    rw [List.getElem_drop, get_list]
    exact h (a + j) _ (by omega) (by omega)) (fun hj => by
    rw [List.getElem_drop, get_list]
    have := hs (by rw [List.length_drop, len_list] at hj; omega)
    simp only [show a + (k - a) = k from by omega]
    exact this)
theorem tg_one {t : ByteArray} {k : Nat} (h : AllF lbB t 0 k) (hk : k < t.size) (h1 : lbB t[k] = false) (h2 : t[k] ≠ 58) : tgD t.data.toList = some k := by
  have e := h.sp (by omega) (fun _ => h1)
  unfold tgD
  rw [e, if_pos ⟨by rw [len_list]; exact hk, by rw [List.getElem?_eq_getElem (by rw [len_list]; exact hk), get_list]; simpa using h2⟩]
theorem tg_two {t : ByteArray} {k : Nat} (h : AllF lbB t 0 k) (hk : k ≤ t.size) (h1 : ∀ h : k < t.size, t[k] = 58) (h2 : k = t.size ∨ k = 0 ∨ t.data.toList[k - 1]? = some 45) : tgD t.data.toList = some k := by
  have e := h.sp hk (fun hh => by rw [h1 hh]; exact lb_colon)
  unfold tgD
  rw [e, if_neg, if_pos (by rw [len_list]; exact h2)]
  rintro ⟨a, b⟩
  rw [len_list] at a
  exact b (by rw [List.getElem?_eq_getElem (by rw [len_list]; exact a), get_list, h1 a])
theorem tg_last {t : ByteArray} {k i : Nat} (h : AllF lbB t 0 k) (hk : k < t.size) (h1 : t[k] = 58) (h2 : ¬ (k = t.size ∨ k = 0 ∨ t.data.toList[k - 1]? = some 45)) (g : AllF plB t (k + 1) i) (hi : k + 1 ≤ i) (hl : i ≤ t.size) (hs : ∀ h : i < t.size, plB t[i] = false) :
    tgD t.data.toList = if i < t.size then some i else if k + 1 = t.size then some t.size else none := by
  have e := h.sp (by omega) (fun hh => by rw [h1]; exact lb_colon)
  have e2 := g.sp2 hi hl hs
  unfold tgD
  have n1 : ¬ (k < t.data.toList.length ∧ ¬ t.data.toList[k]? = some 58) := by
    rintro ⟨a, b⟩
    exact b (by rw [List.getElem?_eq_getElem a, get_list, h1])
  rw [e, if_neg n1, if_neg (by rw [len_list]; exact h2), e2, len_list, show k + 1 + (i - (k + 1)) = i from by omega]

set_option maxHeartbeats 8000000 in
set_option maxRecDepth 100000 in
theorem tagged_any (t : ByteArray) (w : World) (ht : t.size ≤ maxLen) : Calls Tryz.prog 54 #[.string t] w fun e w' => e = .returned (.int .i64 (optI (tgD t.data.toList))) ∧ Below w.heap.size w w' := by
  unfold maxLen at ht
  have HL : Hid (∀ c : UInt8, ∀ w : World, Calls Tryz.prog 93 #[.int .u8 (c.toNat : Int)] w fun e w' => e = .returned (.bool (letB c)) ∧ w' = w) := letter_any
  have HD : Hid (∀ c : UInt8, ∀ w : World, Calls Tryz.prog 94 #[.int .u8 (c.toNat : Int)] w fun e w' => e = .returned (.bool (dgB c)) ∧ w' = w) := digit_any
  go_enter Tryz.func54, Tryz.ntmps54
  go_wp2_with fail
  go_loopw [3] (fun c wr => ∃ k : Nat, k ≤ t.size ∧ c = .int .i64 k ∧ Hid (AllF lbB t 0 k) ∧ Hid (wr = w)) (fun c _ => t.size - (intOf c).toNat)
  case atStart => exact ⟨0, Nat.zero_le _, rfl, AllF.none _ _ _, rfl⟩
  case round =>
    obtain ⟨k, hk, rfl, HA, HV⟩ := hrel
    obtain rfl : w = wr := HV.out.symm
    clear HV
    by_cases hgo : ∃ h : k < t.size, t[k] ≠ 58
    · obtain ⟨hlt, hc⟩ := hgo
      obtain ⟨e58, n58⟩ := b_eq t[k] 58 58 rfl
      rw [decide_eq_false hc] at e58 n58
      have HL1 := HL.out t[k] w
      have HD1 := HD.out t[k] w
      obtain ⟨e45, n45⟩ := b_eq t[k] 45 45 rfl
      have HLB : Hid (lbB t[k] = (letB t[k] || dgB t[k] || decide (t[k] = 45))) := by show _ = _; unfold lbB; rw [ld_let]
      have HC : Hid (t[k] ≠ 58) := hc
      clear HL HD hc
      obtain ⟨x1, h1⟩ : ∃ x, x = letB t[k] := ⟨_, rfl⟩
      obtain ⟨x2, h2⟩ : ∃ x, x = dgB t[k] := ⟨_, rfl⟩
      obtain ⟨x3, h3⟩ : ∃ x, x = decide (t[k] = 45) := ⟨_, rfl⟩
      rw [← h1] at HL1 HLB
      rw [← h2] at HD1 HLB
      rw [← h3] at e45 n45 HLB
      clear h1 h2 h3
      cases x1
      · cases x2
        · cases x3
          · have HT : Hid (tgD t.data.toList = some k) := tg_one HA.out hlt HLB.out HC.out
            go_wp2_with fail
            refine HL1.mono ?_
            rintro e w1 ⟨rfl, rfl⟩
            go_wp2_with fail
            refine HD1.mono ?_
            rintro e w1 ⟨rfl, rfl⟩
            go_wp2_with fail
            go_ret
            exact ⟨by rw [HT.out]; rfl, Below.refl _ _⟩
          · have HN : Hid (AllF lbB t 0 (k + 1)) := HA.out.step hlt HLB.out
            go_wp2_with fail
            refine HL1.mono ?_
            rintro e w1 ⟨rfl, rfl⟩
            go_wp2_with fail
            refine HD1.mono ?_
            rintro e w1 ⟨rfl, rfl⟩
            go_wp2_with fail
            go_roundw
            case rel => exact ⟨k + 1, by omega, by go_num, HN, trivial⟩
            case measure => simp [intOf]; omega
        · have HN : Hid (AllF lbB t 0 (k + 1)) := HA.out.step hlt HLB.out
          go_wp2_with fail
          refine HL1.mono ?_
          rintro e w1 ⟨rfl, rfl⟩
          go_wp2_with fail
          refine HD1.mono ?_
          rintro e w1 ⟨rfl, rfl⟩
          go_wp2_with fail
          go_roundw
          case rel => exact ⟨k + 1, by omega, by go_num, HN, trivial⟩
          case measure => simp [intOf]; omega
      · have HN : Hid (AllF lbB t 0 (k + 1)) := HA.out.step hlt HLB.out
        go_wp2_with fail
        refine HL1.mono ?_
        rintro e w1 ⟨rfl, rfl⟩
        go_wp2_with fail
        go_roundw
        case rel => exact ⟨k + 1, by omega, by go_num, HN, trivial⟩
        case measure => simp [intOf]; omega
    · have HB : Hid (∀ h : k < t.size, t[k] = 58) := fun h => Classical.byContradiction fun h' => hgo ⟨h, h'⟩
      clear hgo HL HD
      by_cases hz : k = t.size
      · have HT : Hid (tgD t.data.toList = some t.size) := by have := tg_two HA.out hk HB.out (.inl hz); rw [hz] at this; exact this
        subst hz
        clear HB HA
        go_wp2_with fail
        go_ret
        exact ⟨by rw [HT.out]; rfl, Below.refl _ _⟩
      · have hlt : k < t.size := by omega
        have hzb : ((k : Int) == (t.size : Int)) = false := by rw [beq_eq_false_iff_ne]; omega
        have hc := HB.out hlt
        have HC : Hid (t[k] = 58) := hc
        obtain ⟨e58, n58⟩ := b_eq t[k] 58 58 rfl
        rw [decide_eq_true hc] at e58 n58
        have HZ : Hid (¬ k = t.size) := hz
        clear hc hz
        by_cases h0 : k = 0
        · have HT : Hid (tgD t.data.toList = some 0) := by have := tg_two HA.out hk HB.out (.inr (.inl h0)); rw [h0] at this; exact this
          subst h0
          clear HB HA
          go_wp2_with fail
          go_ret
          exact ⟨by rw [HT.out]; rfl, Below.refl _ _⟩
        · obtain ⟨m, rfl⟩ : ∃ m, k = m + 1 := ⟨k - 1, by omega⟩
          have hm : m < t.size := by omega
          have h0b : ((m : Int) + 1 == 0) = false := by rw [beq_eq_false_iff_ne]; omega
          have hzc : ((m : Int) + 1 == (t.size : Int)) = false := by rw [beq_eq_false_iff_ne]; have := HZ.out; omega
          clear hzb
          have hl45 : t.data.toList[m]? = some t[m] := by rw [List.getElem?_eq_getElem (by rw [len_list]; exact hm), get_list]
          obtain ⟨e45, n45⟩ := b_eq t[m] 45 45 rfl
          by_cases h45 : t[m] = 45
          · have HT : Hid (tgD t.data.toList = some (m + 1)) := tg_two HA.out hk HB.out (.inr (.inr (by rw [Nat.add_sub_cancel, hl45, h45])))
            rw [decide_eq_true h45] at e45 n45
            clear HB HA h45 hl45 h0
            go_wp2_with fail
            go_ret
            exact ⟨by rw [HT.out]; rfl, Below.refl _ _⟩
          · rw [decide_eq_false h45] at e45 n45
            have HE : Hid (¬ (m + 1 = t.size ∨ m + 1 = 0 ∨ t.data.toList[m + 1 - 1]? = some 45)) := by
              rintro (h | h | h)
              · exact HZ.out h
              · omega
              · rw [Nat.add_sub_cancel, hl45] at h
                exact h45 (by simpa using h)
            clear HB h45 hl45 h0
            go_wp2_with fail
            go_loopw [4] (fun c wv => ∃ i : Nat, m + 2 ≤ i ∧ i ≤ t.size ∧ c = .int .i64 i ∧ Hid (AllF plB t (m + 2) i) ∧ Hid (wv = w)) (fun c _ => t.size - (intOf c).toNat)
            case atStart => exact ⟨m + 2, by omega, by omega, by go_num, AllF.none _ _ _, rfl⟩
            case round =>
              obtain ⟨i, hi2, hi, rfl, HP, HV⟩ := hrel
              obtain rfl : w = wr := HV.out.symm
              clear HV
              by_cases hil : i < t.size
              · have hil' : (i : Int) < (t.size : Int) := by omega
                have HPL : Hid (plB t[i] = (decide (33 ≤ t[i].toNat) && decide (t[i].toNat ≤ 126) && !decide (t[i] = 91) && !decide (t[i] = 92) && !decide (t[i] = 93))) := rfl
                obtain ⟨e91, n91⟩ := b_eq t[i] 91 91 rfl
                obtain ⟨e92, n92⟩ := b_eq t[i] 92 92 rfl
                obtain ⟨e93, n93⟩ := b_eq t[i] 93 93 rfl
                obtain ⟨x1, h1⟩ : ∃ x, x = decide (t[i] = 91) := ⟨_, rfl⟩
                obtain ⟨x2, h2⟩ : ∃ x, x = decide (t[i] = 92) := ⟨_, rfl⟩
                obtain ⟨x3, h3⟩ : ∃ x, x = decide (t[i] = 93) := ⟨_, rfl⟩
                rw [← h1] at e91 n91 HPL
                rw [← h2] at e92 n92 HPL
                rw [← h3] at e93 n93 HPL
                clear h1 h2 h3
                have HS : Hid (plB t[i] = false → tgD t.data.toList = some i) := fun h => by
                  have := tg_last HA.out hlt HC.out HE.out HP.out hi2 hi (fun _ => h)
                  rw [if_pos hil] at this
                  exact this
                have HN : Hid (plB t[i] = true → AllF plB t (m + 2) (i + 1)) := fun h => HP.out.step hil h
                clear HA HC HE HP HZ e58 n58 e45 n45 h0b hzc
                by_cases c1 : 33 ≤ t[i].toNat
                · by_cases c2 : t[i].toNat ≤ 126
                  · rw [decide_eq_true c1, decide_eq_true c2] at HPL
                    cases x1
                    · cases x3
                      · cases x2
                        · have HN2 : Hid (AllF plB t (m + 2) (i + 1)) := HN.out HPL.out
                          go_wp2_with fail
                          go_roundw
                          case rel => exact ⟨i + 1, by omega, by omega, by go_num, HN2, trivial⟩
                          case measure => simp [intOf]; omega
                        · have HT : Hid (tgD t.data.toList = some i) := HS.out (HPL.out.trans (by rfl))
                          go_wp2_with fail
                          go_ret
                          exact ⟨by rw [HT.out]; rfl, Below.refl _ _⟩
                      · have HT : Hid (tgD t.data.toList = some i) := HS.out (HPL.out.trans (by cases x2 <;> rfl))
                        go_wp2_with fail
                        go_ret
                        exact ⟨by rw [HT.out]; rfl, Below.refl _ _⟩
                    · have HT : Hid (tgD t.data.toList = some i) := HS.out (HPL.out.trans (by cases x2 <;> cases x3 <;> rfl))
                      go_wp2_with fail
                      go_ret
                      exact ⟨by rw [HT.out]; rfl, Below.refl _ _⟩
                  · have HT : Hid (tgD t.data.toList = some i) := HS.out (HPL.out.trans (by rw [decide_eq_false c2]; cases x1 <;> cases x2 <;> cases x3 <;> simp))
                    go_wp2_with fail
                    go_ret
                    exact ⟨by rw [HT.out]; rfl, Below.refl _ _⟩
                · have HT : Hid (tgD t.data.toList = some i) := HS.out (HPL.out.trans (by rw [decide_eq_false c1]; simp))
                  go_wp2_with fail
                  go_ret
                  exact ⟨by rw [HT.out]; rfl, Below.refl _ _⟩
              · have HS : Hid (tgD t.data.toList = if m + 1 + 1 = t.size then some t.size else none) := by
                  have := tg_last HA.out hlt HC.out HE.out HP.out hi2 hi (fun h => absurd h hil)
                  rw [if_neg hil] at this
                  exact this
                have hil' : ¬ (i : Int) < (t.size : Int) := by omega
                clear HA HC HE HP HZ e58 n58 e45 n45 h0b hzc
                by_cases hl : m + 1 + 1 = t.size
                · have HT : Hid (tgD t.data.toList = some t.size) := by have := HS.out; rw [if_pos hl] at this; exact this
                  have hlb : ((m : Int) + 1 + 1 == (t.size : Int)) = true := by rw [beq_iff_eq]; omega
                  clear HS hl
                  go_wp2_with fail
                  go_ret
                  exact ⟨by rw [HT.out]; rfl, Below.refl _ _⟩
                · have HT : Hid (tgD t.data.toList = none) := by have := HS.out; rw [if_neg hl] at this; exact this
                  have hlb : ((m : Int) + 1 + 1 == (t.size : Int)) = false := by rw [beq_eq_false_iff_ne]; omega
                  clear HS hl
                  go_wp2_with fail
                  go_ret
                  exact ⟨by rw [HT.out]; rfl, Below.refl _ _⟩
end Go.Proofs.YtnlgbopdbihnjaaGreatDoor
/-
  The document's reading of a rune: the rune whose bytes these are.
-/
namespace Go.Proofs.YtnlgbopdbihnjaaGreatDoor

/-- What the first byte of n has at its top. -/
def leadN (n : Nat) : Int := if n = 2 then 192 else if n = 3 then 224 else if n = 4 then 240 else 0
def addX (x : Int) (c : UInt8) : Int := 64 * x + (c.toNat : Int) - 128
/-- The number that bytes make. -/
def mkX : List UInt8 → Int
  | [] => 0
  | c :: t => t.foldl addX ((c.toNat : Int) - leadN (t.length + 1))
/-- Are bytes those of a rune? -/
def okX (b : List UInt8) : Prop := isR (mkX b) ∧ Lib.encodeRune (mkX b) = b
instance (b : List UInt8) : Decidable (okX b) := by unfold okX; infer_instance
theorem mkX_enc (r : Int) (h : isR r) : mkX (Lib.encodeRune r) = r := by
  obtain ⟨h0, h1, h2⟩ := h
  unfold Lib.encodeRune
  by_cases c1 : r ≤ 127
  · rw [Lib.encodeRuneZ_one h0 c1]
    simp only [List.map_cons, List.map_nil, mkX, List.foldl_nil, List.length_nil, leadN, u8_of r h0 (by omega)]
    simp
    omega
  by_cases c2 : r ≤ 2047
  · rw [Lib.encodeRuneZ_two (by omega) c2]
    have a1 := u8_of (192 + r / 64) (by omega) (by omega)
    have a2 := u8_of (128 + r % 64) (by omega) (by omega)
    simp only [List.map_cons, List.map_nil, mkX, List.foldl_cons, List.foldl_nil, List.length_cons, List.length_nil, addX, a1, a2, leadN]
    simp
    omega
  by_cases c3 : r ≤ 65535
  · rw [Lib.encodeRuneZ_three (by omega)]
    have a1 := u8_of (224 + r / 4096) (by omega) (by omega)
    have a2 := u8_of (128 + r / 64 % 64) (by omega) (by omega)
    have a3 := u8_of (128 + r % 64) (by omega) (by omega)
    simp only [List.map_cons, List.map_nil, mkX, List.foldl_cons, List.foldl_nil, List.length_cons, List.length_nil, addX, a1, a2, a3, leadN]
    simp
    omega
  · rw [Lib.encodeRuneZ_four (by omega) (by omega)]
    have a1 := u8_of (240 + r / 262144) (by omega) (by omega)
    have a2 := u8_of (128 + r / 4096 % 64) (by omega) (by omega)
    have a3 := u8_of (128 + r / 64 % 64) (by omega) (by omega)
    have a4 := u8_of (128 + r % 64) (by omega) (by omega)
    simp only [List.map_cons, List.map_nil, mkX, List.foldl_cons, List.foldl_nil, List.length_cons, List.length_nil, addX, a1, a2, a3, a4, leadN]
    simp
    omega
theorem okX_one {l : List UInt8} {n : Nat} (hn : n ≤ l.length) (h : okX (l.take n)) : oneN l = some (mkX (l.take n), n) := by
  obtain ⟨h1, h2⟩ := h
  have := oneN_enc (mkX (l.take n)) h1 (l.drop n)
  rw [h2, List.take_append_drop, List.length_take, Nat.min_eq_left hn] at this
  exact this
theorem one_okX {l : List UInt8} {r : Int} {n : Nat} (h : oneN l = some (r, n)) : n ≤ l.length ∧ 1 ≤ n ∧ n ≤ 4 ∧ okX (l.take n) ∧ mkX (l.take n) = r := by
  obtain ⟨h1, h2, h3⟩ := oneN_is h
  obtain ⟨h4, h5, _⟩ := oneN_run l r n h
  have e : l.take n = Lib.encodeRune r := by
    conv => lhs; rw [h3]
    rw [h2, List.take_left]
  have h6 := (Lib.runeCells_le r).2
  rw [Lib.runeCells_length] at h6
  have h7 := mkX_enc r h1
  refine ⟨h4, h5, by omega, ⟨?_, ?_⟩, by rw [e, h7]⟩
  · rw [e, h7]; exact h1
  · rw [e, h7]
theorem mkX_range (b : List UInt8) (h : b.length ≤ 4) : -100000000 ≤ mkX b ∧ mkX b ≤ 100000000 := by
  match b, h with
  | [], _ => simp [mkX]
  | [a], _ => have := a.toNat_lt; simp [mkX, leadN]; omega
  | [a, b], _ => have := a.toNat_lt; have := b.toNat_lt; simp [mkX, leadN, addX]; omega
  | [a, b, c], _ => have := a.toNat_lt; have := b.toNat_lt; have := c.toNat_lt; simp [mkX, leadN, addX]; omega
  | [a, b, c, d], _ => have := a.toNat_lt; have := b.toNat_lt; have := c.toNat_lt; have := d.toNat_lt; simp [mkX, leadN, addX]; omega
end Go.Proofs.YtnlgbopdbihnjaaGreatDoor
/-
  The document's Is, Write, lead and made.
-/
namespace Go.Proofs.YtnlgbopdbihnjaaGreatDoor
open Go.RowKit

set_option maxHeartbeats 1000000 in
set_option maxRecDepth 100000 in
theorem dis_any (r : Int) (w : World) : Calls Tryz.prog 99 #[.int .i64 r] w fun e w' => e = .returned (.bool (decide (isR r))) ∧ w' = w := by
  by_cases h1 : 0 ≤ r
  · by_cases h2 : r ≤ 1114111
    · by_cases h3 : r < 55296
      · have HR : Hid (decide (isR r) = true) := decide_eq_true ⟨h1, h2, .inl h3⟩
        go_enter Tryz.func99, Tryz.ntmps99
        go_wp2
        go_ret
        exact ⟨ret_b HR.out.symm, rfl⟩
      · by_cases h4 : 57343 < r
        · have HR : Hid (decide (isR r) = true) := decide_eq_true ⟨h1, h2, .inr h4⟩
          go_enter Tryz.func99, Tryz.ntmps99
          go_wp2
          go_ret
          exact ⟨ret_b HR.out.symm, rfl⟩
        · have HR : Hid (decide (isR r) = false) := decide_eq_false (by unfold isR; omega)
          go_enter Tryz.func99, Tryz.ntmps99
          go_wp2
          go_ret
          exact ⟨ret_b (by rw [HR.out]), rfl⟩
    · have HR : Hid (decide (isR r) = false) := decide_eq_false (by unfold isR; omega)
      go_enter Tryz.func99, Tryz.ntmps99
      go_wp2
      go_ret
      exact ⟨ret_b (by rw [HR.out]), rfl⟩
  · have HR : Hid (decide (isR r) = false) := decide_eq_false (by unfold isR; omega)
    go_enter Tryz.func99, Tryz.ntmps99
    go_wp2
    go_ret
    exact ⟨ret_b (by rw [HR.out]), rfl⟩

theorem u8c (x : Int) (h0 : 0 ≤ x) (h1 : x < 256) : x = ((x.toNat.toUInt8).toNat : Int) := by rw [u8_of x h0 h1]; omega

set_option maxHeartbeats 1000000 in
set_option maxRecDepth 100000 in
theorem dwr_any (r : Int) (h : isR r) (w : World) : Calls Tryz.prog 160 #[.int .i32 r] w fun e w' => e = .returned (.slice (some ⟨w.heap.size, 0, none⟩) (Lib.encodeRune r).length (Lib.encodeRune r).length) ∧ w' = w.alloc (.cells (rowV (Lib.encodeRune r)) 5) := by
  obtain ⟨h0, h1, h2⟩ := h
  unfold Lib.encodeRune
  by_cases c1 : r < 128
  · rw [Lib.encodeRuneZ_one h0 (by omega)]
    have e1 := u8c r h0 (by omega)
    have w1 : IntKind.u8.wrap r = r := by rw [IntKind.wrap_u8]; omega
    have HE : Hid (rowV ([r].map fun x => x.toNat.toUInt8) = #[.int .u8 r]) := by show _ = _; simp [rowV, cellsB]; omega
    have HLN : Hid (([r].map fun x => x.toNat.toUInt8).length = 1) := rfl
    generalize ([r].map fun x => x.toNat.toUInt8) = E at HE HLN ⊢
    clear e1
    go_enter Tryz.func160, Tryz.ntmps160
    go_wp2
    go_ret
    exact ⟨by rw [HLN.out]; rfl, by rw [HE.out]⟩
  by_cases c2 : r < 2048
  · rw [Lib.encodeRuneZ_two (by omega) (by omega)]
    have t1 : r.tdiv 64 = r / 64 := Int.tdiv_eq_ediv_of_nonneg h0
    have t2 : r.tmod 64 = r % 64 := Int.tmod_eq_emod_of_nonneg h0
    have w1 : IntKind.u8.wrap (192 + r / 64) = 192 + r / 64 := by rw [IntKind.wrap_u8]; omega
    have w2 : IntKind.u8.wrap (128 + r % 64) = 128 + r % 64 := by rw [IntKind.wrap_u8]; omega
    have HE : Hid (rowV ([192 + r / 64, 128 + r % 64].map fun x => x.toNat.toUInt8) = #[.int .u8 (192 + r / 64), .int .u8 (128 + r % 64)]) := by show _ = _; simp [rowV, cellsB]; omega
    have HLN : Hid (([192 + r / 64, 128 + r % 64].map fun x => x.toNat.toUInt8).length = 2) := rfl
    generalize ([192 + r / 64, 128 + r % 64].map fun x => x.toNat.toUInt8) = E at HE HLN ⊢
    go_enter Tryz.func160, Tryz.ntmps160
    go_wp2
    go_ret
    exact ⟨by rw [HLN.out]; rfl, by rw [HE.out]⟩
  by_cases c3 : r < 65536
  · rw [Lib.encodeRuneZ_three (by omega)]
    have t1 : r.tdiv 64 = r / 64 := Int.tdiv_eq_ediv_of_nonneg h0
    have t2 : r.tmod 64 = r % 64 := Int.tmod_eq_emod_of_nonneg h0
    have t3 : r.tdiv 4096 = r / 4096 := Int.tdiv_eq_ediv_of_nonneg h0
    have t4 : (r / 64).tmod 64 = r / 64 % 64 := Int.tmod_eq_emod_of_nonneg (by omega)
    have w1 : IntKind.u8.wrap (224 + r / 4096) = 224 + r / 4096 := by rw [IntKind.wrap_u8]; omega
    have w2 : IntKind.u8.wrap (128 + r / 64 % 64) = 128 + r / 64 % 64 := by rw [IntKind.wrap_u8]; omega
    have w3 : IntKind.u8.wrap (128 + r % 64) = 128 + r % 64 := by rw [IntKind.wrap_u8]; omega
    have HE : Hid (rowV ([224 + r / 4096, 128 + r / 64 % 64, 128 + r % 64].map fun x => x.toNat.toUInt8) = #[.int .u8 (224 + r / 4096), .int .u8 (128 + r / 64 % 64), .int .u8 (128 + r % 64)]) := by show _ = _; simp [rowV, cellsB]; omega
    have HLN : Hid (([224 + r / 4096, 128 + r / 64 % 64, 128 + r % 64].map fun x => x.toNat.toUInt8).length = 3) := rfl
    generalize ([224 + r / 4096, 128 + r / 64 % 64, 128 + r % 64].map fun x => x.toNat.toUInt8) = E at HE HLN ⊢
    go_enter Tryz.func160, Tryz.ntmps160
    go_wp2
    go_ret
    exact ⟨by rw [HLN.out]; rfl, by rw [HE.out]⟩
  · rw [Lib.encodeRuneZ_four (by omega) (by omega)]
    have t1 : r.tdiv 64 = r / 64 := Int.tdiv_eq_ediv_of_nonneg h0
    have t2 : r.tmod 64 = r % 64 := Int.tmod_eq_emod_of_nonneg h0
    have t3 : r.tdiv 4096 = r / 4096 := Int.tdiv_eq_ediv_of_nonneg h0
    have t4 : (r / 64).tmod 64 = r / 64 % 64 := Int.tmod_eq_emod_of_nonneg (by omega)
    have t5 : r.tdiv 262144 = r / 262144 := Int.tdiv_eq_ediv_of_nonneg h0
    have t6 : (r / 4096).tmod 64 = r / 4096 % 64 := Int.tmod_eq_emod_of_nonneg (by omega)
    have w1 : IntKind.u8.wrap (240 + r / 262144) = 240 + r / 262144 := by rw [IntKind.wrap_u8]; omega
    have w2 : IntKind.u8.wrap (128 + r / 4096 % 64) = 128 + r / 4096 % 64 := by rw [IntKind.wrap_u8]; omega
    have w3 : IntKind.u8.wrap (128 + r / 64 % 64) = 128 + r / 64 % 64 := by rw [IntKind.wrap_u8]; omega
    have w4 : IntKind.u8.wrap (128 + r % 64) = 128 + r % 64 := by rw [IntKind.wrap_u8]; omega
    have HE : Hid (rowV ([240 + r / 262144, 128 + r / 4096 % 64, 128 + r / 64 % 64, 128 + r % 64].map fun x => x.toNat.toUInt8) = #[.int .u8 (240 + r / 262144), .int .u8 (128 + r / 4096 % 64), .int .u8 (128 + r / 64 % 64), .int .u8 (128 + r % 64)]) := by show _ = _; simp [rowV, cellsB]; omega
    have HLN : Hid (([240 + r / 262144, 128 + r / 4096 % 64, 128 + r / 64 % 64, 128 + r % 64].map fun x => x.toNat.toUInt8).length = 4) := rfl
    generalize ([240 + r / 262144, 128 + r / 4096 % 64, 128 + r / 64 % 64, 128 + r % 64].map fun x => x.toNat.toUInt8) = E at HE HLN ⊢
    go_enter Tryz.func160, Tryz.ntmps160
    go_wp2
    go_ret
    exact ⟨by rw [HLN.out]; rfl, by rw [HE.out]⟩

set_option maxHeartbeats 1000000 in
set_option maxRecDepth 100000 in
theorem dlead_any (n : Nat) (hn : n ≤ 4) (w : World) : Calls Tryz.prog 159 #[.int .i64 n] w fun e w' => e = .returned (.int .i64 (leadN n)) ∧ w' = w.alloc (.cells #[.int .i64 0, .int .i64 0, .int .i64 192, .int .i64 224, .int .i64 240] 3) := by
  match n, hn with
  | 0, _ => go_enter Tryz.func159, Tryz.ntmps159; go_wp2; go_ret; exact ⟨rfl, rfl⟩
  | 1, _ => go_enter Tryz.func159, Tryz.ntmps159; go_wp2; go_ret; exact ⟨rfl, rfl⟩
  | 2, _ => go_enter Tryz.func159, Tryz.ntmps159; go_wp2; go_ret; exact ⟨rfl, rfl⟩
  | 3, _ => go_enter Tryz.func159, Tryz.ntmps159; go_wp2; go_ret; exact ⟨rfl, rfl⟩
  | 4, _ => go_enter Tryz.func159, Tryz.ntmps159; go_wp2; go_ret; exact ⟨rfl, rfl⟩
end Go.Proofs.YtnlgbopdbihnjaaGreatDoor
/-
  The document's Encode.
-/
namespace Go.Proofs.YtnlgbopdbihnjaaGreatDoor
open Go.RowKit

theorem noR_take (l : List Int) (k : Nat) (hk : k < l.length) (h : ∀ j (hj : j < l.length), j < k → isR l[j]) (hr : ¬ isR l[k]) : noR l = k := by
  induction l generalizing k with
  | nil => simp at hk
  | cons x t ih =>
    cases k with
    | zero => simp only [noR]; rw [if_neg (by simpa using hr)]
    | succ k =>
      simp only [noR]
      rw [if_pos (show isR x from h 0 (by simp) (by omega))]
      congr 1
      exact ih k (by simpa using hk) (fun j hj hjk => h (j + 1) (by simp; omega) (by omega)) (by simpa using hr)
theorem noR_full (l : List Int) (h : ∀ j (hj : j < l.length), isR l[j]) : noR l = l.length := by
  rw [noR_all]
  intro r hr
  obtain ⟨j, hj, rfl⟩ := List.getElem_of_mem hr
  exact h j hj

theorem bts_new (w : World) (l : List UInt8) : Bts (some ⟨w.heap.size, 0, none⟩) l (w.alloc (.cells (rowV l) 5)) := by
  refine .inr ⟨w.heap.size, 0, rfl, by simp, fun j hj => ?_⟩
  rw [Nat.zero_add, (Lies.new w (rowV l) 5).cell j, rowV_at l j hj]

end Go.Proofs.YtnlgbopdbihnjaaGreatDoor
