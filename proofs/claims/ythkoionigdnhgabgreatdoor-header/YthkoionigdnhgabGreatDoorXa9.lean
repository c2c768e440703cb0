/-
  The program's atom, atoms, escapable, mayStand, firstWide.
-/
import Derived.Test.YthkoionigdnhgabGreatDoorQc9
import Derived.Test.YthkoionigdnhgabGreatDoorWt8
import Derived.Test.YthkoionigdnhgabGreatDoorPureBad
import Derived.Test.YthkoionigdnhgabGreatDoorRcP
namespace Go.Proofs.YthkoionigdnhgabGreatDoor
open Go.RowKit

theorem cl_fin : ∀ b : Fin 256, isB 5 (b.val : Int) = at5 (UInt8.ofNat b.val) ∧ isB 14 (b.val : Int) = decide (128 ≤ b.val) := by decide +kernel
theorem cl_is (c : UInt8) : isB 5 (c.toNat : Int) = at5 c ∧ isB 14 (c.toNat : Int) = decide (128 ≤ c.toNat) := by
  have := cl_fin ⟨c.toNat, c.toNat_lt⟩
  simpa using this
theorem atom_is (c : UInt8) : atB c = (isB 5 (c.toNat : Int) || isB 14 (c.toNat : Int)) := by
  rw [(cl_is c).1, (cl_is c).2]
  exact atB_is c
/-- May a byte stand behind a backslash, in a local part? -/
theorem esc_fin : ∀ b : Fin 256, shB (UInt8.ofNat b.val) = (isB 6 (b.val : Int) || ((b.val : Int) == 34 || (b.val : Int) == 92)) ∧ (decide (32 ≤ b.val) && !decide (b.val = 127)) = (shB (UInt8.ofNat b.val) || isB 14 (b.val : Int)) ∧ qtB (UInt8.ofNat b.val) = (isB 6 (b.val : Int) || isB 14 (b.val : Int)) := by decide +kernel
theorem esc_is (c : UInt8) : shB c = (isB 6 (c.toNat : Int) || ((c.toNat : Int) == 34 || (c.toNat : Int) == 92)) ∧ (decide (32 ≤ c.toNat) && !decide (c.toNat = 127)) = (shB c || isB 14 (c.toNat : Int)) ∧ qtB c = (isB 6 (c.toNat : Int) || isB 14 (c.toNat : Int)) := by
  have := esc_fin ⟨c.toNat, c.toNat_lt⟩
  simpa using this
def mayB (c : UInt8) : Bool := decide (32 ≤ c.toNat) && !decide (c.toNat = 127)

set_option maxHeartbeats 2000000 in
theorem esc_any (c : UInt8) (w : World) (ht : Table w) : Calls Tryz.prog 157 #[.int .u8 (c.toNat : Int)] w fun e w' => e = .returned (.bool (shB c)) ∧ w' = w := by
  rw [(esc_is c).1]
  have HI : Hid (Calls Tryz.prog 95 #[.int .i64 6, .int .u8 (c.toNat : Int)] w fun e w' => e = .returned (.bool (isB 6 (c.toNat : Int))) ∧ w' = w) := is_any 6 _ w ht
  clear ht
  generalize isB 6 (c.toNat : Int) = x at HI ⊢
  generalize (c.toNat : Int) = y at HI ⊢
  cases x
  · cases h1 : (y == 34)
    · go_enter Tryz.func157, Tryz.ntmps157
      go_wp2_with fail
      refine HI.out.mono ?_
      rintro e w1 ⟨rfl, rfl⟩
      go_wp2_with fail
      go_ret
      exact ⟨rfl, rfl⟩
    · go_enter Tryz.func157, Tryz.ntmps157
      go_wp2_with fail
      refine HI.out.mono ?_
      rintro e w1 ⟨rfl, rfl⟩
      go_wp2_with fail
      go_ret
      exact ⟨rfl, rfl⟩
  · go_enter Tryz.func157, Tryz.ntmps157
    go_wp2_with fail
    refine HI.out.mono ?_
    rintro e w1 ⟨rfl, rfl⟩
    go_wp2_with fail
    go_ret
    exact ⟨rfl, rfl⟩

set_option maxHeartbeats 2000000 in
theorem may_any (c : UInt8) (w : World) (ht : Table w) : Calls Tryz.prog 120 #[.int .u8 (c.toNat : Int)] w fun e w' => e = .returned (.bool (mayB c)) ∧ w' = w := by
  unfold mayB
  rw [(esc_is c).2.1]
  have HE : Hid (Calls Tryz.prog 157 #[.int .u8 (c.toNat : Int)] w fun e w' => e = .returned (.bool (shB c)) ∧ w' = w) := esc_any c w ht
  have HI : Hid (Calls Tryz.prog 95 #[.int .i64 14, .int .u8 (c.toNat : Int)] w fun e w' => e = .returned (.bool (isB 14 (c.toNat : Int))) ∧ w' = w) := is_any 14 _ w ht
  clear ht
  generalize isB 14 (c.toNat : Int) = x at HI ⊢
  generalize shB c = z at HE ⊢
  generalize (c.toNat : Int) = y at HI HE ⊢
  cases z
  · go_enter Tryz.func120, Tryz.ntmps120
    go_wp2_with fail
    refine HE.out.mono ?_
    rintro e w1 ⟨rfl, rfl⟩
    go_wp2_with fail
    refine HI.out.mono ?_
    rintro e w1 ⟨rfl, rfl⟩
    go_wp2_with fail
    go_ret
    exact ⟨rfl, rfl⟩
  · go_enter Tryz.func120, Tryz.ntmps120
    go_wp2_with fail
    refine HE.out.mono ?_
    rintro e w1 ⟨rfl, rfl⟩
    go_wp2_with fail
    go_ret
    exact ⟨rfl, rfl⟩

theorem spB_drop (f : UInt8 → Bool) (s : ByteArray) (k : Nat) (h : k < s.size) : spB f (s.data.toList.drop k) = if f s[k] = true then spB f (s.data.toList.drop (k + 1)) + 1 else 0 := by
  rw [drop_at s k h, spB]

set_option maxHeartbeats 4000000 in
set_option maxRecDepth 20000 in
theorem atom_any (s : ByteArray) (a : Nat) (ha : a ≤ s.size) (hs : s.size ≤ maxLen) (w : World) (ht : Table w) : Calls Tryz.prog 188 #[.string s, .int .i64 (a : Nat)] w fun e w' => e = .returned (.int .i64 (a + spB atB (s.data.toList.drop a) : Nat)) ∧ w' = w := by
  unfold maxLen at hs
  have HI : Hid (∀ c b : Int, Calls Tryz.prog 95 #[.int .i64 c, .int .u8 b] w fun e w' => e = .returned (.bool (isB c b)) ∧ w' = w) := fun c b => is_any c b w ht
  clear ht
  obtain ⟨R, hR⟩ : ∃ R, R = a + spB atB (s.data.toList.drop a) := ⟨_, rfl⟩
  rw [← hR]
  have HR : Hid (R = a + spB atB (s.data.toList.drop a)) := hR
  clear hR
  go_enter Tryz.func188, Tryz.ntmps188
  go_wp2_with fail
  go_loop [1] (fun i => ∃ k : Nat, a ≤ k ∧ k ≤ s.size ∧ i = .int .i64 k ∧ Hid (R = k + spB atB (s.data.toList.drop k))) (fun i => s.size - (intOf i).toNat)
  case atStart => exact ⟨a, Nat.le_refl _, ha, rfl, HR.out⟩
  case round =>
    obtain ⟨k, hak, hk, rfl, HH⟩ := hrel
    clear HR
    by_cases hlt : k < s.size
    · have hlt' : (k : Int) < (s.size : Int) := by omega
      have HX := HI.out 5 (s[k].toNat : Int)
      have HY := HI.out 14 (s[k].toNat : Int)
      have hB := atom_is s[k]
      have hD := spB_drop atB s k hlt
      rw [hB] at hD
      generalize isB 5 (s[k].toNat : Int) = x at HX hD
      generalize isB 14 (s[k].toNat : Int) = y at HY hD
      have HX1 : Hid (Calls Tryz.prog 95 #[.int .i64 5, .int .u8 (s[k].toNat : Int)] w fun e w' => e = .returned (.bool x) ∧ w' = w) := HX
      have HY1 : Hid (Calls Tryz.prog 95 #[.int .i64 14, .int .u8 (s[k].toNat : Int)] w fun e w' => e = .returned (.bool y) ∧ w' = w) := HY
      clear HX HY hB HI
      cases x
      · cases y
        · have HD : Hid (R = k) := by
            show R = k
            rw [HH.out, hD]
            rfl
          clear hD HH
          go_wp2_with fail
          refine HX1.out.mono ?_
          rintro e w1 ⟨rfl, rfl⟩
          go_wp2_with fail
          refine HY1.out.mono ?_
          rintro e w1 ⟨rfl, rfl⟩
          go_wp2_with fail
          go_ret
          exact ⟨by rw [HD.out]; rfl, rfl⟩
        · have HD : Hid (R = (k + 1) + spB atB (s.data.toList.drop (k + 1))) := by
            show R = _
            rw [HH.out, hD]
            simp only [Bool.or_true, if_true]
            omega
          clear hD HH
          go_wp2_with fail
          refine HX1.out.mono ?_
          rintro e w1 ⟨rfl, rfl⟩
          go_wp2_with fail
          refine HY1.out.mono ?_
          rintro e w1 ⟨rfl, rfl⟩
          go_wp2_with fail
          go_round
          case rel => exact ⟨k + 1, by omega, by omega, by go_num, HD⟩
          case measure => simp [intOf]; omega
      · have HD : Hid (R = (k + 1) + spB atB (s.data.toList.drop (k + 1))) := by
          show R = _
          rw [HH.out, hD]
          simp only [Bool.true_or, if_true]
          omega
        clear hD HH
        go_wp2_with fail
        refine HX1.out.mono ?_
        rintro e w1 ⟨rfl, rfl⟩
        go_wp2_with fail
        go_round
        case rel => exact ⟨k + 1, by omega, by omega, by go_num, HD⟩
        case measure => simp [intOf]; omega
    · have hlt' : ¬ (k : Int) < (s.size : Int) := by omega
      have HD : Hid (R = k) := by
        show R = k
        rw [HH.out, drop_past s k (by omega)]
        rfl
      clear HH
      go_wp2_with fail
      go_ret
      exact ⟨by rw [HD.out]; rfl, rfl⟩

theorem RwK.run {s : ByteArray} {R e f : Nat} (h : RwK s R e f f) : ∀ n, n ≤ spB atB (s.data.toList.drop f) → RwK s R e f (f + n)
  | 0, _ => h
  | n + 1, hn => by
    have hl := spB_le atB (s.data.toList.drop f)
    rw [List.length_drop, len_list] at hl
    have hp := spB_pre atB (s.data.toList.drop f) n (by rw [List.length_drop, len_list]; omega) (by omega)
    rw [List.getElem_drop, get_list] at hp
    exact (RwK.run h n (by omega)).step (by omega) hp
theorem atom_no (s : ByteArray) (f : Nat) : ∀ h : f + spB atB (s.data.toList.drop f) < s.size, atB (s[f + spB atB (s.data.toList.drop f)]) = false := by
  intro h
  have := spB_stop atB (s.data.toList.drop f) (by rw [List.length_drop, len_list]; omega)
  rw [List.getElem_drop, get_list] at this
  exact this

set_option maxHeartbeats 4000000 in
set_option maxRecDepth 20000 in
theorem atoms_any (s : ByteArray) (hs : s.size ≤ maxLen) (w : World) (ht : Table w) : Calls Tryz.prog 158 #[.string s] w fun e w' => e = .returned (.int .i64 (rowL s.data.toList : Nat)) ∧ w' = w := by
  have HA : Hid (∀ a, a ≤ s.size → Calls Tryz.prog 188 #[.string s, .int .i64 (a : Nat)] w fun e w' => e = .returned (.int .i64 (a + spB atB (s.data.toList.drop a) : Nat)) ∧ w' = w) := fun a ha => atom_any s a ha hs w ht
  unfold maxLen at hs
  clear ht
  have HS0 := RwE.start s 0 (Nat.zero_le _)
  have hR : 0 + rowL (s.data.toList.drop 0) = rowL s.data.toList := by rw [Nat.zero_add, List.drop_zero]
  rw [hR] at HS0
  generalize rowL s.data.toList = R at HS0
  clear hR
  have HSt : Hid (∀ e, e = spB atB s.data.toList → e ≤ s.size ∧ (e = 0 → R = 0) ∧ (0 < e → RwE s R 0 e)) := by
    rintro e rfl
    have hl := spB_le atB s.data.toList
    rw [len_list] at hl
    have hn := atom_no s 0
    rw [List.drop_zero, Nat.zero_add] at hn
    refine ⟨hl, fun h0 => ?_, fun h0 => ?_⟩
    · rw [h0] at hn
      exact HS0.first.none hn
    · have := HS0.first.run (spB atB s.data.toList) (by rw [List.drop_zero]; exact Nat.le_refl _)
      rw [Nat.zero_add] at this
      exact this.out (Nat.le_refl _) (Nat.le_refl _) h0 hn
  have HA0 : Hid (Calls Tryz.prog 188 #[.string s, .int .i64 0] w fun e w' => e = .returned (.int .i64 (spB atB s.data.toList : Nat)) ∧ w' = w) := by
    have := HA.out 0 (Nat.zero_le _)
    rw [Nat.zero_add, List.drop_zero] at this
    exact this
  obtain ⟨e0, he0⟩ : ∃ e0, e0 = spB atB s.data.toList := ⟨_, rfl⟩
  rw [← he0] at HA0
  have HS1 : Hid (e0 ≤ s.size ∧ (e0 = 0 → R = 0) ∧ (0 < e0 → RwE s R 0 e0)) := HSt.out e0 he0
  clear HSt he0 HS0
  go_enter Tryz.func158, Tryz.ntmps158
  go_wp2_with fail
  refine HA0.out.mono ?_
  rintro e w1 ⟨rfl, rfl⟩
  clear HA0
  go_wp2_with fail
  go_loop [3] (fun i => ∃ e : Nat, e ≤ s.size ∧ i = .int .i64 e ∧ Hid (e = 0 → R = 0) ∧ Hid (0 < e → RwE s R 0 e)) (fun i => s.size - (intOf i).toNat)
  case atStart => exact ⟨e0, HS1.out.1, rfl, HS1.out.2.1, HS1.out.2.2⟩
  case round =>
    obtain ⟨e, hes, rfl, HZ, HE⟩ := hrel
    clear HS1
    by_cases h1 : 0 < e
    · have h1' : (0 : Int) < (e : Int) := by omega
      by_cases h2 : ∃ h : e < s.size, s[e] = 46
      · obtain ⟨hl, hc⟩ := h2
        obtain ⟨n46, _⟩ := b_eq s[e] 46 46 rfl
        rw [decide_eq_true hc] at n46
        have hl' : (e : Int) < (s.size : Int) := by omega
        obtain ⟨n, hn⟩ : ∃ n, n = e + 1 + spB atB (s.data.toList.drop (e + 1)) := ⟨_, rfl⟩
        have HK0 := (HE.out h1).dot h1 hl hc
        have hle := spB_le atB (s.data.toList.drop (e + 1))
        rw [List.length_drop, len_list] at hle
        have HA1 : Hid (Calls Tryz.prog 188 #[.string s, .int .i64 ((e : Int) + 1)] w1 fun e w' => e = .returned (.int .i64 (n : Nat)) ∧ w' = w1) := by
          have := HA.out (e + 1) (by omega)
          rw [← hn] at this
          exact this
        have hno := atom_no s (e + 1)
        have hn1 : e + 1 ≤ n := by omega
        have hn2 : n ≤ s.size := by omega
        by_cases hne : n = e + 1
        · have hkb : ((n : Int) == (e : Int) + 1) = true := by rw [beq_iff_eq]; omega
          have HR : Hid (R = e) := by
            have h0 : spB atB (s.data.toList.drop (e + 1)) = 0 := by omega
            rw [h0] at hno
            exact HK0.none hno
          clear hno hle HK0 hc hne hn HA HE HZ
          go_wp2_with fail
          refine HA1.out.mono ?_
          rintro e' w2 ⟨rfl, rfl⟩
          go_wp2_with fail
          go_ret
          exact ⟨by rw [HR.out]; rfl, rfl⟩
        · have hkb : ((n : Int) == (e : Int) + 1) = false := by rw [beq_eq_false_iff_ne]; omega
          have HR : Hid (RwE s R 0 n) := by
            have := HK0.run _ (Nat.le_refl _)
            rw [hn]
            exact this.out (Nat.zero_le _) (by omega) (by omega) hno
          clear hno hle HK0 hc hne hn HA HE HZ
          go_wp2_with fail
          refine HA1.out.mono ?_
          rintro e' w2 ⟨rfl, rfl⟩
          go_wp2_with fail
          go_round
          case rel => exact ⟨n, hn2, rfl, fun h => absurd h (by omega), fun _ => HR.out⟩
          case measure => simp [intOf]; omega
      · have HR : Hid (R = e) := (HE.out h1).stop h1 (fun h hc => h2 ⟨h, hc⟩)
        clear HE HZ HA
        by_cases hl : e < s.size
        · have hl' : (e : Int) < (s.size : Int) := by omega
          obtain ⟨n46, _⟩ := b_eq s[e] 46 46 rfl
          rw [decide_eq_false (fun hc => h2 ⟨hl, hc⟩)] at n46
          clear h2
          go_wp2_with fail
          go_ret
          exact ⟨by rw [HR.out]; rfl, rfl⟩
        · have hl' : ¬ (e : Int) < (s.size : Int) := by omega
          clear h2
          go_wp2_with fail
          go_ret
          exact ⟨by rw [HR.out]; rfl, rfl⟩
    · have h0 : e = 0 := by omega
      have HR : Hid (R = e) := by
        show R = e
        rw [HZ.out h0, h0]
      have h1' : ¬ (0 : Int) < (e : Int) := by omega
      clear HE HZ HA h0
      go_wp2_with fail
      go_ret
      exact ⟨by rw [HR.out]; rfl, rfl⟩

/-- The first byte that stands in a text though it may not with this wide. -/
def fwN (wide : Bool) (l : List UInt8) : Nat := if wide = true then badU l else spB loB l
set_option maxHeartbeats 2000000 in
theorem fw_any (s : ByteArray) (wide : Bool) (hs : s.size ≤ 140737488355328) (w : World) (ht : Table w) (hf : Fst w) : Calls Tryz.prog 122 #[.string s, .bool wide] w fun e w' => e = .returned (.int .i64 (fwN wide s.data.toList : Nat)) ∧ Below w.heap.size w w' := by
  have HU : Hid (Calls Tryz.prog 114 #[.string s] w fun e w' => e = .returned (.int .i64 (badU s.data.toList)) ∧ Below w.heap.size w w') := ubs_any s w hf (by omega)
  have HB : Hid (Calls Tryz.prog 48 #[.int .i64 13, .string s] w fun e w' => e = .returned (.int .i64 (spB loB s.data.toList : Nat)) ∧ w' = w) := by
    have := bad_anyT 13 s w ht (by unfold maxLen; omega)
    rw [badN_spB 13 loB (fun b => (ld_is b).2.2.2.2)] at this
    exact this
  clear ht hf
  cases wide
  · go_enter Tryz.func122, Tryz.ntmps122
    go_wp2_with fail
    refine HB.out.mono ?_
    rintro e w1 ⟨rfl, rfl⟩
    go_wp2_with fail
    go_ret
    exact ⟨rfl, Below.refl _ _⟩
  · go_enter Tryz.func122, Tryz.ntmps122
    go_wp2_with fail
    refine HU.out.mono ?_
    rintro e w1 ⟨rfl, hb⟩
    go_wp2_with fail
    go_ret
    exact ⟨rfl, hb⟩
end Go.Proofs.YthkoionigdnhgabGreatDoor
