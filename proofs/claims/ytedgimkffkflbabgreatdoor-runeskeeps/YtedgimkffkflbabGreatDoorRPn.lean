/-
  The document's bound, Bias, worth and step.
-/
import Derived.Test.YtedgimkffkflbabGreatDoorRdst
import Derived.Test.YtedgimkffkflbabGreatDoorREnc
import Derived.Lib.SlBytesConst
namespace Go.Proofs.YtedgimkffkflbabGreatDoor
open Go.RowKit

set_option maxHeartbeats 1000000 in
set_option maxRecDepth 100000 in
theorem dbound_any (i bias : Nat) (hi : i ≤ 4294967296) (hb : bias ≤ 8589934592) (w : World) :
    Calls Tryz.prog 60 #[.int .i64 i, .int .i64 bias] w fun e w' => e = .returned (.int .i64 (bnd i bias)) ∧ w' = w := by
  have HB : Hid ((bnd i bias : Int) = min (max (36 * ((i : Int) + 1) - bias) 1) 26) := by
    show _ = _
    unfold bnd
    omega
  have hw : IntKind.i64.wrap (36 * ((i : Int) + 1) - bias) = 36 * ((i : Int) + 1) - bias := by rw [IntKind.wrap_i64]; omega
  by_cases h1 : 36 * ((i : Int) + 1) - bias < 1
  · go_enter Tryz.func60, Tryz.ntmps60
    go_wp2
    go_ret
    refine ⟨ret_i64 ?_, rfl⟩
    rw [HB.out]
    omega
  by_cases h2 : 26 < 36 * ((i : Int) + 1) - bias
  · go_enter Tryz.func60, Tryz.ntmps60
    go_wp2
    go_ret
    refine ⟨ret_i64 ?_, rfl⟩
    rw [HB.out]
    omega
  · go_enter Tryz.func60, Tryz.ntmps60
    go_wp2
    go_ret
    refine ⟨ret_i64 ?_, rfl⟩
    rw [HB.out]
    omega

set_option maxHeartbeats 1000000 in
set_option maxRecDepth 100000 in
theorem dbias_any (s h : Nat) (first : Bool) (hs : s ≤ 2147483647) (h0 : 0 < h) (hh : h ≤ 4294967296) (w : World) :
    Calls Tryz.prog 29 #[.int .i64 s, .int .i64 h, .bool first] w fun e w' => e = .returned (.int .i64 (biasB s h first)) ∧ w' = w := by
  have q2 : (s : Int).tdiv 2 = ((s / 2 : Nat) : Int) := by rw [Int.tdiv_eq_ediv_of_nonneg (by omega)]; omega
  have q7 : (s : Int).tdiv 700 = ((s / 700 : Nat) : Int) := by rw [Int.tdiv_eq_ediv_of_nonneg (by omega)]; omega
  have HB : Hid (biasB s h first = biasL ((if first then s / 700 else s / 2) + (if first then s / 700 else s / 2) / h) 0) := rfl
  generalize hB : biasB s h first = B at HB ⊢
  clear hB
  cases first
  · simp only [Bool.false_eq_true, if_false] at HB
    have hd2 : s / 2 ≤ 2147483647 := by omega
    generalize s / 2 = d at HB q2 hd2
    have qh : (d : Int).tdiv h = ((d / h : Nat) : Int) := by rw [Int.tdiv_eq_ediv_of_nonneg (by omega), Int.natCast_ediv]
    have hdh := Nat.div_le_self d h
    generalize d / h = dh at HB qh hdh
    go_enter Tryz.func29, Tryz.ntmps29
    go_wp2
    go_loop [7, 8] (fun dv kv => ∃ x k : Nat, dv = .int .i64 x ∧ kv = .int .i64 k ∧ x ≤ 4294967296 ∧ k + 36 * x ≤ 154618822656 ∧ Hid (B = biasL x k)) (fun dv _ => (intOf dv).toNat)
    case atStart => exact ⟨d + dh, 0, by go_num, rfl, by omega, by omega, HB⟩
    case round =>
      obtain ⟨x, k, rfl, rfl, hx, hk, HX⟩ := hrel
      by_cases hl : 455 < x
      · have q35 : (x : Int).tdiv 35 = ((x / 35 : Nat) : Int) := by rw [Int.tdiv_eq_ediv_of_nonneg (by omega)]; omega
        have HX2 : Hid (B = biasL (x / 35) (k + 36)) := by show _ = _; rw [HX.out, biasL_go hl]
        have hx35 : x / 35 < x := by omega
        have hk35 : k + 36 + 36 * (x / 35) ≤ 154618822656 := by omega
        generalize x / 35 = y at q35 HX2 hx35 hk35
        go_wp2
        go_round
        case rel => exact ⟨y, k + 36, by first | rfl | go_num, by go_num, by omega, hk35, HX2⟩
        case measure => simp [intOf]; omega
      · have qe : (36 * (x : Int)).tdiv ((x : Int) + 38) = ((36 * x / (x + 38) : Nat) : Int) := by rw [Int.tdiv_eq_ediv_of_nonneg (by omega), Int.natCast_ediv]; push_cast; rfl
        have HX2 : Hid (B = k + 36 * x / (x + 38)) := by show _ = _; rw [HX.out, biasL_end hl]
        have hle : 36 * x / (x + 38) ≤ 36 * x := Nat.div_le_self _ _
        generalize 36 * x / (x + 38) = y at qe HX2 hle
        go_wp2
        go_ret
        exact ⟨ret_i64 (by rw [HX2.out]; push_cast; rfl), rfl⟩
  · simp only [if_true] at HB
    have hd2 : s / 700 ≤ 2147483647 := by omega
    generalize s / 700 = d at HB q7 hd2
    have qh : (d : Int).tdiv h = ((d / h : Nat) : Int) := by rw [Int.tdiv_eq_ediv_of_nonneg (by omega), Int.natCast_ediv]
    have hdh := Nat.div_le_self d h
    generalize d / h = dh at HB qh hdh
    have hs2 : s / 2 ≤ 2147483647 := by omega
    generalize s / 2 = d2 at q2 hs2
    go_enter Tryz.func29, Tryz.ntmps29
    go_wp2
    go_loop [7, 8] (fun dv kv => ∃ x k : Nat, dv = .int .i64 x ∧ kv = .int .i64 k ∧ x ≤ 4294967296 ∧ k + 36 * x ≤ 154618822656 ∧ Hid (B = biasL x k)) (fun dv _ => (intOf dv).toNat)
    case atStart => exact ⟨d + dh, 0, by go_num, rfl, by omega, by omega, HB⟩
    case round =>
      obtain ⟨x, k, rfl, rfl, hx, hk, HX⟩ := hrel
      by_cases hl : 455 < x
      · have q35 : (x : Int).tdiv 35 = ((x / 35 : Nat) : Int) := by rw [Int.tdiv_eq_ediv_of_nonneg (by omega)]; omega
        have HX2 : Hid (B = biasL (x / 35) (k + 36)) := by show _ = _; rw [HX.out, biasL_go hl]
        have hx35 : x / 35 < x := by omega
        have hk35 : k + 36 + 36 * (x / 35) ≤ 154618822656 := by omega
        generalize x / 35 = y at q35 HX2 hx35 hk35
        go_wp2
        go_round
        case rel => exact ⟨y, k + 36, by first | rfl | go_num, by go_num, by omega, hk35, HX2⟩
        case measure => simp [intOf]; omega
      · have qe : (36 * (x : Int)).tdiv ((x : Int) + 38) = ((36 * x / (x + 38) : Nat) : Int) := by rw [Int.tdiv_eq_ediv_of_nonneg (by omega), Int.natCast_ediv]; push_cast; rfl
        have HX2 : Hid (B = k + 36 * x / (x + 38)) := by show _ = _; rw [HX.out, biasL_end hl]
        have hle : 36 * x / (x + 38) ≤ 36 * x := Nat.div_le_self _ _
        generalize 36 * x / (x + 38) = y at qe HX2 hle
        go_wp2
        go_ret
        exact ⟨ret_i64 (by rw [HX2.out]; push_cast; rfl), rfl⟩

/-- The digits' letters. -/
def dgL : List UInt8 := [97, 98, 99, 100, 101, 102, 103, 104, 105, 106, 107, 108, 109, 110, 111, 112, 113, 114, 115, 116, 117, 118, 119, 120, 121, 122, 48, 49, 50, 51, 52, 53, 54, 55, 56, 57]
/-- Does a byte stand for a letter of them? -/
def mtB (b c : UInt8) : Bool := b == c || (b + 32 == c && (decide (97 ≤ c.toNat) && decide (65 ≤ b.toNat)))
theorem mt_some : ∀ (b : Fin 256) (k : Fin 36), mtB (UInt8.ofNat b.val) (dgL[k.val]'k.isLt) = true → wth (UInt8.ofNat b.val) = some k.val := by decide +kernel
theorem mt_none : ∀ b : Fin 256, (dgL.all fun c => !mtB (UInt8.ofNat b.val) c) = true → wth (UInt8.ofNat b.val) = none := by decide +kernel
theorem wth_at (b : UInt8) (k : Nat) (hk : k < dgL.length) (h : mtB b dgL[k] = true) : wth b = some k := by
  have := mt_some ⟨b.toNat, b.toNat_lt⟩ ⟨k, hk⟩
  simp only [UInt8.ofNat_toNat] at this
  exact this h
theorem wth_no (b : UInt8) (h : ∀ k (hk : k < dgL.length), mtB b dgL[k] = false) : wth b = none := by
  have := mt_none ⟨b.toNat, b.toNat_lt⟩
  simp only [UInt8.ofNat_toNat] at this
  refine this (List.all_eq_true.2 fun c hc => ?_)
  obtain ⟨k, hk, rfl⟩ := List.getElem_of_mem hc
  rw [h k hk]
  rfl
def worN (b : UInt8) : Int := match wth b with | none => -1 | some v => (v : Int)

set_option maxHeartbeats 2000000 in
set_option maxRecDepth 100000 in
theorem dworth_any (b : UInt8) (w : World) : Calls Tryz.prog 59 #[.int .u8 (b.toNat : Int)] w fun e w' => e = .returned (.int .i64 (worN b)) ∧ Below w.heap.size w w' := by
  have hbl := b.toNat_lt
  have HC : Hid (∀ k (hk : k < dgL.length), (w.alloc (.cells #[.int .u8 97, .int .u8 98, .int .u8 99, .int .u8 100, .int .u8 101, .int .u8 102, .int .u8 103, .int .u8 104, .int .u8 105, .int .u8 106, .int .u8 107, .int .u8 108, .int .u8 109, .int .u8 110, .int .u8 111, .int .u8 112, .int .u8 113, .int .u8 114, .int .u8 115, .int .u8 116, .int .u8 117, .int .u8 118, .int .u8 119, .int .u8 120, .int .u8 121, .int .u8 122, .int .u8 48, .int .u8 49, .int .u8 50, .int .u8 51, .int .u8 52, .int .u8 53, .int .u8 54, .int .u8 55, .int .u8 56, .int .u8 57] 5 (36, 37))).cell? ⟨w.heap.size, k, none⟩ = some (.int .u8 (dgL[k].toNat : Int))) := fun k hk => by
    have h : (w.alloc (.cells #[.int .u8 97, .int .u8 98, .int .u8 99, .int .u8 100, .int .u8 101, .int .u8 102, .int .u8 103, .int .u8 104, .int .u8 105, .int .u8 106, .int .u8 107, .int .u8 108, .int .u8 109, .int .u8 110, .int .u8 111, .int .u8 112, .int .u8 113, .int .u8 114, .int .u8 115, .int .u8 116, .int .u8 117, .int .u8 118, .int .u8 119, .int .u8 120, .int .u8 121, .int .u8 122, .int .u8 48, .int .u8 49, .int .u8 50, .int .u8 51, .int .u8 52, .int .u8 53, .int .u8 54, .int .u8 55, .int .u8 56, .int .u8 57] 5 (36, 37))).heap[w.heap.size]? = some (.cells (rowV dgL) 5 (36, 37)) := heap_alloc_last w _
    rw [cell_of_row _ _ k (rowV dgL) 5 (36, 37) h, rowV_at dgL k hk]
  have HW : Hid (Below w.heap.size w (w.alloc (.cells #[.int .u8 97, .int .u8 98, .int .u8 99, .int .u8 100, .int .u8 101, .int .u8 102, .int .u8 103, .int .u8 104, .int .u8 105, .int .u8 106, .int .u8 107, .int .u8 108, .int .u8 109, .int .u8 110, .int .u8 111, .int .u8 112, .int .u8 113, .int .u8 114, .int .u8 115, .int .u8 116, .int .u8 117, .int .u8 118, .int .u8 119, .int .u8 120, .int .u8 121, .int .u8 122, .int .u8 48, .int .u8 49, .int .u8 50, .int .u8 51, .int .u8 52, .int .u8 53, .int .u8 54, .int .u8 55, .int .u8 56, .int .u8 57] 5 (36, 37)))) := (Below.refl _ w).alloc (Nat.le_refl _) _
  have hcv : (convert 23 23 (.slice (some ⟨w.heap.size, 0, none⟩) 36 36)).run Tryz.prog (w.alloc (.cells #[.int .u8 97, .int .u8 98, .int .u8 99, .int .u8 100, .int .u8 101, .int .u8 102, .int .u8 103, .int .u8 104, .int .u8 105, .int .u8 106, .int .u8 107, .int .u8 108, .int .u8 109, .int .u8 110, .int .u8 111, .int .u8 112, .int .u8 113, .int .u8 114, .int .u8 115, .int .u8 116, .int .u8 117, .int .u8 118, .int .u8 119, .int .u8 120, .int .u8 121, .int .u8 122, .int .u8 48, .int .u8 49, .int .u8 50, .int .u8 51, .int .u8 52, .int .u8 53, .int .u8 54, .int .u8 55, .int .u8 56, .int .u8 57] 5)) = .ok (.slice (some ⟨w.heap.size, 0, none⟩) 36 36) (w.alloc (.cells #[.int .u8 97, .int .u8 98, .int .u8 99, .int .u8 100, .int .u8 101, .int .u8 102, .int .u8 103, .int .u8 104, .int .u8 105, .int .u8 106, .int .u8 107, .int .u8 108, .int .u8 109, .int .u8 110, .int .u8 111, .int .u8 112, .int .u8 113, .int .u8 114, .int .u8 115, .int .u8 116, .int .u8 117, .int .u8 118, .int .u8 119, .int .u8 120, .int .u8 121, .int .u8 122, .int .u8 48, .int .u8 49, .int .u8 50, .int .u8 51, .int .u8 52, .int .u8 53, .int .u8 54, .int .u8 55, .int .u8 56, .int .u8 57] 5 (36, 37))) := Lib.run_convert_bytes_const (P := Tryz.prog) w 23 5 #[.int .u8 97, .int .u8 98, .int .u8 99, .int .u8 100, .int .u8 101, .int .u8 102, .int .u8 103, .int .u8 104, .int .u8 105, .int .u8 106, .int .u8 107, .int .u8 108, .int .u8 109, .int .u8 110, .int .u8 111, .int .u8 112, .int .u8 113, .int .u8 114, .int .u8 115, .int .u8 116, .int .u8 117, .int .u8 118, .int .u8 119, .int .u8 120, .int .u8 121, .int .u8 122, .int .u8 48, .int .u8 49, .int .u8 50, .int .u8 51, .int .u8 52, .int .u8 53, .int .u8 54, .int .u8 55, .int .u8 56, .int .u8 57] 36 36 Tryz.underlying23 Tryz.underlying5
  have HE0 : Hid (∀ k (hk : k < dgL.length), mtB b dgL[k] = true → worN b = k) := fun k hk h => by unfold worN; rw [wth_at b k hk h]
  have HE1 : Hid ((∀ k (hk : k < dgL.length), mtB b dgL[k] = false) → worN b = -1) := fun h => by unfold worN; rw [wth_no b h]
  go_enter Tryz.func59, Tryz.ntmps59
  go_wp2_with fail
  generalize w.alloc (.cells #[.int .u8 97, .int .u8 98, .int .u8 99, .int .u8 100, .int .u8 101, .int .u8 102, .int .u8 103, .int .u8 104, .int .u8 105, .int .u8 106, .int .u8 107, .int .u8 108, .int .u8 109, .int .u8 110, .int .u8 111, .int .u8 112, .int .u8 113, .int .u8 114, .int .u8 115, .int .u8 116, .int .u8 117, .int .u8 118, .int .u8 119, .int .u8 120, .int .u8 121, .int .u8 122, .int .u8 48, .int .u8 49, .int .u8 50, .int .u8 51, .int .u8 52, .int .u8 53, .int .u8 54, .int .u8 55, .int .u8 56, .int .u8 57] 5 (36, 37)) = w1 at HC HW ⊢
  clear hcv
  go_loop [3, 4, 8] (fun _ _ i => ∃ k : Nat, i = .int .i64 k ∧ k ≤ 36 ∧ Hid (∀ j (hj : j < dgL.length), j < k → mtB b dgL[j] = false)) (fun _ _ i => 36 - (intOf i).toNat)
  case atStart => exact ⟨0, rfl, by omega, fun j _ h => absurd h (Nat.not_lt_zero _)⟩
  case round =>
    obtain ⟨k, rfl, hk, HP⟩ := hrel
    by_cases hk6 : k < 36
    · have hkd : k < dgL.length := hk6
      have hck := HC.out k hkd
      have HM : Hid (mtB b dgL[k] = (b == dgL[k] || (b + 32 == dgL[k] && (decide (97 ≤ (dgL[k]).toNat) && decide (65 ≤ b.toNat))))) := rfl
      have HA := HE0.out k hkd
      have HPN : mtB b dgL[k] = false → Hid (∀ j (hj : j < dgL.length), j < k + 1 → mtB b dgL[j] = false) := fun h j hj hjk => by
        rcases Nat.lt_or_ge j k with h' | h'
        · exact HP.out j hj h'
        · obtain rfl : j = k := by omega
          exact h
      have hcl := (dgL[k]).toNat_lt
      generalize dgL[k] = c at *
      have h32 : IntKind.u8.wrap ((b.toNat : Int) + 32) = (((b + 32).toNat : Nat) : Int) := by
        rw [IntKind.wrap_u8, UInt8.toNat_add]
        simp
      have h32l := (b + 32).toNat_lt
      have e1 : (b = c) ↔ b.toNat = c.toNat := UInt8.toNat_inj.symm
      have e2 : (b + 32 = c) ↔ (b + 32).toNat = c.toNat := UInt8.toNat_inj.symm
      have HM2 : Hid (mtB b c = true ↔ (b.toNat = c.toNat ∨ ((b + 32).toNat = c.toNat ∧ 97 ≤ c.toNat ∧ 65 ≤ b.toNat))) := by
        show _ ↔ _
        rw [HM.out]
        simp [e1, e2]
      clear e1 e2 HM
      generalize (b + 32).toNat = b32 at *
      by_cases h1 : b.toNat = c.toNat
      · have HR : Hid (worN b = k) := HA (HM2.out.2 (.inl h1))
        have h1' : (b.toNat : Int) = (c.toNat : Int) := by omega
        clear HPN HA HM2
        go_wp2
        go_ret
        exact ⟨ret_i64 (by rw [HR.out]), HW.out⟩
      · have h1' : ¬ (b.toNat : Int) = (c.toNat : Int) := by omega
        by_cases h2 : b32 = c.toNat
        · have h2' : (b32 : Int) = (c.toNat : Int) := by omega
          by_cases h3 : 97 ≤ c.toNat
          · have h3' : (97 : Int) ≤ (c.toNat : Int) := by omega
            by_cases h4 : 65 ≤ b.toNat
            · have h4' : (65 : Int) ≤ (b.toNat : Int) := by omega
              have HR : Hid (worN b = k) := HA (HM2.out.2 (.inr ⟨h2, h3, h4⟩))
              clear HPN HA HM2
              go_wp2
              go_ret
              exact ⟨ret_i64 (by rw [HR.out]), HW.out⟩
            · have h4' : ¬ (65 : Int) ≤ (b.toNat : Int) := by omega
              have HR := HPN (by rw [Bool.eq_false_iff]; intro h; have := HM2.out.1 h; omega)
              clear HPN HA HM2
              go_wp2
              go_round
              case rel => exact ⟨k + 1, by go_num, by omega, HR⟩
              case measure => simp [intOf]; omega
          · have h3' : ¬ (97 : Int) ≤ (c.toNat : Int) := by omega
            have HR := HPN (by rw [Bool.eq_false_iff]; intro h; have := HM2.out.1 h; omega)
            clear HPN HA HM2
            go_wp2
            go_round
            case rel => exact ⟨k + 1, by go_num, by omega, HR⟩
            case measure => simp [intOf]; omega
        · have h2' : ¬ (b32 : Int) = (c.toNat : Int) := by omega
          have HR := HPN (by rw [Bool.eq_false_iff]; intro h; have := HM2.out.1 h; omega)
          clear HPN HA HM2
          go_wp2
          go_round
          case rel => exact ⟨k + 1, by go_num, by omega, HR⟩
          case measure => simp [intOf]; omega
    · obtain rfl : k = 36 := by omega
      have HR : Hid (worN b = -1) := HE1.out (fun j hj => HP.out j hj hj)
      clear hk6
      go_wp2
      go_ret
      exact ⟨ret_i64 (by rw [HR.out]), HW.out⟩
end Go.Proofs.YtedgimkffkflbabGreatDoor
