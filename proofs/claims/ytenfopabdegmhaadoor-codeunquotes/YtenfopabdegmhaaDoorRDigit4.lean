/-
  The contracts of the document's Upper, Same and Digit.
-/
import Derived.Test.YtenfopabdegmhaaDoorGrown
import Derived.WalkKit
import Derived.WalkSpells
import Derived.Below
import Derived.Laws.IdiomStrings
import Derived.Deep.QuietTactic
import Derived.BigQuiet
import Derived.Test.YtenfopabdegmhaaDoorPureHex
import Derived.Deep.RegionWith
namespace Go.Proofs.YtenfopabdegmhaaDoor
open Go.RowKit

/-- A byte's capital. -/
def upB (b : UInt8) : UInt8 := if 97 ≤ b.toNat ∧ b.toNat ≤ 122 then UInt8.ofNat (b.toNat - 32) else b
/-- A row of bytes in capitals. -/
def upL (l : List UInt8) : List UInt8 := l.map upB
def upS (s : ByteArray) : ByteArray := ⟨(upL s.data.toList).toArray⟩

theorem upB_no (b : UInt8) (h : ¬ (97 ≤ b.toNat ∧ b.toNat ≤ 122)) : upB b = b := if_neg h
theorem upB_yes (b : UInt8) (h1 : 97 ≤ b.toNat) (h2 : b.toNat ≤ 122) : (upB b).toNat = b.toNat - 32 := by
  unfold upB
  rw [if_pos ⟨h1, h2⟩]
  simp
  omega
theorem upS_size (s : ByteArray) : (upS s).size = s.size := by
  show (upL s.data.toList).toArray.size = s.data.size
  rw [List.size_toArray, upL, List.length_map, Array.length_toList]
/-- The first k bytes in capitals, the others as they are: the byte at j. -/
def upAt (l : List UInt8) (k j : Nat) : UInt8 := if j < k then upB (l.getD j 0) else l.getD j 0
theorem upAt_zero (l : List UInt8) (j : Nat) : upAt l 0 j = l.getD j 0 := by simp [upAt]
theorem upAt_self (l : List UInt8) (k : Nat) : upAt l k k = l.getD k 0 := by simp [upAt]
theorem upAt_step (l : List UInt8) (k : Nat) : upAt l (k + 1) k = upB (l.getD k 0) := by simp [upAt]
theorem upAt_other (l : List UInt8) (k j : Nat) (h : j ≠ k) : upAt l (k + 1) j = upAt l k j := by
  unfold upAt
  by_cases h1 : j < k
  · rw [if_pos h1, if_pos (by omega)]
  · rw [if_neg h1, if_neg (by omega)]
theorem upAt_all (l : List UInt8) (n j : Nat) (hn : n = l.length) (h : j < (upL l).length) : upAt l n j = (upL l)[j] := by
  have h' : j < l.length := by simpa [upL] using h
  subst hn
  simp [upAt, upL, h', List.getD_eq_getElem?_getD]
theorem upB_fin : ∀ b : Fin 256, upB (upB (UInt8.ofNat b.val)) = upB (UInt8.ofNat b.val) := by decide +kernel
theorem upB_twice (b : UInt8) : upB (upB b) = upB b := by
  have := upB_fin ⟨b.toNat, b.toNat_lt⟩
  simpa using this
theorem upL_twice (l : List UInt8) : upL (upL l) = upL l := by simp [upL, upB_twice]
theorem upS_twice (s : ByteArray) : upS (upS s) = upS s := by
  show (⟨(upL (upL s.data.toList)).toArray⟩ : ByteArray) = _
  rw [upL_twice]
  rfl

/-- A number's capital, when the first k small letters were looked at. -/
def upTo (x : Int) (k : Nat) : Int := if 97 ≤ x ∧ x < 97 + (k : Int) then x - 32 else x
theorem upTo_zero (x : Int) : upTo x 0 = x := if_neg (by omega)
theorem upTo_hit (x : Int) (k : Nat) (h : 97 + (k : Int) = x) : upTo x (k + 1) = 65 + (k : Int) := by
  unfold upTo; rw [if_pos (by omega)]; omega
theorem upTo_miss (x : Int) (k : Nat) (h : ¬ 97 + (k : Int) = x) : upTo x (k + 1) = upTo x k := by
  unfold upTo
  by_cases h1 : 97 ≤ x ∧ x < 97 + (k : Int)
  · rw [if_pos h1, if_pos (by omega)]
  · rw [if_neg h1, if_neg (by omega)]
theorem upTo_all (b : UInt8) : upTo (b.toNat : Int) 26 = ((upB b).toNat : Int) := by
  by_cases h : 97 ≤ b.toNat ∧ b.toNat ≤ 122
  · rw [upB_yes b h.1 h.2]
    unfold upTo
    rw [if_pos (by omega)]
    omega
  · rw [upB_no b h]
    unfold upTo
    rw [if_neg (by omega)]

theorem small_fin : ∀ m : Fin 26, (((⟨#[97, 98, 99, 100, 101, 102, 103, 104, 105, 106, 107, 108, 109, 110, 111, 112, 113, 114, 115, 116, 117, 118, 119, 120, 121, 122]⟩ : ByteArray)[m.val]'m.isLt).toNat : Int) = 97 + (m.val : Int) := by decide
theorem cap_fin : ∀ m : Fin 26, (((⟨#[65, 66, 67, 68, 69, 70, 71, 72, 73, 74, 75, 76, 77, 78, 79, 80, 81, 82, 83, 84, 85, 86, 87, 88, 89, 90]⟩ : ByteArray)[m.val]'m.isLt).toNat : Int) = 65 + (m.val : Int) := by decide

theorem take_up (s : ByteArray) (k : Nat) (h : k < s.size) : (upL s.data.toList).take (k + 1) = (upL s.data.toList).take k ++ [upB s[k]] := by
  rw [List.take_succ_eq_append_getElem (by simpa [upL] using h)]
  simp [upL]
  rfl

set_option maxRecDepth 100000 in
set_option maxHeartbeats 1000000 in
theorem rupper_any (s : ByteArray) (w : World) (hs : s.size ≤ 140737488351232) :
    Calls Tryd.prog 64 #[.string s] w fun e w' => e = .returned (.string (upS s)) ∧ Below w.heap.size w w' := by
  obtain ⟨i0, hi, hz0, hz1, hz2⟩ := info_parts info5
  go_enter Tryd.func64, Tryd.ntmps64
  go_wp2
  go_loopw [3, 4] (fun v i wr => ∃ k : Nat, k ≤ s.size ∧ i = .int .i64 k ∧ Hid (wr.ownsRow w.heap.size 5 1 v ((upL s.data.toList).take k).length (cellsB ((upL s.data.toList).take k))) ∧ Hid (Below w.heap.size w wr)) (fun _ i _ => s.size - (intOf i).toNat)
  case atStart => exact ⟨0, Nat.zero_le _, rfl, World.ownsRow_nil _ _ _ _, Below.refl _ _⟩
  case round =>
    obtain ⟨k, hk, rfl, HO, HB⟩ := hrel
    by_cases hlt : k < s.size
    · go_wp2
      obtain ⟨wo, rfl⟩ : ∃ wo : World, wo = wr := ⟨_, rfl⟩
      go_loopw [5, 6] (fun b j wi => ∃ m : Nat, m ≤ 26 ∧ j = .int .i64 m ∧ b = .int .u8 (upTo (s[k].toNat : Int) m) ∧ Hid (∃ n, wi = wo.drewN n)) (fun _ j _ => 26 - (intOf j).toNat)
      case atStart => exact ⟨0, Nat.zero_le _, rfl, by rw [upTo_zero], 0, rfl⟩
      case round =>
        obtain ⟨m, hm, rfl, rfl, HD⟩ := hrel
        by_cases hm6 : m < 26
        · have hsm := small_fin ⟨m, hm6⟩
          have hcm := cap_fin ⟨m, hm6⟩
          by_cases hx : 97 + (m : Int) = (s[k].toNat : Int)
          · have HN : Hid (upTo (s[k].toNat : Int) (m + 1) = 65 + (m : Int)) := upTo_hit _ _ hx
            have hb : (97 + (m : Int) == (s[k].toNat : Int)) = true := by simpa using hx
            clear hx
            go_wp2_with fail
            go_quiet (fail)
            go_wp2
            go_roundw
            case rel => exact ⟨m + 1, by omega, by go_num, by rw [HN.out], by obtain ⟨n, hn⟩ := HD.out; exact ⟨_, by rw [hn, World.drewN_drewN]⟩⟩
            case measure => simp [intOf]; omega
          · have HN : Hid (upTo (s[k].toNat : Int) (m + 1) = upTo (s[k].toNat : Int) m) := upTo_miss _ _ hx
            have hb : (97 + (m : Int) == (s[k].toNat : Int)) = false := by simpa using hx
            clear hx
            go_wp2_with fail
            go_quiet (fail)
            go_wp2
            go_roundw
            case rel => exact ⟨m + 1, by omega, by go_num, by rw [HN.out], by obtain ⟨n, hn⟩ := HD.out; exact ⟨_, by rw [hn, World.drewN_drewN]⟩⟩
            case measure => simp [intOf]; omega
        · obtain rfl : m = 26 := by omega
          obtain ⟨n, hn⟩ := HD.out
          clear HD
          subst hn
          rw [upTo_all]
          have hown : (wo.drewN n).ownsRow w.heap.size 5 1 u3 ((upL s.data.toList).take k).length (cellsB ((upL s.data.toList).take k)) := HO.out
          have HB2 : Hid (Below w.heap.size w (wo.drewN n)) := ⟨HB.out.os, HB.out.tape, HB.out.output, HB.out.size, HB.out.block⟩
          have hlen : ((upL s.data.toList).take k).length ≤ k := List.length_take_le _ _
          have HT : Hid ((upL s.data.toList).take (k + 1) = (upL s.data.toList).take k ++ [upB s[k]]) := take_up s k hlt
          obtain ⟨wn, hwn⟩ : ∃ wn, wn = wo.drewN n := ⟨_, rfl⟩
          rw [← hwn] at hown HB2
          rw [← hwn]
          clear hwn HO HB
          go_wp2_with (at_builtin; refine wpList_append_own _ rfl _ _ 22 rfl w.heap.size 5 i0 (.int .u8 0) 1 1 Tryd.underlying22 hi hz0 hz1 hz2 rfl (by decide) _ _ _ rfl (hown.alloc _) ⟨wn.heap.size, 0, none⟩ 1 1 [.int .u8 ((upB s[k]).toNat : Int)] rfl rfl ?c1 ?c2 ?c3 ?c4 ?c5 ?_)
          case c1 =>
            intro j u hj
            match j, hj with
            | 0, hj => simp at hj; subst hj; simp [Addr.add]
          case c2 => intro u hu; simp at hu; subst hu; rfl
          case c3 => unfold maxLen; omega
          case c4 => omega
          case c5 => have := HB2.out.size; simp; omega
          intro v' w1 hown' hgrow _
          have R : Hid (w1.ownsRow w.heap.size 5 1 v' ((upL s.data.toList).take (k + 1)).length (cellsB ((upL s.data.toList).take (k + 1)))) := by
            show w1.ownsRow _ _ _ _ _ _
            rw [HT.out, List.length_append, List.length_take, cellsB_append]
            exact hown'
          have HB3 : Hid (Below w.heap.size w w1) := (HB2.out.alloc HB2.out.size _).grown hgrow (by have := HB2.out.size; simp; omega) (fun q hq => (hown.lt q hq).1)
          clear hown' hgrow hown HB2 HT
          go_wp2
          go_roundw
          case rel => exact ⟨k + 1, by omega, by go_num, R, HB3⟩
          case measure => simp [intOf]; omega
    · obtain rfl : k = s.size := by omega
      have e : (upL s.data.toList).take s.size = upL s.data.toList := List.take_of_length_le (by simp [upL])
      rw [e] at HO
      have hback := own_conv HO.out
      clear HO e
      go_wp2
      go_ret
      exact ⟨rfl, HB.out⟩

/-- Two texts are the same but for capitals. -/
def sameB (a b : ByteArray) : Bool := (upS a).toList == (upS b).toList

set_option maxHeartbeats 400000 in
theorem rsame_any (a b : ByteArray) (w : World) (ha : a.size ≤ 140737488351232) (hb : b.size ≤ 140737488351232) :
    Calls Tryd.prog 57 #[.string a, .string b] w fun e w' => e = .returned (.bool (sameB a b)) ∧ Below w.heap.size w w' := by
  go_enter Tryd.func57, Tryd.ntmps57
  go_wp2_with fail
  refine (rupper_any a _ ha).mono ?_
  rintro e w1 ⟨rfl, hb1⟩
  go_wp2_with fail
  refine (rupper_any b _ hb).mono ?_
  rintro e w2 ⟨rfl, hb2⟩
  go_wp2
  go_ret
  exact ⟨rfl, hb1.trans (hb2.mono hb1.size)⟩

theorem same_fin : ∀ m : Fin 16, ∀ b : Fin 256, isB 4 (b.val : Int) = true → (upL ((⟨#[48, 49, 50, 51, 52, 53, 54, 55, 56, 57, 65, 66, 67, 68, 69, 70]⟩ : ByteArray).extract m.val (m.val + 1)).data.toList == upL [UInt8.ofNat b.val]) = decide (m.val = hexV b.val) := by decide +kernel
theorem same_dig (m : Nat) (hm : m < 16) (b : UInt8) (hb : isB 4 (b.toNat : Int) = true) : sameB ((⟨#[48, 49, 50, 51, 52, 53, 54, 55, 56, 57, 65, 66, 67, 68, 69, 70]⟩ : ByteArray).extract m (m + 1)) ⟨#[b]⟩ = decide (m = hexV b.toNat) := by
  unfold sameB
  rw [ByteArray.toList_eq, ByteArray.toList_eq]
  have := same_fin ⟨m, hm⟩ ⟨b.toNat, b.toNat_lt⟩ hb
  have e : UInt8.ofNat b.toNat = b := by simp
  simp only [e] at this
  exact this
theorem one_back (b : UInt8) (w : World) : (convert 22 9 (.slice (some ⟨w.heap.size, 0, none⟩) 1 1)).run Tryd.prog (w.alloc (.cells #[.int .u8 (b.toNat : Int)] 5)).drew = .ok (.string ⟨#[b]⟩) (w.alloc (.cells #[.int .u8 (b.toNat : Int)] 5)).drew := by
  exact run_convert_bytes_back (P := Tryd.prog) (w.alloc (.cells #[.int .u8 (b.toNat : Int)] 5)).drew 22 9 5 ⟨w.heap.size, 0, none⟩ 1 [b] Tryd.underlying22 Tryd.underlying5 Tryd.underlying9 (fun j hj => by
    have : j = 0 := by simpa using hj
    subst this
    simp [Addr.add])

set_option maxRecDepth 100000 in
set_option maxHeartbeats 2000000 in
theorem rdigit_any (b : UInt8) (w : World) (hb : isB 4 (b.toNat : Int) = true) :
    Calls Tryd.prog 49 #[.int .u8 (b.toNat : Int)] w fun e w' => e = .returned (.int .i64 (hexV b.toNat : Int)) ∧ Below w.heap.size w w' := by
  have hv := hexV_lt b hb
  obtain ⟨v, hvv⟩ : ∃ v : Nat, v = hexV b.toNat := ⟨_, rfl⟩
  have HS : Hid (∀ m, m < 16 → sameB ((⟨#[48, 49, 50, 51, 52, 53, 54, 55, 56, 57, 65, 66, 67, 68, 69, 70]⟩ : ByteArray).extract m (m + 1)) ⟨#[b]⟩ = decide (m = v)) := fun m hm => by rw [hvv]; exact same_dig m hm b hb
  rw [← hvv] at hv ⊢
  clear hb hvv
  go_enter Tryd.func49, Tryd.ntmps49
  go_wp2
  go_loopw [3] (fun i wr => ∃ m : Nat, m ≤ v ∧ i = .int .i64 m ∧ Hid (Below w.heap.size w wr)) (fun i _ => 16 - (intOf i).toNat)
  case atStart => exact ⟨0, Nat.zero_le _, rfl, Below.refl _ _⟩
  case round =>
    obtain ⟨m, hm, rfl, HB⟩ := hrel
    have hm6 : m < 16 := by omega
    have hsm := HS.out m hm6
    have hcv := one_back b wr
    have b1 : (0 : Int) ≤ (m : Int) := by omega
    have b2 : (m : Int) + 1 ≤ 16 := by omega
    have b3 : (0 : Int) ≤ (m : Int) + 1 := by omega
    have b4 : (m : Int) ≤ (m : Int) + 1 := by omega
    have q1 : IntKind.i64.wrap ((m : Int) + 1) = (m : Int) + 1 := by rw [IntKind.wrap_i64]; omega
    have HE : Hid (((⟨#[48, 49, 50, 51, 52, 53, 54, 55, 56, 57, 65, 66, 67, 68, 69, 70]⟩ : ByteArray).extract m (m + 1)).size ≤ 140737488351232) := by
      show _ ≤ _
      rw [ByteArray.size_extract]
      omega
    have HBA := (HB.out.alloc HB.out.size (.cells #[.int .u8 (b.toNat : Int)] 5)).drew
    have HE1 : Hid ((⟨#[b]⟩ : ByteArray).size ≤ 140737488351232) := by show (1 : Nat) ≤ _; omega
    by_cases hmv : m = v
    · rw [decide_eq_true hmv] at hsm
      have HMV : Hid (m = v) := hmv
      clear hmv
      go_wp2_with fail
      go_region_with (first | (go_at_call 57; refine (rsame_any _ ⟨#[b]⟩ _ HE.out HE1.out).mono ?_; rintro e w' ⟨rfl, hb1⟩))
      all_goals
        have hb2 := HBA.trans (hb1.mono HBA.size)
        clear hb1
        go_wp2
        go_ret
        exact ⟨by rw [← HMV.out]; rfl, hb2⟩
    · rw [decide_eq_false hmv] at hsm
      go_wp2_with fail
      go_region_with (first | (go_at_call 57; refine (rsame_any _ ⟨#[b]⟩ _ HE.out HE1.out).mono ?_; rintro e w' ⟨rfl, hb1⟩))
      all_goals
        have hb2 := HBA.trans (hb1.mono HBA.size)
        clear hb1
        go_wp2
        go_roundw
        case rel => exact ⟨m + 1, by omega, by go_num, hb2⟩
        case measure => simp [intOf]; omega
end Go.Proofs.YtenfopabdegmhaaDoor
