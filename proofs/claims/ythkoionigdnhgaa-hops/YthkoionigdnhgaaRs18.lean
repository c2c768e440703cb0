/-
  The document's capitals, and its Same of texts.
-/
import Derived.Test.YthkoionigdnhgaaGrown
import Derived.Test.YthkoionigdnhgaaSame
import Derived.WalkKit
import Derived.WalkSpells
import Derived.Below
import Derived.Laws.IdiomStrings
import Derived.Deep.QuietTactic
import Derived.BigQuiet
import Derived.Deep.RegionWith
namespace Go.Proofs.Ythkoionigdnhgaa
open Go.RowKit

/-- A number's capital, when the first k small letters were looked at. -/
def upTo (x : Int) (k : Nat) : Int := if 97 ≤ x ∧ x < 97 + (k : Int) then x - 32 else x
theorem upTo_zero (x : Int) : upTo x 0 = x := if_neg (by omega)
theorem upTo_hit (x : Int) (k : Nat) (h : 97 + (k : Int) = x) : upTo x (k + 1) = 65 + (k : Int) := by
  unfold upTo; rw [if_pos (by omega)]; omega
theorem upTo_miss (x : Int) (k : Nat) (h : ¬ 97 + (k : Int) = x) : upTo x (k + 1) = upTo x k := by
  unfold upTo
  by_cases h1 : 97 ≤ x ∧ x < 97 + (k : Int)
  · rw [if_pos h1, if_pos (by omega)]
  · rw [if_neg h1, if_neg (by omega)]
theorem upTo_all (b : UInt8) : upTo (b.toNat : Int) 26 = ((upB b).toNat : Int) := by
  by_cases h : 97 ≤ b.toNat ∧ b.toNat ≤ 122
  · rw [upB_yes b h.1 h.2]
    unfold upTo
    rw [if_pos (by omega)]
    omega
  · rw [upB_no b h]
    unfold upTo
    rw [if_neg (by omega)]

theorem small_fin : ∀ m : Fin 26, (((⟨#[97, 98, 99, 100, 101, 102, 103, 104, 105, 106, 107, 108, 109, 110, 111, 112, 113, 114, 115, 116, 117, 118, 119, 120, 121, 122]⟩ : ByteArray)[m.val]'m.isLt).toNat : Int) = 97 + (m.val : Int) := by decide
theorem cap_fin : ∀ m : Fin 26, (((⟨#[65, 66, 67, 68, 69, 70, 71, 72, 73, 74, 75, 76, 77, 78, 79, 80, 81, 82, 83, 84, 85, 86, 87, 88, 89, 90]⟩ : ByteArray)[m.val]'m.isLt).toNat : Int) = 65 + (m.val : Int) := by decide

theorem take_up (s : ByteArray) (k : Nat) (h : k < s.size) : (upL s.data.toList).take (k + 1) = (upL s.data.toList).take k ++ [upB s[k]] := by
  rw [List.take_succ_eq_append_getElem (by simpa [upL] using h)]
  simp [upL]
  rfl

set_option maxRecDepth 100000 in
set_option maxHeartbeats 1000000 in
theorem rupperH_any (s : ByteArray) (w : World) (hs : s.size ≤ 140737488351232) :
    Calls Try.prog 16 #[.string s] w fun e w' => e = .returned (.string (upS s)) ∧ Below w.heap.size w w' := by
  obtain ⟨i0, hi, hz0, hz1, hz2⟩ := info_parts info5
  go_enter Try.func16, Try.ntmps16
  go_wp2
  go_loopw [3, 4] (fun v i wr => ∃ k : Nat, k ≤ s.size ∧ i = .int .i64 k ∧ Hid (wr.ownsRow w.heap.size 5 1 v ((upL s.data.toList).take k).length (cellsB ((upL s.data.toList).take k))) ∧ Hid (Below w.heap.size w wr)) (fun _ i _ => s.size - (intOf i).toNat)
  case atStart => exact ⟨0, Nat.zero_le _, rfl, World.ownsRow_nil _ _ _ _, Below.refl _ _⟩
  case round =>
    obtain ⟨k, hk, rfl, HO, HB⟩ := hrel
    by_cases hlt : k < s.size
    · go_wp2
      obtain ⟨wo, rfl⟩ : ∃ wo : World, wo = wr := ⟨_, rfl⟩
      go_loopw [5, 6] (fun b j wi => ∃ m : Nat, m ≤ 26 ∧ j = .int .i64 m ∧ b = .int .u8 (upTo (s[k].toNat : Int) m) ∧ Hid (∃ n, wi = wo.drewN n)) (fun _ j _ => 26 - (intOf j).toNat)
      case atStart => exact ⟨0, Nat.zero_le _, rfl, by rw [upTo_zero], 0, rfl⟩
      case round =>
        obtain ⟨m, hm, rfl, rfl, HD⟩ := hrel
        by_cases hm6 : m < 26
        · have hsm := small_fin ⟨m, hm6⟩
          have hcm := cap_fin ⟨m, hm6⟩
          by_cases hx : 97 + (m : Int) = (s[k].toNat : Int)
          · have HN : Hid (upTo (s[k].toNat : Int) (m + 1) = 65 + (m : Int)) := upTo_hit _ _ hx
            have hb : (97 + (m : Int) == (s[k].toNat : Int)) = true := by simpa using hx
            clear hx
            go_wp2_with fail
            go_quiet (fail)
            go_wp2
            go_roundw
            case rel => exact ⟨m + 1, by omega, by go_num, by rw [HN.out], by obtain ⟨n, hn⟩ := HD.out; exact ⟨_, by rw [hn, World.drewN_drewN]⟩⟩
            case measure => simp [intOf]; omega
          · have HN : Hid (upTo (s[k].toNat : Int) (m + 1) = upTo (s[k].toNat : Int) m) := upTo_miss _ _ hx
            have hb : (97 + (m : Int) == (s[k].toNat : Int)) = false := by simpa using hx
            clear hx
            go_wp2_with fail
            go_quiet (fail)
            go_wp2
            go_roundw
            case rel => exact ⟨m + 1, by omega, by go_num, by rw [HN.out], by obtain ⟨n, hn⟩ := HD.out; exact ⟨_, by rw [hn, World.drewN_drewN]⟩⟩
            case measure => simp [intOf]; omega
        · obtain rfl : m = 26 := by omega
          obtain ⟨n, hn⟩ := HD.out
          clear HD
          subst hn
          rw [upTo_all]
          have hown : (wo.drewN n).ownsRow w.heap.size 5 1 u3 ((upL s.data.toList).take k).length (cellsB ((upL s.data.toList).take k)) := HO.out
          have HB2 : Hid (Below w.heap.size w (wo.drewN n)) := ⟨HB.out.os, HB.out.tape, HB.out.output, HB.out.size, HB.out.block⟩
          have hlen : ((upL s.data.toList).take k).length ≤ k := List.length_take_le _ _
          have HT : Hid ((upL s.data.toList).take (k + 1) = (upL s.data.toList).take k ++ [upB s[k]]) := take_up s k hlt
          obtain ⟨wn, hwn⟩ : ∃ wn, wn = wo.drewN n := ⟨_, rfl⟩
          rw [← hwn] at hown HB2
          rw [← hwn]
          clear hwn HO HB
          go_wp2_with (at_builtin; refine wpList_append_own _ rfl _ _ 22 rfl w.heap.size 5 i0 (.int .u8 0) 1 1 Try.underlying22 hi hz0 hz1 hz2 rfl (by decide) _ _ _ rfl (hown.alloc _) ⟨wn.heap.size, 0, none⟩ 1 1 [.int .u8 ((upB s[k]).toNat : Int)] rfl rfl ?c1 ?c2 ?c3 ?c4 ?c5 ?_)
          case c1 =>
            intro j u hj
            match j, hj with
            | 0, hj => simp at hj; subst hj; simp [Addr.add]
          case c2 => intro u hu; simp at hu; subst hu; rfl
          case c3 => unfold maxLen; omega
          case c4 => omega
          case c5 => have := HB2.out.size; simp; omega
          intro v' w1 hown' hgrow _
          have R : Hid (w1.ownsRow w.heap.size 5 1 v' ((upL s.data.toList).take (k + 1)).length (cellsB ((upL s.data.toList).take (k + 1)))) := by
            show w1.ownsRow _ _ _ _ _ _
            rw [HT.out, List.length_append, List.length_take, cellsB_append]
            exact hown'
          have HB3 : Hid (Below w.heap.size w w1) := (HB2.out.alloc HB2.out.size _).grown hgrow (by have := HB2.out.size; simp; omega) (fun q hq => (hown.lt q hq).1)
          clear hown' hgrow hown HB2 HT
          go_wp2
          go_roundw
          case rel => exact ⟨k + 1, by omega, by go_num, R, HB3⟩
          case measure => simp [intOf]; omega
    · obtain rfl : k = s.size := by omega
      have e : (upL s.data.toList).take s.size = upL s.data.toList := List.take_of_length_le (by simp [upL])
      rw [e] at HO
      have hback := own_conv HO.out
      clear HO e
      go_wp2
      go_ret
      exact ⟨rfl, HB.out⟩


set_option maxHeartbeats 400000 in
theorem rsameH_any (a b : ByteArray) (w : World) (ha : a.size ≤ 140737488351232) (hb : b.size ≤ 140737488351232) :
    Calls Try.prog 13 #[.string a, .string b] w fun e w' => e = .returned (.bool (sameB a b)) ∧ Below w.heap.size w w' := by
  go_enter Try.func13, Try.ntmps13
  go_wp2_with fail
  refine (rupperH_any a _ ha).mono ?_
  rintro e w1 ⟨rfl, hb1⟩
  go_wp2_with fail
  refine (rupperH_any b _ hb).mono ?_
  rintro e w2 ⟨rfl, hb2⟩
  go_wp2
  go_ret
  exact ⟨rfl, hb1.trans (hb2.mono hb1.size)⟩
end Go.Proofs.Ythkoionigdnhgaa
