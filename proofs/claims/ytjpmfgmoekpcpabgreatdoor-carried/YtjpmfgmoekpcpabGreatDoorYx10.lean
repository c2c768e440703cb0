/-
  The document's Xtext.
-/
import Derived.Test.YtjpmfgmoekpcpabGreatDoorRHexOf4
import Derived.Test.YtjpmfgmoekpcpabGreatDoorYr10
import Derived.Test.YtjpmfgmoekpcpabGreatDoorIs4
import Derived.Test.YtjpmfgmoekpcpabGreatDoorXtP
namespace Go.Proofs.YtjpmfgmoekpcpabGreatDoor
open Go.RowKit

theorem hexS_oneR (c : UInt8) : hexS ⟨#[c]⟩ = tx [hexD (c.toNat / 16), hexD (c.toNat % 16)] := rfl
set_option maxHeartbeats 4000000 in
set_option maxRecDepth 100000 in
theorem yxt_any (s : ByteArray) (hs : s.size ≤ 46912496000000) (w : World) :
    Calls Tryz.prog 62 #[.string s] w fun e w' => e = .returned (.string (tx (xtL s.data.toList))) ∧ Below w.heap.size w w' := by
  obtain ⟨i0, hi0, hz0, hz1, hz2⟩ := info_parts info5
  go_enter Tryz.func62, Tryz.ntmps62
  go_wp2_with fail
  go_loopw [3, 4] (fun u c wr => ∃ k : Nat, k ≤ s.size ∧ c = .int .i64 k ∧ Hid (wr.ownsRow w.heap.size 5 1 u (xtL (s.data.toList.take k)).length (cellsB (xtL (s.data.toList.take k)))) ∧ Hid (Below w.heap.size w wr)) (fun _ c _ => s.size - (intOf c).toNat)
  case atStart => exact ⟨0, Nat.zero_le _, rfl, ⟨rfl, .inl ⟨rfl, rfl⟩⟩, Below.refl _ _⟩
  case round =>
    obtain ⟨k, hk, rfl, HO, HB⟩ := hrel
    have HSZ : Hid (w.heap.size ≤ wr.heap.size) := HB.out.size
    have hxl : (xtL (s.data.toList.take k)).length ≤ 3 * k := by
      have := xtL_le (s.data.toList.take k)
      have := List.length_take_le k s.data.toList
      omega
    by_cases hlt : k < s.size
    · have hkl : k < s.data.toList.length := by rw [len_list]; exact hlt
      have HXT : Hid (xtL (s.data.toList.take (k + 1)) = xtL (s.data.toList.take k) ++ xt1 s[k]) := xtL_take s.data.toList k hkl
      have HIS := ris_is 9 s[k] wr
      obtain ⟨X, hX⟩ : ∃ X, X = xtL (s.data.toList.take k) := ⟨_, rfl⟩
      rw [← hX] at HO HXT hxl
      clear hX
      have HONE : Hid (∀ (d : UInt8) (wx : World), Bts (some ⟨wx.heap.size, 0, none⟩) [d] (wx.alloc (.cells #[.int .u8 (d.toNat : Int)] 5))) := fun d wx => .inr ⟨wx.heap.size, 0, rfl, by simp, fun j hj => by
        obtain rfl : j = 0 := by simpa using hj
        simp⟩
      cases hx : xch s[k] with
      | true =>
        have e : isB 9 (s[k].toNat : Int) = true := hx
        rw [e] at HIS
        have HI : Hid (Calls Tryz.prog 44 #[.int .i64 9, .int .u8 (s[k].toNat : Int)] wr fun e w' => e = .returned (.bool true) ∧ w' = wr) := HIS
        have HOA : Hid ((wr.alloc (.cells #[.int .u8 (s[k].toNat : Int)] 5)).ownsRow w.heap.size 5 1 u3 X.length (cellsB X)) := HO.out.alloc _
        have HZA : Hid (w.heap.size ≤ (wr.alloc (.cells #[.int .u8 (s[k].toNat : Int)] 5)).heap.size) := by show _ ≤ _; have := HSZ.out; simp; omega
        rw [xt1_yes hx] at HXT
        clear HIS e hx
        go_wp2_with (first
          | (go_at_call 44; refine HI.out.mono ?_; rintro e wd ⟨rfl, rfl⟩)
          | (at_builtin; refine wpList_append_keep rfl _ _ rfl w.heap.size _ X.length X rfl HOA.out (some ⟨_, 0, none⟩) [s[k]] 1 1 rfl rfl (HONE.out _ _) (fun e => by cases e) (by omega) HZA.out ?_))
        intro v7 w7 ho7 hg7
        have HO7 : Hid (w7.ownsRow w.heap.size 5 1 v7 (xtL (s.data.toList.take (k + 1))).length (cellsB (xtL (s.data.toList.take (k + 1))))) := by
          show World.ownsRow _ _ _ _ _ _ _
          rw [HXT.out, List.length_append]
          exact ho7
        have HB7 : Hid (Below w.heap.size w w7) := (HB.out.alloc HB.out.size _).grown hg7 HZA.out (fun q hq => (HO.out.lt q hq).1)
        clear ho7 hg7
        go_wp2
        go_roundw
        case rel => exact ⟨k + 1, by omega, by go_num, HO7, HB7⟩
        case measure => simp [intOf]; omega
      | false =>
        have e : isB 9 (s[k].toNat : Int) = false := hx
        rw [e] at HIS
        have HI : Hid (Calls Tryz.prog 44 #[.int .i64 9, .int .u8 (s[k].toNat : Int)] wr fun e w' => e = .returned (.bool false) ∧ w' = wr) := HIS
        have HOA : Hid ((wr.alloc (.cells #[.int .u8 43] 5)).ownsRow w.heap.size 5 1 u3 X.length (cellsB X)) := HO.out.alloc _
        have HZA : Hid (w.heap.size ≤ (wr.alloc (.cells #[.int .u8 43] 5)).heap.size) := by show _ ≤ _; have := HSZ.out; simp; omega
        have HON : Hid (Bts (some ⟨wr.heap.size, 0, none⟩) [43] (wr.alloc (.cells #[.int .u8 43] 5))) := HONE.out 43 wr
        rw [xt1_no hx] at HXT
        clear HIS e hx
        go_upto_region 8 with (first
          | (go_at_call 44; refine HI.out.mono ?_; rintro e wd ⟨rfl, rfl⟩)
          | (at_builtin; refine wpList_append_keep rfl _ _ rfl w.heap.size _ X.length X rfl HOA.out (some ⟨_, 0, none⟩) [43] 1 1 rfl rfl HON.out (fun e => by cases e) (by omega) HZA.out ?_; intro v6 w6 ho6 hg6))
        have HO6 : Hid (w6.ownsRow w.heap.size 5 1 v6 (X ++ [43]).length (cellsB (X ++ [43]))) := by
          show World.ownsRow _ _ _ _ _ _ _
          rw [List.length_append]
          exact ho6
        have HB6 : Hid (Below w.heap.size w w6) := (HB.out.alloc HB.out.size _).grown hg6 HZA.out (fun q hq => (HO.out.lt q hq).1)
        clear ho6 hg6 HO HB HOA HZA HON HSZ
        have HRA : RowAt ⟨#[s[k]]⟩ w6.heap.size 0 (w6.alloc (.cells #[.int .u8 (s[k].toNat : Int)] 5)) := fun j hj => by
          obtain rfl : j = 0 := by have : j < 1 := hj; omega
          simp
          rfl
        have HHX : Hid (Calls Tryz.prog 101 #[.slice (some ⟨w6.heap.size, 0, none⟩) 1 1] (w6.alloc (.cells #[.int .u8 (s[k].toNat : Int)] 5)) fun e w' => e = .returned (.string (tx [hexD (s[k].toNat / 16), hexD (s[k].toNat % 16)])) ∧ w'.ownsRow w.heap.size 5 1 v6 (X ++ [43]).length (cellsB (X ++ [43])) ∧ Below w.heap.size w w') := by
          show Calls _ _ _ _ _
          refine (rhexof_any ⟨#[s[k]]⟩ w6.heap.size 1 _ HRA (by show 1 ≤ _; omega)).mono ?_
          rintro e w' ⟨rfl, hb⟩
          have hb1 : Below w6.heap.size w6 w' := ((Below.refl _ w6).alloc (Nat.le_refl _) _).trans (hb.mono (by simp))
          exact ⟨by rw [hexS_oneR], own_below HO6.out hb1, HB6.out.trans (hb1.mono HB6.out.size)⟩
        obtain ⟨C, hC⟩ : ∃ C, C = tx [hexD (s[k].toNat / 16), hexD (s[k].toNat % 16)] := ⟨_, rfl⟩
        rw [← hC] at HHX
        have hCs : C.size = 2 := by rw [hC]; rfl
        have HC : Hid (Lib.strCells C = cellsB [hexD (s[k].toNat / 16), hexD (s[k].toNat % 16)]) := by
          show _ = _
          rw [hC]
          rfl
        have hxl1 : (X ++ [43]).length ≤ 3 * k + 1 := by simp; omega
        clear HRA hC
        go_wp2_with (first
          | (go_at_call 101; refine HHX.out.mono ?_; rintro e w1 ⟨rfl, ho1, hb1⟩)
          | (at_builtin; refine Lib.wpList_append_own_string _ rfl _ _ 57 9 rfl w.heap.size 5 i0 Tryz.underlying57 Tryz.underlying9 hi0 hz0 hz1 hz2 _ _ _ rfl ho1 C rfl (by unfold maxLen; omega) (by omega) hb1.size ?_))
        intro v7 w7 ho7 hg7 _
        have HO7 : Hid (w7.ownsRow w.heap.size 5 1 v7 (xtL (s.data.toList.take (k + 1))).length (cellsB (xtL (s.data.toList.take (k + 1))))) := by
          show World.ownsRow _ _ _ _ _ _ _
          have e : X ++ [43, hexD (s[k].toNat / 16), hexD (s[k].toNat % 16)] = X ++ [43] ++ [hexD (s[k].toNat / 16), hexD (s[k].toNat % 16)] := by simp
          have hl : (X ++ [43] ++ [hexD (s[k].toNat / 16), hexD (s[k].toNat % 16)]).length = X.length + 1 + 2 := by simp
          rw [HXT.out, e, hl, cellsB_append, ← HC.out]
          exact ho7
        have HB7 : Hid (Below w.heap.size w w7) := hb1.grown hg7 hb1.size (fun q hq => (ho1.lt q hq).1)
        clear ho7 hg7 ho1 hb1
        go_wp2
        go_roundw
        case rel => exact ⟨k + 1, by omega, by go_num, HO7, HB7⟩
        case measure => simp [intOf]; omega
    · obtain rfl : k = s.size := by omega
      have e : s.data.toList.take s.size = s.data.toList := List.take_of_length_le (by rw [len_list]; exact Nat.le_refl _)
      rw [e] at HO
      have hback := own_tx HO.out
      clear e HO
      go_wp2
      go_ret
      exact ⟨rfl, HB.out⟩
end Go.Proofs.YtjpmfgmoekpcpabGreatDoor
