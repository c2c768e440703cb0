/-
  The program's writing of xtext: a text more into a builder, Xtext.
-/
import Derived.Test.YtjpmfgmoekpcpabGreatDoorBld5
import Derived.Test.YtjpmfgmoekpcpabGreatDoorHexOf4
import Derived.Test.YtjpmfgmoekpcpabGreatDoorSpan4
import Derived.Test.YtjpmfgmoekpcpabGreatDoorUnhex4
import Derived.Test.YtjpmfgmoekpcpabGreatDoorXtP
import Derived.Lib.AppendStr
namespace Go.Proofs.YtjpmfgmoekpcpabGreatDoor
open Go.RowKit

theorem strCells_is (s : ByteArray) : Lib.strCells s = cellsB s.data.toList := by
  simp [Lib.strCells, cellsB]
set_option maxHeartbeats 1000000 in
set_option maxRecDepth 100000 in
theorem wstrB_any (B b : Nat) (l : List UInt8) (s : ByteArray) (w : World) (h : Bl B b l w) (hlen : l.length + s.size ≤ 140737488355328) (hBw : B ≤ w.heap.size) :
    Calls Tryz.prog 32 #[.pointer (some ⟨b, 0, none⟩), .string s] w fun e w' => e = .returned (.tuple #[.int .i64 s.size, .nilIface]) ∧ Bl B b (l ++ s.data.toList) w' ∧ Wrote B b w w' := by
  obtain ⟨i0, hi, hz0, hz1, hz2⟩ := info_parts info5
  go_enter Tryz.func32, Tryz.ntmps32
  go_wp2_with fail
  refine (check_any B b l _ h).mono ?_
  rintro e w1 ⟨rfl, ⟨hB, v, hbk, hown, hne⟩, hw1⟩
  have hlt : b < w1.heap.size := (Array.getElem?_eq_some_iff.1 hbk).1
  have c1 : w1.cell? ⟨b, 1, none⟩ = some v := by rw [Lib.cell_of_heap hbk]; rfl
  have HBK : Hid (w1.heap[b]? = some (.cells #[.pointer (some ⟨b, 0, none⟩), v] 59 (0, 0))) := hbk
  have HNE : Hid (v.ownBlock ≠ some b) := hne
  have HW1 : Hid (Wrote B b w w1) := hw1
  have HOW : Hid (w1.ownsRow B 5 1 v l.length (cellsB l)) := by rw [cellsB_length] at hown; exact hown
  clear hbk hne h hown hw1
  have hsz := HW1.out.below.size
  go_wp2_with (at_builtin; refine Lib.wpList_append_own_string _ rfl _ _ 57 9 rfl B 5 i0 Tryz.underlying57 Tryz.underlying9 hi hz0 hz1 hz2 _ _ _ rfl HOW.out s rfl (by unfold maxLen; omega) (by omega) (by omega) ?_)
  intro v2 w2 hown2 hg2 _
  have HL2 : Hid (Lies w2 b #[.pointer (some ⟨b, 0, none⟩), v] 59) := (hg2.block b hlt (fun e => HNE.out e.symm)).trans HBK.out
  have HW2 : Hid (Wrote B b w w2) := ⟨HW1.out.below.grown hg2 (by omega) (fun q hq => (HOW.out.lt q hq).1), HW1.out.kept.grown hg2 (own_kindB HOW.out)⟩
  have c2 : w2.cell? ⟨b, 1, none⟩ = some v := HL2.out.cell 1
  have f2 := HL2.out.frozen 1
  have HO2 : Hid (w2.ownsRow B 5 1 v2 (cellsB (l ++ s.data.toList)).length (cellsB (l ++ s.data.toList))) := by
    show World.ownsRow _ _ _ _ _ _ _
    rw [cellsB_length, List.length_append, len_list, cellsB_append, ← strCells_is]
    exact hown2
  obtain ⟨a2, k2, rfl⟩ := own_shape hown2
  clear hown2 hg2
  go_wp2
  go_ret2
  exact ⟨rfl, .inr (Lib.BuilderAt.put hB HL2.out HO2.out (by decide)), HW2.out.below.setCell (p := ⟨b, 1, none⟩) hB _, Lib.OthersKept.setCell (b := b) HW2.out.kept ⟨b, 1, none⟩ rfl _⟩

theorem hexS_one (c : UInt8) : hexS ⟨#[c]⟩ = tx [hexD (c.toNat / 16), hexD (c.toNat % 16)] := rfl
set_option maxHeartbeats 4000000 in
set_option maxRecDepth 100000 in
theorem xt_any (s : ByteArray) (hs : s.size ≤ 46912496000000) (w : World) (ht : Table w) :
    Calls Tryz.prog 16 #[.string s] w fun e w' => e = .returned (.string (tx (xtL s.data.toList))) ∧ Below w.heap.size w w' := by
  have HT : Hid (∀ wx, Below w.heap.size w wx → Table wx) := fun wx hx => ht.keep hx
  clear ht
  have HB0 : Hid (Bl w.heap.size w.heap.size [] (w.alloc (.cells #[.pointer none, .slice none 0 0] 59))) := Bl.fresh w
  have HK0 : Hid (Below w.heap.size w (w.alloc (.cells #[.pointer none, .slice none 0 0] 59))) := (Below.refl _ _).alloc (Nat.le_refl _) _
  go_enter Tryz.func16, Tryz.ntmps16
  go_upto_region 2 with fail
  generalize w.alloc (.cells #[.pointer none, .slice none 0 0] 59) = v0 at HB0 HK0 ⊢
  go_wp2_with fail
  go_loopw [7] (fun c wr => ∃ k : Nat, k ≤ s.size ∧ c = .int .i64 k ∧ Hid (Bl w.heap.size w.heap.size (xtL (s.data.toList.take k)) wr) ∧ Hid (Below w.heap.size w wr)) (fun c _ => s.size - (intOf c).toNat)
  case atStart => exact ⟨0, Nat.zero_le _, rfl, HB0, HK0⟩
  case round =>
    obtain ⟨k, hk, rfl, HL, HB⟩ := hrel
    clear HB0 HK0
    have HSZ : Hid (w.heap.size ≤ wr.heap.size) := HB.out.size
    have hxl : (xtL (s.data.toList.take k)).length ≤ 3 * k := by
      have := xtL_le (s.data.toList.take k)
      have := List.length_take_le k s.data.toList
      omega
    by_cases hlt : k < s.size
    · have hkl : k < s.data.toList.length := by rw [len_list]; exact hlt
      have HXT : Hid (xtL (s.data.toList.take (k + 1)) = xtL (s.data.toList.take k) ++ xt1 s[k]) := xtL_take s.data.toList k hkl
      have HIS := is_any 9 (s[k].toNat : Int) wr (HT.out wr HB.out)
      cases hx : xch s[k] with
      | true =>
        have e : isB 9 (s[k].toNat : Int) = true := hx
        rw [e] at HIS
        have HI : Hid (Calls Tryz.prog 18 #[.int .i64 9, .int .u8 (s[k].toNat : Int)] wr fun e w' => e = .returned (.bool true) ∧ w' = wr) := HIS
        have HWB : Hid (Calls Tryz.prog 40 #[.pointer (some ⟨w.heap.size, 0, none⟩), .int .u8 (s[k].toNat : Int)] wr fun e w' => e = .returned .nilIface ∧ Bl w.heap.size w.heap.size (xtL (s.data.toList.take (k + 1))) w' ∧ Below w.heap.size w w') := by
          show Calls _ _ _ _ _
          refine (wbyte_any w.heap.size w.heap.size _ s[k] wr HL.out (by omega) HSZ.out).mono ?_
          rintro e w' ⟨rfl, h1, h2⟩
          refine ⟨rfl, ?_, HB.out.trans h2.below⟩
          rw [HXT.out, xt1_yes hx]
          exact h1
        clear HIS e hx HXT HL HB
        go_wp2_with (first
          | (go_at_call 18; refine HI.out.mono ?_; rintro e wd ⟨rfl, rfl⟩)
          | (go_at_call 40; refine HWB.out.mono ?_; rintro e w2 ⟨rfl, hl2, hb2⟩))
        go_roundw
        case rel => exact ⟨k + 1, by omega, by go_num, hl2, hb2⟩
        case measure => simp [intOf]; omega
      | false =>
        have e : isB 9 (s[k].toNat : Int) = false := hx
        rw [e] at HIS
        have HI : Hid (Calls Tryz.prog 18 #[.int .i64 9, .int .u8 (s[k].toNat : Int)] wr fun e w' => e = .returned (.bool false) ∧ w' = wr) := HIS
        have HRA : RowAt ⟨#[s[k]]⟩ wr.heap.size 0 (wr.alloc (.cells #[.int .u8 (s[k].toNat : Int)] 5)) := fun j hj => by
          obtain rfl : j = 0 := by have : j < 1 := hj; omega
          simp
          rfl
        have HHX : Hid (Calls Tryz.prog 41 #[.slice (some ⟨wr.heap.size, 0, none⟩) 1 1] (wr.alloc (.cells #[.int .u8 (s[k].toNat : Int)] 5)) fun e w' => e = .returned (.string (tx [hexD (s[k].toNat / 16), hexD (s[k].toNat % 16)])) ∧ Bl w.heap.size w.heap.size (xtL (s.data.toList.take k)) w' ∧ Below w.heap.size w w') := by
          show Calls _ _ _ _ _
          refine (hexof_any ⟨#[s[k]]⟩ wr.heap.size 0 1 _ HRA (by show 2 * 1 ≤ _; omega)).mono ?_
          rintro e w' ⟨rfl, hb⟩
          have hb1 : Below wr.heap.size wr w' := ((Below.refl _ wr).alloc (Nat.le_refl _) _).trans (hb.mono (by simp))
          exact ⟨by rw [hexS_one], HL.out.below hb1, HB.out.trans (hb1.mono HSZ.out)⟩
        have hcat : (⟨#[43]⟩ : ByteArray) ++ tx [hexD (s[k].toNat / 16), hexD (s[k].toNat % 16)] = tx (xt1 s[k]) := by rw [xt1_no hx]; exact tx_cat [43] _
        have hx3 := xt1_le s[k]
        have hts := tx_size (xt1 s[k])
        obtain ⟨A, hA⟩ : ∃ A, A = tx [hexD (s[k].toNat / 16), hexD (s[k].toNat % 16)] := ⟨_, rfl⟩
        obtain ⟨C, hC⟩ : ∃ C, C = tx (xt1 s[k]) := ⟨_, rfl⟩
        rw [← hA] at HHX hcat
        rw [← hC] at hcat hts
        have hAs : A.size = 2 := by rw [hA]; rfl
        have HWS : Hid (∀ w1, Bl w.heap.size w.heap.size (xtL (s.data.toList.take k)) w1 → Below w.heap.size w w1 → Calls Tryz.prog 32 #[.pointer (some ⟨w.heap.size, 0, none⟩), .string C] w1 fun e w' => e = .returned (.tuple #[.int .i64 C.size, .nilIface]) ∧ Bl w.heap.size w.heap.size (xtL (s.data.toList.take (k + 1))) w' ∧ Below w.heap.size w w') := fun w1 h1 hb1 => by
          refine (wstrB_any w.heap.size w.heap.size _ C w1 h1 (by rw [hts]; omega) hb1.size).mono ?_
          rintro e w' ⟨rfl, h1, h2⟩
          refine ⟨rfl, ?_, hb1.trans h2.below⟩
          rw [HXT.out]
          rw [hC, tx_list] at h1
          exact h1
        clear HIS e hx HXT HL HRA hA hC hts hx3
        go_wp2_with (first
          | (go_at_call 18; refine HI.out.mono ?_; rintro e wd ⟨rfl, rfl⟩)
          | (go_at_call 41; refine HHX.out.mono ?_; rintro e w1 ⟨rfl, hl1, hb1⟩)
          | (go_at_call 32; refine (HWS.out _ hl1 hb1).mono ?_; rintro e w2 ⟨rfl, hl2, hb2⟩))
        go_roundw
        case rel => exact ⟨k + 1, by omega, by go_num, hl2, hb2⟩
        case measure => simp [intOf]; omega
    · obtain rfl : k = s.size := by omega
      have e : s.data.toList.take s.size = s.data.toList := List.take_of_length_le (by rw [len_list]; exact Nat.le_refl _)
      rw [e] at HL
      have HST : Hid (Calls Tryz.prog 33 #[.pointer (some ⟨w.heap.size, 0, none⟩)] wr fun e w' => e = .returned (.string (tx (xtL s.data.toList))) ∧ Below w.heap.size w w') := by
        show Calls _ _ _ _ _
        refine (bstr_any w.heap.size w.heap.size _ wr HL.out HSZ.out).mono ?_
        rintro e w' ⟨rfl, hb⟩
        exact ⟨rfl, HB.out.trans hb⟩
      clear e HL HB
      go_wp2_with (first
          | (go_at_call 33; refine HST.out.mono ?_; rintro e w2 ⟨rfl, hb2⟩))
      go_ret
      exact ⟨rfl, hb2⟩
end Go.Proofs.YtjpmfgmoekpcpabGreatDoor
