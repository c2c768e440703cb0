/-
  Encode.
-/
import Derived.Test.YtdgepnfgjgbkoaaDoorWi17
namespace Go.Proofs.YtdgepnfgjgbkoaaDoor
open Go.RowKit

set_option maxRecDepth 100000 in
set_option maxHeartbeats 2000000 in
theorem wenc_any (s : ByteArray) (sh : Bool) (hs : s.size ≤ 1048576) (w : World) (tb : Tb w) :
    Calls Tryd.prog 11 #[.string s, .bool sh] w fun e w' => e = .returned (.tuple #[.string (bS (encW s.data.toList sh)), .int .i64 (encE s.data.toList : Nat)]) ∧ Below w.heap.size w w' := by
  have hU := ubs_any s w tb.fst (by omega)
  have hle := badU_le s.data.toList
  rw [len_list] at hle
  have HTB : Hid (∀ wx, Below w.heap.size w wx → Tb wx) := fun wx h => tb.below h
  obtain ⟨y, hy⟩ : ∃ y, y = badU s.data.toList := ⟨_, rfl⟩
  rw [← hy] at hU hle
  have HY : Hid (y = badU s.data.toList) := hy
  clear hy tb
  by_cases hb : y < s.size
  · have hbi : (y : Int) < (s.size : Int) := by omega
    have hb2 : badU s.data.toList < s.data.toList.length := by rw [← HY.out, len_list]; exact hb
    have HE : Hid (encW s.data.toList sh = [] ∧ encE s.data.toList = 50) := ⟨by unfold encW; rw [if_pos hb2], by unfold encE; rw [if_pos hb2]⟩
    clear hb2
    go_enter Tryd.func11, Tryd.ntmps11
    go_wp2_with fail
    refine hU.mono ?_
    rintro e w2 ⟨rfl, hb2⟩
    go_wp2
    go_ret2
    exact ⟨by rw [HE.out.1, HE.out.2]; rfl, hb2⟩
  · have hbi : ¬ (y : Int) < (s.size : Int) := by omega
    have hb2 : badU s.data.toList = s.size := by rw [← HY.out]; omega
    have hbn : ¬ badU s.data.toList < s.data.toList.length := by rw [len_list]; omega
    have HW : Hid (∀ q wx, Below w.heap.size w wx → Calls Tryd.prog 23 #[.string (cdS q), .string s] wx fun e w' => e = .returned (.string (bS (wrT q s.data.toList))) ∧ Below wx.heap.size wx w') := fun q wx h => wwrite_any q s hs hb2 wx (HTB.out wx h)
    obtain ⟨B, hB⟩ : ∃ B, B = bS (wrT false s.data.toList) := ⟨_, rfl⟩
    obtain ⟨Q, hQ⟩ : ∃ Q, Q = bS (wrT true s.data.toList) := ⟨_, rfl⟩
    have hWB : ∀ wx, Below w.heap.size w wx → Calls Tryd.prog 23 #[.string (cdS false), .string s] wx fun e w' => e = .returned (.string B) ∧ Below wx.heap.size wx w' := by rw [hB]; exact HW.out false
    have hWQ : ∀ wx, Below w.heap.size w wx → Calls Tryd.prog 23 #[.string (cdS true), .string s] wx fun e w' => e = .returned (.string Q) ∧ Below wx.heap.size wx w' := by rw [hQ]; exact HW.out true
    have hBs : B.size = (wrT false s.data.toList).length := by rw [hB, ← len_list, bS_list]
    have hQs : Q.size = (wrT true s.data.toList).length := by rw [hQ, ← len_list, bS_list]
    have HWB : Hid (∀ wx, Below w.heap.size w wx → Calls Tryd.prog 23 #[.string ⟨#[66]⟩, .string s] wx fun e w' => e = .returned (.string B) ∧ Below wx.heap.size wx w') := hWB
    have HWQ : Hid (∀ wx, Below w.heap.size w wx → Calls Tryd.prog 23 #[.string ⟨#[81]⟩, .string s] wx fun e w' => e = .returned (.string Q) ∧ Below wx.heap.size wx w') := hWQ
    cases sh with
    | false =>
      have HE : Hid (bS (encW s.data.toList false) = B ∧ encE s.data.toList = 0) := ⟨by unfold encW; rw [if_neg hbn, if_neg (by rintro ⟨h, _⟩; cases h), hB], by unfold encE; rw [if_neg hbn]⟩
      clear hb2 hbn hB hQ hWB hWQ hBs hQs HW
      go_enter Tryd.func11, Tryd.ntmps11
      go_wp2_with fail
      refine hU.mono ?_
      rintro e w2 ⟨rfl, hb2⟩
      go_wp2_with fail
      refine (HWB.out w2 hb2).mono ?_
      rintro e w3 ⟨rfl, hb3⟩
      go_wp2
      go_ret2
      exact ⟨by rw [HE.out.1, HE.out.2]; rfl, hb2.trans (hb3.mono hb2.size)⟩
    | true =>
      by_cases hlt : Q.size < B.size
      · have hli : (Q.size : Int) < (B.size : Int) := by omega
        have HE : Hid (bS (encW s.data.toList true) = Q ∧ encE s.data.toList = 0) := ⟨by unfold encW; rw [if_neg hbn, if_pos ⟨rfl, by rw [← hBs, ← hQs]; exact hlt⟩, hQ], by unfold encE; rw [if_neg hbn]⟩
        clear hb2 hbn hB hQ hWB hWQ hBs hQs HW
        go_enter Tryd.func11, Tryd.ntmps11
        go_wp2_with fail
        refine hU.mono ?_
        rintro e w2 ⟨rfl, hb2⟩
        go_wp2_with fail
        refine (HWB.out w2 hb2).mono ?_
        rintro e w3 ⟨rfl, hb3⟩
        have HB3 : Hid (Below w.heap.size w w3) := hb2.trans (hb3.mono hb2.size)
        clear hb2 hb3
        go_wp2_with fail
        refine (HWQ.out w3 HB3.out).mono ?_
        rintro e w4 ⟨rfl, hb4⟩
        go_wp2
        go_ret2
        exact ⟨by rw [HE.out.1, HE.out.2]; rfl, HB3.out.trans (hb4.mono HB3.out.size)⟩
      · have hli : ¬ (Q.size : Int) < (B.size : Int) := by omega
        have HE : Hid (bS (encW s.data.toList true) = B ∧ encE s.data.toList = 0) := ⟨by unfold encW; rw [if_neg hbn, if_neg (by rintro ⟨_, h⟩; rw [← hBs, ← hQs] at h; exact hlt h), hB], by unfold encE; rw [if_neg hbn]⟩
        clear hb2 hbn hB hQ hWB hWQ hBs hQs HW
        go_enter Tryd.func11, Tryd.ntmps11
        go_wp2_with fail
        refine hU.mono ?_
        rintro e w2 ⟨rfl, hb2⟩
        go_wp2_with fail
        refine (HWB.out w2 hb2).mono ?_
        rintro e w3 ⟨rfl, hb3⟩
        have HB3 : Hid (Below w.heap.size w w3) := hb2.trans (hb3.mono hb2.size)
        clear hb2 hb3
        go_wp2_with fail
        refine (HWQ.out w3 HB3.out).mono ?_
        rintro e w4 ⟨rfl, hb4⟩
        go_wp2
        go_ret2
        exact ⟨by rw [HE.out.1, HE.out.2]; rfl, HB3.out.trans (hb4.mono HB3.out.size)⟩
end Go.Proofs.YtdgepnfgjgbkoaaDoor
