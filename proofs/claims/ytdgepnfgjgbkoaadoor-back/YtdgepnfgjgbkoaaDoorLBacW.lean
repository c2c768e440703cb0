/-
  WordBack's walk.
-/
import Derived.Test.YtdgepnfgjgbkoaaDoorBkP
import Derived.Test.YtdgepnfgjgbkoaaDoorCardW17
namespace Go.Proofs.YtdgepnfgjgbkoaaDoor.wordBack
open Go.ChangeShapes Go.WideShapes Go.ChangeAt Go.RowKit
theorem empty_bS : (bS []).toList = [] := by
  have : (bS []) = ByteArray.empty := rfl
  rw [this]
  unfold ByteArray.toList
  unfold ByteArray.toList.loop
  simp
theorem bs_cnt (q : Bool) : ∀ (rs : List Int) (b : List UInt8), (bsS q b rs).length ≤ rs.length + 1
  | [], b => by unfold bsS; split <;> simp
  | r :: rs, b => by
    unfold bsS
    split
    · have := bs_cnt q rs (Lib.encodeRune r); simp only [List.length_cons]; omega
    · have := bs_cnt q rs (b ++ Lib.encodeRune r); simp only [List.length_cons]; omega
theorem wrT_len (q : Bool) (l : List UInt8) : (wrT q l).length ≤ 76 * (l.length + 1) := by
  have h1 := bs_cnt q (decL l) []
  have h2 := decL_length l
  have h3 := jn_len ((bsT q l).map (wrd q)) (fun x hx => by
    obtain ⟨b, hb, rfl⟩ := List.mem_map.1 hx
    exact wrd_len q b (bsT_good q l b hb).2)
  rw [wrT_bs]
  rw [List.length_map] at h3
  have : (bsT q l).length ≤ l.length + 1 := by show (bsS q [] (decL l)).length ≤ _; omega
  omega
theorem encW_len (l : List UInt8) (sh : Bool) : (encW l sh).length ≤ 76 * (l.length + 1) := by
  unfold encW
  split
  · simp
  · split
    · exact wrT_len _ _
    · exact wrT_len _ _
set_option maxHeartbeats 8000000 in
set_option maxRecDepth 100000 in
theorem walk (s : ByteArray) (hs : s.size ≤ 1048576) (sh : Bool) (w : World) (tb : Tb w) : Calls Tryd.prog 6 #[.string s, .bool sh] w fun e w' => e = .returned (.bool true) ∧ Below w.heap.size w w' := by
  have HTB : Hid (∀ wx, Below w.heap.size w wx → Tb wx) := fun wx h => tb.below h
  have HEN := wenc_any s sh hs w tb
  have hl : s.data.toList.length = s.size := by rw [Array.length_toList]; rfl
  have HBD : Hid (∀ wx, Below w.heap.size w wx → Calls Tryd.prog 16 #[.string s] wx fun e w' => e = .returned (.int .i64 (badU s.data.toList : Int)) ∧ Below wx.heap.size wx w') := fun wx h => ubs_any s wx (HTB.out wx h).fst (by omega)
  have WAKE : Hid (∀ wx, Below w.heap.size w wx → Calls Tryd.prog 9 #[] wx fun e w' => e = .returned (.bool true) ∧ Below wx.heap.size wx w') := fun wx h => wakes_any wx (HTB.out wx h)
  have hbl := badU_le s.data.toList
  have hll := encW_len s.data.toList sh
  by_cases hb : badU s.data.toList < s.data.toList.length
  · have h1 : encW s.data.toList sh = [] := by unfold encW; rw [if_pos hb]
    have h2 : encE s.data.toList = 50 := by unfold encE; rw [if_pos hb]
    rw [h1, h2] at HEN
    clear tb h1 h2 hll
    generalize badU s.data.toList = bd at *
    have hne : ((bd : Int) == (s.size : Int)) = false := by rw [beq_eq_false_iff_ne]; omega
    have hE : (bS []).toList.isEmpty = true := by rw [empty_bS]; rfl
    clear hb hbl hl hs
    go_enter Tryd.func6, Tryd.ntmps6
    go_wp2_with fail
    refine HEN.mono ?_
    rintro e w1 ⟨rfl, hB1⟩
    have HB1 : Hid (Below w.heap.size w w1) := hB1
    clear HEN hB1
    go_wp2_with fail
    refine (HBD.out _ HB1.out).mono ?_
    rintro e w2 ⟨rfl, hb2⟩
    have HB2 : Hid (Below w.heap.size w w2) := HB1.out.trans (hb2.mono HB1.out.size)
    clear hb2 HBD HB1
    go_wp2_with fail
    refine (WAKE.out _ HB2.out).mono ?_
    rintro e w3 ⟨rfl, hb3⟩
    have HB3 : Hid (Below w.heap.size w w3) := HB2.out.trans (hb3.mono HB2.out.size)
    go_wp2
    go_ret
    exact ⟨rfl, HB3.out⟩
  · have h1 := dec_enc_w s.data.toList sh (by omega)
    have h2 : encE s.data.toList = 0 := by unfold encE; rw [if_neg hb]
    rw [h2] at HEN
    have HDC : Hid (∀ wx, Below w.heap.size w wx → Calls Tryd.prog 10 #[.string ⟨(encW s.data.toList sh).toArray⟩] wx fun er w' => er = .returned (.tuple #[.string s, .agg #[.int .i64 0, .int .i64 0]]) ∧ Below wx.heap.size wx w') := fun wx h => by
      have := wdec_any ⟨(encW s.data.toList sh).toArray⟩ (by show (encW s.data.toList sh).toArray.size ≤ _; rw [List.size_toArray]; omega) wx (HTB.out wx h)
      rw [bS_lit, h1] at this
      exact this
    have e : badU s.data.toList = s.size := by omega
    rw [e] at HBD
    clear tb h1 h2 hll hb hbl e hl
    generalize encW s.data.toList sh = tx at *
    go_enter Tryd.func6, Tryd.ntmps6
    go_wp2_with fail
    refine HEN.mono ?_
    rintro e w1 ⟨rfl, hB1⟩
    have HB1 : Hid (Below w.heap.size w w1) := hB1
    clear HEN hB1
    go_wp2_with fail
    refine (HBD.out _ HB1.out).mono ?_
    rintro e w2 ⟨rfl, hb2⟩
    have HB2 : Hid (Below w.heap.size w w2) := HB1.out.trans (hb2.mono HB1.out.size)
    clear hb2 HBD HB1
    go_wp2_with fail
    refine (HDC.out _ HB2.out).mono ?_
    rintro e w3 ⟨rfl, hb3⟩
    have HB3 : Hid (Below w.heap.size w w3) := HB2.out.trans (hb3.mono HB2.out.size)
    have HB4 : Hid (Below w.heap.size w (w3.alloc (.cells #[.int .i64 0, .int .i64 0] 25))) := HB3.out.alloc HB3.out.size _
    clear hb3 HDC
    go_wp2_with fail
    refine (WAKE.out _ HB4.out).mono ?_
    rintro e w5 ⟨rfl, hb5⟩
    have HB5 : Hid (Below w.heap.size w w5) := HB4.out.trans (hb5.mono HB4.out.size)
    go_wp2
    go_ret
    exact ⟨rfl, HB5.out⟩
end Go.Proofs.YtdgepnfgjgbkoaaDoor.wordBack
