/-
  WordAmong's walk.
-/
import Derived.Test.YtdgepnfgjgbkoabDoorFtP
import Derived.Test.YtdgepnfgjgbkoabDoorWk17
import Derived.Test.YtdgepnfgjgbkoabDoorCardW17
import Derived.Test.YtdgepnfgjgbkoabDoorShelf
import Derived.Shelf.Strings.SlTrimAscii
namespace Go.Proofs.YtdgepnfgjgbkoabDoor.wordAmong
open Go.ChangeShapes Go.WideShapes Go.ChangeAt Go.RowKit Go.Shelf
/-- Has a text a word? -/
def fullB (s : ByteArray) : Bool := !(⟨(Lib.trimS s.data.toList [32, 9]).toArray⟩ : ByteArray).toList.isEmpty
theorem full_any (s : ByteArray) (hs : s.size ≤ 1048576) (w : World) : Calls Tryd.prog 5 #[.string s] w fun e w' => e = .returned (.bool (fullB s)) ∧ Below w.heap.size w w' := by
  have HT : Hid (∀ wx, Calls Tryd.prog 12 #[.string s, .string ⟨#[32, 9]⟩] wx fun e w' => e = .returned (.string ⟨(Lib.trimS s.data.toList [32, 9]).toArray⟩) ∧ Below wx.heap.size wx w') := fun wx => Any.strings_Trim_laid Tryd.lays160 (by kernel_rfl) s ⟨#[32, 9]⟩ wx (by omega) (by decide) (ascii_of_all (by decide))
  unfold fullB
  generalize (⟨(Lib.trimS s.data.toList [32, 9]).toArray⟩ : ByteArray) = r at *
  go_enter Tryd.func5, Tryd.ntmps5
  go_wp2_with fail
  refine (HT.out _).mono ?_
  rintro e w1 ⟨rfl, hb1⟩
  have HB1 : Hid (Below w.heap.size w w1) := hb1
  clear hb1
  cases hr : r.toList.isEmpty with
  | true =>
    go_wp2_with fail
    go_ret
    exact ⟨by rw [hr]; rfl, HB1.out⟩
  | false =>
    go_wp2_with fail
    go_ret
    exact ⟨by rw [hr]; rfl, HB1.out⟩
theorem dl (a b : ByteArray) : (a ++ b).data.toList = a.data.toList ++ b.data.toList := by rw [ByteArray.data_append, Array.toList_append]
theorem bs_ext {a b : ByteArray} (h : a.data.toList = b.data.toList) : a = b := by
  cases a; cases b
  simp only at h
  congr
  exact Array.ext' h
theorem am_in (a t b : ByteArray) : (a ++ ⟨#[32]⟩ ++ t ++ ⟨#[32]⟩ ++ b).data.toList = a.data.toList ++ 32 :: (t.data.toList ++ 32 :: b.data.toList) := by
  simp only [dl]
  simp
theorem am_out (a s b : ByteArray) : (⟨(a.data.toList ++ 32 :: (s.data.toList ++ 32 :: b.data.toList)).toArray⟩ : ByteArray) = a ++ ⟨#[32]⟩ ++ s ++ ⟨#[32]⟩ ++ b := bs_ext (by rw [am_in])
theorem s_emp (s : ByteArray) : s.toList.isEmpty = decide (s.size = 0) := by
  have hd : s.toList = s.data.toList := ByteArray.toList_eq s
  rw [hd]
  have : s.data.toList.length = s.size := by rw [Array.length_toList]; rfl
  rw [← this]
  cases s.data.toList <;> simp
set_option maxHeartbeats 8000000 in
set_option maxRecDepth 100000 in
theorem walk (a : ByteArray) (ha : a.size ≤ 1048576) (s : ByteArray) (hs : s.size ≤ 1048576) (b : ByteArray) (hb : b.size ≤ 1048576) (sh : Bool) (w : World) (tb : Tb w) : Calls Tryd.prog 3 #[.string a, .string s, .string b, .bool sh] w fun e w' => e = .returned (.bool true) ∧ Below w.heap.size w w' := by
  have HTB : Hid (∀ wx, Below w.heap.size w wx → Tb wx) := fun wx h => tb.below h
  have HNA : Hid (∀ wx, Calls Tryd.prog 4 #[.string a] wx fun e w' => e = .returned (.bool (needW a.data.toList)) ∧ Below wx.heap.size wx w') := fun wx => vneeds_any a (by omega) wx
  have HNB : Hid (∀ wx, Calls Tryd.prog 4 #[.string b] wx fun e w' => e = .returned (.bool (needW b.data.toList)) ∧ Below wx.heap.size wx w') := fun wx => vneeds_any b (by omega) wx
  have HFA : Hid (∀ wx, Calls Tryd.prog 5 #[.string a] wx fun e w' => e = .returned (.bool (fullB a)) ∧ Below wx.heap.size wx w') := fun wx => full_any a ha wx
  have HFB : Hid (∀ wx, Calls Tryd.prog 5 #[.string b] wx fun e w' => e = .returned (.bool (fullB b)) ∧ Below wx.heap.size wx w') := fun wx => full_any b hb wx
  have WAKE : Hid (∀ wx, Below w.heap.size w wx → Calls Tryd.prog 6 #[] wx fun e w' => e = .returned (.bool true) ∧ Below wx.heap.size wx w') := fun wx h => wakes_any wx (HTB.out wx h)
  have HEN : Hid (∀ wx, Below w.heap.size w wx → Calls Tryd.prog 7 #[.string s, .bool sh] wx fun e w' => e = .returned (.tuple #[.string (bS (encW s.data.toList sh)), .int .i64 (encE s.data.toList : Nat)]) ∧ Below wx.heap.size wx w') := fun wx h => wenc_any s sh hs wx (HTB.out wx h)
  have hl : s.data.toList.length = s.size := by rw [Array.length_toList]; rfl
  have HBD : Hid (∀ wx, Below w.heap.size w wx → Calls Tryd.prog 8 #[.string s] wx fun e w' => e = .returned (.int .i64 (badU s.data.toList : Int)) ∧ Below wx.heap.size wx w') := fun wx h => ubs_any s wx (HTB.out wx h).fst (by omega)
  have hbl := badU_le s.data.toList
  have hll := encW_len s.data.toList sh
  have hem := s_emp s
  have HDC : Hid (needW a.data.toList = false → needW b.data.toList = false → badU s.data.toList = s.data.toList.length → s.toList.isEmpty = false → Hid (∀ wx, Below w.heap.size w wx → Calls Tryd.prog 9 #[.string (a ++ ⟨#[32]⟩ ++ bS (encW s.data.toList sh) ++ ⟨#[32]⟩ ++ b)] wx fun er w' => er = .returned (.tuple #[.string (a ++ ⟨#[32]⟩ ++ s ++ ⟨#[32]⟩ ++ b), .agg #[.int .i64 0, .int .i64 0]]) ∧ Below wx.heap.size wx w')) := fun h1 h2 h3 h4 wx h => by
    have hz : (a ++ ⟨#[32]⟩ ++ bS (encW s.data.toList sh) ++ ⟨#[32]⟩ ++ b).size ≤ 4294967000 := by
      have z : (bS (encW s.data.toList sh)).size = (encW s.data.toList sh).length := by show (encW s.data.toList sh).toArray.size = _; simp
      have z1 : (⟨#[32]⟩ : ByteArray).size = 1 := rfl
      rw [ByteArray.size_append, ByteArray.size_append, ByteArray.size_append, ByteArray.size_append, z, z1]
      omega
    have := wdec_any _ hz wx (HTB.out wx h)
    have hne : s.data.toList ≠ [] := fun e => by rw [hem, ← hl, e] at h4; simp at h4
    rw [am_in, bS_list, dec_among_enc _ _ _ sh h1 h2 h3 hne] at this
    rw [← am_out a s b]
    exact this
  have htx : (bS (encW s.data.toList sh)).size ≤ 100000000 := by
    have z : (bS (encW s.data.toList sh)).size = (encW s.data.toList sh).length := by show (encW s.data.toList sh).toArray.size = _; simp
    omega
  clear hem hll
  go_enter Tryd.func3, Tryd.ntmps3
  go_wp2_with fail
  refine (HNA.out _).mono ?_
  rintro e w1 ⟨rfl, hB1⟩
  have HB1 : Hid (Below w.heap.size w w1) := hB1
  clear hB1 HNA
  generalize needW a.data.toList = na at *
  cases na with
  | true =>
    clear HDC HNB HFA HFB HBD HEN
    go_wp2_with fail
    refine (WAKE.out _ HB1.out).mono ?_
    rintro e w3 ⟨rfl, hb3⟩
    have HB3 : Hid (Below w.heap.size w w3) := HB1.out.trans (hb3.mono HB1.out.size)
    go_wp2
    go_ret
    exact ⟨rfl, HB3.out⟩
  | false =>
  go_wp2_with fail
  refine (HNB.out _).mono ?_
  rintro e w2 ⟨rfl, hB2⟩
  have HB2 : Hid (Below w.heap.size w w2) := HB1.out.trans (hB2.mono HB1.out.size)
  clear hB2 HNB HB1
  generalize needW b.data.toList = nb at *
  cases nb with
  | true =>
    clear HDC HFA HFB HBD HEN
    go_wp2_with fail
    refine (WAKE.out _ HB2.out).mono ?_
    rintro e w3 ⟨rfl, hb3⟩
    have HB3 : Hid (Below w.heap.size w w3) := HB2.out.trans (hb3.mono HB2.out.size)
    go_wp2
    go_ret
    exact ⟨rfl, HB3.out⟩
  | false =>
  go_wp2_with fail
  refine (HFA.out _).mono ?_
  rintro e w3 ⟨rfl, hB3⟩
  have HB3 : Hid (Below w.heap.size w w3) := HB2.out.trans (hB3.mono HB2.out.size)
  clear hB3 HFA HB2
  generalize fullB a = fa at *
  cases fa with
  | false =>
    clear HDC HFB HBD HEN
    go_wp2_with fail
    refine (WAKE.out _ HB3.out).mono ?_
    rintro e w4 ⟨rfl, hb4⟩
    have HB4 : Hid (Below w.heap.size w w4) := HB3.out.trans (hb4.mono HB3.out.size)
    go_wp2
    go_ret
    exact ⟨rfl, HB4.out⟩
  | true =>
  go_wp2_with fail
  refine (HFB.out _).mono ?_
  rintro e w4 ⟨rfl, hB4⟩
  have HB4 : Hid (Below w.heap.size w w4) := HB3.out.trans (hB4.mono HB3.out.size)
  clear hB4 HFB HB3
  generalize fullB b = fb at *
  cases fb with
  | false =>
    clear HDC HBD HEN
    go_wp2_with fail
    refine (WAKE.out _ HB4.out).mono ?_
    rintro e w5 ⟨rfl, hb5⟩
    have HB5 : Hid (Below w.heap.size w w5) := HB4.out.trans (hb5.mono HB4.out.size)
    go_wp2
    go_ret
    exact ⟨rfl, HB5.out⟩
  | true =>
  cases he : s.toList.isEmpty with
  | true =>
    clear HDC HBD HEN
    go_wp2_with fail
    refine (WAKE.out _ HB4.out).mono ?_
    rintro e w5 ⟨rfl, hb5⟩
    have HB5 : Hid (Below w.heap.size w w5) := HB4.out.trans (hb5.mono HB4.out.size)
    go_wp2
    go_ret
    exact ⟨rfl, HB5.out⟩
  | false =>
  by_cases hbd : badU s.data.toList < s.data.toList.length
  · have h2 : encE s.data.toList = 50 := by unfold encE; rw [if_pos hbd]
    rw [h2] at HEN
    have hbi : (badU s.data.toList : Int) < (s.size : Int) := by omega
    clear HDC h2 hbd hbl hl
    generalize badU s.data.toList = bd at *
    clear htx
    go_wp2_with fail
    refine (HEN.out _ HB4.out).mono ?_
    rintro e w5 ⟨rfl, hb5⟩
    have HB5 : Hid (Below w.heap.size w w5) := HB4.out.trans (hb5.mono HB4.out.size)
    clear hb5 HEN HB4
    go_wp2_with fail
    refine (HBD.out _ HB5.out).mono ?_
    rintro e w6 ⟨rfl, hb6⟩
    have HB6 : Hid (Below w.heap.size w w6) := HB5.out.trans (hb6.mono HB5.out.size)
    clear hb6 HBD HB5
    go_wp2_with fail
    refine (WAKE.out _ HB6.out).mono ?_
    rintro e w7 ⟨rfl, hb7⟩
    have HB7 : Hid (Below w.heap.size w w7) := HB6.out.trans (hb7.mono HB6.out.size)
    go_wp2
    go_ret
    exact ⟨rfl, HB7.out⟩
  · have h2 : encE s.data.toList = 0 := by unfold encE; rw [if_neg hbd]
    rw [h2] at HEN
    have HDC := HDC.out (by simp) (by simp) (by omega) he
    clear h2 hbd hbl hl HBD
    generalize bS (encW s.data.toList sh) = tx at *
    have hk1 : (a.size : Int) + 1 + (tx.size : Int) ≤ 9223372036854775807 := by omega
    have hk2 : (a.size : Int) + 1 + (tx.size : Int) + 1 ≤ 9223372036854775807 := by omega
    have hk3 : (a.size : Int) + 1 + (tx.size : Int) + 1 + (b.size : Int) ≤ 9223372036854775807 := by omega
    have hk4 : (a.size : Int) + 1 + (s.size : Int) ≤ 9223372036854775807 := by omega
    have hk5 : (a.size : Int) + 1 + (s.size : Int) + 1 ≤ 9223372036854775807 := by omega
    have hk6 : (a.size : Int) + 1 + (s.size : Int) + 1 + (b.size : Int) ≤ 9223372036854775807 := by omega
    go_wp2_with fail
    refine (HEN.out _ HB4.out).mono ?_
    rintro e w5 ⟨rfl, hb5⟩
    have HB5 : Hid (Below w.heap.size w w5) := HB4.out.trans (hb5.mono HB4.out.size)
    clear hb5 HEN HB4
    go_wp2_with fail
    refine (HDC.out _ HB5.out).mono ?_
    rintro e w6 ⟨rfl, hb6⟩
    have HB6 : Hid (Below w.heap.size w w6) := HB5.out.trans (hb6.mono HB5.out.size)
    have HB7 : Hid (Below w.heap.size w (w6.alloc (.cells #[.int .i64 0, .int .i64 0] 29))) := HB6.out.alloc HB6.out.size _
    clear hb6 HDC
    go_wp2_with fail
    refine (WAKE.out _ HB7.out).mono ?_
    rintro e w8 ⟨rfl, hb8⟩
    have HB8 : Hid (Below w.heap.size w w8) := HB7.out.trans (hb8.mono HB7.out.size)
    go_wp2
    go_ret
    exact ⟨rfl, HB8.out⟩
end Go.Proofs.YtdgepnfgjgbkoabDoor.wordAmong
