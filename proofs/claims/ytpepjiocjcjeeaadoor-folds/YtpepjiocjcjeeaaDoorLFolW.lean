/-
  FieldFolds's walk.
-/
import Derived.Test.YtpepjiocjcjeeaaDoorDt16
import Derived.Test.YtpepjiocjcjeeaaDoorCardF16
namespace Go.Proofs.YtpepjiocjcjeeaaDoor.fieldFolds
open Go.ChangeShapes Go.WideShapes Go.ChangeAt Go.RowKit
theorem bulk_string {H : Type} {s : ByteArray} {l : List (DataW H)} (hk : Rows.uptoSmall H l = true) (h : DataW.lit (.string s.data.toList) ∈ l) : s.size ≤ 1048576 := by
  have h1 : Rows.uptoBulkAll l ≤ 1048576 := of_decide_eq_true hk
  have h2 := bulk_mem h
  simp only [Rows.uptoBulk] at h2
  rw [len_list] at h2
  omega
theorem fold_lit : foldF [65] [98, 32, 99] 4 = (0, ⟨[65], [98, 13, 10, 32, 99]⟩) := by
  have h1 : nmB [65] = true := by decide +kernel
  have h2 : rwE [98, 32, 99] 0 = 3 := by decide +kernel
  have h3 : foldR [98, 32, 99] (cuts [98, 32, 99] 2 4) 2 [] = some [98, 13, 10, 32, 99] := by decide +kernel
  unfold foldF
  rw [h1, h2, if_neg (by decide), if_neg (by decide)]
  show (match foldR [98, 32, 99] (cuts [98, 32, 99] 2 4) 2 [] with
    | none => ((160, ⟨[], []⟩) : Nat × Fd)
    | some b => (0, ⟨[65], b⟩)) = _
  rw [h3]
set_option maxRecDepth 100000 in
set_option maxHeartbeats 8000000 in
theorem walk (nm : ByteArray) (hn : nm.size ≤ 1048576) (s : ByteArray) (hs : s.size ≤ 1048576) (most : Int) (_hb : -9223372036854775808 ≤ most ∧ most ≤ 9223372036854775807) (w : World) (hT : Table w) :
    Calls Tryd.prog 5 #[.string nm, .string s, .int .i64 most] w fun e w' => e = .returned (.bool true) ∧ Below w.heap.size w w' := by
  have HT : Hid (Table w) := hT
  have HP : Hid (∀ wx, Table wx → Calls Tryd.prog 20 #[.string nm, .string s, .int .i64 most] wx fun e w' =>
    e = .returned (.tuple #[.agg #[.string (tx (foldF nm.data.toList s.data.toList most).2.name), .string (tx (foldF nm.data.toList s.data.toList most).2.body)], .int .i64 ((foldF nm.data.toList s.data.toList most).1 : Int)]) ∧ Below wx.heap.size wx w') := fun wx h => ffold_any nm s most (by omega) (by omega) wx h
  have HD : Hid (∀ wx, Calls Tryd.prog 21 #[.string nm, .string s, .int .i64 most] wx fun e w' =>
    e = .returned (.tuple #[.agg #[.string (tx (foldF nm.data.toList s.data.toList most).2.name), .string (tx (foldF nm.data.toList s.data.toList most).2.body)], .int .i64 ((foldF nm.data.toList s.data.toList most).1 : Int)]) ∧ Below wx.heap.size wx w') := fun wx => ufold_any nm s most (by omega) (by omega) wx
  have HL : Hid (∀ wx, Table wx → Calls Tryd.prog 20 #[.string ⟨#[65]⟩, .string ⟨#[98, 32, 99]⟩, .int .i64 4] wx fun e w' => e = .returned (.tuple #[.agg #[.string ⟨#[65]⟩, .string ⟨#[98, 13, 10, 32, 99]⟩], .int .i64 0]) ∧ Below wx.heap.size wx w') := fun wx h => by
    have := ffold_any ⟨#[65]⟩ ⟨#[98, 32, 99]⟩ 4 (by decide) (by decide) wx h
    rw [show foldF (⟨#[65]⟩ : ByteArray).data.toList (⟨#[98, 32, 99]⟩ : ByteArray).data.toList 4 = (0, ⟨[65], [98, 13, 10, 32, 99]⟩) from fold_lit] at this
    exact this
  generalize tx (foldF nm.data.toList s.data.toList most).2.name = A at *
  generalize tx (foldF nm.data.toList s.data.toList most).2.body = B at *
  generalize ((foldF nm.data.toList s.data.toList most).1 : Int) = E at *
  clear hs hn hT _hb
  go_enter Tryd.func5, Tryd.ntmps5
  go_wp2_with fail
  refine (HP.out _ HT.out).mono ?_
  rintro e w1 ⟨rfl, hb1⟩
  have HB1 : Hid (Below w.heap.size w w1) := hb1
  clear hb1 HP
  obtain ⟨W1, hW1⟩ : ∃ W1, W1 = w1.alloc (.cells #[.string A, .string B] 34) := ⟨_, rfl⟩
  have HW1 : Hid (w1.alloc (.cells #[.string A, .string B] 34) = W1) := hW1.symm
  have HS1 : Hid (Lies W1 w1.heap.size #[.string A, .string B] 34) := by rw [hW1]; exact Lies.new w1 _ _
  have HC1 : Hid (Below w.heap.size w W1) := by rw [hW1]; exact HB1.out.alloc HB1.out.size _
  clear hW1
  go_wp2_with fail
  rw [HW1.out]
  refine (HD.out _).mono ?_
  rintro e w2 ⟨rfl, hb2⟩
  have HS2 : Hid (Lies w2 w1.heap.size #[.string A, .string B] 34) := HS1.out.below hb2 HS1.out.lt
  have HC2 : Hid (Below w.heap.size w w2) := HC1.out.trans (hb2.mono HC1.out.size)
  clear hb2 HD HW1 HS1 HC1
  obtain ⟨W2, hW2⟩ : ∃ W2, W2 = w2.alloc (.cells #[.string A, .string B] 34) := ⟨_, rfl⟩
  have HW2 : Hid (w2.alloc (.cells #[.string A, .string B] 34) = W2) := hW2.symm
  have HS3 : Hid (Lies W2 w1.heap.size #[.string A, .string B] 34) := by rw [hW2]; exact HS2.out.alloc _
  have HT3 : Hid (Lies W2 w2.heap.size #[.string A, .string B] 34) := by rw [hW2]; exact Lies.new w2 _ _
  have HC3 : Hid (Below w.heap.size w W2) := by rw [hW2]; exact HC2.out.alloc HC2.out.size _
  clear hW2 HS2 HC2
  go_wp2_with fail
  rw [HW2.out]
  refine (HL.out _ (tab_below HT.out HC3.out)).mono ?_
  rintro e w3 ⟨rfl, hb3⟩
  have HS4 : Hid (Lies w3 w1.heap.size #[.string A, .string B] 34) := HS3.out.below hb3 HS3.out.lt
  have HT4 : Hid (Lies w3 w2.heap.size #[.string A, .string B] 34) := HT3.out.below hb3 HT3.out.lt
  have HC4 : Hid (Below w.heap.size w w3) := HC3.out.trans (hb3.mono HC3.out.size)
  clear hb3 HL HW2 HS3 HT3 HC3
  obtain ⟨W3, hW3⟩ : ∃ W3, W3 = w3.alloc (.cells #[.string ⟨#[65]⟩, .string ⟨#[98, 13, 10, 32, 99]⟩] 34) := ⟨_, rfl⟩
  have HW3 : Hid (w3.alloc (.cells #[.string ⟨#[65]⟩, .string ⟨#[98, 13, 10, 32, 99]⟩] 34) = W3) := hW3.symm
  have HS5 : Hid (Lies W3 w1.heap.size #[.string A, .string B] 34) := by rw [hW3]; exact HS4.out.alloc _
  have HT5 : Hid (Lies W3 w2.heap.size #[.string A, .string B] 34) := by rw [hW3]; exact HT4.out.alloc _
  have HU5 : Hid (Lies W3 w3.heap.size #[.string ⟨#[65]⟩, .string ⟨#[98, 13, 10, 32, 99]⟩] 34) := by rw [hW3]; exact Lies.new w3 _ _
  have HC5 : Hid (Below w.heap.size w W3) := by rw [hW3]; exact HC4.out.alloc HC4.out.size _
  have a0 := HS5.out.cell 0
  have a1 := HS5.out.cell 1
  have b0 := HT5.out.cell 0
  have b1 := HT5.out.cell 1
  have c0 := HU5.out.cell 0
  have c1 := HU5.out.cell 1
  simp only [List.getElem?_toArray, List.getElem?_cons_zero, List.getElem?_cons_succ] at a0 a1 b0 b1 c0 c1
  clear hW3 HS4 HT4 HC4
  go_wp2_with (rw [HW3.out])
  go_ret
  exact ⟨rfl, HC5.out⟩
end Go.Proofs.YtpepjiocjcjeeaaDoor.fieldFolds
