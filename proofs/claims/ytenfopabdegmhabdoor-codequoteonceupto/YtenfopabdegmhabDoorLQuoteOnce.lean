/-
  P4.6: what Unquote takes is quoted and read again, twice over too; what it does not take has its place whatever stands around: proved for inputs of bulk at most 1048576 (the given upto form).
-/
import Derived.Test.YtenfopabdegmhabDoorCard4
import Derived.Test.YtenfopabdegmhabDoorOpenC
import Derived.Test.YtenfopabdegmhabDoorOqP
import Derived.Test.YtenfopabdegmhabDoorRUnr4
import Derived.ProofKit
import Derived.ChangeMaps5
import Derived.OpenShut
import Derived.ShutString
import Derived.ChangeOld
import Derived.SizedLaws
namespace Go.Proofs.YtenfopabdegmhabDoor.codeQuoteOnce
open Go.ChangeShapes Go.WideShapes Go.ChangeAt Go.RowKit
open Go.ChangeMaps (open_string shut_string)

theorem cat_list (s t : ByteArray) : (s ++ t).data.toList = s.data.toList ++ t.data.toList := by simp
theorem arr_cat (D : List UInt8) : (⟨D.toArray⟩ : ByteArray) ++ (⟨#[13, 10]⟩ : ByteArray) ++ (⟨D.toArray⟩ : ByteArray) = ⟨(D ++ ([13, 10] ++ D)).toArray⟩ := by
  apply ByteArray.ext
  simp
theorem uq_yes (l : List UInt8) (h : unqOk l = true) : uE l = 0 ∧ uA l = 0 ∧ uL l = unqL l := u_took ⟨h, rfl⟩
theorem uq_no (l : List UInt8) (h : unqOk l = false) : uE l = 42 ∧ uA l = unqA l ∧ uL l = [] := u_no ⟨h, rfl⟩
set_option maxHeartbeats 8000000 in
set_option maxRecDepth 100000 in
theorem once_yes (s : ByteArray) (hs : s.size ≤ 1048576) (t : ByteArray) (_ht : t.size ≤ 1048576) (w : World) (htab : Tabs w) (h0 : unqOk s.data.toList = true) :
    Calls Tryd.prog 7 #[.string s, .string t] w fun e w' => e = .returned (.bool true) ∧ Below w.heap.size w w' := by
  obtain ⟨e1, e2, e3⟩ := uq_yes _ h0
  have hdl := unqL_le _ h0
  obtain ⟨f1, f2⟩ := once_two _ h0
  obtain ⟨g1, g2, g3⟩ := uq_yes _ f1
  rw [f2] at g3
  obtain ⟨D, hD⟩ : ∃ D, unqL s.data.toList = D := ⟨_, rfl⟩
  rw [hD] at e3 hdl g3
  rw [len_list] at hdl
  obtain ⟨q1, q2⟩ := quote_back D
  obtain ⟨b1, b2, b3⟩ := uq_yes _ q1
  rw [q2] at b3
  have HTB : Hid (∀ wx : World, Below w.heap.size w wx → Tabs wx) := fun wx hb => htab.below hb htab.lt.1 htab.lt.2
  have HU : Hid (∀ wx : World, Below w.heap.size w wx → Calls Tryd.prog 15 #[.string s] wx fun e w' => ∃ v, e = .returned (.tuple #[v, .agg #[.int .i64 0, .int .i64 0]]) ∧ w'.ownsRow wx.heap.size 5 1 v D.length (cellsB D) ∧ Below wx.heap.size wx w') := fun wx hb => by
    have htx := HTB.out wx hb
    have h := unq_any s wx htx.table htx.lt.1 (by omega)
    rw [e1, e2, e3] at h
    exact h
  have HR : Hid (∀ wx : World, Calls Tryd.prog 16 #[.string s] wx fun e w' => ∃ v, e = .returned (.tuple #[v, .agg #[.int .i64 0, .int .i64 0]]) ∧ w'.ownsRow wx.heap.size 5 1 v D.length (cellsB D) ∧ Below wx.heap.size wx w') := fun wx => by
    have h := runq_any s (by omega) wx
    rw [e1, e2, e3] at h
    exact h
  have HQL : Hid ((⟨(quoteL D).toArray⟩ : ByteArray).data.toList = quoteL D) := List.toList_toArray ..
  have hqz := quote_len D
  have HQ : Hid (∀ (wx : World) (aa : Option Addr) (cc : Nat), Below w.heap.size w wx → Bts aa D wx → (aa = none → cc = 0) → D.length ≤ cc → cc ≤ 9223372036854775807 → Calls Tryd.prog 14 #[.slice aa D.length cc] wx fun e w' => e = .returned (.string ⟨(quoteL D).toArray⟩) ∧ Below wx.heap.size wx w') := fun wx aa cc hb hbt hnn hc hcm => by
    have htx := HTB.out wx hb
    obtain ⟨m, hm⟩ := htx.ml
    exact quote_any aa D cc D.length m wx htx.table hm rfl hbt hnn hc hcm (by omega)
  have HUQ : Hid (∀ wx : World, Below w.heap.size w wx → Calls Tryd.prog 15 #[.string ⟨(quoteL D).toArray⟩] wx fun e w' => ∃ v, e = .returned (.tuple #[v, .agg #[.int .i64 0, .int .i64 0]]) ∧ w'.ownsRow wx.heap.size 5 1 v D.length (cellsB D) ∧ Below wx.heap.size wx w') := fun wx hb => by
    have htx := HTB.out wx hb
    have h := unq_any ⟨(quoteL D).toArray⟩ wx htx.table htx.lt.1 (by rw [← len_list, HQL.out]; omega)
    rw [HQL.out, b1, b2, b3] at h
    exact h
  have hls : (s ++ (⟨#[13, 10]⟩ : ByteArray) ++ s).data.toList = s.data.toList ++ ([13, 10] ++ s.data.toList) := by
    rw [cat_list, cat_list, List.append_assoc]
  have HUS : Hid (∀ wx : World, Below w.heap.size w wx → Calls Tryd.prog 15 #[.string (s ++ (⟨#[13, 10]⟩ : ByteArray) ++ s)] wx fun e w' => ∃ v, e = .returned (.tuple #[v, .agg #[.int .i64 0, .int .i64 0]]) ∧ w'.ownsRow wx.heap.size 5 1 v (D ++ ([13, 10] ++ D)).length (cellsB (D ++ ([13, 10] ++ D))) ∧ Below wx.heap.size wx w') := fun wx hb => by
    have htx := HTB.out wx hb
    have h := unq_any (s ++ (⟨#[13, 10]⟩ : ByteArray) ++ s) wx htx.table htx.lt.1 (by rw [← len_list, hls, List.length_append, List.length_append, len_list]; simp; omega)
    rw [hls, g1, g2, g3] at h
    exact h
  have n1 : ¬ 9223372036854775807 < s.size + 2 := by omega
  have n2 : ¬ 9223372036854775807 < s.size + 2 + s.size := by omega
  have HDN : Hid (D.length = D.length) := rfl
  have hcatD := arr_cat D
  have hdsz : (⟨D.toArray⟩ : ByteArray).size = D.length := by rw [← len_list]
  have n3 : ¬ 9223372036854775807 < (⟨D.toArray⟩ : ByteArray).size + 2 := by rw [hdsz]; omega
  have n4 : ¬ 9223372036854775807 < (⟨D.toArray⟩ : ByteArray).size + 2 + (⟨D.toArray⟩ : ByteArray).size := by rw [hdsz]; omega
  have HDC : Hid ((⟨D.toArray⟩ : ByteArray) ++ (⟨#[13, 10]⟩ : ByteArray) ++ (⟨D.toArray⟩ : ByteArray) = ⟨(D ++ ([13, 10] ++ D)).toArray⟩ ∧ ¬ 9223372036854775807 < (⟨D.toArray⟩ : ByteArray).size + 2 ∧ ¬ 9223372036854775807 < (⟨D.toArray⟩ : ByteArray).size + 2 + (⟨D.toArray⟩ : ByteArray).size) := ⟨hcatD, n3, n4⟩
  clear e1 e2 e3 f1 f2 g1 g2 g3 hD q1 q2 b1 b2 b3 HQL hqz hls h0 hcatD n3 n4 hdsz
  have HW : Hid (Calls Tryd.prog 8 #[] w fun e w' => e = .returned (.bool true) ∧ Below w.heap.size w w') := wakes_any w htab
  clear htab
  go_enter Tryd.func7, Tryd.ntmps7
  go_wp2_with fail
  refine Calls.mono HW.out ?_
  rintro e w1 ⟨rfl, hb1⟩
  have HB1 : Hid (Below w.heap.size w w1) := hb1
  have hz1 := hb1.size
  clear hb1 HW
  go_wp2_with fail
  refine Calls.mono (HU.out _ HB1.out) ?_
  rintro e w2 ⟨v2, rfl, ho2, hb2⟩
  have hz2 : w1.heap.size ≤ w2.heap.size := hb2.size
  have HO2 : Hid ((w2.alloc (.cells #[.int .i64 0, .int .i64 0] 26)).ownsRow w.heap.size 5 1 v2 D.length (cellsB D)) := base_le (ho2.alloc _) hz1
  have HB2 : Hid (Below w.heap.size w (w2.alloc (.cells #[.int .i64 0, .int .i64 0] 26))) := (HB1.out.trans (hb2.mono hz1)).alloc (by omega) _
  have HL2 : Hid (Lies (w2.alloc (.cells #[.int .i64 0, .int .i64 0] 26)) w2.heap.size #[.int .i64 0, .int .i64 0] 26) := Lies.new w2 _ _
  clear ho2 hb2 HB1 HU
  go_wp2_with fail
  refine Calls.mono (HR.out _) ?_
  rintro e w3 ⟨v3, rfl, ho3, hb3⟩
  have hz3 : w2.heap.size + 1 ≤ w3.heap.size := by have := hb3.size; simpa using this
  have HO4 : Hid ((w3.alloc (.cells #[.int .i64 0, .int .i64 0] 26)).ownsRow w.heap.size 5 1 v2 D.length (cellsB D)) := (own_below HO2.out hb3).alloc _
  have HB4 : Hid (Below w.heap.size w (w3.alloc (.cells #[.int .i64 0, .int .i64 0] 26))) := (HB2.out.trans (hb3.mono (by simp; omega))).alloc (by omega) _
  have HL24 : Hid (Lies (w3.alloc (.cells #[.int .i64 0, .int .i64 0] 26)) w2.heap.size #[.int .i64 0, .int .i64 0] 26) := (HL2.out.below hb3 (by simp)).alloc _
  clear ho3 hb3 HO2 HB2 HL2 HR
  have k20 : (w3.alloc (.cells #[.int .i64 0, .int .i64 0] 26)).cell? ⟨w2.heap.size, 0, none⟩ = some (.int .i64 0) := HL24.out.cell 0
  have k21 : (w3.alloc (.cells #[.int .i64 0, .int .i64 0] 26)).cell? ⟨w2.heap.size, 1, none⟩ = some (.int .i64 0) := HL24.out.cell 1
  obtain ⟨a2, c2, rfl, hbt2, _, hnn2, hdc2, _⟩ := own_bts HO4.out
  have hcap2 : c2 ≤ 9223372036854775807 := own_cap HO4.out
  have HQ2 : Hid (Calls Tryd.prog 14 #[.slice a2 D.length c2] (w3.alloc (.cells #[.int .i64 0, .int .i64 0] 26)) fun e w' => e = .returned (.string ⟨(quoteL D).toArray⟩) ∧ Below (w3.alloc (.cells #[.int .i64 0, .int .i64 0] 26)).heap.size (w3.alloc (.cells #[.int .i64 0, .int .i64 0] 26)) w') := HQ.out _ a2 c2 HB4.out hbt2 hnn2 hdc2 hcap2
  clear HQ hbt2 hnn2
  generalize (⟨(quoteL D).toArray⟩ : ByteArray) = Q at HQ2 HUQ
  obtain ⟨n, hn⟩ : ∃ n, n = D.length := ⟨_, rfl⟩
  have HN : Hid (n = D.length) := hn
  rw [← hn] at hdc2 hdl HO4 HQ2
  rw [← hn]
  clear hn HDN
  go_wp2_with fail
  refine Calls.mono HQ2.out ?_
  rintro e w5 ⟨rfl, hb5⟩
  have HB5 : Hid (Below w.heap.size w w5) := HB4.out.trans (hb5.mono HB4.out.size)
  have HO5 : Hid (w5.ownsRow w.heap.size 5 1 (.slice a2 n c2) n (cellsB D)) := own_below HO4.out hb5
  have HL5 : Hid (Lies w5 w2.heap.size #[.int .i64 0, .int .i64 0] 26) := HL24.out.below hb5 HL24.out.lt
  clear hb5 HQ2 HB4 HO4 HL24 k20 k21
  go_wp2_with fail
  refine Calls.mono (HUQ.out _ HB5.out) ?_
  rintro e w6 ⟨v6, rfl, ho6, hb6⟩
  have HB6 : Hid (Below w.heap.size w (w6.alloc (.cells #[.int .i64 0, .int .i64 0] 26))) := (HB5.out.trans (hb6.mono HB5.out.size)).alloc (HB5.out.trans (hb6.mono HB5.out.size)).size _
  have HO6 : Hid ((w6.alloc (.cells #[.int .i64 0, .int .i64 0] 26)).ownsRow w.heap.size 5 1 (.slice a2 n c2) n (cellsB D)) := (own_below HO5.out hb6).alloc _
  have HP6 : Hid ((w6.alloc (.cells #[.int .i64 0, .int .i64 0] 26)).ownsRow w.heap.size 5 1 v6 D.length (cellsB D)) := base_le (ho6.alloc _) HB5.out.size
  have HL6 : Hid (Lies (w6.alloc (.cells #[.int .i64 0, .int .i64 0] 26)) w2.heap.size #[.int .i64 0, .int .i64 0] 26) := (HL5.out.below hb6 HL5.out.lt).alloc _
  have HM6 : Hid (Lies (w6.alloc (.cells #[.int .i64 0, .int .i64 0] 26)) w6.heap.size #[.int .i64 0, .int .i64 0] 26) := Lies.new w6 _ _
  clear hb6 ho6 HUQ HB5 HO5 HL5
  go_wp2_with fail
  refine Calls.mono (HUS.out _ HB6.out) ?_
  rintro e w7 ⟨v7, rfl, ho7, hb7⟩
  have HB8 : Hid (Below w.heap.size w (w7.alloc (.cells #[.int .i64 0, .int .i64 0] 26))) := (HB6.out.trans (hb7.mono HB6.out.size)).alloc (HB6.out.trans (hb7.mono HB6.out.size)).size _
  have cv1 := own_conv ((own_below HO6.out hb7).alloc (.cells #[.int .i64 0, .int .i64 0] 26))
  have cv2 := own_conv ((own_below HP6.out hb7).alloc (.cells #[.int .i64 0, .int .i64 0] 26))
  have cv3 := own_conv (ho7.alloc (.cells #[.int .i64 0, .int .i64 0] 26))
  have L8 := (HL6.out.below hb7 HL6.out.lt).alloc (.cells #[.int .i64 0, .int .i64 0] 26)
  have M8 := (HM6.out.below hb7 HM6.out.lt).alloc (.cells #[.int .i64 0, .int .i64 0] 26)
  have k81 : (w7.alloc (.cells #[.int .i64 0, .int .i64 0] 26)).cell? ⟨w2.heap.size, 1, none⟩ = some (.int .i64 0) := L8.cell 1
  have k82 : (w7.alloc (.cells #[.int .i64 0, .int .i64 0] 26)).cell? ⟨w6.heap.size, 0, none⟩ = some (.int .i64 0) := M8.cell 0
  obtain ⟨hcatD, n3, n4⟩ := HDC.out
  clear hb7 ho7 HUS HB6 HO6 HP6 HL6 HM6 L8 M8 HDC
  generalize (⟨(D ++ ([13, 10] ++ D)).toArray⟩ : ByteArray) = DD at cv3 hcatD
  generalize (⟨D.toArray⟩ : ByteArray) = DS at cv1 cv2 hcatD n3 n4
  go_wp2
  go_ret
  exact ⟨rfl, HB8.out⟩

set_option maxHeartbeats 8000000 in
set_option maxRecDepth 100000 in
theorem once_no (s : ByteArray) (hs : s.size ≤ 1048576) (t : ByteArray) (ht : t.size ≤ 1048576) (w : World) (htab : Tabs w) (h0 : unqOk s.data.toList = false) :
    Calls Tryd.prog 7 #[.string s, .string t] w fun e w' => e = .returned (.bool true) ∧ Below w.heap.size w w' := by
  obtain ⟨e1, e2, e3⟩ := uq_no _ h0
  have hA := okM_le q0 s.data.toList
  have hA' : unqA s.data.toList ≤ s.size := by rw [← len_list]; exact hA
  obtain ⟨f1, f2⟩ := once_later s.data.toList
  rw [h0] at f1
  obtain ⟨g1, g2, g3⟩ := uq_no _ f1
  rw [f2] at g2
  obtain ⟨A, hAA⟩ : ∃ A, unqA s.data.toList = A := ⟨_, rfl⟩
  have HMO : Hid (A < s.size → uE (s.data.toList ++ t.data.toList) = 42 ∧ uA (s.data.toList ++ t.data.toList) = A) := fun hlt => by
    obtain ⟨p1, p2⟩ := once_more s.data.toList t.data.toList (by rw [hAA, len_list]; exact hlt)
    obtain ⟨r1, r2, _⟩ := uq_no _ p1
    rw [r1, r2, p2, hAA]
    exact ⟨rfl, rfl⟩
  rw [hAA] at e2 hA' g2
  clear hA hAA f1 f2 h0
  have HTB : Hid (∀ wx : World, Below w.heap.size w wx → Tabs wx) := fun wx hb => htab.below hb htab.lt.1 htab.lt.2
  have HU : Hid (∀ wx : World, Below w.heap.size w wx → Calls Tryd.prog 15 #[.string s] wx fun e w' => ∃ v, e = .returned (.tuple #[v, .agg #[.int .i64 42, .int .i64 (A : Int)]]) ∧ w'.ownsRow wx.heap.size 5 1 v 0 (cellsB []) ∧ Below wx.heap.size wx w') := fun wx hb => by
    have htx := HTB.out wx hb
    have h := unq_any s wx htx.table htx.lt.1 (by omega)
    rw [e1, e2, e3] at h
    exact h
  have HR : Hid (∀ wx : World, Calls Tryd.prog 16 #[.string s] wx fun e w' => ∃ v, e = .returned (.tuple #[v, .agg #[.int .i64 42, .int .i64 (A : Int)]]) ∧ w'.ownsRow wx.heap.size 5 1 v 0 (cellsB []) ∧ Below wx.heap.size wx w') := fun wx => by
    have h := runq_any s (by omega) wx
    rw [e1, e2, e3] at h
    exact h
  have hls : ((⟨#[120, 13, 10]⟩ : ByteArray) ++ s).data.toList = [120, 13, 10] ++ s.data.toList := by rw [cat_list]
  have HUL : Hid (∀ wx : World, Below w.heap.size w wx → Calls Tryd.prog 15 #[.string ((⟨#[120, 13, 10]⟩ : ByteArray) ++ s)] wx fun e w' => ∃ v, e = .returned (.tuple #[v, .agg #[.int .i64 42, .int .i64 ((A : Int) + 3)]]) ∧ Below wx.heap.size wx w') := fun wx hb => by
    have htx := HTB.out wx hb
    have h := unq_any ((⟨#[120, 13, 10]⟩ : ByteArray) ++ s) wx htx.table htx.lt.1 (by rw [← len_list, hls, List.length_append, len_list]; simp; omega)
    rw [hls, g1, g2, g3] at h
    refine h.mono ?_
    rintro e w' ⟨v, rfl, _, hb⟩
    exact ⟨v, by push_cast; rfl, hb⟩
  have HUM : Hid (∀ wx : World, Below w.heap.size w wx → Calls Tryd.prog 15 #[.string (s ++ t)] wx fun e w' => ∃ (v : Value) (E2 A2 : Nat), (A < s.size → E2 = 42 ∧ A2 = A) ∧ e = .returned (.tuple #[v, .agg #[.int .i64 (E2 : Nat), .int .i64 (A2 : Nat)]]) ∧ Below wx.heap.size wx w') := fun wx hb => by
    have htx := HTB.out wx hb
    have h := unq_any (s ++ t) wx htx.table htx.lt.1 (by rw [← len_list, cat_list, List.length_append, len_list, len_list]; omega)
    rw [cat_list] at h
    refine h.mono ?_
    rintro e w' ⟨v, rfl, _, hb⟩
    exact ⟨v, _, _, HMO.out, rfl, hb⟩
  have n1 : ¬ 9223372036854775807 < 3 + s.size := by omega
  have n2 : ¬ 9223372036854775807 < s.size + t.size := by omega
  clear e1 e2 e3 g1 g2 g3 hls HMO
  have HW : Hid (Calls Tryd.prog 8 #[] w fun e w' => e = .returned (.bool true) ∧ Below w.heap.size w w') := wakes_any w htab
  clear htab
  go_enter Tryd.func7, Tryd.ntmps7
  go_wp2_with fail
  refine Calls.mono HW.out ?_
  rintro e w1 ⟨rfl, hb1⟩
  have HB1 : Hid (Below w.heap.size w w1) := hb1
  have hz1 := hb1.size
  clear hb1 HW
  go_wp2_with fail
  refine Calls.mono (HU.out _ HB1.out) ?_
  rintro e w2 ⟨v2, rfl, ho2, hb2⟩
  have hz2 : w1.heap.size ≤ w2.heap.size := hb2.size
  have HO2 : Hid ((w2.alloc (.cells #[.int .i64 42, .int .i64 (A : Int)] 26)).ownsRow w.heap.size 5 1 v2 0 (cellsB [])) := base_le (ho2.alloc _) hz1
  have HB2 : Hid (Below w.heap.size w (w2.alloc (.cells #[.int .i64 42, .int .i64 (A : Int)] 26))) := (HB1.out.trans (hb2.mono hz1)).alloc (by omega) _
  have HL2 : Hid (Lies (w2.alloc (.cells #[.int .i64 42, .int .i64 (A : Int)] 26)) w2.heap.size #[.int .i64 42, .int .i64 (A : Int)] 26) := Lies.new w2 _ _
  clear ho2 hb2 HB1 HU
  go_wp2_with fail
  refine Calls.mono (HR.out _) ?_
  rintro e w3 ⟨v3, rfl, ho3, hb3⟩
  have hz3 : w2.heap.size + 1 ≤ w3.heap.size := by have := hb3.size; simpa using this
  have HO4 : Hid ((w3.alloc (.cells #[.int .i64 42, .int .i64 (A : Int)] 26)).ownsRow w.heap.size 5 1 v2 0 (cellsB [])) := (own_below HO2.out hb3).alloc _
  have HB4 : Hid (Below w.heap.size w (w3.alloc (.cells #[.int .i64 42, .int .i64 (A : Int)] 26))) := (HB2.out.trans (hb3.mono (by simp; omega))).alloc (by omega) _
  have HL24 : Hid (Lies (w3.alloc (.cells #[.int .i64 42, .int .i64 (A : Int)] 26)) w2.heap.size #[.int .i64 42, .int .i64 (A : Int)] 26) := (HL2.out.below hb3 (by simp)).alloc _
  clear ho3 hb3 HO2 HB2 HL2 HR
  have k20 : (w3.alloc (.cells #[.int .i64 42, .int .i64 (A : Int)] 26)).cell? ⟨w2.heap.size, 0, none⟩ = some (.int .i64 42) := HL24.out.cell 0
  have k21 : (w3.alloc (.cells #[.int .i64 42, .int .i64 (A : Int)] 26)).cell? ⟨w2.heap.size, 1, none⟩ = some (.int .i64 (A : Int)) := HL24.out.cell 1
  obtain ⟨a2, c2, rfl⟩ := own_shape HO4.out
  have hA0 : ¬ (A : Int) < 0 := by omega
  have hA1 : ¬ (s.size : Int) < (A : Int) := by omega
  clear HO4
  go_wp2_with fail
  refine Calls.mono (HUL.out _ HB4.out) ?_
  rintro e w6 ⟨v6, rfl, hb6⟩
  have HB6 : Hid (Below w.heap.size w (w6.alloc (.cells #[.int .i64 42, .int .i64 ((A : Int) + 3)] 26))) := (HB4.out.trans (hb6.mono HB4.out.size)).alloc (HB4.out.trans (hb6.mono HB4.out.size)).size _
  have HL6 : Hid (Lies (w6.alloc (.cells #[.int .i64 42, .int .i64 ((A : Int) + 3)] 26)) w2.heap.size #[.int .i64 42, .int .i64 (A : Int)] 26) := (HL24.out.below hb6 HL24.out.lt).alloc _
  have k60 : (w6.alloc (.cells #[.int .i64 42, .int .i64 ((A : Int) + 3)] 26)).cell? ⟨w2.heap.size, 0, none⟩ = some (.int .i64 42) := HL6.out.cell 0
  have k61 : (w6.alloc (.cells #[.int .i64 42, .int .i64 ((A : Int) + 3)] 26)).cell? ⟨w2.heap.size, 1, none⟩ = some (.int .i64 (A : Int)) := HL6.out.cell 1
  clear hb6 HUL HB4 HL24 k20 k21
  by_cases hAs : A = s.size
  · have hAI : ((A : Int) == (s.size : Int)) = true := by simp; omega
    clear hAs
    go_wp2_with fail
    refine Calls.mono (HUM.out _ HB6.out) ?_
    rintro e w7 ⟨v7, E2, A2, _, rfl, hb7⟩
    have HB7 : Hid (Below w.heap.size w (w7.alloc (.cells #[.int .i64 (E2 : Nat), .int .i64 (A2 : Nat)] 26))) := (HB6.out.trans (hb7.mono HB6.out.size)).alloc (HB6.out.trans (hb7.mono HB6.out.size)).size _
    have HL7 : Hid (Lies (w7.alloc (.cells #[.int .i64 (E2 : Nat), .int .i64 (A2 : Nat)] 26)) w2.heap.size #[.int .i64 42, .int .i64 (A : Int)] 26) := (HL6.out.below hb7 HL6.out.lt).alloc _
    have k70 : (w7.alloc (.cells #[.int .i64 (E2 : Nat), .int .i64 (A2 : Nat)] 26)).cell? ⟨w2.heap.size, 0, none⟩ = some (.int .i64 42) := HL7.out.cell 0
    have k71 : (w7.alloc (.cells #[.int .i64 (E2 : Nat), .int .i64 (A2 : Nat)] 26)).cell? ⟨w2.heap.size, 1, none⟩ = some (.int .i64 (A : Int)) := HL7.out.cell 1
    clear hb7 HUM HL6 k60 k61 HB6
    go_wp2
    go_ret
    exact ⟨rfl, HB7.out⟩
  · have hAI : ((A : Int) == (s.size : Int)) = false := by simp; omega
    go_wp2_with fail
    refine Calls.mono (HUM.out _ HB6.out) ?_
    rintro e w7 ⟨v7, E2, A2, hEA, rfl, hb7⟩
    obtain ⟨rfl, rfl⟩ := hEA (by omega)
    have HB7 : Hid (Below w.heap.size w (w7.alloc (.cells #[.int .i64 42, .int .i64 (A2 : Int)] 26))) := (HB6.out.trans (hb7.mono HB6.out.size)).alloc (HB6.out.trans (hb7.mono HB6.out.size)).size _
    have HL7 : Hid (Lies (w7.alloc (.cells #[.int .i64 42, .int .i64 (A2 : Int)] 26)) w2.heap.size #[.int .i64 42, .int .i64 (A2 : Int)] 26) := (HL6.out.below hb7 HL6.out.lt).alloc _
    have k70 : (w7.alloc (.cells #[.int .i64 42, .int .i64 (A2 : Int)] 26)).cell? ⟨w2.heap.size, 0, none⟩ = some (.int .i64 42) := HL7.out.cell 0
    have k71 : (w7.alloc (.cells #[.int .i64 42, .int .i64 (A2 : Int)] 26)).cell? ⟨w2.heap.size, 1, none⟩ = some (.int .i64 (A2 : Int)) := HL7.out.cell 1
    clear hb7 HUM HL6 k60 k61 HB6 hAs
    go_wp2
    go_ret
    exact ⟨rfl, HB7.out⟩

theorem walk (s : ByteArray) (hs : s.size ≤ 1048576) (t : ByteArray) (ht : t.size ≤ 1048576) (w : World) (htab : Tabs w) :
    Calls Tryd.prog 7 #[.string s, .string t] w fun e w' => e = .returned (.bool true) ∧ Below w.heap.size w w' := by
  cases h : unqOk s.data.toList with
  | true => exact once_yes s hs t ht w htab h
  | false => exact once_no s hs t ht w htab h

theorem contract (H : Type) (enc : TypeId × Value → H) (W : World) (base : Nat) (args : Array Value) (ds gs : List (DataW H)) (before : List MemPlace)
    (hval : ∀ (j : Nat) t v, Tryd.f7.params[j]? = some t → args[j]? = some v → Value.okWide Tryd.prog W .any base t v)
    (hW : DataW.Whole enc Tryd.prog Tryd.f7.params.toList Rows.codeQuoteOnceSpec.vars false W args.toList ds gs before)
    (hsz : (DataW.weightsEach Tryd.prog (Tryd.f7.params.toList ++ (Rows.OpenSpec.upto Rows.codeQuoteOnceSpec).bare.plain.varTypes Tryd.prog) (ds ++ gs)).all (· ≤ reachBytes) = true)
    (hk : Rows.uptoSmall H (ds ++ gs) = true) (hL : laidMetH Tryd.prog Rows.codeQuoteOnceUptoRow.laid W) (hsh : W.ShapedOpen Tryd.prog) :
    Calls Tryd.prog 7 args W fun e W' => ∃ v, e = .returned v ∧ Rows.codeQuoteOnceSpec.post enc Tryd.prog Tryd.f7 false true false false W args v W' := by
  have hW' := hW
  obtain ⟨p, q, hA0, hV, rfl, hfz, hnd⟩ := hW
  have hA : DataW.TrodAll enc Tryd.prog W 0 (fun _ => true) true Tryd.f7.params.toList args.toList ds p := hA0
  rw [Tryd.params7] at hA hval hsz
  obtain ⟨v0, vs0, d0, ds0, p0, q0, hargs, rfl, rfl, h0, r0⟩ := trodAll_cons hA
  obtain ⟨v1, vs1, d1, ds1, p1, q1, rfl, rfl, rfl, h1, r1⟩ := trodAll_cons r0
  obtain ⟨rfl, rfl, rfl⟩ := trodAll_nil r1
  obtain rfl : args = #[v0, v1] := by cases args; simp_all
  obtain ⟨rfl, rfl⟩ := trodVars_none hV
  obtain ⟨a0, rfl, rfl, rfl, w0⟩ := open_string Tryd.underlying9 (hval 0 9 v0 rfl rfl) h0
  obtain ⟨a1, rfl, rfl, rfl, w1⟩ := open_string Tryd.underlying9 (hval 1 9 v1 rfl rfl) h1
  clear hA0
  have s0 : a0.size ≤ 1048576 := bulk_string hk (by simp)
  have s1 : a1.size ≤ 1048576 := bulk_string hk (by simp)
  simp only [List.append_nil] at hW'
  refine (walk a0 s0 a1 s1 W (tabs_of hL hsh)).mono fun e W' ⟨he, bel⟩ => ?_
  subst he
  exact ⟨_, rfl, _, _, _, [], [], [], hW', trodAll_mk1 (shut_bool Tryd.underlying4 _), trodAll_cons_mk (shut_string Tryd.underlying9 w0) (trodAll_cons_mk (shut_string Tryd.underlying9 w1) trodAll_mk0), rfl, bel.frame _, fun h => by cases h⟩

theorem laid_met (os : Os) : laidMet Tryd.prog Rows.codeQuoteOnceUptoRow.laid ((laidWorld os).forCall (fun _ _ => 0) ⟨#[], #[.string ByteArray.empty, .string ByteArray.empty], []⟩).memory :=
  laidMet_of_run' 8 (by kernel_rfl) (by kernel_rfl)
theorem reads (os : Os) {H : Type} (enc : TypeId × Value → H) : ∃ places, DataW.whole enc Tryd.prog ((laidWorld os).forCall (fun _ _ => 0) ⟨#[], #[.string ByteArray.empty, .string ByteArray.empty], []⟩).memory Tryd.f7.params.toList Rows.codeQuoteOnceSpec.vars false #[Value.string ByteArray.empty, Value.string ByteArray.empty].toList 8 = some ([.lit (.string []), .lit (.string [])], [], places) :=
  ⟨[], by kernel_rfl⟩

set_option maxRecDepth 100000 in
theorem lifted (os : Os) (started : os.Started) (H : Type) (enc : TypeId × Value → H) (F : Stop.Interp) :
    ReturnsInHanded {} Tryd.checked os 7 .any ((Rows.OpenSpec.upto Rows.codeQuoteOnceSpec).preRow enc Tryd.prog Tryd.f7 Rows.codeQuoteOnceUptoRow.domain false Rows.codeQuoteOnceUptoRow.laid) (((Rows.OpenSpec.upto Rows.codeQuoteOnceSpec).at F).post enc Tryd.prog Tryd.f7 false true false false) := by
  obtain ⟨places, hx⟩ := reads os enc
  refine returnsInHanded_of_row (C := Tryd.checked) (s := Rows.OpenSpec.upto Rows.codeQuoteOnceSpec) own started (by kernel_rfl) Tryd.func7
    (witness_row_at (enc := enc) (C := Tryd.checked) false (laidWorld os) #[.string ByteArray.empty, .string ByteArray.empty] rfl (by kernel_rfl) (by kernel_rfl) (by kernel_rfl)
      (OpenSpec.preRow_of_cond 8 hx (by kernel_rfl) (fun k hk => by cases hk; kernel_rfl) (by kernel_rfl) (laid_met os))) ?_
  intro W base args ds gs before hval hW _ hcond hsz hL hsh _
  exact contract H enc W base args ds gs before hval hW hsz (hcond _ rfl) hL hsh

theorem said : Rows.CodeQuoteOnceUptoSaid :=
  OpenClaim.holds_of_cond 7 Tryd.f7 rfl rfl rfl rfl rfl rfl rfl ⟨rfl, rfl, rfl, rfl, rfl⟩ rfl rfl rfl rfl rfl (by kernel_rfl) Tryd.func7 (by kernel_rfl)
    (of_decide_eq_true (by kernel_rfl)) (by unfold Func.isWrapper; first | (rw [if_pos (by decide +kernel)]; kernel_rfl) | (rw [if_neg (by decide +kernel)]; exact ⟨rfl, rfl⟩))
    (fun os started H enc _ F => by rw [OpenClaim.pre_eq_preRow]; exact lifted os started H enc F)

/-- No parameter wants a stand-in; the program's own looks are off. -/
theorem plain (f : FuncId) (fn : Func) (hf : Tryd.pinned.checked.prog.funcNamed "posthorn/posthornlaw04.CodeQuoteOnce" = some f) (hfn : Tryd.pinned.checked.prog.funcs[f]? = some fn) :
    false = Tryd.pinned.checked.prog.looks [] ∧ ∀ (j : Nat) t, fn.params[j]? = some t → Tryd.pinned.checked.prog.wantsStandIn t = false := by
  obtain rfl : f = 7 := Option.some.inj ((show Tryd.prog.funcNamed "posthorn/posthornlaw04.CodeQuoteOnce" = some 7 by kernel_rfl).symm.trans hf) |>.symm
  obtain rfl : fn = Tryd.f7 := (Option.some.inj (Tryd.func7.symm.trans hfn)).symm
  refine ⟨by kernel_rfl, fun j t ht => ?_⟩
  rw [Tryd.params7] at ht
  have hm : t ∈ [9, 9] := by simpa using Array.mem_of_getElem? ht
  have hall : ([9, 9].all fun u => !Tryd.prog.wantsStandIn u) = true := by kernel_rfl
  exact (show Tryd.prog.wantsStandIn t = false by simpa using List.all_eq_true.1 hall t hm)

/-- The card. -/
theorem card : Rows.CodeQuoteOnceUptoCardSaid :=
  Claim7.holds_tied_plain_at .later [] _ _ _ _ said (fun _ h => by cases h) (by kernel_rfl) (fun _ h => by cases h) codeQuoteOnceUpto_row_tie rfl ⟨rfl, rfl⟩ (by kernel_rfl) rfl plain (by kernel_rfl)
end Go.Proofs.YtenfopabdegmhabDoor.codeQuoteOnce
namespace Go.Proofs.YtenfopabdegmhabDoor
theorem codeQuoteOnceUpto_card : Rows.CodeQuoteOnceUptoCardSaid := codeQuoteOnce.card
#print axioms codeQuoteOnceUpto_card
end Go.Proofs.YtenfopabdegmhabDoor
