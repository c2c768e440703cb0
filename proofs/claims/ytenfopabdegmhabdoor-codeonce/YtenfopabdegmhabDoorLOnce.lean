/-
  P4.2, P4.7: what Unbase64 takes Base64 writes again; what it does not take is refused at the same place: proved for all texts and bytes that an argument may be.
-/
import Derived.Test.YtenfopabdegmhabDoorCard4
import Derived.Test.YtenfopabdegmhabDoorOpenC
import Derived.Test.YtenfopabdegmhabDoorUnbE
import Derived.Test.YtenfopabdegmhabDoorRUnc
import Derived.ProofKit
import Derived.ChangeMaps5
import Derived.OpenShut
import Derived.ShutString
import Derived.ChangeOld
import Derived.SizedLaws
namespace Go.Proofs.YtenfopabdegmhabDoor.codeOnce
open Go.ChangeShapes Go.WideShapes Go.ChangeAt Go.RowKit
open Go.ChangeMaps (open_string shut_string)

theorem cat_list (s t : ByteArray) : (s ++ t).data.toList = s.data.toList ++ t.data.toList := by simp
theorem arr_list (s : ByteArray) : (⟨s.data.toList.toArray⟩ : ByteArray) = s := by simp
set_option maxHeartbeats 8000000 in
set_option maxRecDepth 100000 in
theorem once_yes {w : World} (s : ByteArray) (hs : s.size ≤ 140737488351232) (t : ByteArray) (_ht : t.size ≤ 140737488351232) (a : Option Addr) (l : List UInt8) (cap : Nat) (hr : Bts a l w) (_hl : l.length ≤ 140737488351232) (_hc : l.length ≤ cap) (_hnn : a = none → cap = 0) (_hcm : cap ≤ 9223372036854775807) (htab : Tabs w) (h0 : unbE s.data.toList = 0) :
    Calls Tryd.prog 3 #[.string s, .string t, .slice a l.length cap] w fun e w' => e = .returned (.bool true) ∧ Below w.heap.size w w' := by
  obtain ⟨hag, e2⟩ := unb_again s.data.toList h0
  obtain ⟨D, e3⟩ : ∃ D, unbL s.data.toList = D := ⟨_, rfl⟩
  rw [e3] at hag
  have e1 := h0
  have HAG : Hid ((⟨(encL D).toArray⟩ : ByteArray) = s) := by
    show _ = _
    rw [hag]
  have hdl : D.length ≤ s.size := by
    have h1 := congrArg List.length hag
    rw [encL_len, len_list] at h1
    omega
  have HU : Hid (∀ wx : World, Calls Tryd.prog 9 #[.string s] wx fun e w' => ∃ v, e = .returned (.tuple #[v, .agg #[.int .i64 0, .int .i64 0]]) ∧ w'.ownsRow wx.heap.size 5 1 v D.length (cellsB D) ∧ Below wx.heap.size wx w') := fun wx => by
    have h := unb_any s (by omega) wx
    rw [e1, e2, e3] at h
    exact h
  have HR : Hid (∀ wx : World, Calls Tryd.prog 10 #[.string s] wx fun e w' => ∃ v, e = .returned (.tuple #[v, .agg #[.int .i64 0, .int .i64 0]]) ∧ w'.ownsRow wx.heap.size 5 1 v D.length (cellsB D) ∧ Below wx.heap.size wx w') := fun wx => by
    have h := runb_any s (by omega) wx
    rw [e1, e2, e3] at h
    exact h
  clear hag e1 e2 e3 h0
  obtain ⟨n, hn⟩ : ∃ n, n = l.length := ⟨_, rfl⟩
  have HBT : Hid (Bts a l w) := hr
  have HN : Hid (n = l.length) := hn
  have HLS : Hid (s.data.toList.length = s.size) := len_list s
  have HW : Hid (Calls Tryd.prog 8 #[] w fun e w' => e = .returned (.bool true) ∧ Below w.heap.size w w') := wakes_any w htab
  rw [← hn]
  rw [← hn] at _hl _hc
  clear hr hn htab
  go_enter Tryd.func3, Tryd.ntmps3
  go_wp2_with fail
  refine Calls.mono HW.out ?_
  rintro e w1 ⟨rfl, hb1⟩
  have HB1 : Hid (Below w.heap.size w w1) := hb1
  have hz1 := hb1.size
  clear hb1 HW
  go_wp2_with fail
  refine Calls.mono (HU.out _) ?_
  rintro e w2 ⟨v2, rfl, ho2, hb2⟩
  have hz2 : w1.heap.size ≤ w2.heap.size := hb2.size
  have HO2 : Hid ((w2.alloc (.cells #[.int .i64 0, .int .i64 0] 26)).ownsRow w.heap.size 5 1 v2 D.length (cellsB D)) := base_le (ho2.alloc _) hz1
  have HB2 : Hid (Below w.heap.size w (w2.alloc (.cells #[.int .i64 0, .int .i64 0] 26))) := (HB1.out.trans (hb2.mono hz1)).alloc (by omega) _
  have HL2 : Hid (Lies (w2.alloc (.cells #[.int .i64 0, .int .i64 0] 26)) w2.heap.size #[.int .i64 0, .int .i64 0] 26) := Lies.new w2 _ _
  clear ho2 hb2 HB1 HU
  go_wp2_with fail
  refine Calls.mono (HR.out _) ?_
  rintro e w3 ⟨v3, rfl, ho3, hb3⟩
  have hz3 : w2.heap.size + 1 ≤ w3.heap.size := by have := hb3.size; simpa using this
  have HO4 : Hid ((w3.alloc (.cells #[.int .i64 0, .int .i64 0] 26)).ownsRow w.heap.size 5 1 v2 D.length (cellsB D)) := (own_below HO2.out hb3).alloc _
  have HB4 : Hid (Below w.heap.size w (w3.alloc (.cells #[.int .i64 0, .int .i64 0] 26))) := (HB2.out.trans (hb3.mono (by simp; omega))).alloc (by omega) _
  have HL24 : Hid (Lies (w3.alloc (.cells #[.int .i64 0, .int .i64 0] 26)) w2.heap.size #[.int .i64 0, .int .i64 0] 26) := (HL2.out.below hb3 (by simp)).alloc _
  have HL34 : Hid (Lies (w3.alloc (.cells #[.int .i64 0, .int .i64 0] 26)) w3.heap.size #[.int .i64 0, .int .i64 0] 26) := Lies.new w3 _ _
  clear ho3 hb3 HO2 HB2 HL2 HR
  have k20 : (w3.alloc (.cells #[.int .i64 0, .int .i64 0] 26)).cell? ⟨w2.heap.size, 0, none⟩ = some (.int .i64 0) := HL24.out.cell 0
  have k21 : (w3.alloc (.cells #[.int .i64 0, .int .i64 0] 26)).cell? ⟨w2.heap.size, 1, none⟩ = some (.int .i64 0) := HL24.out.cell 1

  obtain ⟨a2, c2, rfl, hbt2, hdl2, _, hdc2, _⟩ := own_bts HO4.out
  have hcap2 : c2 ≤ 9223372036854775807 := own_cap HO4.out
  have HB64 : Hid (Calls Tryd.prog 11 #[.slice a2 D.length c2] (w3.alloc (.cells #[.int .i64 0, .int .i64 0] 26)) fun e w' => e = .returned (.string s) ∧ Below (w3.alloc (.cells #[.int .i64 0, .int .i64 0] 26)).heap.size (w3.alloc (.cells #[.int .i64 0, .int .i64 0] 26)) w') := by
    have := b64_any a2 D c2 D.length _ rfl hbt2 (by omega) hdc2 hcap2
    rw [HAG.out] at this
    exact this
  generalize D.length = dn at HB64 hdc2 hdl ⊢
  clear HO4 hbt2 hdl2
  go_wp2_with (go_at_call 11; refine Calls.mono HB64.out ?_; rintro e w5 ⟨rfl, hb5⟩; have HB5 : Hid (Below w.heap.size w w5) := HB4.out.trans (hb5.mono HB4.out.size); clear hb5)
  go_ret
  exact ⟨rfl, HB5.out⟩

set_option maxHeartbeats 8000000 in
set_option maxRecDepth 100000 in
theorem once_40 {w : World} (s : ByteArray) (hs : s.size ≤ 140737488351232) (t : ByteArray) (ht : t.size ≤ 140737488351232) (a : Option Addr) (l : List UInt8) (cap : Nat) (hr : Bts a l w) (hl : l.length ≤ 140737488351232) (hc : l.length ≤ cap) (_hnn : a = none → cap = 0) (hcm : cap ≤ 9223372036854775807) (htab : Tabs w) (h0 : unbE s.data.toList = 40) :
    Calls Tryd.prog 3 #[.string s, .string t, .slice a l.length cap] w fun e w' => e = .returned (.bool true) ∧ Below w.heap.size w w' := by
  obtain ⟨e3, hA, _, hAE⟩ := unb_facts s.data.toList (by omega)
  obtain ⟨A, e2⟩ : ∃ A, unbA s.data.toList = A := ⟨_, rfl⟩
  rw [e2, len_list] at hA hAE
  rw [h0] at hAE
  have HBE : Hid (unbE s.data.toList = 40 ∧ unbA s.data.toList = A) := ⟨h0, e2⟩
  have e1 := h0
  have HU : Hid (∀ wx : World, Calls Tryd.prog 9 #[.string s] wx fun e w' => ∃ v, e = .returned (.tuple #[v, .agg #[.int .i64 40, .int .i64 (A : Int)]]) ∧ w'.ownsRow wx.heap.size 5 1 v 0 (cellsB []) ∧ Below wx.heap.size wx w') := fun wx => by
    have h := unb_any s (by omega) wx
    rw [e1, e2, e3] at h
    exact h
  have HR : Hid (∀ wx : World, Calls Tryd.prog 10 #[.string s] wx fun e w' => ∃ v, e = .returned (.tuple #[v, .agg #[.int .i64 40, .int .i64 (A : Int)]]) ∧ w'.ownsRow wx.heap.size 5 1 v 0 (cellsB []) ∧ Below wx.heap.size wx w') := fun wx => by
    have h := runb_any s (by omega) wx
    rw [e1, e2, e3] at h
    exact h
  have HAE : Hid (A = s.size → 40 = 41 ∧ s.size % 4 ≠ 0) := hAE
  clear e1 e2 e3 h0 hAE
  obtain ⟨n, hn⟩ : ∃ n, n = l.length := ⟨_, rfl⟩
  have HBT : Hid (Bts a l w) := hr
  have HN : Hid (n = l.length) := hn
  have HLS : Hid (s.data.toList.length = s.size) := len_list s
  have HW : Hid (Calls Tryd.prog 8 #[] w fun e w' => e = .returned (.bool true) ∧ Below w.heap.size w w') := wakes_any w htab
  rw [← hn]
  rw [← hn] at hl hc
  clear hr hn htab
  go_enter Tryd.func3, Tryd.ntmps3
  go_wp2_with fail
  refine Calls.mono HW.out ?_
  rintro e w1 ⟨rfl, hb1⟩
  have HB1 : Hid (Below w.heap.size w w1) := hb1
  have hz1 := hb1.size
  clear hb1 HW
  go_wp2_with fail
  refine Calls.mono (HU.out _) ?_
  rintro e w2 ⟨v2, rfl, ho2, hb2⟩
  have hz2 : w1.heap.size ≤ w2.heap.size := hb2.size
  have HO2 : Hid ((w2.alloc (.cells #[.int .i64 40, .int .i64 (A : Int)] 26)).ownsRow w.heap.size 5 1 v2 0 (cellsB [])) := base_le (ho2.alloc _) hz1
  have HB2 : Hid (Below w.heap.size w (w2.alloc (.cells #[.int .i64 40, .int .i64 (A : Int)] 26))) := (HB1.out.trans (hb2.mono hz1)).alloc (by omega) _
  have HL2 : Hid (Lies (w2.alloc (.cells #[.int .i64 40, .int .i64 (A : Int)] 26)) w2.heap.size #[.int .i64 40, .int .i64 (A : Int)] 26) := Lies.new w2 _ _
  clear ho2 hb2 HB1 HU
  go_wp2_with fail
  refine Calls.mono (HR.out _) ?_
  rintro e w3 ⟨v3, rfl, ho3, hb3⟩
  have hz3 : w2.heap.size + 1 ≤ w3.heap.size := by have := hb3.size; simpa using this
  have HO4 : Hid ((w3.alloc (.cells #[.int .i64 40, .int .i64 (A : Int)] 26)).ownsRow w.heap.size 5 1 v2 0 (cellsB [])) := (own_below HO2.out hb3).alloc _
  have HB4 : Hid (Below w.heap.size w (w3.alloc (.cells #[.int .i64 40, .int .i64 (A : Int)] 26))) := (HB2.out.trans (hb3.mono (by simp; omega))).alloc (by omega) _
  have HL24 : Hid (Lies (w3.alloc (.cells #[.int .i64 40, .int .i64 (A : Int)] 26)) w2.heap.size #[.int .i64 40, .int .i64 (A : Int)] 26) := (HL2.out.below hb3 (by simp)).alloc _
  have HL34 : Hid (Lies (w3.alloc (.cells #[.int .i64 40, .int .i64 (A : Int)] 26)) w3.heap.size #[.int .i64 40, .int .i64 (A : Int)] 26) := Lies.new w3 _ _
  clear ho3 hb3 HO2 HB2 HL2 HR
  have k20 : (w3.alloc (.cells #[.int .i64 40, .int .i64 (A : Int)] 26)).cell? ⟨w2.heap.size, 0, none⟩ = some (.int .i64 40) := HL24.out.cell 0
  have k21 : (w3.alloc (.cells #[.int .i64 40, .int .i64 (A : Int)] 26)).cell? ⟨w2.heap.size, 1, none⟩ = some (.int .i64 (A : Int)) := HL24.out.cell 1

  obtain ⟨a2, c2, rfl⟩ := own_shape HO4.out
  clear HO4
  obtain ⟨w4, hw4⟩ : ∃ w4, w4 = w3.alloc (.cells #[.int .i64 40, .int .i64 (A : Int)] 26) := ⟨_, rfl⟩
  have HBT4 : Hid (Bts a l w4) := by rw [hw4]; exact HBT.out.below HB4.out
  have HB4' : Hid (Below w.heap.size w w4) := by rw [hw4]; exact HB4.out
  have HL4 : Hid (Lies w4 w2.heap.size #[.int .i64 40, .int .i64 (A : Int)] 26) := by rw [hw4]; exact HL24.out
  have hz4 : w2.heap.size < w4.heap.size := HL4.out.lt
  have HW4 : Hid (w3.alloc (.cells #[.int .i64 40, .int .i64 (A : Int)] 26) = w4) := hw4.symm
  have hA0 : ¬ (A : Int) < 0 := by omega
  have hA1 : ¬ (s.size : Int) < (A : Int) := by omega
  obtain ⟨m, hm⟩ : ∃ m, m = n / 3 * 3 := ⟨_, rfl⟩
  have hmi : (n : Int) / 3 * 3 = (m : Int) := by omega
  have hmn : m ≤ n := by omega
  have HM : Hid (m = n / 3 * 3) := hm
  have hmc : (m : Int) ≤ (cap : Int) := by omega
  clear hw4 hm
  have HML : Hid ((l.take m).length = m) := by
    show _ = _
    rw [List.length_take, ← HN.out]
    omega
  have HB64 : Hid (Calls Tryd.prog 11 #[.slice a m cap] w4 fun e w' => e = .returned (.string ⟨(encL (l.take m)).toArray⟩) ∧ Below w4.heap.size w4 w') := b64_any a (l.take m) cap m w4 HML.out.symm (HBT4.out.take m) (by rw [HML.out]; omega) (by rw [HML.out]; omega) hcm
  have HH : Hid ((⟨(encL (l.take m)).toArray⟩ : ByteArray).data.toList = encL (l.take m)) := List.toList_toArray ..
  have hhs : (⟨(encL (l.take m)).toArray⟩ : ByteArray).size = m / 3 * 4 := by
    rw [← len_list, HH.out, encL_len, HML.out]
    have := HM.out
    omega
  obtain ⟨S, hS⟩ : ∃ S : ByteArray, S = ⟨(encL (l.take m)).toArray⟩ := ⟨_, rfl⟩
  rw [← hS] at HB64 HH hhs
  have hhb : S.size ≤ 187649984473764 := by omega
  clear hhs
  have HUA : Hid (∀ wx : World, Calls Tryd.prog 9 #[.string (S ++ s)] wx fun e w' => ∃ v, e = .returned (.tuple #[v, .agg #[.int .i64 40, .int .i64 ((S.size : Int) + (A : Int))]]) ∧ Below wx.heap.size wx w') := fun wx => by
    obtain ⟨f1, f2⟩ := unb_ahead (encL (l.take m)) s.data.toList (m / 3) (by rw [encL_len, HML.out]; have := HM.out; omega) (enc_okN _) (enc_st (m / 3) _ (by rw [HML.out]; have := HM.out; omega)) (by rw [HBE.out.1]; omega)
    have hls : (S ++ s).data.toList = encL (l.take m) ++ s.data.toList := by rw [cat_list, HH.out]
    have h := unb_err (S ++ s) (by rw [← len_list, hls, List.length_append, len_list, encL_len, HML.out]; omega) (by rw [hls, f1, HBE.out.1]; omega) wx
    rw [hls, f1, f2, HBE.out.1, HBE.out.2, show (encL (l.take m)).length = S.size by rw [← HH.out, len_list]] at h
    refine h.mono ?_
    rintro e w' ⟨v, rfl, _, hb⟩
    exact ⟨v, by push_cast; rfl, hb⟩
  have HUB : Hid (A ≠ s.size → ∀ wx : World, Calls Tryd.prog 9 #[.string (s ++ t)] wx fun e w' => ∃ v, e = .returned (.tuple #[v, .agg #[.int .i64 40, .int .i64 (A : Int)]]) ∧ Below wx.heap.size wx w') := fun hne wx => by
    obtain ⟨f1, f2⟩ := unb_behind s.data.toList t.data.toList (by rw [HBE.out.1]; omega) (by rw [HBE.out.2, len_list]; exact hne)
    have hls := cat_list s t
    have h := unb_err (s ++ t) (by rw [← len_list, hls, List.length_append, len_list, len_list]; omega) (by rw [hls, f1, HBE.out.1]; omega) wx
    rw [hls, f1, f2, HBE.out.1, HBE.out.2] at h
    refine h.mono ?_
    rintro e w' ⟨v, rfl, _, hb⟩
    exact ⟨v, rfl, hb⟩
  clear HB4 HL24 HL34 HBE hS
  go_wp2_with fail
  rw [HW4.out]
  refine Calls.mono HB64.out ?_
  rintro e w5 ⟨rfl, hb5⟩
  have HB5 : Hid (Below w.heap.size w w5) := HB4'.out.trans (hb5.mono HB4'.out.size)
  have HL5 : Hid (Lies w5 w2.heap.size #[.int .i64 40, .int .i64 (A : Int)] 26) := HL4.out.below hb5 hz4
  have hz5 : w2.heap.size < w5.heap.size := HL5.out.lt
  clear hb5 HB64 HB4' HL4 k20 k21 HW4 HBT4
  go_wp2_with fail
  refine Calls.mono (HUA.out _) ?_
  rintro e w6 ⟨v6, rfl, hb6⟩
  have HB6 : Hid (Below w.heap.size w (w6.alloc (.cells #[.int .i64 40, .int .i64 ((S.size : Int) + (A : Int))] 26))) := (HB5.out.trans (hb6.mono HB5.out.size)).alloc (HB5.out.trans (hb6.mono HB5.out.size)).size _
  have HL6 : Hid (Lies (w6.alloc (.cells #[.int .i64 40, .int .i64 ((S.size : Int) + (A : Int))] 26)) w2.heap.size #[.int .i64 40, .int .i64 (A : Int)] 26) := (HL5.out.below hb6 hz5).alloc _
  have k60 : (w6.alloc (.cells #[.int .i64 40, .int .i64 ((S.size : Int) + (A : Int))] 26)).cell? ⟨w2.heap.size, 0, none⟩ = some (.int .i64 40) := HL6.out.cell 0
  have k61 : (w6.alloc (.cells #[.int .i64 40, .int .i64 ((S.size : Int) + (A : Int))] 26)).cell? ⟨w2.heap.size, 1, none⟩ = some (.int .i64 (A : Int)) := HL6.out.cell 1
  clear hb6 HUA HB5 HL5
  by_cases hAs : A = s.size
  · have hAI : ((A : Int) == (s.size : Int)) = true := by simp; omega
    obtain ⟨h41, h4⟩ := HAE.out hAs
    exact absurd h41 (by decide)
  · have hAI : ((A : Int) == (s.size : Int)) = false := by simp; omega
    have HUC : Hid _ := HUB.out hAs
    clear HUB hAs
    go_wp2_with fail
    refine Calls.mono (HUC.out _) ?_
    rintro e w7 ⟨v7, rfl, hb7⟩
    have HB7 : Hid (Below w.heap.size w (w7.alloc (.cells #[.int .i64 40, .int .i64 (A : Int)] 26))) := (HB6.out.trans (hb7.mono HB6.out.size)).alloc (HB6.out.trans (hb7.mono HB6.out.size)).size _
    have HL7 : Hid (Lies (w7.alloc (.cells #[.int .i64 40, .int .i64 (A : Int)] 26)) w2.heap.size #[.int .i64 40, .int .i64 (A : Int)] 26) := (HL6.out.below hb7 HL6.out.lt).alloc _
    have k70 : (w7.alloc (.cells #[.int .i64 40, .int .i64 (A : Int)] 26)).cell? ⟨w2.heap.size, 0, none⟩ = some (.int .i64 40) := HL7.out.cell 0
    have k71 : (w7.alloc (.cells #[.int .i64 40, .int .i64 (A : Int)] 26)).cell? ⟨w2.heap.size, 1, none⟩ = some (.int .i64 (A : Int)) := HL7.out.cell 1
    clear hb7 HUC HL6 k60 k61 HB6
    go_wp2
    go_ret
    exact ⟨rfl, HB7.out⟩

set_option maxHeartbeats 8000000 in
set_option maxRecDepth 100000 in
theorem once_41 {w : World} (s : ByteArray) (hs : s.size ≤ 140737488351232) (t : ByteArray) (ht : t.size ≤ 140737488351232) (a : Option Addr) (l : List UInt8) (cap : Nat) (hr : Bts a l w) (hl : l.length ≤ 140737488351232) (hc : l.length ≤ cap) (_hnn : a = none → cap = 0) (hcm : cap ≤ 9223372036854775807) (htab : Tabs w) (h0 : unbE s.data.toList = 41) :
    Calls Tryd.prog 3 #[.string s, .string t, .slice a l.length cap] w fun e w' => e = .returned (.bool true) ∧ Below w.heap.size w w' := by
  obtain ⟨e3, hA, _, hAE⟩ := unb_facts s.data.toList (by omega)
  obtain ⟨A, e2⟩ : ∃ A, unbA s.data.toList = A := ⟨_, rfl⟩
  rw [e2, len_list] at hA hAE
  rw [h0] at hAE
  have HBE : Hid (unbE s.data.toList = 41 ∧ unbA s.data.toList = A) := ⟨h0, e2⟩
  have e1 := h0
  have HU : Hid (∀ wx : World, Calls Tryd.prog 9 #[.string s] wx fun e w' => ∃ v, e = .returned (.tuple #[v, .agg #[.int .i64 41, .int .i64 (A : Int)]]) ∧ w'.ownsRow wx.heap.size 5 1 v 0 (cellsB []) ∧ Below wx.heap.size wx w') := fun wx => by
    have h := unb_any s (by omega) wx
    rw [e1, e2, e3] at h
    exact h
  have HR : Hid (∀ wx : World, Calls Tryd.prog 10 #[.string s] wx fun e w' => ∃ v, e = .returned (.tuple #[v, .agg #[.int .i64 41, .int .i64 (A : Int)]]) ∧ w'.ownsRow wx.heap.size 5 1 v 0 (cellsB []) ∧ Below wx.heap.size wx w') := fun wx => by
    have h := runb_any s (by omega) wx
    rw [e1, e2, e3] at h
    exact h
  have HAE : Hid (A = s.size → 41 = 41 ∧ s.size % 4 ≠ 0) := hAE
  clear e1 e2 e3 h0 hAE
  obtain ⟨n, hn⟩ : ∃ n, n = l.length := ⟨_, rfl⟩
  have HBT : Hid (Bts a l w) := hr
  have HN : Hid (n = l.length) := hn
  have HLS : Hid (s.data.toList.length = s.size) := len_list s
  have HW : Hid (Calls Tryd.prog 8 #[] w fun e w' => e = .returned (.bool true) ∧ Below w.heap.size w w') := wakes_any w htab
  rw [← hn]
  rw [← hn] at hl hc
  clear hr hn htab
  go_enter Tryd.func3, Tryd.ntmps3
  go_wp2_with fail
  refine Calls.mono HW.out ?_
  rintro e w1 ⟨rfl, hb1⟩
  have HB1 : Hid (Below w.heap.size w w1) := hb1
  have hz1 := hb1.size
  clear hb1 HW
  go_wp2_with fail
  refine Calls.mono (HU.out _) ?_
  rintro e w2 ⟨v2, rfl, ho2, hb2⟩
  have hz2 : w1.heap.size ≤ w2.heap.size := hb2.size
  have HO2 : Hid ((w2.alloc (.cells #[.int .i64 41, .int .i64 (A : Int)] 26)).ownsRow w.heap.size 5 1 v2 0 (cellsB [])) := base_le (ho2.alloc _) hz1
  have HB2 : Hid (Below w.heap.size w (w2.alloc (.cells #[.int .i64 41, .int .i64 (A : Int)] 26))) := (HB1.out.trans (hb2.mono hz1)).alloc (by omega) _
  have HL2 : Hid (Lies (w2.alloc (.cells #[.int .i64 41, .int .i64 (A : Int)] 26)) w2.heap.size #[.int .i64 41, .int .i64 (A : Int)] 26) := Lies.new w2 _ _
  clear ho2 hb2 HB1 HU
  go_wp2_with fail
  refine Calls.mono (HR.out _) ?_
  rintro e w3 ⟨v3, rfl, ho3, hb3⟩
  have hz3 : w2.heap.size + 1 ≤ w3.heap.size := by have := hb3.size; simpa using this
  have HO4 : Hid ((w3.alloc (.cells #[.int .i64 41, .int .i64 (A : Int)] 26)).ownsRow w.heap.size 5 1 v2 0 (cellsB [])) := (own_below HO2.out hb3).alloc _
  have HB4 : Hid (Below w.heap.size w (w3.alloc (.cells #[.int .i64 41, .int .i64 (A : Int)] 26))) := (HB2.out.trans (hb3.mono (by simp; omega))).alloc (by omega) _
  have HL24 : Hid (Lies (w3.alloc (.cells #[.int .i64 41, .int .i64 (A : Int)] 26)) w2.heap.size #[.int .i64 41, .int .i64 (A : Int)] 26) := (HL2.out.below hb3 (by simp)).alloc _
  have HL34 : Hid (Lies (w3.alloc (.cells #[.int .i64 41, .int .i64 (A : Int)] 26)) w3.heap.size #[.int .i64 41, .int .i64 (A : Int)] 26) := Lies.new w3 _ _
  clear ho3 hb3 HO2 HB2 HL2 HR
  have k20 : (w3.alloc (.cells #[.int .i64 41, .int .i64 (A : Int)] 26)).cell? ⟨w2.heap.size, 0, none⟩ = some (.int .i64 41) := HL24.out.cell 0
  have k21 : (w3.alloc (.cells #[.int .i64 41, .int .i64 (A : Int)] 26)).cell? ⟨w2.heap.size, 1, none⟩ = some (.int .i64 (A : Int)) := HL24.out.cell 1

  obtain ⟨a2, c2, rfl⟩ := own_shape HO4.out
  clear HO4
  obtain ⟨w4, hw4⟩ : ∃ w4, w4 = w3.alloc (.cells #[.int .i64 41, .int .i64 (A : Int)] 26) := ⟨_, rfl⟩
  have HBT4 : Hid (Bts a l w4) := by rw [hw4]; exact HBT.out.below HB4.out
  have HB4' : Hid (Below w.heap.size w w4) := by rw [hw4]; exact HB4.out
  have HL4 : Hid (Lies w4 w2.heap.size #[.int .i64 41, .int .i64 (A : Int)] 26) := by rw [hw4]; exact HL24.out
  have hz4 : w2.heap.size < w4.heap.size := HL4.out.lt
  have HW4 : Hid (w3.alloc (.cells #[.int .i64 41, .int .i64 (A : Int)] 26) = w4) := hw4.symm
  have hA0 : ¬ (A : Int) < 0 := by omega
  have hA1 : ¬ (s.size : Int) < (A : Int) := by omega
  obtain ⟨m, hm⟩ : ∃ m, m = n / 3 * 3 := ⟨_, rfl⟩
  have hmi : (n : Int) / 3 * 3 = (m : Int) := by omega
  have hmn : m ≤ n := by omega
  have HM : Hid (m = n / 3 * 3) := hm
  have hmc : (m : Int) ≤ (cap : Int) := by omega
  clear hw4 hm
  have HML : Hid ((l.take m).length = m) := by
    show _ = _
    rw [List.length_take, ← HN.out]
    omega
  have HB64 : Hid (Calls Tryd.prog 11 #[.slice a m cap] w4 fun e w' => e = .returned (.string ⟨(encL (l.take m)).toArray⟩) ∧ Below w4.heap.size w4 w') := b64_any a (l.take m) cap m w4 HML.out.symm (HBT4.out.take m) (by rw [HML.out]; omega) (by rw [HML.out]; omega) hcm
  have HH : Hid ((⟨(encL (l.take m)).toArray⟩ : ByteArray).data.toList = encL (l.take m)) := List.toList_toArray ..
  have hhs : (⟨(encL (l.take m)).toArray⟩ : ByteArray).size = m / 3 * 4 := by
    rw [← len_list, HH.out, encL_len, HML.out]
    have := HM.out
    omega
  obtain ⟨S, hS⟩ : ∃ S : ByteArray, S = ⟨(encL (l.take m)).toArray⟩ := ⟨_, rfl⟩
  rw [← hS] at HB64 HH hhs
  have hhb : S.size ≤ 187649984473764 := by omega
  clear hhs
  have HUA : Hid (∀ wx : World, Calls Tryd.prog 9 #[.string (S ++ s)] wx fun e w' => ∃ v, e = .returned (.tuple #[v, .agg #[.int .i64 41, .int .i64 ((S.size : Int) + (A : Int))]]) ∧ Below wx.heap.size wx w') := fun wx => by
    obtain ⟨f1, f2⟩ := unb_ahead (encL (l.take m)) s.data.toList (m / 3) (by rw [encL_len, HML.out]; have := HM.out; omega) (enc_okN _) (enc_st (m / 3) _ (by rw [HML.out]; have := HM.out; omega)) (by rw [HBE.out.1]; omega)
    have hls : (S ++ s).data.toList = encL (l.take m) ++ s.data.toList := by rw [cat_list, HH.out]
    have h := unb_err (S ++ s) (by rw [← len_list, hls, List.length_append, len_list, encL_len, HML.out]; omega) (by rw [hls, f1, HBE.out.1]; omega) wx
    rw [hls, f1, f2, HBE.out.1, HBE.out.2, show (encL (l.take m)).length = S.size by rw [← HH.out, len_list]] at h
    refine h.mono ?_
    rintro e w' ⟨v, rfl, _, hb⟩
    exact ⟨v, by push_cast; rfl, hb⟩
  have HUB : Hid (A ≠ s.size → ∀ wx : World, Calls Tryd.prog 9 #[.string (s ++ t)] wx fun e w' => ∃ v, e = .returned (.tuple #[v, .agg #[.int .i64 41, .int .i64 (A : Int)]]) ∧ Below wx.heap.size wx w') := fun hne wx => by
    obtain ⟨f1, f2⟩ := unb_behind s.data.toList t.data.toList (by rw [HBE.out.1]; omega) (by rw [HBE.out.2, len_list]; exact hne)
    have hls := cat_list s t
    have h := unb_err (s ++ t) (by rw [← len_list, hls, List.length_append, len_list, len_list]; omega) (by rw [hls, f1, HBE.out.1]; omega) wx
    rw [hls, f1, f2, HBE.out.1, HBE.out.2] at h
    refine h.mono ?_
    rintro e w' ⟨v, rfl, _, hb⟩
    exact ⟨v, rfl, hb⟩
  clear HB4 HL24 HL34 HBE hS
  go_wp2_with fail
  rw [HW4.out]
  refine Calls.mono HB64.out ?_
  rintro e w5 ⟨rfl, hb5⟩
  have HB5 : Hid (Below w.heap.size w w5) := HB4'.out.trans (hb5.mono HB4'.out.size)
  have HL5 : Hid (Lies w5 w2.heap.size #[.int .i64 41, .int .i64 (A : Int)] 26) := HL4.out.below hb5 hz4
  have hz5 : w2.heap.size < w5.heap.size := HL5.out.lt
  clear hb5 HB64 HB4' HL4 k20 k21 HW4 HBT4
  go_wp2_with fail
  refine Calls.mono (HUA.out _) ?_
  rintro e w6 ⟨v6, rfl, hb6⟩
  have HB6 : Hid (Below w.heap.size w (w6.alloc (.cells #[.int .i64 41, .int .i64 ((S.size : Int) + (A : Int))] 26))) := (HB5.out.trans (hb6.mono HB5.out.size)).alloc (HB5.out.trans (hb6.mono HB5.out.size)).size _
  have HL6 : Hid (Lies (w6.alloc (.cells #[.int .i64 41, .int .i64 ((S.size : Int) + (A : Int))] 26)) w2.heap.size #[.int .i64 41, .int .i64 (A : Int)] 26) := (HL5.out.below hb6 hz5).alloc _
  have k60 : (w6.alloc (.cells #[.int .i64 41, .int .i64 ((S.size : Int) + (A : Int))] 26)).cell? ⟨w2.heap.size, 0, none⟩ = some (.int .i64 41) := HL6.out.cell 0
  have k61 : (w6.alloc (.cells #[.int .i64 41, .int .i64 ((S.size : Int) + (A : Int))] 26)).cell? ⟨w2.heap.size, 1, none⟩ = some (.int .i64 (A : Int)) := HL6.out.cell 1
  clear hb6 HUA HB5 HL5
  by_cases hAs : A = s.size
  · have hAI : ((A : Int) == (s.size : Int)) = true := by simp; omega
    obtain ⟨h41, h4⟩ := HAE.out hAs
    have hq : ((s.size : Int) % 4 != 0) = true := by simp; omega
    clear HUB hAs h4 h41
    go_wp2
    go_ret
    exact ⟨rfl, HB6.out⟩
  · have hAI : ((A : Int) == (s.size : Int)) = false := by simp; omega
    have HUC : Hid _ := HUB.out hAs
    clear HUB hAs
    go_wp2_with fail
    refine Calls.mono (HUC.out _) ?_
    rintro e w7 ⟨v7, rfl, hb7⟩
    have HB7 : Hid (Below w.heap.size w (w7.alloc (.cells #[.int .i64 41, .int .i64 (A : Int)] 26))) := (HB6.out.trans (hb7.mono HB6.out.size)).alloc (HB6.out.trans (hb7.mono HB6.out.size)).size _
    have HL7 : Hid (Lies (w7.alloc (.cells #[.int .i64 41, .int .i64 (A : Int)] 26)) w2.heap.size #[.int .i64 41, .int .i64 (A : Int)] 26) := (HL6.out.below hb7 HL6.out.lt).alloc _
    have k70 : (w7.alloc (.cells #[.int .i64 41, .int .i64 (A : Int)] 26)).cell? ⟨w2.heap.size, 0, none⟩ = some (.int .i64 41) := HL7.out.cell 0
    have k71 : (w7.alloc (.cells #[.int .i64 41, .int .i64 (A : Int)] 26)).cell? ⟨w2.heap.size, 1, none⟩ = some (.int .i64 (A : Int)) := HL7.out.cell 1
    clear hb7 HUC HL6 k60 k61 HB6
    go_wp2
    go_ret
    exact ⟨rfl, HB7.out⟩

theorem walk {w : World} (s : ByteArray) (hs : s.size ≤ 140737488351232) (t : ByteArray) (ht : t.size ≤ 140737488351232) (a : Option Addr) (l : List UInt8) (cap : Nat) (hr : Bts a l w) (hl : l.length ≤ 140737488351232) (hc : l.length ≤ cap) (_hnn : a = none → cap = 0) (hcm : cap ≤ 9223372036854775807) (htab : Tabs w) :
    Calls Tryd.prog 3 #[.string s, .string t, .slice a l.length cap] w fun e w' => e = .returned (.bool true) ∧ Below w.heap.size w w' := by
  by_cases h0 : unbE s.data.toList = 0
  · exact once_yes s hs t ht a l cap hr hl hc _hnn hcm htab h0
  · rcases (unb_facts s.data.toList h0).2.2.1 with h | h
    · exact once_40 s hs t ht a l cap hr hl hc _hnn hcm htab h
    · exact once_41 s hs t ht a l cap hr hl hc _hnn hcm htab h

theorem contract (H : Type) (enc : TypeId × Value → H) (W : World) (base : Nat) (args : Array Value) (ds gs : List (DataW H)) (before : List MemPlace)
    (hval : ∀ (j : Nat) t v, Tryd.f3.params[j]? = some t → args[j]? = some v → Value.okWide Tryd.prog W .any base t v)
    (hW : DataW.Whole enc Tryd.prog Tryd.f3.params.toList Rows.codeOnceSpec.vars false W args.toList ds gs before)
    (hsz : (DataW.weightsEach Tryd.prog (Tryd.f3.params.toList ++ (OpenSpec.ofChange Rows.codeOnceSpec).bare.plain.varTypes Tryd.prog) (ds ++ gs)).all (· ≤ reachBytes) = true)
    (hL : laidMetH Tryd.prog Rows.codeOnceRow.laid W) (hsh : W.ShapedOpen Tryd.prog) :
    Calls Tryd.prog 3 args W fun e W' => ∃ v, e = .returned v ∧ Rows.codeOnceSpec.post enc Tryd.prog Tryd.f3 false true false false W args v W' := by
  have hW' := hW
  obtain ⟨p, q, hA0, hV, rfl, hfz, hnd⟩ := hW
  have hA : DataW.TrodAll enc Tryd.prog W 0 (fun _ => true) true Tryd.f3.params.toList args.toList ds p := hA0
  rw [Tryd.params3] at hA hval hsz
  obtain ⟨v0, vs0, d0, ds0, p0, q0, hargs, rfl, rfl, h0, r0⟩ := trodAll_cons hA
  obtain ⟨v1, vs1, d1, ds1, p1, q1, rfl, rfl, rfl, h1, r1⟩ := trodAll_cons r0
  obtain ⟨v2, vs2, d2, ds2, p2, q2, rfl, rfl, rfl, h2, r2⟩ := trodAll_cons r1
  obtain ⟨rfl, rfl, rfl⟩ := trodAll_nil r2
  obtain rfl : args = #[v0, v1, v2] := by cases args; simp_all
  obtain ⟨rfl, rfl⟩ := trodVars_none hV
  obtain ⟨a0, rfl, rfl, rfl, w0⟩ := open_string Tryd.underlying9 (hval 0 9 v0 rfl rfl) h0
  obtain ⟨a1, rfl, rfl, rfl, w1⟩ := open_string Tryd.underlying9 (hval 1 9 v1 rfl rfl) h1
  have k2 := h2
  have lt2 : ∀ x ∈ p2, x.block < W.heap.size := by obtain ⟨m, hm⟩ := k2; exact DataW.trod_lt m _ _ _ hm
  obtain ⟨a2, len2, cap2, rfl⟩ := okWide_slice Tryd.underlying22 (hval 2 22 v2 rfl rfl)
  obtain ⟨l2, e2, row2, cp2, bd2⟩ := open_bytes h2
  have nn2 := open_none k2
  clear hA0
  have s0 := sized_string hsz (j := 0) (t := 9) rfl rfl
  simp only [reachBytes, Array.length_toList] at s0
  have s1 := sized_string hsz (j := 1) (t := 9) rfl rfl
  simp only [reachBytes, Array.length_toList] at s1
  have s2 : l2.length ≤ 140737488351232 := by
    rcases bd2 with ⟨el, sp, rfl, hl⟩ | ⟨rfl, hl⟩
    · have := sized_slice hsz (j := 2) (t := 22) (e := 5) rfl rfl Tryd.underlying22
      rw [bytes5] at this
      simp only [reachBytes] at this
      omega
    · omega
  subst e2
  refine (walk a0 s0 a1 s1 a2 l2 cap2 row2 s2 cp2 nn2 (open_cap k2) (tabs_of hL hsh)).mono fun e W' ⟨he, bel⟩ => ?_
  subst he
  exact ⟨_, rfl, _, _, _, [], _, [], hW', trodAll_mk1 (shut_bool Tryd.underlying4 _), trodAll_cons_mk (shut_string Tryd.underlying9 w0) (trodAll_cons_mk (shut_string Tryd.underlying9 w1) (trodAll_cons_mk (Below.trod laidOut (by kernel_rfl) (of_decide_eq_true (by kernel_rfl)) k2 bel lt2) trodAll_mk0)), rfl, bel.frame _, fun h => by cases h⟩

theorem laid_met (os : Os) : laidMet Tryd.prog Rows.codeOnceRow.laid ((laidWorld os).forCall (fun _ _ => 0) ⟨#[], #[.string ByteArray.empty, .string ByteArray.empty, .slice none 0 0], []⟩).memory :=
  laidMet_of_run' 8 (by kernel_rfl) (by kernel_rfl)
theorem reads (os : Os) {H : Type} (enc : TypeId × Value → H) : ∃ places, DataW.whole enc Tryd.prog ((laidWorld os).forCall (fun _ _ => 0) ⟨#[], #[.string ByteArray.empty, .string ByteArray.empty, .slice none 0 0], []⟩).memory Tryd.f3.params.toList Rows.codeOnceSpec.vars false #[Value.string ByteArray.empty, Value.string ByteArray.empty, Value.slice none 0 0].toList 8 = some ([.lit (.string []), .lit (.string []), .nil], [], places) :=
  ⟨[], by kernel_rfl⟩

set_option maxRecDepth 100000 in
theorem lifted (os : Os) (started : os.Started) (H : Type) (enc : TypeId × Value → H) (F : Stop.Interp) :
    ReturnsInHanded {} Tryd.checked os 3 .any ((OpenSpec.ofChange Rows.codeOnceSpec).preRow enc Tryd.prog Tryd.f3 Rows.codeOnceRow.domain false Rows.codeOnceRow.laid) (((OpenSpec.ofChange Rows.codeOnceSpec).at F).post enc Tryd.prog Tryd.f3 false true false false) := by
  obtain ⟨places, hx⟩ := reads os enc
  refine returnsInHanded_of_row (C := Tryd.checked) (s := OpenSpec.ofChange Rows.codeOnceSpec) own started (by kernel_rfl) Tryd.func3
    (witness_row_at (enc := enc) (C := Tryd.checked) false (laidWorld os) #[.string ByteArray.empty, .string ByteArray.empty, .slice none 0 0] rfl (by kernel_rfl) (by kernel_rfl) (by kernel_rfl)
      (OpenSpec.preRow_of_cond 8 hx (by kernel_rfl) (fun k hk => by cases hk) (by kernel_rfl) (laid_met os))) ?_
  intro W base args ds gs before hval hW _ _ hsz hL hsh _
  exact contract H enc W base args ds gs before hval hW hsz hL hsh

theorem said : Rows.CodeOnceSaid :=
  OpenClaim.holds_of_cond 3 Tryd.f3 rfl rfl rfl rfl rfl rfl rfl ⟨rfl, rfl, rfl, rfl, rfl⟩ rfl rfl rfl rfl rfl (by kernel_rfl) Tryd.func3 (by kernel_rfl)
    (of_decide_eq_true (by kernel_rfl)) (by unfold Func.isWrapper; first | (rw [if_pos (by decide +kernel)]; kernel_rfl) | (rw [if_neg (by decide +kernel)]; exact ⟨rfl, rfl⟩))
    (fun os started H enc _ F => by rw [OpenClaim.pre_eq_preRow]; exact lifted os started H enc F)

/-- No parameter wants a stand-in; the program's own looks are off. -/
theorem plain (f : FuncId) (fn : Func) (hf : Tryd.pinned.checked.prog.funcNamed "posthorn/posthornlaw04.CodeOnce" = some f) (hfn : Tryd.pinned.checked.prog.funcs[f]? = some fn) :
    false = Tryd.pinned.checked.prog.looks [] ∧ ∀ (j : Nat) t, fn.params[j]? = some t → Tryd.pinned.checked.prog.wantsStandIn t = false := by
  obtain rfl : f = 3 := Option.some.inj ((show Tryd.prog.funcNamed "posthorn/posthornlaw04.CodeOnce" = some 3 by kernel_rfl).symm.trans hf) |>.symm
  obtain rfl : fn = Tryd.f3 := (Option.some.inj (Tryd.func3.symm.trans hfn)).symm
  refine ⟨by kernel_rfl, fun j t ht => ?_⟩
  rw [Tryd.params3] at ht
  have hm : t ∈ [9, 9, 22] := by simpa using Array.mem_of_getElem? ht
  have hall : ([9, 9, 22].all fun u => !Tryd.prog.wantsStandIn u) = true := by kernel_rfl
  exact (show Tryd.prog.wantsStandIn t = false by simpa using List.all_eq_true.1 hall t hm)

/-- The card. -/
theorem card : Rows.CodeOnceCardSaid :=
  Claim7.holds_tied_plain_at .later [] _ _ _ _ said (fun _ h => by cases h) (by kernel_rfl) (fun _ h => by cases h) codeOnce_row_tie rfl ⟨rfl, rfl⟩ (by kernel_rfl) rfl plain (by kernel_rfl)
end Go.Proofs.YtenfopabdegmhabDoor.codeOnce
namespace Go.Proofs.YtenfopabdegmhabDoor
theorem codeOnce_card : Rows.CodeOnceCardSaid := codeOnce.card
#print axioms codeOnce_card
end Go.Proofs.YtenfopabdegmhabDoor
