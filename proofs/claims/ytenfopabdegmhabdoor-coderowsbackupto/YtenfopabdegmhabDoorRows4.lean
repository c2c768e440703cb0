/-
  The program's Rows and the document's.
-/
import Derived.Test.YtenfopabdegmhabDoorRowsP
import Derived.Test.YtenfopabdegmhabDoorBld
import Derived.Test.YtenfopabdegmhabDoorB64W
namespace Go.Proofs.YtenfopabdegmhabDoor
open Go.RowKit

def okMost (m : Int) : Bool := decide (4 ≤ m ∧ m ≤ 76 ∧ m % 4 = 0)
def rowsS (l : List UInt8) (m : Int) : ByteArray := if okMost m = true then ⟨(rg m.toNat 0 (encL l)).toArray⟩ else ⟨#[]⟩
def rowsE (m : Int) : Int := if okMost m = true then 0 else 2

/-- A text's length. -/
def strLen : Value → Nat
  | .string s => s.size
  | _ => 0
theorem strLen_str (s : ByteArray) : strLen (.string s) = s.size := rfl

set_option maxHeartbeats 2000000 in
theorem rows_no (v : Value) (m : Int) (h : okMost m = false) (w : World) : Calls Tryd.prog 13 #[v, .int .i64 m] w fun e w' => e = .returned (.tuple #[.string ⟨#[]⟩, .int .i64 2]) ∧ w' = w := by
  unfold okMost at h
  simp only [decide_eq_false_iff_not] at h
  by_cases h1 : m < 4
  · go_enter Tryd.func13, Tryd.ntmps13
    go_wp2
    go_ret2
    exact ⟨rfl, rfl⟩
  by_cases h2 : 76 < m
  · have h1' : decide (m < 4) = false := by simpa using h1
    go_enter Tryd.func13, Tryd.ntmps13
    go_wp2
    go_ret2
    exact ⟨rfl, rfl⟩
  · have h1' : decide (m < 4) = false := by simpa using h1
    have h2' : decide (76 < m) = false := by simpa using h2
    have h0 : 0 ≤ m := by omega
    have h4 : (m % 4 != 0) = true := by simp; omega
    go_enter Tryd.func13, Tryd.ntmps13
    go_wp2
    go_ret2
    exact ⟨rfl, rfl⟩
/-- CR and LF that have just been laid. -/
theorem two_bts (w : World) : Bts (some ⟨w.heap.size, 0, none⟩) [13, 10] (w.alloc (.cells #[.int .u8 13, .int .u8 10] 5)) := by
  refine .inr ⟨w.heap.size, 0, rfl, by simp, fun j hj => ?_⟩
  have h2 : j < 2 := hj
  match j, h2 with
  | 0, _ => simp
  | 1, _ => simp
theorem strC (s : ByteArray) : Lib.strCells s = cellsB s.data.toList := rfl
theorem byteC (l : List UInt8) : Lib.byteCells l = cellsB l := rfl

set_option maxHeartbeats 4000000 in
theorem rows_yes (a : Option Addr) (l : List UInt8) (cap n : Nat) (m : Nat) (w : World) (hn : n = l.length) (hb : Bts a l w) (hl : l.length ≤ 104857600) (hcap : l.length ≤ cap) (hcap2 : cap ≤ 9223372036854775807) (hm : okMost (m : Int) = true) :
    Calls Tryd.prog 13 #[.slice a n cap, .int .i64 m] w fun e w' => e = .returned (.tuple #[.string ⟨(rg m 0 (encL l)).toArray⟩, .int .i64 0]) ∧ Below w.heap.size w w' := by
  unfold okMost at hm
  simp only [decide_eq_true_eq] at hm
  obtain ⟨m4, m76, mm⟩ := hm
  have HB : Hid (Calls Tryd.prog 11 #[.slice a n cap] w fun e w' => e = .returned (.string ⟨(encL l).toArray⟩) ∧ Below w.heap.size w w') := b64_any a l cap n w hn hb (by omega) hcap hcap2
  have hel := encL_len l
  have hel2 : (encL l).length ≤ 139810140 := by omega
  clear hb hl hcap hcap2 hn hel
  generalize encL l = L at HB hel2 ⊢
  have h1 : decide ((m : Int) < 4) = false := by simp; omega
  have h2 : decide ((76 : Int) < (m : Int)) = false := by simp; omega
  have h4 : ((m : Int) % 4 != 0) = false := by simp; omega
  go_enter Tryd.func13, Tryd.ntmps13
  go_wp2_with fail
  refine Calls.mono HB.out ?_
  rintro e w1 ⟨rfl, hb1⟩
  have HB1 : Hid (Below w.heap.size w (w1.alloc (.cells #[.pointer none, .slice none 0 0] 56))) := hb1.alloc hb1.size _
  have HI1 : Hid (Lib.IsBuilder 56 5 w.heap.size w1.heap.size (cellsB []) (w1.alloc (.cells #[.pointer none, .slice none 0 0] 56))) := .inl ⟨hb1.size, _, Lies.new w1 _ _, own_nil _ _, by simp [Value.ownBlock]⟩
  clear hb1
  go_wp2_with fail
  go_loopw [6] (fun x wr => ∃ (k : Nat) (T : ByteArray) (X : List UInt8), x = .string T ∧ T.size ≤ 139810140 ∧ Hid (k % m = 0) ∧ Hid (T.data.toList = L.drop k) ∧ Hid (X ++ rg m k (L.drop k) = rg m 0 L) ∧ Hid (Lib.IsBuilder 56 5 w.heap.size w1.heap.size (cellsB X) wr) ∧ Hid (Below w.heap.size w wr)) (fun x _ => strLen x)
  case atStart => exact ⟨0, _, [], rfl, by simpa [ByteArray.size] using hel2, Nat.zero_mod m, rfl, rfl, HI1, HB1⟩
  case round =>
    clear HI1 HB1
    obtain ⟨k, T, X, rfl, hT, HK, HT, HX, HI, HBe⟩ := hrel
    have HTL : Hid ((L.drop k).length = T.size) := by show _ = _; rw [← HT.out, len_list]
    by_cases hlt : 0 < T.size
    · have hxl : X.length ≤ 419430420 := by
        have h1 := congrArg List.length HX.out
        rw [List.length_append] at h1
        have h2 := rg_len m L 0
        omega
      obtain ⟨t, ht⟩ : ∃ t, t = min T.size m := ⟨_, rfl⟩
      have hmin : min (T.size : Int) (m : Int) = (t : Int) := by omega
      have htT : t ≤ T.size := by omega
      have ht76 : t ≤ 76 := by omega
      have HE1 : Hid ((T.extract 0 t).data.toList = (L.drop k).take m) := by
        show _ = _
        rw [ext_list, HT.out, List.drop_zero]
        by_cases h : T.size ≤ m
        · rw [show t = T.size by omega, List.take_of_length_le (by rw [HTL.out]; exact Nat.le_refl _), List.take_of_length_le (by rw [HTL.out]; exact h)]
        · rw [show t = m by omega]
      have HE2 : Hid ((T.extract t T.size).data.toList = L.drop (k + m)) := by
        show _ = _
        rw [ext_list, HT.out, List.take_of_length_le (by rw [HTL.out]; exact Nat.le_refl _), List.drop_drop]
        by_cases h : T.size ≤ m
        · have hd := HTL.out
          rw [List.length_drop] at hd
          rw [List.drop_eq_nil_of_le (by omega), List.drop_eq_nil_of_le (by omega)]
        · rw [show t = m by omega]
      have HX2 : Hid ((X ++ ((L.drop k).take m ++ [13, 10])) ++ rg m (k + m) (L.drop (k + m)) = rg m 0 L) := by
        show _ = _
        rw [← HX.out, rg_row m k (L.drop k) (by omega) HK.out (fun e => by have := HTL.out; rw [e] at this; simp at this; omega), List.drop_drop]
        simp only [List.append_assoc, List.cons_append, List.nil_append]
      have HK2 : Hid ((k + m) % m = 0) := by show _ = _; rw [Nat.add_mod_right]; exact HK.out
      have hes : (T.extract 0 t).size = t := by rw [ByteArray.size_extract]; omega
      have hxs : (T.extract t T.size).size = T.size - t := by rw [ByteArray.size_extract]; omega
      have HES : Hid ((T.extract 0 t).size = t) := hes
      have HXS : Hid ((T.extract t T.size).size = T.size - t) := hxs
      clear ht HX HK hes hxs
      go_wp2_with fail
      refine (wstr_any w.heap.size w1.heap.size (cellsB X) (T.extract 0 t) wr HI.out (by rw [cellsB_length, HES.out]; omega) HBe.out.size).mono ?_
      rintro e w2 ⟨rfl, hi2, hb2⟩
      have HB2 : Hid (Below w.heap.size w w2) := HBe.out.trans hb2
      have HI2 : Hid (Lib.IsBuilder 56 5 w.heap.size w1.heap.size (cellsB (X ++ (L.drop k).take m)) w2) := by
        show Lib.IsBuilder _ _ _ _ _ _
        rw [strC, HE1.out] at hi2
        rw [cellsB_append]
        exact hi2
      clear hi2 hb2 HI HBe
      go_wp2_with fail
      refine (wstr_any w.heap.size w1.heap.size (cellsB (X ++ (L.drop k).take m)) ⟨#[13, 10]⟩ w2 HI2.out (by rw [cellsB_length, List.length_append]; have := List.length_take_le m (L.drop k); show _ + 2 ≤ _; omega) HB2.out.size).mono ?_
      rintro e w3 ⟨rfl, hi3, hb3⟩
      have HB3 : Hid (Below w.heap.size w w3) := HB2.out.trans hb3
      have HI3 : Hid (Lib.IsBuilder 56 5 w.heap.size w1.heap.size (cellsB (X ++ ((L.drop k).take m ++ [13, 10]))) w3) := by
        show Lib.IsBuilder _ _ _ _ _ _
        rw [← List.append_assoc, cellsB_append]
        exact hi3
      clear hi3 hb3 HI2 HB2
      go_wp2
      refine ⟨⟨k + m, _, _, rfl, by rw [HXS.out]; omega, HK2, HE2, HX2, HI3, HB3⟩, ?_⟩
      rw [strLen_str, strLen_str, HXS.out]
      omega
    · have HE : Hid (X = rg m 0 L) := by
        show _ = _
        have hd : L.drop k = [] := List.eq_nil_of_length_eq_zero (by rw [HTL.out]; omega)
        have := HX.out
        rw [hd] at this
        simpa [rg] using this
      have h0 : T.size = 0 := by omega
      clear hlt hT
      go_wp2_with fail
      refine (Tryd.Builder_String_any w.heap.size w1.heap.size X wr HI.out HBe.out.size).mono ?_
      rintro e w2 ⟨rfl, hb2⟩
      have HB2 : Hid (Below w.heap.size w w2) := HBe.out.trans hb2
      clear hb2
      go_wp2
      go_ret2
      exact ⟨by rw [HE.out]; rfl, HB2.out⟩

theorem rows_any (a : Option Addr) (l : List UInt8) (cap n : Nat) (m : Int) (w : World) (hn : n = l.length) (hb : Bts a l w) (hl : l.length ≤ 104857600) (hcap : l.length ≤ cap) (hcap2 : cap ≤ 9223372036854775807) :
    Calls Tryd.prog 13 #[.slice a n cap, .int .i64 m] w fun e w' => e = .returned (.tuple #[.string (rowsS l m), .int .i64 (rowsE m)]) ∧ Below w.heap.size w w' := by
  cases ho : okMost m with
  | false =>
    have e1 : rowsS l m = ⟨#[]⟩ := by unfold rowsS; rw [if_neg (by rw [ho]; decide)]
    have e2 : rowsE m = 2 := by unfold rowsE; rw [if_neg (by rw [ho]; decide)]
    rw [e1, e2]
    refine (rows_no _ m ho w).mono ?_
    rintro e w' ⟨rfl, rfl⟩
    exact ⟨rfl, Below.refl _ _⟩
  | true =>
    have e1 : rowsS l m = ⟨(rg m.toNat 0 (encL l)).toArray⟩ := by unfold rowsS; rw [if_pos ho]
    have e2 : rowsE m = 0 := by unfold rowsE; rw [if_pos ho]
    rw [e1, e2]
    obtain ⟨k, rfl⟩ : ∃ k : Nat, m = (k : Int) := by
      have := ho
      unfold okMost at this
      simp only [decide_eq_true_eq] at this
      exact Int.eq_ofNat_of_zero_le (by omega)
    exact rows_yes a l cap n k w hn hb hl hcap hcap2 ho
end Go.Proofs.YtenfopabdegmhabDoor
