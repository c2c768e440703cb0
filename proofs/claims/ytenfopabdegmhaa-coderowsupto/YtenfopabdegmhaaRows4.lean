/-
  The program's Rows and the document's.
-/
import Derived.Test.YtenfopabdegmhaaRowsP
import Derived.Test.YtenfopabdegmhaaBld
import Derived.Test.YtenfopabdegmhaaRB64
namespace Go.Proofs.Ytenfopabdegmhaa
open Go.RowKit

def okMost (m : Int) : Bool := decide (4 ≤ m ∧ m ≤ 76 ∧ m % 4 = 0)
def rowsS (l : List UInt8) (m : Int) : ByteArray := if okMost m = true then ⟨(rg m.toNat 0 (encL l)).toArray⟩ else ⟨#[]⟩
def rowsE (m : Int) : Int := if okMost m = true then 0 else 2

/-- A text's length. -/
def strLen : Value → Nat
  | .string s => s.size
  | _ => 0
theorem strLen_str (s : ByteArray) : strLen (.string s) = s.size := rfl

set_option maxHeartbeats 2000000 in
theorem rows_no (v : Value) (m : Int) (h : okMost m = false) (w : World) : Calls Try.prog 10 #[v, .int .i64 m] w fun e w' => e = .returned (.tuple #[.string ⟨#[]⟩, .int .i64 2]) ∧ w' = w := by
  unfold okMost at h
  simp only [decide_eq_false_iff_not] at h
  by_cases h1 : m < 4
  · go_enter Try.func10, Try.ntmps10
    go_wp2
    go_ret2
    exact ⟨rfl, rfl⟩
  by_cases h2 : 76 < m
  · have h1' : decide (m < 4) = false := by simpa using h1
    go_enter Try.func10, Try.ntmps10
    go_wp2
    go_ret2
    exact ⟨rfl, rfl⟩
  · have h1' : decide (m < 4) = false := by simpa using h1
    have h2' : decide (76 < m) = false := by simpa using h2
    have h0 : 0 ≤ m := by omega
    have h4 : (m % 4 != 0) = true := by simp; omega
    go_enter Try.func10, Try.ntmps10
    go_wp2
    go_ret2
    exact ⟨rfl, rfl⟩
set_option maxHeartbeats 2000000 in
theorem rrows_no (v : Value) (m : Int) (h : okMost m = false) (w : World) : Calls Try.prog 11 #[v, .int .i64 m] w fun e w' => e = .returned (.tuple #[.string ⟨#[]⟩, .int .i64 2]) ∧ w' = w := by
  unfold okMost at h
  simp only [decide_eq_false_iff_not] at h
  by_cases h1 : m < 4
  · go_enter Try.func11, Try.ntmps11
    go_wp2
    go_ret2
    exact ⟨rfl, rfl⟩
  by_cases h2 : 76 < m
  · have h1' : decide (m < 4) = false := by simpa using h1
    go_enter Try.func11, Try.ntmps11
    go_wp2
    go_ret2
    exact ⟨rfl, rfl⟩
  · have h1' : decide (m < 4) = false := by simpa using h1
    have h2' : decide (76 < m) = false := by simpa using h2
    have h0 : 0 ≤ m := by omega
    have h4 : (m % 4 != 0) = true := by simp; omega
    go_enter Try.func11, Try.ntmps11
    go_wp2
    go_ret2
    exact ⟨rfl, rfl⟩

/-- CR and LF that have just been laid. -/
theorem two_bts (w : World) : Bts (some ⟨w.heap.size, 0, none⟩) [13, 10] (w.alloc (.cells #[.int .u8 13, .int .u8 10] 5)) := by
  refine .inr ⟨w.heap.size, 0, rfl, by simp, fun j hj => ?_⟩
  have h2 : j < 2 := hj
  match j, h2 with
  | 0, _ => simp
  | 1, _ => simp
theorem strC (s : ByteArray) : Lib.strCells s = cellsB s.data.toList := rfl
theorem byteC (l : List UInt8) : Lib.byteCells l = cellsB l := rfl

set_option maxHeartbeats 4000000 in
theorem rows_yes (a : Option Addr) (l : List UInt8) (cap n : Nat) (m : Nat) (w : World) (hn : n = l.length) (hb : Bts a l w) (hl : l.length ≤ 104857600) (hcap : l.length ≤ cap) (hcap2 : cap ≤ 9223372036854775807) (hm : okMost (m : Int) = true) :
    Calls Try.prog 10 #[.slice a n cap, .int .i64 m] w fun e w' => e = .returned (.tuple #[.string ⟨(rg m 0 (encL l)).toArray⟩, .int .i64 0]) ∧ Below w.heap.size w w' := by
  unfold okMost at hm
  simp only [decide_eq_true_eq] at hm
  obtain ⟨m4, m76, mm⟩ := hm
  have HB : Hid (Calls Try.prog 12 #[.slice a n cap] w fun e w' => e = .returned (.string ⟨(encL l).toArray⟩) ∧ Below w.heap.size w w') := b64_any a l cap n w hn hb (by omega) hcap hcap2
  have hel := encL_len l
  have hel2 : (encL l).length ≤ 139810140 := by omega
  clear hb hl hcap hcap2 hn hel
  generalize encL l = L at HB hel2 ⊢
  have h1 : decide ((m : Int) < 4) = false := by simp; omega
  have h2 : decide ((76 : Int) < (m : Int)) = false := by simp; omega
  have h4 : ((m : Int) % 4 != 0) = false := by simp; omega
  go_enter Try.func10, Try.ntmps10
  go_wp2_with fail
  refine Calls.mono HB.out ?_
  rintro e w1 ⟨rfl, hb1⟩
  have HB1 : Hid (Below w.heap.size w (w1.alloc (.cells #[.pointer none, .slice none 0 0] 60))) := hb1.alloc hb1.size _
  have HI1 : Hid (Lib.IsBuilder 60 5 w.heap.size w1.heap.size (cellsB []) (w1.alloc (.cells #[.pointer none, .slice none 0 0] 60))) := .inl ⟨hb1.size, _, Lies.new w1 _ _, own_nil _ _, by simp [Value.ownBlock]⟩
  clear hb1
  go_wp2_with fail
  go_loopw [6] (fun x wr => ∃ (k : Nat) (T : ByteArray) (X : List UInt8), x = .string T ∧ T.size ≤ 139810140 ∧ Hid (k % m = 0) ∧ Hid (T.data.toList = L.drop k) ∧ Hid (X ++ rg m k (L.drop k) = rg m 0 L) ∧ Hid (Lib.IsBuilder 60 5 w.heap.size w1.heap.size (cellsB X) wr) ∧ Hid (Below w.heap.size w wr)) (fun x _ => strLen x)
  case atStart => exact ⟨0, _, [], rfl, by simpa [ByteArray.size] using hel2, Nat.zero_mod m, rfl, rfl, HI1, HB1⟩
  case round =>
    clear HI1 HB1
    obtain ⟨k, T, X, rfl, hT, HK, HT, HX, HI, HBe⟩ := hrel
    have HTL : Hid ((L.drop k).length = T.size) := by show _ = _; rw [← HT.out, len_list]
    by_cases hlt : 0 < T.size
    · have hxl : X.length ≤ 419430420 := by
        have h1 := congrArg List.length HX.out
        rw [List.length_append] at h1
        have h2 := rg_len m L 0
        omega
      obtain ⟨t, ht⟩ : ∃ t, t = min T.size m := ⟨_, rfl⟩
      have hmin : min (T.size : Int) (m : Int) = (t : Int) := by omega
      have htT : t ≤ T.size := by omega
      have ht76 : t ≤ 76 := by omega
      have HE1 : Hid ((T.extract 0 t).data.toList = (L.drop k).take m) := by
        show _ = _
        rw [ext_list, HT.out, List.drop_zero]
        by_cases h : T.size ≤ m
        · rw [show t = T.size by omega, List.take_of_length_le (by rw [HTL.out]; exact Nat.le_refl _), List.take_of_length_le (by rw [HTL.out]; exact h)]
        · rw [show t = m by omega]
      have HE2 : Hid ((T.extract t T.size).data.toList = L.drop (k + m)) := by
        show _ = _
        rw [ext_list, HT.out, List.take_of_length_le (by rw [HTL.out]; exact Nat.le_refl _), List.drop_drop]
        by_cases h : T.size ≤ m
        · have hd := HTL.out
          rw [List.length_drop] at hd
          rw [List.drop_eq_nil_of_le (by omega), List.drop_eq_nil_of_le (by omega)]
        · rw [show t = m by omega]
      have HX2 : Hid ((X ++ ((L.drop k).take m ++ [13, 10])) ++ rg m (k + m) (L.drop (k + m)) = rg m 0 L) := by
        show _ = _
        rw [← HX.out, rg_row m k (L.drop k) (by omega) HK.out (fun e => by have := HTL.out; rw [e] at this; simp at this; omega), List.drop_drop]
        simp only [List.append_assoc, List.cons_append, List.nil_append]
      have HK2 : Hid ((k + m) % m = 0) := by show _ = _; rw [Nat.add_mod_right]; exact HK.out
      have hes : (T.extract 0 t).size = t := by rw [ByteArray.size_extract]; omega
      have hxs : (T.extract t T.size).size = T.size - t := by rw [ByteArray.size_extract]; omega
      have HES : Hid ((T.extract 0 t).size = t) := hes
      have HXS : Hid ((T.extract t T.size).size = T.size - t) := hxs
      clear ht HX HK hes hxs
      go_wp2_with fail
      refine (wstr_any w.heap.size w1.heap.size (cellsB X) (T.extract 0 t) wr HI.out (by rw [cellsB_length, HES.out]; omega) HBe.out.size).mono ?_
      rintro e w2 ⟨rfl, hi2, hb2⟩
      have HB2 : Hid (Below w.heap.size w w2) := HBe.out.trans hb2
      have HI2 : Hid (Lib.IsBuilder 60 5 w.heap.size w1.heap.size (cellsB (X ++ (L.drop k).take m)) w2) := by
        show Lib.IsBuilder _ _ _ _ _ _
        rw [strC, HE1.out] at hi2
        rw [cellsB_append]
        exact hi2
      clear hi2 hb2 HI HBe
      go_wp2_with fail
      refine (wstr_any w.heap.size w1.heap.size (cellsB (X ++ (L.drop k).take m)) ⟨#[13, 10]⟩ w2 HI2.out (by rw [cellsB_length, List.length_append]; have := List.length_take_le m (L.drop k); show _ + 2 ≤ _; omega) HB2.out.size).mono ?_
      rintro e w3 ⟨rfl, hi3, hb3⟩
      have HB3 : Hid (Below w.heap.size w w3) := HB2.out.trans hb3
      have HI3 : Hid (Lib.IsBuilder 60 5 w.heap.size w1.heap.size (cellsB (X ++ ((L.drop k).take m ++ [13, 10]))) w3) := by
        show Lib.IsBuilder _ _ _ _ _ _
        rw [← List.append_assoc, cellsB_append]
        exact hi3
      clear hi3 hb3 HI2 HB2
      go_wp2
      refine ⟨⟨k + m, _, _, rfl, by rw [HXS.out]; omega, HK2, HE2, HX2, HI3, HB3⟩, ?_⟩
      rw [strLen_str, strLen_str, HXS.out]
      omega
    · have HE : Hid (X = rg m 0 L) := by
        show _ = _
        have hd : L.drop k = [] := List.eq_nil_of_length_eq_zero (by rw [HTL.out]; omega)
        have := HX.out
        rw [hd] at this
        simpa [rg] using this
      have h0 : T.size = 0 := by omega
      clear hlt hT
      go_wp2_with fail
      refine (Try.Builder_String_any w.heap.size w1.heap.size X wr HI.out HBe.out.size).mono ?_
      rintro e w2 ⟨rfl, hb2⟩
      have HB2 : Hid (Below w.heap.size w w2) := HBe.out.trans hb2
      clear hb2
      go_wp2
      go_ret2
      exact ⟨by rw [HE.out]; rfl, HB2.out⟩

set_option maxHeartbeats 4000000 in
theorem rrows_yes (a : Option Addr) (l : List UInt8) (cap n : Nat) (m : Nat) (w : World) (hn : n = l.length) (hb : Bts a l w) (hl : l.length ≤ 104857600) (hm : okMost (m : Int) = true) :
    Calls Try.prog 11 #[.slice a n cap, .int .i64 m] w fun e w' => e = .returned (.tuple #[.string ⟨(rg m 0 (encL l)).toArray⟩, .int .i64 0]) ∧ Below w.heap.size w w' := by
  unfold okMost at hm
  simp only [decide_eq_true_eq] at hm
  obtain ⟨m4, m76, mm⟩ := hm
  have HB : Hid (Calls Try.prog 13 #[.slice a n cap] w fun e w' => e = .returned (.string ⟨(encL l).toArray⟩) ∧ Below w.heap.size w w') := rb64_any a l cap n w hn hb hl
  have hel := encL_len l
  have hel2 : (encL l).length ≤ 139810140 := by omega
  clear hb hl hn hel
  generalize encL l = L at HB hel2 ⊢
  have h1 : decide ((m : Int) < 4) = false := by simp; omega
  have h2 : decide ((76 : Int) < (m : Int)) = false := by simp; omega
  have h4 : ((m : Int) % 4 != 0) = false := by simp; omega
  obtain ⟨T, rfl⟩ : ∃ T : ByteArray, L = T.data.toList := ⟨⟨L.toArray⟩, by simp⟩
  have hTT : (⟨T.data.toList.toArray⟩ : ByteArray) = T := by simp
  rw [hTT] at HB
  rw [len_list] at hel2
  clear hTT
  have hm0 : (m : Int) ≠ 0 := by omega
  go_enter Try.func11, Try.ntmps11
  go_wp2_with fail
  refine Calls.mono HB.out ?_
  rintro e w1 ⟨rfl, hb1⟩
  have HB1 : Hid (Below w.heap.size w w1) := hb1
  clear hb1
  go_wp2_with fail
  go_loopw [6, 8] (fun v i wr => ∃ (k : Nat) (X : List UInt8), k ≤ T.size ∧ i = .int .i64 k ∧ Hid (X ++ rg m k (T.data.toList.drop k) = rg m 0 T.data.toList) ∧ Hid (wr.ownsRow w.heap.size 5 1 v X.length (cellsB X)) ∧ Hid (Below w.heap.size w wr)) (fun _ i _ => T.size - (intOf i).toNat)
  case atStart => exact ⟨0, [], by omega, rfl, rfl, own_nil _ _, HB1⟩
  case round =>
    clear HB1
    obtain ⟨k, X, hk, rfl, HX, HO, HBe⟩ := hrel
    by_cases hlt : k < T.size
    · have hll : k < T.data.toList.length := by rw [len_list]; exact hlt
      have hat := rg_at m T.data.toList k hll
      have HX1 : Hid (X ++ (T[k] :: ((if (k + 1) % m = 0 ∨ k + 1 = T.size then [13, 10] else []) ++ rg m (k + 1) (T.data.toList.drop (k + 1)))) = rg m 0 T.data.toList) := by
        have := HX.out
        rw [hat, len_list] at this
        exact this
      have hxl : X.length ≤ 419430420 := by
        have h1 := congrArg List.length HX.out
        rw [List.length_append] at h1
        have h2 := rg_len m T.data.toList 0
        rw [len_list] at h2
        omega
      clear hat HX
      have hmod : ((k : Int) + 1) % (m : Int) = (((k + 1) % m : Nat) : Int) := by rw [Int.natCast_emod]; rfl
      have hxl2 : (X ++ [T[k]]).length ≤ 419430421 := by rw [List.length_append]; exact Nat.succ_le_succ hxl
      by_cases hc : (k + 1) % m = 0 ∨ k + 1 = T.size
      · have HX2 : Hid ((X ++ [T[k]] ++ [13, 10]) ++ rg m (k + 1) (T.data.toList.drop (k + 1)) = rg m 0 T.data.toList) := by
          show _ = _
          have := HX1.out
          rw [if_pos hc] at this
          rw [← this]
          simp
        have hq : (((k : Int) + 1) % (m : Int) == 0) = true ∨ ((((k : Int) + 1) % (m : Int) == 0) = false ∧ ((k : Int) + 1 == (T.size : Int)) = true) := by
          by_cases h : (k + 1) % m = 0
          · left
            rw [hmod, h]
            rfl
          · right
            refine ⟨by rw [hmod]; simp; omega, by simp; omega⟩
        clear HX1 hc hmod
        rcases hq with hq | ⟨hq, hq2⟩
        all_goals
          go_wp2_with (first
            | (at_builtin; refine wpList_append_byte rfl _ _ rfl w.heap.size _ X.length X rfl (HO.out.alloc _) wr T[k] _ rfl rfl 1 rfl (by omega) HBe.out.size ?_; intro v3 w3 hown3 hbel3; have HO3 : Hid (w3.ownsRow w.heap.size 5 1 v3 (X ++ [T[k]]).length (cellsB (X ++ [T[k]]))) := (by show World.ownsRow _ _ _ _ _ _ _; rw [List.length_append]; exact hown3); have HB3 : Hid (Below w.heap.size w w3) := hbel3 _ _ HBe.out (Nat.le_refl _); clear hown3 hbel3)
            | (at_builtin; refine wpList_append_keep rfl _ _ rfl w.heap.size _ (X ++ [T[k]]).length (X ++ [T[k]]) rfl (HO3.out.alloc _) (some ⟨w3.heap.size, 0, none⟩) [13, 10] 2 2 rfl rfl (two_bts w3) (fun e => by cases e) (by omega) (by have := HB3.out.size; simp; omega) ?_; intro v4 w4 hown4 hgrow4))
          have HO4 : Hid (w4.ownsRow w.heap.size 5 1 v4 (X ++ [T[k]] ++ [13, 10]).length (cellsB (X ++ [T[k]] ++ [13, 10]))) := by
            show World.ownsRow _ _ _ _ _ _ _
            have e : (X ++ [T[k]] ++ [13, 10]).length = (X ++ [T[k]]).length + 2 := List.length_append
            rw [e]
            exact hown4
          have HB4 : Hid (Below w.heap.size w w4) := (HB3.out.alloc HB3.out.size _).grown hgrow4 (by have := HB3.out.size; simp; omega) (fun q hq => (HO3.out.lt q hq).1)
          clear hown4 hgrow4
          go_roundw
          case rel => exact ⟨k + 1, X ++ [T[k]] ++ [13, 10], by omega, by go_num, HX2, HO4, HB4⟩
          case measure => simp [intOf]; omega
      · have HX2 : Hid ((X ++ [T[k]]) ++ rg m (k + 1) (T.data.toList.drop (k + 1)) = rg m 0 T.data.toList) := by
          show _ = _
          have := HX1.out
          rw [if_neg hc] at this
          rw [← this]
          simp
        have hq : (((k : Int) + 1) % (m : Int) == 0) = false := by
          have : ¬ (k + 1) % m = 0 := fun h => hc (.inl h)
          rw [hmod]
          simp
          omega
        have hq2 : ((k : Int) + 1 == (T.size : Int)) = false := by
          have : ¬ k + 1 = T.size := fun h => hc (.inr h)
          simp
          omega
        clear HX1 hc hmod
        go_wp2_with (at_builtin; refine wpList_append_byte rfl _ _ rfl w.heap.size _ X.length X rfl (HO.out.alloc _) wr T[k] _ rfl rfl 1 rfl (by omega) HBe.out.size ?_; intro v3 w3 hown3 hbel3; have HO3 : Hid (w3.ownsRow w.heap.size 5 1 v3 (X ++ [T[k]]).length (cellsB (X ++ [T[k]]))) := (by show World.ownsRow _ _ _ _ _ _ _; rw [List.length_append]; exact hown3); have HB3 : Hid (Below w.heap.size w w3) := hbel3 _ _ HBe.out (Nat.le_refl _); clear hown3 hbel3)
        go_roundw
        case rel => exact ⟨k + 1, X ++ [T[k]], by omega, by go_num, HX2, HO3, HB3⟩
        case measure => simp [intOf]; omega
    · have HE : Hid (X = rg m 0 T.data.toList) := by
        show _ = _
        have := HX.out
        rw [List.drop_eq_nil_of_le (by rw [len_list]; omega)] at this
        simpa [rg] using this
      have hbk := own_conv HO.out
      go_wp2
      go_ret2
      exact ⟨by rw [HE.out]; rfl, HBe.out⟩
end Go.Proofs.Ytenfopabdegmhaa
