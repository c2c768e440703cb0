/-
  The document's word: an encoded word of bytes.
-/
import Derived.Test.YtdgepnfgjgbkoaaDoorVi2
import Derived.Test.YtdgepnfgjgbkoaaDoorRB64
namespace Go.Proofs.YtdgepnfgjgbkoaaDoor
open Go.RowKit

theorem ba_ext {a b : ByteArray} (h : a.data.toList = b.data.toList) : a = b := by
  cases a; cases b
  simp only at h
  congr
  exact Array.ext' h
theorem ba_app (a b : ByteArray) : (a ++ b).data.toList = a.data.toList ++ b.data.toList := by rw [ByteArray.data_append, Array.toList_append]
theorem wrd_b (l : List UInt8) : (⟨#[61, 63, 85, 84, 70, 45, 56, 63, 66, 63]⟩ : ByteArray) ++ ⟨(e64L l).toArray⟩ ++ ⟨#[63, 61]⟩ = bS (wrd false l) := ba_ext (by
  rw [ba_app, ba_app, bS_list]
  rfl)
theorem wrd_q (l : List UInt8) (T : ByteArray) (h : T.data.toList = qL l) : (⟨#[61, 63, 85, 84, 70, 45, 56, 63, 81, 63]⟩ : ByteArray) ++ T ++ ⟨#[63, 61]⟩ = bS (wrd true l) := ba_ext (by
  rw [ba_app, ba_app, bS_list, h]
  rfl)
set_option maxRecDepth 100000 in
set_option maxHeartbeats 4000000 in
theorem vword_any (q : Bool) (a : Option Addr) (l : List UInt8) (cap n : Nat) (w : World) (hn : n = l.length) (hb : Bts a l w) (hl : l.length ≤ 1048576) :
    Calls Tryd.prog 52 #[.slice a n cap, .bool q] w fun e w' => e = .returned (.string (bS (wrd q l))) ∧ Below w.heap.size w w' := by
  cases q with
  | false =>
    obtain ⟨E, hE⟩ : ∃ E : ByteArray, E = ⟨(e64L l).toArray⟩ := ⟨_, rfl⟩
    have HB64 : Calls Tryd.prog 73 #[.slice a n cap] w fun e w' => e = .returned (.string E) ∧ Below w.heap.size w w' := by
      rw [hE]
      exact rb64_any a l cap n w hn hb (by omega)
    have HWB : Hid ((⟨#[61, 63, 85, 84, 70, 45, 56, 63, 66, 63]⟩ : ByteArray) ++ E ++ ⟨#[63, 61]⟩ = bS (wrd false l)) := by
      show (⟨#[61, 63, 85, 84, 70, 45, 56, 63, 66, 63]⟩ : ByteArray) ++ E ++ ⟨#[63, 61]⟩ = bS (wrd false l)
      rw [hE]
      exact wrd_b l
    have hsz : E.size ≤ 1398104 := by
      rw [hE]
      show (e64L l).toArray.size ≤ _
      rw [List.size_toArray, e64L_len]
      omega
    clear hE hn hb
    have hk1 : (10 : Int) + (E.size : Int) ≤ 9223372036854775807 := by omega
    have hk2 : (10 : Int) + (E.size : Int) + 2 ≤ 9223372036854775807 := by omega
    go_enter Tryd.func52, Tryd.ntmps52
    go_wp2_with fail
    refine HB64.mono ?_
    rintro e w1 ⟨rfl, hb1⟩
    have HB1 : Hid (Below w.heap.size w w1) := hb1
    clear hb1 HB64
    go_wp2_with fail
    go_ret
    exact ⟨by rw [← HWB.out]; rfl, HB1.out⟩
  | true =>
    have HL : Hid (Bts a l w) := hb
    have HN : Hid (n = l.length) := hn
    have HQ : Hid (∀ (c : UInt8) wx, Calls Tryd.prog 74 #[.int .u8 (c.toNat : Int)] wx fun e w' => e = .returned (.string (bS (qB c))) ∧ Below wx.heap.size wx w') := fun c wx => vq_any c wx
    have hnl : n ≤ 1048576 := by omega
    clear hn hb
    go_enter Tryd.func52, Tryd.ntmps52
    go_wp2_with fail
    go_loopw [5, 16] (fun tv kv wr => ∃ (k : Nat) (T : ByteArray), k ≤ n ∧ kv = .int .i64 k ∧ tv = .string T ∧ T.size ≤ 3 * k ∧ Hid (T.data.toList = qL (l.take k)) ∧ Hid (Below w.heap.size w wr)) (fun _ kv _ => n - (intOf kv).toNat)
    case atStart => exact ⟨0, ⟨#[]⟩, Nat.zero_le _, rfl, rfl, Nat.zero_le _, rfl, Below.refl _ _⟩
    case round =>
      obtain ⟨k, T, hk, rfl, rfl, hT, HT, HB⟩ := hrel
      by_cases hlt : k < n
      · have hkl : k < l.length := by rw [← HN.out]; exact hlt
        obtain ⟨g, o, rfl, hg, hc⟩ := HL.out.cell k hkl
        obtain ⟨c, hcc⟩ : ∃ c, c = l[k] := ⟨_, rfl⟩
        rw [← hcc] at hc
        have hc2 : wr.cell? ⟨g, o + k, none⟩ = some (.int .u8 (c.toNat : Int)) := (HB.out.cell (p := ⟨g, o + k, none⟩) hg).trans hc
        have HT2 : Hid (T.data.toList ++ qB c = qL (l.take (k + 1))) := by
          show T.data.toList ++ qB c = qL (l.take (k + 1))
          rw [List.take_succ_eq_append_getElem hkl, qL_app, HT.out, ← hcc]
          simp [qL]
        have HC := HQ.out c wr
        have hqs : (bS (qB c)).size ≤ 3 := by
          show (qB c).toArray.size ≤ 3
          rw [List.size_toArray]
          exact (qB_le c).1
        have HT3 : Hid ((T ++ bS (qB c)).data.toList = qL (l.take (k + 1))) := by
          show _ = _
          rw [ba_app, bS_list]
          exact HT2.out
        generalize bS (qB c) = Z at *
        have hcat : (T.size : Int) + (Z.size : Int) ≤ 9223372036854775807 := by omega
        clear hcc hc HT HT2
        go_wp2_with fail
        refine HC.mono ?_
        rintro e w1 ⟨rfl, hb1⟩
        have HB1 : Hid (Below w.heap.size w w1) := HB.out.trans (hb1.mono HB.out.size)
        clear hb1 HC HB
        go_wp2_with fail
        go_roundw
        case rel => exact ⟨k + 1, T ++ Z, hlt, by go_num, rfl, by rw [ByteArray.size_append]; omega, HT3.out, HB1.out⟩
        case measure => simp [intOf]; omega
      · obtain rfl : k = n := by omega
        have HW : Hid ((⟨#[61, 63, 85, 84, 70, 45, 56, 63, 81, 63]⟩ : ByteArray) ++ T ++ ⟨#[63, 61]⟩ = bS (wrd true l)) := wrd_q l T (by rw [HT.out, List.take_of_length_le (by rw [HN.out]; exact Nat.le_refl _)])
        have hk1 : (10 : Int) + (T.size : Int) ≤ 9223372036854775807 := by omega
        have hk2 : (10 : Int) + (T.size : Int) + 2 ≤ 9223372036854775807 := by omega
        clear hlt hk
        go_wp2_with fail
        go_ret
        exact ⟨by rw [← HW.out]; rfl, HB.out⟩
end Go.Proofs.YtdgepnfgjgbkoaaDoor
