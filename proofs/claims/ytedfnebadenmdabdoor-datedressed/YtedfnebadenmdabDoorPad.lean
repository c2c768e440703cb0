/-
  The contract of the program's padded: a number's digits with noughts ahead of them.
-/
import Derived.Test.YtedfnebadenmdabDoorDecm
import Derived.Test.YtedfnebadenmdabDoorRdn
import Derived.Lib.ItoaLen
namespace Go.Proofs.YtedfnebadenmdabDoor
open Go.RowKit

def padL (wd n : Nat) : List UInt8 := List.replicate (wd - (Lib.decDigits n).length) 48 ++ Lib.decDigits n
def padS (wd n : Nat) : ByteArray := ⟨(padL wd n).toArray⟩
theorem PowTab.below {w w' : World} (h : PowTab w) (hb : Below w.heap.size w w') : PowTab w' := Lib.tabBelow_of_tabIs h w' hb
theorem nought_data (q : ByteArray) : ((⟨#[48]⟩ : ByteArray) ++ q).data.toList = 48 :: q.data.toList := by
  rw [ByteArray.data_append, Array.toList_append]
  rfl
theorem nought_size (q : ByteArray) : ((⟨#[48]⟩ : ByteArray) ++ q).size = q.size + 1 := by
  have h := congrArg List.length (nought_data q)
  rw [List.length_cons, Array.length_toList, Array.length_toList] at h
  exact h
set_option maxHeartbeats 2000000 in
theorem padded_any (n wd : Nat) (hn : n ≤ 9999) (hw : wd ≤ 4) (w : World) (ht : PowTab w) :
    Calls Tryd.prog 25 #[.int .i16 (n : Int), .int .i64 (wd : Int)] w fun e w' => e = .returned (.string (padS wd n)) ∧ Below w.heap.size w w' := by
  have HD := dec_any n (by omega) w ht
  have HLEN : Hid ((Lib.decDigits n).length ≤ 20) := by
    show _ ≤ _
    rw [Lib.decDigits_length]
    exact Lib.nDigits_le20 n (by omega)
  have HQ0 : Hid ((⟨(Lib.decDigits n).toArray⟩ : ByteArray).data.toList = Lib.decDigits n) := by show _ = _; simp
  clear ht
  generalize (⟨(Lib.decDigits n).toArray⟩ : ByteArray) = q0 at HD HQ0
  go_enter Tryd.func25, Tryd.ntmps25
  go_wp2_with fail
  refine Calls.mono HD ?_
  rintro e w1 ⟨rfl, hb⟩
  have HB : Hid (Below w.heap.size w w1) := hb
  clear hb HD
  go_wp2_with fail
  go_loop [5] (fun s => ∃ (q : ByteArray) (j : Nat), s = .string q ∧ Hid (q.data.toList = List.replicate j 48 ++ Lib.decDigits n) ∧ Hid (j ≤ wd - (Lib.decDigits n).length) ∧ q.size = j + (Lib.decDigits n).length) (fun s => match s with | .string q => 100 - q.size | _ => 0)
  case atStart => exact ⟨q0, 0, rfl, by show _ = _; rw [HQ0.out]; simp, Nat.zero_le _, by have h := congrArg List.length HQ0.out; rw [Array.length_toList] at h; rw [Nat.zero_add]; exact h⟩
  case round =>
    obtain ⟨q, j, rfl, HQ, HJ, hqs⟩ := hrel
    have hlen := HLEN.out
    by_cases hlt : q.size < wd
    · have hi : (q.size : Int) < (wd : Int) := by omega
      have hns := nought_size q
      have HN : Hid (((⟨#[48]⟩ : ByteArray) ++ q).data.toList = List.replicate (j + 1) 48 ++ Lib.decDigits n) := by
        show _ = _
        rw [nought_data, HQ.out, List.replicate_succ]
        rfl
      have HJ2 : Hid (j + 1 ≤ wd - (Lib.decDigits n).length) := by show _ ≤ _; omega
      go_wp2
      go_round
      case rel => exact ⟨_, j + 1, rfl, HN, HJ2, by omega⟩
      case measure =>
        show 100 - ((⟨#[48]⟩ : ByteArray) ++ q).size < 100 - q.size
        omega
    · have hi : ¬ (q.size : Int) < (wd : Int) := by omega
      have HF : Hid (q = padS wd n) := by
        apply ByteArray.ext
        apply Array.ext'
        rw [HQ.out]
        show _ = padL wd n
        unfold padL
        have := HJ.out
        congr 2
        omega
      clear hlt
      go_wp2
      go_ret
      exact ⟨congrArg (fun x => Ending.returned (Value.string x)) HF.out, HB.out⟩
end Go.Proofs.YtedfnebadenmdabDoor
