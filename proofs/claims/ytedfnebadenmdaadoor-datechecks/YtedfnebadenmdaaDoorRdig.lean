/-
  The contract of the document's digits.
-/
import Derived.Test.YtedfnebadenmdaaDoorPad
namespace Go.Proofs.YtedfnebadenmdaaDoor
open Go.RowKit Go.Lib

/-- A number's digits, at least so many; none of nought. -/
def padTo (k m : Nat) : List UInt8 := if m = 0 then List.replicate k 48 else padL k m
def digB (m : Nat) : UInt8 := UInt8.ofNat (48 + m % 10)
theorem padTo_start (wd n : Nat) (h : 1 ≤ wd) : padTo wd n = padL wd n := by
  unfold padTo
  split
  · rename_i e
    subst e
    unfold padL
    have : decDigits 0 = [48] := by rw [decDigits, dif_pos (by omega)]; rfl
    rw [this]
    obtain ⟨k, rfl⟩ : ∃ k, wd = k + 1 := ⟨wd - 1, by omega⟩
    rw [List.replicate_succ']
    rfl
  · rfl
theorem padTo_step (k m : Nat) (h : 0 < m ∨ 0 < k) : padTo k m = padTo (k - 1) (m / 10) ++ [digB m] := by
  unfold padTo digB
  by_cases h0 : m = 0
  · subst h0
    obtain ⟨j, rfl⟩ : ∃ j, k = j + 1 := ⟨k - 1, by omega⟩
    rw [if_pos rfl, if_pos (by omega), List.replicate_succ']
    rfl
  · rw [if_neg h0]
    by_cases h1 : m < 10
    · rw [if_pos (by omega)]
      unfold padL
      have e : decDigits m = [UInt8.ofNat (48 + m)] := by rw [decDigits, dif_pos h1]
      rw [e, Nat.mod_eq_of_lt h1]
      rfl
    · rw [if_neg (by omega)]
      unfold padL
      have e : decDigits m = decDigits (m / 10) ++ [UInt8.ofNat (48 + m % 10)] := by rw [decDigits, dif_neg h1]
      have l : (decDigits m).length = (decDigits (m / 10)).length + 1 := by rw [e]; simp
      rw [l, e, ← List.append_assoc]
      congr 2
      congr 1
      omega
theorem one_dig (W : World) (b : UInt8) (x : Int) (hx : x = (b.toNat : Int)) : (convert 82 9 (.slice (some ⟨W.heap.size, 0, none⟩) 1 1)).run Tryd.prog (W.alloc (.cells #[.int .u8 x] 5)) = .ok (.string ⟨#[b]⟩) (W.alloc (.cells #[.int .u8 x] 5)) := by
  subst hx
  exact run_convert_bytes_back (P := Tryd.prog) (W.alloc (.cells #[.int .u8 (b.toNat : Int)] 5)) 82 9 5 ⟨W.heap.size, 0, none⟩ 1 [b] Tryd.underlying82 Tryd.underlying5 Tryd.underlying9 (fun j hj => by
    have : j = 0 := by simpa using hj
    subst this
    simp [Addr.add])
theorem app_data (b : UInt8) (q : ByteArray) : ((⟨#[b]⟩ : ByteArray) ++ q).data.toList = b :: q.data.toList := by
  rw [ByteArray.data_append, Array.toList_append]
  rfl
theorem app_size (b : UInt8) (q : ByteArray) : ((⟨#[b]⟩ : ByteArray) ++ q).size = q.size + 1 := by
  have h := congrArg List.length (app_data b q)
  rw [List.length_cons, Array.length_toList, Array.length_toList] at h
  exact h
set_option maxRecDepth 100000 in
set_option maxHeartbeats 2000000 in
theorem rdigs_any (n wd : Nat) (hn : n ≤ 9999) (hw : wd ≤ 4) (hw1 : 1 ≤ wd) (w : World) :
    Calls Tryd.prog 35 #[.int .i64 (n : Int), .int .i64 (wd : Int)] w fun e w' => e = .returned (.string (padS wd n)) ∧ Below w.heap.size w w' := by
  have HST : Hid (padTo wd n = padL wd n) := padTo_start wd n hw1
  have HLE : Hid ((padL wd n).length ≤ 24) := by
    show _ ≤ _
    have h2 := nDigits_le20 n (by omega)
    unfold padL
    rw [List.length_append, List.length_replicate, decDigits_length]
    omega
  go_enter Tryd.func35, Tryd.ntmps35
  go_wp2_with fail
  go_loopw [0, 5] (fun mv s wr => ∃ (m : Nat) (q : ByteArray), mv = .int .i64 (m : Int) ∧ s = .string q ∧ m ≤ 9999 ∧ Hid (padTo (wd - q.size) m ++ q.data.toList = padL wd n) ∧ Hid (Below w.heap.size w wr)) (fun mv s _ => match s with | .string q => (RowKit.intOf mv).toNat * 100 + (100 - q.size) | _ => 0)
  case atStart => exact ⟨n, ⟨#[]⟩, rfl, rfl, hn, by show _ = _; rw [← HST.out]; exact List.append_nil _, Below.refl _ _⟩
  case round =>
    obtain ⟨m, q, rfl, rfl, hm, HP, HB⟩ := hrel
    have hqs : q.size ≤ 24 := by
      have h := congrArg List.length HP.out
      rw [List.length_append] at h
      have h2 := HLE.out
      have e : q.data.toList.length = q.size := by rw [Array.length_toList]; rfl
      omega
    have hd : (digB m).toNat = 48 + m % 10 := by
      unfold digB
      simp
      omega
    have HCV : Hid (∀ W : World, (convert 82 9 (.slice (some ⟨W.heap.size, 0, none⟩) 1 1)).run Tryd.prog (W.alloc (.cells #[.int .u8 (48 + (m : Int) % 10)] 5)) = .ok (.string ⟨#[digB m]⟩) (W.alloc (.cells #[.int .u8 (48 + (m : Int) % 10)] 5))) := fun W => one_dig W (digB m) _ (by rw [hd]; omega)
    have hcv := HCV.out wr
    have HNX : Hid (0 < m ∨ 0 < wd - q.size → padTo (wd - ((⟨#[digB m]⟩ : ByteArray) ++ q).size) (m / 10) ++ ((⟨#[digB m]⟩ : ByteArray) ++ q).data.toList = padL wd n) := by
      intro h
      rw [app_data, app_size, ← HP.out, padTo_step _ _ h, List.append_assoc]
      congr 2
    have HB2 : Hid (Below w.heap.size w (wr.alloc (.cells #[.int .u8 (48 + (m : Int) % 10)] 5))) := HB.out.alloc HB.out.size _
    have has := app_size (digB m) q
    have hds : (⟨#[digB m]⟩ : ByteArray).size = 1 := rfl
    clear hd HCV
    by_cases h0 : 0 < m
    · have HN : Hid _ := HNX.out (.inl h0)
      have h0i : (0 : Int) < (m : Int) := by omega
      generalize (⟨#[digB m]⟩ : ByteArray) = dg at hcv HN has HNX hds
      go_wp2
      go_roundw
      case rel => exact ⟨m / 10, dg ++ q, by go_num, rfl, by omega, HN, HB2⟩
      case measure =>
        show (((m / 10 : Nat) : Int)).toNat * 100 + (100 - (dg ++ q).size) < ((m : Int)).toNat * 100 + (100 - q.size)
        omega
    · by_cases h1 : q.size < wd
      · have HN : Hid _ := HNX.out (.inr (by omega))
        have h0i : ¬ (0 : Int) < (m : Int) := by omega
        have h1i : (q.size : Int) < (wd : Int) := by omega
        generalize (⟨#[digB m]⟩ : ByteArray) = dg at hcv HN has HNX hds
        go_wp2
        go_roundw
        case rel => exact ⟨m / 10, dg ++ q, by go_num, rfl, by omega, HN, HB2⟩
        case measure =>
          show (((m / 10 : Nat) : Int)).toNat * 100 + (100 - (dg ++ q).size) < ((m : Int)).toNat * 100 + (100 - q.size)
          omega
      · have HF : Hid (q = padS wd n) := by
          apply ByteArray.ext
          apply Array.ext'
          have h := HP.out
          rw [show wd - q.size = 0 by omega, show m = 0 by omega] at h
          exact h
        have h0i : ¬ (0 : Int) < (m : Int) := by omega
        have h1i : ¬ (q.size : Int) < (wd : Int) := by omega
        clear h1 h0 hcv HNX
        go_wp2
        go_ret
        exact ⟨congrArg (fun x => Ending.returned (Value.string x)) HF.out, HB.out⟩
end Go.Proofs.YtedfnebadenmdaaDoor
