/-
  slices.ContainsFunc of bytes with the statement's own function: is one above 127?
-/
import Derived.Test.YtfifpepcmpaipaaBkP
import Derived.Test.YtfifpepcmpaipaaPc14
import Derived.Test.YtfifpepcmpaipaaCk14
namespace Go.Proofs.Ytfifpepcmpaipaa
open Go.RowKit

set_option maxHeartbeats 400000 in
theorem bclo_any (c : UInt8) (w : World) : Calls Try.prog 26 #[.int .u8 (c.toNat : Int)] w fun e w' => e = .returned (.bool (decide (127 < c.toNat))) ∧ w' = w := by
  have HE : Hid (decide ((127 : Int) < (c.toNat : Int)) = decide (127 < c.toNat)) := decide_eq_decide.2 (by omega)
  go_enter Try.func26, Try.ntmps26
  go_wp2
  go_ret
  exact ⟨by rw [← HE.out]; rfl, rfl⟩
set_option maxHeartbeats 2000000 in
theorem sif_any (a : Option Addr) (l : List UInt8) (n cap : Nat) (hn : n = l.length) (hl : l.length ≤ 1099511627776) (w : World) (hb : Bts a l w) : Calls Try.prog 41 #[.slice a n cap, .func (.func 26) #[] #[]] w fun e w' => (∃ z : Int, e = .returned (.int .i64 z) ∧ decide (0 ≤ z) = anyHigh l) ∧ w' = w := by
  subst hn
  have HB : Hid (Bts a l w) := hb
  clear hb
  go_enter Try.func41, Try.ntmps41
  go_wp2_with fail
  go_loopw [5, 8] (fun _ iv wr => ∃ k : Nat, k ≤ l.length ∧ iv = .int .i64 k ∧ wr = w ∧ Hid (anyHigh l = anyHigh (l.drop k))) (fun _ iv _ => l.length - (intOf iv).toNat)
  case atStart => exact ⟨0, Nat.zero_le _, rfl, rfl, by show _ = _; simp⟩
  case round =>
    obtain ⟨k, hk, rfl, rfl, HE⟩ := hrel
    by_cases hlt : k < l.length
    · obtain ⟨g, q, rfl, hg, hrow⟩ := HB.out.resolve_left (fun e => by rw [e] at hlt; cases hlt)
      have hce := hrow k hlt
      have HE2 : Hid (anyHigh l = (decide (127 < l[k].toNat) || anyHigh (l.drop (k + 1)))) := by
        have := HE.out
        rw [List.drop_eq_getElem_cons hlt] at this
        rw [this]
        exact rfl
      have HCL := bclo_any l[k] wr
      clear hrow HE
      generalize l[k] = d at *
      go_wp2_with fail
      refine HCL.mono ?_
      rintro e w2 ⟨rfl, rfl⟩
      clear HCL
      by_cases hd : 127 < d.toNat
      · rw [decide_eq_true hd]
        have HYT : Hid (anyHigh l = true) := by rw [HE2.out, decide_eq_true hd]; exact rfl
        clear HE2 hd
        go_wp2_with fail
        go_ret
        exact ⟨⟨(k : Int), rfl, by rw [HYT.out]; simp⟩, rfl⟩
      · rw [decide_eq_false hd]
        have HE3 : Hid (anyHigh l = anyHigh (l.drop (k + 1))) := by rw [HE2.out, decide_eq_false hd]; exact rfl
        clear HE2 hd
        go_wp2_with fail
        go_round
        case rel => exact ⟨k + 1, hlt, by go_num, trivial, HE3.out⟩
        case measure => simp [intOf]; omega
    · obtain rfl : k = l.length := by omega
      have HYF : Hid (anyHigh l = false) := by rw [HE.out, List.drop_length]; exact rfl
      go_wp2_with fail
      go_ret
      exact ⟨⟨-1, rfl, by rw [HYF.out]; rfl⟩, rfl⟩
set_option maxHeartbeats 400000 in
theorem scf_any (a : Option Addr) (l : List UInt8) (n cap : Nat) (hn : n = l.length) (hl : l.length ≤ 1099511627776) (w : World) (hb : Bts a l w) : Calls Try.prog 25 #[.slice a n cap, .func (.func 26) #[] #[]] w fun e w' => e = .returned (.bool (anyHigh l)) ∧ w' = w := by
  have HI := sif_any a l n cap hn hl w hb
  clear hn hb
  go_enter Try.func25, Try.ntmps25
  go_wp2_with fail
  refine HI.mono ?_
  rintro e w2 ⟨⟨z, rfl, hz⟩, rfl⟩
  have HZ : Hid (decide (0 ≤ z) = anyHigh l) := hz
  clear hz
  go_wp2_with fail
  go_ret
  exact ⟨by rw [← HZ.out]; rfl, rfl⟩
end Go.Proofs.Ytfifpepcmpaipaa
