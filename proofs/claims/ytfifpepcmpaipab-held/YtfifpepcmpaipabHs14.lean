/-
  bytes.HasSuffix.
-/
import Derived.Test.YtfifpepcmpaipabSm14
import Derived.Test.YtfifpepcmpaipabPc14
namespace Go.Proofs.Ytfifpepcmpaipab
open Go.RowKit

/-- bytes.Equal of any bytes. -/
theorem beq_any (a b : Option Addr) (l r : List UInt8) (n m ca cb : Nat) (hn : n = l.length) (hm : m = r.length) (w : World) (ha : Bts a l w) (hb : Bts b r w) : Calls Try.prog 12 #[.slice a n ca, .slice b m cb] w fun e w' => e = .returned (.bool (decide (l = r))) ∧ w' = w := by
  subst hn hm
  have k1 := bts_back ha ca
  have k2 := bts_back hb cb
  have HE : Hid ((l == r) = decide (l = r)) := by
    by_cases h : l = r
    · rw [decide_eq_true h, h]; exact beq_self_eq_true _
    · rw [decide_eq_false h]; exact beq_false_of_ne h
  clear ha hb
  go_enter Try.func12, Try.ntmps12
  go_wp2
  go_ret
  exact ⟨by rw [← HE.out]; simp, rfl⟩
set_option maxHeartbeats 1000000 in
theorem bhs_any (a b : Option Addr) (l r : List UInt8) (n m ca cb : Nat) (hn : n = l.length) (hm : m = r.length) (w : World) (ha : PeOk w ⟨a, l, ca⟩) (hb : Bts b r w) (hl : l.length ≤ 1099511627776) (hr : r.length ≤ 1099511627776) : Calls Try.prog 15 #[.slice a n ca, .slice b m cb] w fun e w' => e = .returned (.bool (decide (r.length ≤ l.length ∧ l.drop (l.length - r.length) = r))) ∧ w' = w := by
  subst hn hm
  by_cases h : r.length ≤ l.length
  · have hlc : l.length ≤ ca := ha.lc
    have hsl := run_sll a l.length ca (l.length - r.length) (by omega)
    have h2 := (ha.cut (l.length - r.length) r.length (by omega)).bt
    dsimp only at h2
    rw [List.take_of_length_le (by rw [List.length_drop]; omega)] at h2
    have hdl : (l.drop (l.length - r.length)).length = l.length - (l.length - r.length) := List.length_drop
    have HQ := beq_any (sla a (l.length - r.length) ca) b (l.drop (l.length - r.length)) r (l.length - (l.length - r.length)) r.length (ca - (l.length - r.length)) cb hdl.symm rfl w h2 hb
    have HE : Hid (decide (r.length ≤ l.length ∧ l.drop (l.length - r.length) = r) = decide (l.drop (l.length - r.length) = r)) := decide_eq_decide.2 ⟨fun h => h.2, fun h2 => ⟨h, h2⟩⟩
    rw [HE.out]
    have h' : (r.length : Int) ≤ (l.length : Int) := by omega
    obtain ⟨D, hD⟩ : ∃ D : Nat, D = l.length - r.length := ⟨_, rfl⟩
    have hd2 : (l.length : Int) - (r.length : Int) = (D : Int) := by omega
    rw [← hD] at hsl HQ ⊢
    clear h2 hdl HE hb ha hD
    generalize decide (l.drop D = r) = ans at *
    generalize sla a D ca = sa at *
    go_enter Try.func15, Try.ntmps15
    go_wp2_with fail
    refine HQ.mono ?_
    rintro e w2 ⟨rfl, rfl⟩
    go_wp2_with fail
    go_ret
    exact ⟨rfl, rfl⟩
  · have h' : ¬ (r.length : Int) ≤ (l.length : Int) := by omega
    rw [decide_eq_false (fun e => h e.1)]
    clear ha hb
    go_enter Try.func15, Try.ntmps15
    go_wp2_with fail
    go_ret
    exact ⟨rfl, rfl⟩
end Go.Proofs.Ytfifpepcmpaipab
