/-
  How many replies become whole with the next bytes.
-/
import Derived.Test.YtbfgefgadplcjaaDoorPt12
import Derived.Test.YtbfgefgadplcjaaDoorBase
namespace Go.Proofs.YtbfgefgadplcjaaDoor
open Go.RowKit

theorem cntW_at (l : List UInt8) (k : Nat) (hk : k < l.length) (q : Plc) : cntW q (l.drop k) = if (stepP q l[k]).2 = 2 then 0 else if (stepP q l[k]).2 = 1 then cntW (stepP q l[k]).1 (l.drop (k + 1)) + 1 else cntW (stepP q l[k]).1 (l.drop (k + 1)) := by
  rw [List.drop_eq_getElem_cons hk, cntW]
theorem cntW_le : ∀ (l : List UInt8) (p : Plc), cntW p l ≤ l.length
  | [], _ => Nat.le_refl _
  | c :: r, p => by
    rw [cntW]
    have := cntW_le r (stepP p c).1
    split
    · omega
    · split
      · simp; omega
      · simp; omega
set_option maxHeartbeats 2000000 in
set_option maxRecDepth 20000 in
theorem whole_any (p : Plc) (ok : p.Ok) (a : Option Addr) (l : List UInt8) (cap n : Nat) (w : World) (hn : n = l.length) (hl : l.length ≤ 140737488355328) (hb : Bts a l w) (hd : DigT w) (ht : Table w) (hg : 0 < w.heap.size) (hg2 : 1 < w.heap.size) :
    Calls Tryd.prog 40 #[.agg (plC p).toArray, .slice a n cap] w fun e w' => e = .returned (.int .i64 (cntW p l : Nat)) ∧ Below w.heap.size w w' := by
  subst hn
  have HB : Hid (Bts a l w) := hb
  have HK : Hid (∀ w', Below w.heap.size w w' → DigT w' ∧ Table w') := fun w' k => ⟨by
    obtain ⟨d0, d1, d2, d3, d4, d5⟩ := hd
    exact ⟨(k.cell hg).trans d0, (k.cell hg).trans d1, (k.cell hg).trans d2, (k.cell hg).trans d3, (k.cell hg).trans d4, (k.cell hg).trans d5⟩, fun c hc => (k.cell hg2).trans (ht c hc)⟩
  clear hb hd ht
  go_enter Tryd.func40, Tryd.ntmps40
  go_wp2_with fail
  go_loopw [5, 7, 10] (fun u _ i wr => ∃ (k m : Nat) (q : Plc), k ≤ l.length ∧ m ≤ k ∧ u = .int .i64 m ∧ i = .int .i64 k ∧ Hid (PlAt wr w.heap.size 0 [] [] 41 q) ∧ Hid q.Ok ∧ Hid (Below w.heap.size w wr) ∧ Hid (cntW p l = m + cntW q (l.drop k))) (fun _ _ i _ => l.length - (intOf i).toNat)
  case atStart => exact ⟨0, 0, p, Nat.zero_le _, Nat.le_refl _, rfl, rfl, ⟨by simpa using Lies.new w _ _, rfl⟩, ok, (Below.refl _ _).alloc (Nat.le_refl _) _, (by show _ = _; simp)⟩
  case round =>
    obtain ⟨k, m, q, hk, hm, rfl, rfl, HP, HQ, HW, HX⟩ := hrel
    by_cases hlt : k < l.length
    · have hlt' : (k : Int) < (l.length : Int) := by omega
      obtain ⟨g, o, rfl, hgs, hc⟩ := (HB.out.below HW.out).cell k hlt
      have HT := take_any w.heap.size 0 [] [] 41 q HQ.out l[k] wr HP.out (HK.out _ HW.out).1 (HK.out _ HW.out).2
      have HS := step_ok q l[k] HQ.out
      rw [cntW_at l k hlt q] at HX
      generalize hbk : l[k] = c at *
      have HSG := step_sign q c
      clear HP HQ hbk
      generalize (stepP q c).1 = q2 at *
      rcases HSG with h0 | h0 | h0
      · rw [h0] at HT HX
        rw [if_neg (by decide), if_neg (by decide)] at HX
        go_wp2_with (go_at_call 42; refine HT.mono ?_; clear HT hc; rintro e w2 ⟨rfl, HP2, HC2⟩)
        go_round
        case rel => exact ⟨k + 1, m, q2, hlt, by omega, rfl, by go_num, HP2, HS, HW.out.trans (HC2.to_below HW.out.size (fun i e => by omega)), HX.out⟩
        case measure => simp [intOf]; omega
      · rw [h0] at HT HX
        rw [if_neg (by decide), if_pos rfl] at HX
        go_wp2_with (go_at_call 42; refine HT.mono ?_; clear HT hc; rintro e w2 ⟨rfl, HP2, HC2⟩)
        go_round
        case rel => exact ⟨k + 1, m + 1, q2, hlt, by omega, by go_num, by go_num, HP2, HS, HW.out.trans (HC2.to_below HW.out.size (fun i e => by omega)), by have := HX.out; show _ = _; omega⟩
        case measure => simp [intOf]; omega
      · rw [h0] at HT HX
        rw [if_pos rfl] at HX
        go_wp2_with (go_at_call 42; refine HT.mono ?_; clear HT hc; rintro e w2 ⟨rfl, HP2, HC2⟩)
        go_ret
        exact ⟨by rw [HX.out]; rfl, HW.out.trans (HC2.to_below HW.out.size (fun i e => by omega))⟩
    · have hX : cntW p l = m := by have := HX.out; rw [List.drop_eq_nil_of_le (by omega)] at this; exact this
      rw [hX]
      clear HX HP HQ
      have hlt' : ¬ (k : Int) < (l.length : Int) := by omega
      go_wp2
      go_ret
      exact ⟨rfl, HW.out⟩
end Go.Proofs.YtbfgefgadplcjaaDoor
