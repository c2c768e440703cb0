/-
  The lists that a statement makes for itself: copies, copies with room behind them, and their comparison.
-/
import Derived.Test.YtekjhfhakodooabClone
namespace Go.Proofs.Ytekjhfhakodooab
open Go.RowKit

theorem clone_any (a : Option Addr) (l : List UInt8) (cap : Nat) (w : World) (h : Bts a l w) (hl : l.length ≤ 140737488355328) (hn : a = none → cap = 0) :
    Calls Try.prog 7 #[.slice a l.length cap] w fun e w' => ∃ v, e = .returned v ∧ w'.ownsRow w.heap.size 5 1 v l.length (cellsB l) ∧ Below w.heap.size w w' := by
  cases a with
  | some ad => exact clone_some ad l cap w h hl
  | none =>
    obtain rfl : l = [] := by
      rcases h with h | ⟨g, o, e, _⟩
      · exact h
      · cases e
    obtain rfl := hn rfl
    refine (clone_nil w).mono ?_
    rintro e w' ⟨rfl, rfl⟩
    exact ⟨_, rfl, World.ownsRow_nil _ _ _ _, Below.refl _ _⟩

/-- The same bytes, and 80 places behind them. -/
def room (l : List UInt8) : List UInt8 := l ++ List.replicate 80 165
theorem room_length (l : List UInt8) : (room l).length = l.length + 80 := by simp [room]

theorem room_step (l : List UInt8) (k : Nat) : cellsB (l ++ List.replicate k 165) ++ [.int .u8 165] = cellsB (l ++ List.replicate (k + 1) 165) := by
  rw [List.replicate_succ', ← List.append_assoc, cellsB_append _ [165]]
  rfl

set_option maxRecDepth 100000 in
theorem roomy_any (a : Option Addr) (l : List UInt8) (cap : Nat) (w : World) (h : Bts a l w) (hl : l.length ≤ 140737488351232) (hn : a = none → cap = 0) :
    Calls Try.prog 9 #[.slice a l.length cap] w fun e w' => ∃ v, e = .returned v ∧ w'.ownsRow w.heap.size 5 1 v (room l).length (cellsB (room l)) ∧ Below w.heap.size w w' := by
  obtain ⟨i0, hi, hz0, hz1, hz2⟩ := info_parts info5
  have HH : Hid (Bts a l w) := h
  have HN : Hid (a = none → cap = 0) := hn
  clear h hn
  go_enter Try.func9, Try.ntmps9
  go_wp2_with fail
  refine (clone_any a l cap w HH.out (by omega) HN.out).mono ?_
  rintro e w1 ⟨v, rfl, hown, hb1⟩
  have HO1 : Hid (w1.ownsRow w.heap.size 5 1 v (l ++ List.replicate 0 165).length (cellsB (l ++ List.replicate 0 165))) := by
    show World.ownsRow _ _ _ _ _ _ _
    simpa using hown
  have HB1 : Hid (Below w.heap.size w w1) := hb1
  clear hown hb1
  go_wp2_with fail
  go_loopw [3, 6] (fun u i wr => ∃ k : Nat, k ≤ 80 ∧ i = .int .i64 k ∧ Hid (wr.ownsRow w.heap.size 5 1 u (l ++ List.replicate k 165).length (cellsB (l ++ List.replicate k 165))) ∧ Hid (Below w.heap.size w wr)) (fun _ i _ => 80 - (intOf i).toNat)
  case atStart => exact ⟨0, by omega, rfl, HO1, HB1⟩
  case round =>
    obtain ⟨k, hk, rfl, HO, HB⟩ := hrel
    by_cases hlt : k < 80
    · have hown := HO.out
      have hlen : (l ++ List.replicate k (165 : UInt8)).length = l.length + k := by simp
      have HLE : Hid ((l ++ List.replicate k (165 : UInt8)).length = l.length + k) := hlen
      clear hlen
      go_wp2_with (at_builtin; refine wpList_append_own _ rfl _ _ 22 rfl w.heap.size 5 i0 (.int .u8 0) 1 1 Try.underlying22 hi hz0 hz1 hz2 rfl (by decide) _ _ _ rfl (hown.alloc _) ⟨wr.heap.size, 0, none⟩ 1 1 [.int .u8 165] rfl rfl ?c1 ?c2 ?c3 ?c4 ?c5 ?_)
      case c1 =>
        intro j u hj
        match j, hj with
        | 0, hj => simp at hj; subst hj; simp [Addr.add]
      case c2 => intro u hu; simp at hu; subst hu; rfl
      case c3 => unfold maxLen; rw [HLE.out]; omega
      case c4 => rw [HLE.out]; omega
      case c5 => have := HB.out.size; simp; omega
      intro v' w2 hown' hgrow _
      have R : Hid (w2.ownsRow w.heap.size 5 1 v' (l ++ List.replicate (k + 1) 165).length (cellsB (l ++ List.replicate (k + 1) 165))) := by
        show w2.ownsRow _ _ _ _ _ _
        rw [room_step] at hown'
        have e : (l ++ List.replicate (k + 1) (165 : UInt8)).length = (l ++ List.replicate k (165 : UInt8)).length + 1 := by simp; omega
        rw [e, HLE.out]
        exact hown'
      have HB3 : Hid (Below w.heap.size w w2) := (HB.out.alloc HB.out.size _).grown hgrow (by have := HB.out.size; simp; omega) (fun q hq => (hown.lt q hq).1)
      clear hown' hgrow hown HO HB HLE
      go_wp2
      go_roundw
      case rel => exact ⟨k + 1, by omega, by go_num, R, HB3⟩
      case measure => simp [intOf]; omega
    · obtain rfl : k = 80 := by omega
      go_wp2
      go_ret
      exact ⟨_, rfl, HO.out, HB.out⟩

set_option maxRecDepth 100000 in
theorem equal_any (a b : Option Addr) (l : List UInt8) (ca cb : Nat) (w : World) (ha : Bts a l w) (hb : Bts b l w) (hl : l.length ≤ maxLen) :
    Calls Try.prog 15 #[.slice a l.length ca, .slice b l.length cb] w fun e w' => e = .returned (.bool true) ∧ Below w.heap.size w w' := by
  have HA : Hid (Bts a l w) := ha
  have HB : Hid (Bts b l w) := hb
  unfold maxLen at hl
  clear ha hb
  go_enter Try.func15, Try.ntmps15
  go_wp2_with fail
  go_loopw [13] (fun i wr => ∃ k : Nat, k ≤ l.length ∧ i = .int .i64 k ∧ Hid (∃ n, wr = w.drewN n)) (fun i _ => l.length - (intOf i).toNat)
  case atStart => exact ⟨0, by omega, rfl, 0, rfl⟩
  case round =>
    obtain ⟨k, hk, rfl, HD⟩ := hrel
    obtain ⟨n, rfl⟩ := HD.out
    clear HD
    by_cases hlt : k < l.length
    · obtain ⟨ga, oa, rfl, ga1, ca1⟩ := HA.out.cell k hlt
      obtain ⟨gb, ob, rfl, gb1, cb1⟩ := HB.out.cell k hlt
      generalize l[k] = x at ca1 cb1
      have c1 : (w.drewN n).cell? ⟨ga, oa + k, none⟩ = some (.int .u8 (x.toNat : Int)) := ca1
      have c2 : (w.drewN n).cell? ⟨gb, ob + k, none⟩ = some (.int .u8 (x.toNat : Int)) := cb1
      have i1 : (k : Int) < (l.length : Int) := by omega
      clear ca1 cb1
      obtain ⟨w2, hw2⟩ : ∃ w2, w2 = w.drewN n := ⟨_, rfl⟩
      rw [← hw2] at c1 c2
      rw [← hw2]
      have HW : Hid (w2 = w.drewN n) := hw2
      clear hw2
      go_wp2_with fail
      go_quiet (fail)
      go_wp2
      go_roundw
      case rel => exact ⟨k + 1, by omega, by go_num, _, by rw [HW.out, World.drewN_drewN]⟩
      case measure => simp [intOf]; omega
    · obtain rfl : k = l.length := by omega
      go_wp2
      go_ret
      exact ⟨rfl, ⟨rfl, rfl, rfl, Nat.le_refl _, fun _ _ => rfl⟩⟩
end Go.Proofs.Ytekjhfhakodooab
