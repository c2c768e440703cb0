/-
  The document's reader of dates: fail, is, row, gap, mark.
-/
import Derived.Test.YtedfnebadenmdaaDoorRrP
import Derived.Deep.LoopGhost
namespace Go.Proofs.YtedfnebadenmdaaDoor
open Go.RowKit

set_option maxHeartbeats 1000000 in
theorem rfail_any (g : Nat) (s : ByteArray) (k : Nat) (e p e0 q : Int) (w : World) (hr : Rd0 64 w g s k e p) :
    Calls Tryd.prog 47 #[.pointer (some ⟨g, 0, none⟩), .int .i64 e0, .int .i64 q] w fun x w' => x = .returned (.tuple #[]) ∧ Rd0 64 w' g s k (if e = 0 then e0 else e) (if e = 0 then q else p) ∧ But g w w' := by
  obtain ⟨c0, c1, c2, c3⟩ := hr.cells
  obtain ⟨f1, f2, f3⟩ := hr.frozen
  have HR : Hid (Rd0 64 w g s k e p) := hr
  clear hr
  by_cases c : e = 0
  · subst c
    rw [if_pos rfl, if_pos rfl]
    go_enter Tryd.func47, Tryd.ntmps47
    go_wp2
    go_end0
    exact ⟨rfl, ⟨(HR.out.lies.set 2 (.int .i64 e0)).set 3 (.int .i64 q), HR.out.le, HR.out.far⟩, ((But.refl g w).set 2 _).set 3 _⟩
  · rw [if_neg c, if_neg c]
    have c' : (e == 0) = false := by simpa using c
    clear c
    go_enter Tryd.func47, Tryd.ntmps47
    go_wp2
    go_end0
    exact ⟨rfl, HR.out, But.refl g w⟩
theorem drew_more {w wr : World} (h : ∃ n, wr = w.drewN n) (m : Nat) : ∃ n, wr.drewN m = w.drewN n := by
  obtain ⟨n, rfl⟩ := h
  exact ⟨_, World.drewN_drewN _ _ _⟩
set_option maxHeartbeats 1000000 in
theorem ris_q (g : Nat) (s : ByteArray) (k : Nat) (e p : Int) (all : ByteArray) (ha : all.size ≤ 100) (w : World) (hr : Rd0 64 w g s k e p) (_ : s.size ≤ maxLen) :
    Calls Tryd.prog 41 #[.pointer (some ⟨g, 0, none⟩), .string all] w fun x w' => x = .returned (.bool (oneOf all s k)) ∧ ∃ n, w' = w.drewN n := by
  have HR : Hid (Rd0 64 w g s k e p) := hr
  obtain ⟨c0, c1, c2, c3⟩ := hr.cells
  clear hr c2 c3
  by_cases c : k < s.size
  · have ci : (k : Int) < (s.size : Int) := by omega
    have cd : decide ((s.size : Int) ≤ (k : Int)) = false := decide_eq_false (by omega)
    have HE : Hid (oneOf all s k = inA all s[k]) := oneOf_at all s k c
    go_enter Tryd.func41, Tryd.ntmps41
    go_wp2_with fail
    go_quiet (fail)
    go_wp2_with fail
    clear c0 c1
    go_loopw [5] (fun i wr => ∃ j : Nat, j ≤ all.size ∧ i = .int .i64 (j : Int) ∧ Hid (∀ i, (h : i < j) → (h2 : i < all.size) → all[i] ≠ s[k]) ∧ Hid (∃ n, wr = w.drewN n)) (fun i _ => all.size - (intOf i).toNat)
    case atStart => exact ⟨0, Nat.zero_le _, rfl, fun i h => by omega, _, rfl⟩
    case round =>
      obtain ⟨j, hj, rfl, HJ, HB⟩ := hrel
      have HRr : Hid (Rd0 64 wr g s k e p) := by
        obtain ⟨n, hn⟩ := HB.out
        rw [hn]
        exact HR.out.below (below_drewN _ _)
      obtain ⟨c0, c1, c2, c3⟩ := HRr.out.cells
      clear c2 c3
      by_cases hlt : j < all.size
      · have hlti : (j : Int) < (all.size : Int) := by omega
        by_cases hx : all[j] = s[k]
        · have hb : ((all[j].toNat : Int) == (s[k].toNat : Int)) = true := by rw [hx]; simp
          have HF : Hid (true = oneOf all s k) := by
            show _ = _
            rw [HE.out, inA_hit all j hlt _ hx]
          clear hx
          go_wp2_with fail
          go_quiet (fail)
          go_wp2
          go_ret
          exact ⟨ret_b HF.out, drew_more HB.out _⟩
        · have hb : ((all[j].toNat : Int) == (s[k].toNat : Int)) = false := by
            simp only [beq_eq_false_iff_ne]
            intro h
            exact hx (UInt8.toNat_inj.1 (by omega))
          have HN : Hid (∀ i, (h : i < j + 1) → (h2 : i < all.size) → all[i] ≠ s[k]) := by
            intro i hi h2
            by_cases e : i = j
            · subst e; exact hx
            · exact HJ.out i (by omega) h2
          clear hx
          go_wp2_with fail
          go_quiet (fail)
          go_wp2
          go_roundw
          case rel => exact ⟨j + 1, by omega, by go_num, HN, drew_more HB.out _⟩
          case measure => simp [intOf]; omega
      · have HF : Hid (false = oneOf all s k) := by
          show _ = _
          rw [HE.out, inA_miss all _ (fun i hi => HJ.out i (by omega) hi)]
        have hje : ¬ (j : Int) < (all.size : Int) := by omega
        go_wp2
        go_ret
        exact ⟨ret_b HF.out, HB.out⟩
  · have ci : (s.size : Int) ≤ (k : Int) := by omega
    have HE : Hid (false = oneOf all s k) := (oneOf_end all s k c).symm
    clear c
    go_enter Tryd.func41, Tryd.ntmps41
    go_wp2_with fail
    go_quiet (fail)
    go_wp2
    go_ret
    exact ⟨ret_b HE.out, _, rfl⟩
theorem ris_any (g : Nat) (s : ByteArray) (k : Nat) (e p : Int) (all : ByteArray) (ha : all.size ≤ 100) (w : World) (hr : Rd0 64 w g s k e p) (hs : s.size ≤ maxLen) :
    Calls Tryd.prog 41 #[.pointer (some ⟨g, 0, none⟩), .string all] w fun x w' => x = .returned (.bool (oneOf all s k)) ∧ Below w.heap.size w w' := by
  refine (ris_q g s k e p all ha w hr hs).mono ?_
  rintro x w' ⟨rfl, n, rfl⟩
  exact ⟨rfl, below_drewN _ _⟩
set_option maxHeartbeats 1000000 in
theorem rrow_rd (g : Nat) (s : ByteArray) (k : Nat) (e p : Int) (all : ByteArray) (ha : all.size ≤ 100) (w : World) (hr : Rd0 64 w g s k e p) (hs : s.size ≤ maxLen) :
    Calls Tryd.prog 61 #[.pointer (some ⟨g, 0, none⟩), .string all] w fun x w' => x = .returned (.string (s.extract k (k + rowN all (s.data.toList.drop k)))) ∧ Rd0 64 w' g s (k + rowN all (s.data.toList.drop k)) e p ∧ But g w w' := by
  have HR : Hid (Rd0 64 w g s k e p) := hr
  have HS : Hid (s.size ≤ maxLen) := hs
  have hk := hr.le
  have HIN : Hid (k + rowN all (s.data.toList.drop k) ≤ s.size) := row_in all s k hk
  obtain ⟨c0, c1, c2, c3⟩ := hr.cells
  unfold maxLen at hs
  clear hr
  go_enter Tryd.func61, Tryd.ntmps61
  go_wp2_with fail
  clear c0 c1 c2 c3
  go_loopg [10] (s.size - k) (fun n _ wr => ∃ m : Nat, n = s.size - m ∧ Hid (Rd0 64 wr g s m e p ∧ But g w wr ∧ k + rowN all (s.data.toList.drop k) = m + rowN all (s.data.toList.drop m)))
  case atStart => exact ⟨k, rfl, HR.out, But.refl g w, rfl⟩
  case round =>
    obtain ⟨m, hm, HM⟩ := hrel
    have HMR : Hid (Rd0 64 wr g s m e p) := HM.out.1
    have hi := ris_any g s m e p all ha wr HM.out.1 HS.out
    have HB : Hid (But g w wr) := HM.out.2.1
    have HK : Hid (k + rowN all (s.data.toList.drop k) = m + rowN all (s.data.toList.drop m)) := HM.out.2.2
    clear HM
    by_cases h1 : oneOf all s m = true
    · have hlt := oneOf_lt h1
      have HN : Hid (k + rowN all (s.data.toList.drop k) = (m + 1) + rowN all (s.data.toList.drop (m + 1))) := by
        show _ = _
        rw [HK.out, oneOf_yes h1]
        omega
      go_wp2_with fail
      refine hi.mono ?_
      rintro x w1 ⟨rfl, hb1⟩
      have HR1 : Hid (Rd0 64 w1 g s m e p) := HMR.out.below hb1
      have HB1 : Hid (But g w w1) := HB.out.trans (But.of_below hb1)
      obtain ⟨c0, c1, c2, c3⟩ := HR1.out.cells
      obtain ⟨f1, f2, f3⟩ := HR1.out.frozen
      have HR2 : Hid (Rd0 64 (w1.setCell ⟨g, 1, none⟩ (.int .i64 ((m : Int) + 1))) g s (m + 1) e p) := HR1.out.move (m + 1) hlt
      go_wp2
      go_roundg (s.size - (m + 1))
      case measure => omega
      case rel => exact ⟨m + 1, rfl, HR2.out, HB1.out.set 1 _, HN.out⟩
    · have h1' : oneOf all s m = false := by simpa using h1
      have HN : Hid (k + rowN all (s.data.toList.drop k) = m) := by
        show _ = _
        rw [HK.out, oneOf_no h1']
        rfl
      have hin := HIN.out
      rw [HN.out] at hin
      have hkm : k ≤ m := by have := HN.out; omega
      clear h1
      go_wp2_with fail
      refine hi.mono ?_
      rintro x w1 ⟨rfl, hb1⟩
      have HR1 : Hid (Rd0 64 w1 g s m e p) := HMR.out.below hb1
      have HB1 : Hid (But g w w1) := HB.out.trans (But.of_below hb1)
      obtain ⟨c0, c1, c2, c3⟩ := HR1.out.cells
      clear hb1
      go_wp2_with fail
      go_quiet (fail)
      go_wp2
      go_ret
      exact ⟨by rw [HN.out]; rfl, by rw [HN.out]; exact HR1.out.below (below_drewN _ _), HB1.out.trans (But.of_below (below_drewN _ _))⟩
theorem empty_ext (s : ByteArray) (k : Nat) : s.extract k (k + 0) = ⟨#[]⟩ := by
  apply ByteArray.ext
  apply Array.ext'
  rw [ext_list]
  rfl
theorem ext_ne (s : ByteArray) (k m : Nat) (h : k + m ≤ s.size) (h0 : m ≠ 0) : (s.extract k (k + m)).toList.isEmpty = false := by
  rw [ByteArray.toList_eq, List.isEmpty_eq_false_iff]
  intro e
  have h2 := ext_size s k m h
  have h3 := congrArg List.length e
  rw [Array.length_toList] at h3
  exact h0 (h2.symm.trans h3)
end Go.Proofs.YtedfnebadenmdaaDoor
