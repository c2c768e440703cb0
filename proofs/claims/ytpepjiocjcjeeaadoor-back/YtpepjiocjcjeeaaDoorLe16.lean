/-
  The statements' own lent and kept.
-/
import Derived.Test.YtpepjiocjcjeeaaDoorPe16
namespace Go.Proofs.YtpepjiocjcjeeaaDoor
open Go.RowKit

theorem slice_of_owns {w : World} {base n : Nat} {v : Value} {xs : List Value} (h : w.ownsRow base 5 1 v n xs) (hn : 0 < n) : ∃ g cap, v = .slice (some ⟨g, 0, none⟩) n cap ∧ base ≤ g ∧ g < w.heap.size ∧ n ≤ cap ∧ cap ≤ maxLen := by
  obtain ⟨_, ⟨_, h0⟩ | ⟨g, cap, cur, rfl, hg, hh, hnc, hcm, _⟩⟩ := h
  · omega
  · exact ⟨g, cap, rfl, hg, (Array.getElem?_eq_some_iff.1 hh).1, hnc, hcm⟩
/-- The fore part of an own row. -/
theorem own_fore {w : World} {base g n m cap : Nat} {xs : List Value} (h : w.ownsRow base 5 1 (.slice (some ⟨g, 0, none⟩) m cap) m xs) (hnm : n ≤ m) : w.ownsRow base 5 1 (.slice (some ⟨g, 0, none⟩) n cap) n (xs.take n) := by
  obtain ⟨h1, ⟨h2, _⟩ | ⟨g', cap', cur, hv, hg, hh, hnc, hcm, hs, ht⟩⟩ := h
  · cases h2
  · injection hv with e1 _ e3
    injection e1 with e1
    injection e1 with e1
    subst e1 e3
    refine ⟨by rw [List.length_take]; omega, .inr ⟨g, cap, cur, rfl, hg, hh, by omega, hcm, hs, ?_⟩⟩
    rw [← ht, List.take_take]
    congr 1
    omega

def mks (k : Nat) : List UInt8 := List.replicate k 165
theorem mks_next (k : Nat) : mks (k + 1) = mks k ++ [165] := List.replicate_succ'
/-- Bytes lent: marks behind them. -/
def LentB (w : World) (B g c : Nat) (l : List UInt8) : Prop := w.ownsRow B 5 1 (.slice (some ⟨g, 0, none⟩) (l.length + 70) c) (l.length + 70) (cellsB (l ++ mks 70))
theorem LentB.below {w w' : World} {B g c : Nat} {l : List UInt8} (h : LentB w B g c l) (hb : Below w.heap.size w w') : LentB w' B g c l := own_below h hb
theorem LentB.cap {w : World} {B g c : Nat} {l : List UInt8} (h : LentB w B g c l) : l.length + 70 ≤ c ∧ c ≤ 9223372036854775807 ∧ B ≤ g ∧ g < w.heap.size := by
  obtain ⟨_, ⟨h1, _⟩ | ⟨g', c', cur, hv, h2, h5, h3, h4, _⟩⟩ := h
  · cases h1
  · injection hv with e1 _ e
    injection e1 with e1
    injection e1 with e1
    subst e1 e
    unfold maxLen at h4
    exact ⟨h3, by omega, h2, (Array.getElem?_eq_some_iff.1 h5).1⟩
theorem LentB.own {w : World} {B g c : Nat} {l : List UInt8} (h : LentB w B g c l) : w.ownsRow B 5 1 (.slice (some ⟨g, 0, none⟩) l.length c) l.length (cellsB l) := by
  have := own_fore h (show l.length ≤ l.length + 70 by omega)
  rw [cellsB_append, List.take_append_of_le_length (by rw [cellsB_length]; exact Nat.le_refl _), List.take_of_length_le (by rw [cellsB_length]; exact Nat.le_refl _)] at this
  exact this
theorem LentB.bts {w : World} {B g c : Nat} {l : List UInt8} (h : LentB w B g c l) : Bts (some ⟨g, 0, none⟩) l w := by
  obtain ⟨a, cap, e, hb, _⟩ := own_bts h.own
  injection e with e
  rw [e]
  exact hb

set_option maxRecDepth 100000 in
set_option maxHeartbeats 1000000 in
theorem lent_any (a : Option Addr) (l : List UInt8) (cap n : Nat) (w : World) (hn : n = l.length) (hb : Bts a l w) (hl : l.length ≤ 140737488355200) (hnn : a = none → cap = 0) :
    Calls Tryd.prog 7 #[.slice a n cap] w fun e w' => ∃ g c, e = .returned (.slice (some ⟨g, 0, none⟩) n c) ∧ LentB w' w.heap.size g c l ∧ Below w.heap.size w w' := by
  obtain ⟨i0, hi, hz0, hz1, hz2⟩ := info_parts info5
  have HBT : Hid (Bts a l w) := hb
  have HN : Hid (n = l.length) := hn
  rw [← hn] at hl
  clear hb hn
  go_enter Tryd.func7, Tryd.ntmps7
  go_wp2_with (at_make; refine wpList_make_own _ rfl _ _ 22 rfl w.heap.size 5 i0 (.int .u8 0) 1 Tryd.underlying22 hi hz0 hz1 .i64 .i64 _ (n + 70) rfl (by first | rfl | (push_cast; rfl)) (by omega) (by rw [hz2]; omega) (by unfold maxLen; omega) (Nat.le_refl _) ?_)
  intro w1 hown hgrow
  have HB : Hid (Below w.heap.size w w1) := (Below.refl _ _).grown hgrow (Nat.le_refl _) (fun k h => by cases h)
  have HO1 : Hid (w1.ownsRow w.heap.size 5 1 (.slice (some ⟨w.heap.size, 0, none⟩) 0 (n + 70)) 0 (cellsB [])) := hown
  clear hgrow hown
  go_wp2_with (at_builtin; refine wpList_append_keep rfl _ _ rfl w.heap.size _ 0 [] rfl HO1.out a l n cap rfl HN.out (HBT.out.below HB.out) hnn (by omega) HB.out.size ?_)
  intro v2 w2 hown2 hgrow2
  have HB2 : Hid (Below w.heap.size w w2) := HB.out.grown hgrow2 HB.out.size (fun q hq => (HO1.out.lt q hq).1)
  have HO2 : Hid (w2.ownsRow w.heap.size 5 1 v2 (n + 0) (cellsB (l ++ mks 0))) := by
    show w2.ownsRow _ _ _ _ _ _
    rw [show mks 0 = [] from rfl, List.append_nil, Nat.add_zero]
    simpa using hown2
  clear hown2 hgrow2 HB HO1
  go_wp2
  go_loopw [3, 11] (fun v i wr => ∃ k : Nat, k ≤ 70 ∧ i = .int .i64 k ∧ Hid (wr.ownsRow w.heap.size 5 1 v (n + k) (cellsB (l ++ mks k))) ∧ Hid (Below w.heap.size w wr)) (fun _ i _ => 70 - (intOf i).toNat)
  case atStart => exact ⟨0, Nat.zero_le _, rfl, HO2, HB2⟩
  case round =>
    clear HO2 HB2
    obtain ⟨k, hk, rfl, HO, HB⟩ := hrel
    by_cases hlt : k < 70
    · go_wp2_with (at_builtin; refine wpList_append_byte rfl _ _ rfl w.heap.size _ (n + k) (l ++ mks k) rfl (HO.out.alloc _) wr 165 _ rfl rfl 1 rfl (by omega) HB.out.size ?_; intro v3 w3 hown3 hbel3)
      have HO3 : Hid (w3.ownsRow w.heap.size 5 1 v3 (n + (k + 1)) (cellsB (l ++ mks (k + 1)))) := by
        show World.ownsRow _ _ _ _ _ _ _
        rw [mks_next, ← List.append_assoc]
        exact hown3
      have HB3 : Hid (Below w.heap.size w w3) := hbel3 _ _ HB.out (Nat.le_refl _)
      clear hown3 hbel3 HO HB
      go_roundw
      case rel => exact ⟨k + 1, by omega, by go_num, HO3, HB3⟩
      case measure => simp [intOf]; omega
    · obtain rfl : k = 70 := by omega
      obtain ⟨g, c, hv, hg, hg2, hnc, hcm⟩ := slice_of_owns HO.out (by omega)
      have hown := HO.out
      rw [hv] at hown
      have HL : Hid (LentB wr w.heap.size g c l) := by
        show LentB _ _ _ _ _
        unfold LentB
        rw [← HN.out]
        exact hown
      clear hown HO
      unfold maxLen at hcm
      rw [hv]
      have hq : (n : Int) ≤ (c : Int) := by omega
      go_wp2
      go_ret
      exact ⟨g, c, rfl, HL.out, HB.out⟩

set_option maxRecDepth 100000 in
set_option maxHeartbeats 1000000 in
theorem kept_any (B g c : Nat) (l : List UInt8) (a : Option Addr) (cap n : Nat) (w : World) (hn : n = l.length) (h : LentB w B g c l) (hb : Bts a l w) (hs : l.length ≤ 140737488355200) :
    Calls Tryd.prog 11 #[.slice (some ⟨g, 0, none⟩) n c, .slice a n cap] w fun e w' => e = .returned (.bool true) ∧ w' = w := by
  have k1 := bts_back h.bts c
  have k2 := bts_back hb cap
  obtain ⟨hroom, hmost, _, _⟩ := h.cap
  have HM : Hid (∀ j, j < 70 → w.cell? ⟨g, n + j, none⟩ = some (.int .u8 165)) := fun j hj => by
    have hc := World.ownsRow.cellAt h (n + j) (by omega)
    rw [hc, cellsB_append, List.getElem?_append_right (by rw [cellsB_length]; omega), cellsB_length, hn, Nat.add_sub_cancel_left]
    rw [cellsB, mks, List.map_replicate, List.getElem?_replicate, if_pos hj]
    rfl
  rw [← hn] at k1 k2 hroom hs
  clear h hb hn
  go_enter Tryd.func11, Tryd.ntmps11
  go_wp2
  go_loop [6] (fun i => ∃ k : Nat, k ≤ 70 ∧ i = .int .i64 ((n + k : Nat) : Int)) (fun i => n + 70 - (intOf i).toNat)
  case atStart => exact ⟨0, Nat.zero_le _, by go_num⟩
  case round =>
    obtain ⟨k, hk, rfl⟩ := hrel
    by_cases hlt : k < 70
    · have hc := HM.out k hlt
      go_wp2
      go_round
      case rel => exact ⟨k + 1, by omega, by go_num⟩
      case measure => simp [intOf]; omega
    · go_wp2
      go_ret
      exact ⟨rfl, rfl⟩
end Go.Proofs.YtpepjiocjcjeeaaDoor
