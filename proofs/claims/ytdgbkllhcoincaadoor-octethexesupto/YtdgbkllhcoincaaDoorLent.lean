/-
  The contracts of the statements' own lent and kept.
-/
import Derived.Test.YtdgbkllhcoincaaDoorOwn
import Derived.Test.YtdgbkllhcoincaaDoorRow
import Derived.Lib.AppendStr
namespace Go.Proofs.YtdgbkllhcoincaaDoor
open Go.RowKit

/-- The bytes of s lie in block g from its head, seventy marks behind them. -/
structure LentAt (s : ByteArray) (g cap : Nat) (w : World) : Prop where
  row : RowAt s g 0 w
  mark : ∀ j, j < 70 → w.cell? ⟨g, s.size + j, none⟩ = some (.int .u8 165)
  room : s.size + 70 ≤ cap
  most : cap ≤ maxLen

theorem LentAt.below {s : ByteArray} {g cap B : Nat} {w w' : World} (h : LentAt s g cap w) (hb : Below B w w') (hg : g < B) : LentAt s g cap w' :=
  ⟨h.row.below hb hg, fun j hj => (hb.cell (p := ⟨g, s.size + j, none⟩) hg).trans (h.mark j hj), h.room, h.most⟩

def marks (k : Nat) : List Value := List.replicate k (.int .u8 165)

theorem lent_of {s : ByteArray} {w : World} {base g cap : Nat} (h : w.ownsRow base 5 1 (.slice (some ⟨g, 0, none⟩) (s.size + 70) cap) (s.size + 70) (Lib.strCells s ++ marks 70)) : LentAt s g cap w := by
  have hl : (Lib.strCells s).length = s.size := Lib.strCells_length s
  have hc : ∀ j, j < s.size + 70 → w.cell? ⟨g, j, none⟩ = (Lib.strCells s ++ marks 70)[j]? := fun j hj => h.cellAt j (by omega)
  refine ⟨fun j hj => ?_, fun j hj => ?_, ?_, ?_⟩
  · rw [Nat.zero_add, hc j (by omega), List.getElem?_append_left (by omega)]
    have hj' : j < s.data.toList.length := by simpa using hj
    simp only [Lib.strCells, List.getElem?_map, List.getElem?_eq_getElem hj', Option.map_some]
    rfl
  · rw [hc _ (by omega), List.getElem?_append_right (by omega), hl, Nat.add_sub_cancel_left]
    rw [marks, List.getElem?_replicate, if_pos hj]
  · obtain ⟨_, ⟨hn, _⟩ | ⟨g', cap', cur, hv, _, _, hnc, hcm, _⟩⟩ := h
    · cases hn
    · injection hv with _ _ hcap
      omega
  · obtain ⟨_, ⟨hn, _⟩ | ⟨g', cap', cur, hv, _, _, hnc, hcm, _⟩⟩ := h
    · cases hn
    · injection hv with _ _ hcap
      omega

theorem slice_of_owns {w : World} {base n : Nat} {v : Value} {xs : List Value} (h : w.ownsRow base 5 1 v n xs) (hn : 0 < n) : ∃ g cap, v = .slice (some ⟨g, 0, none⟩) n cap ∧ base ≤ g ∧ g < w.heap.size ∧ n ≤ cap ∧ cap ≤ maxLen := by
  obtain ⟨_, ⟨_, h0⟩ | ⟨g, cap, cur, rfl, hg, hh, hnc, hcm, _⟩⟩ := h
  · omega
  · refine ⟨g, cap, rfl, hg, ?_, hnc, hcm⟩
    rcases Nat.lt_or_ge g w.heap.size with h' | h'
    · exact h'
    · rw [Array.getElem?_eq_none h'] at hh
      cases hh

set_option maxRecDepth 100000 in
set_option maxHeartbeats 1000000 in
theorem lent_any (s : ByteArray) (w : World) (hs : s.size ≤ 140737488351232) :
    Calls Tryd.prog 11 #[.string s] w fun e w' => ∃ g cap, e = .returned (.slice (some ⟨g, 0, none⟩) s.size cap) ∧ w.heap.size ≤ g ∧ g < w'.heap.size ∧ LentAt s g cap w' ∧ Below w.heap.size w w' := by
  obtain ⟨i0, hi, hz0, hz1, hz2⟩ := info_parts info5
  go_enter Tryd.func11, Tryd.ntmps11
  go_wp2_with (at_make; refine wpList_make_own _ rfl _ _ 25 rfl w.heap.size 5 i0 (.int .u8 0) 1 Tryd.underlying25 hi hz0 hz1 .i64 .i64 _ (s.size + 70) rfl rfl (by omega) (by rw [hz2]; omega) (by unfold maxLen; omega) (Nat.le_refl _) ?_)
  intro w1 hown hgrow
  have HB : Hid (Below w.heap.size w w1) := (Below.refl _ _).grown hgrow (Nat.le_refl _) (fun k h => by cases h)
  clear hgrow
  have hsz := HB.out.size
  go_wp2_with (at_builtin; refine Lib.wpList_append_own_string _ rfl _ _ 25 9 rfl w.heap.size 5 i0 Tryd.underlying25 Tryd.underlying9 hi hz0 hz1 hz2 _ _ _ rfl hown s rfl (by unfold maxLen; omega) (by omega) hsz ?_)
  intro v2 w2 hown2 hgrow2 _
  have HB2 : Hid (Below w.heap.size w w2) := HB.out.grown hgrow2 hsz (fun q hq => (hown.lt q hq).1)
  clear hown hgrow2 HB hsz
  have HO : Hid (w2.ownsRow w.heap.size 5 1 v2 (s.size + 0) (Lib.strCells s ++ marks 0)) := by
    show w2.ownsRow _ _ _ _ _ _
    simpa [marks] using hown2
  clear hown2
  go_wp2
  go_loopw [3, 11] (fun v i wr => ∃ k : Nat, k ≤ 70 ∧ i = .int .i64 k ∧ Hid (wr.ownsRow w.heap.size 5 1 v (s.size + k) (Lib.strCells s ++ marks k)) ∧ Hid (Below w.heap.size w wr)) (fun _ i _ => 70 - (intOf i).toNat)
  case atStart => exact ⟨0, Nat.zero_le _, rfl, HO, HB2⟩
  case round =>
    obtain ⟨k, hk, rfl, HO, HB⟩ := hrel
    by_cases hlt : k < 70
    · have hown := HO.out
      go_wp2_with (at_builtin; refine wpList_append_own _ rfl _ _ 25 rfl w.heap.size 5 i0 (.int .u8 0) 1 1 Tryd.underlying25 hi hz0 hz1 hz2 rfl (by decide) _ _ _ rfl (hown.alloc _) ⟨wr.heap.size, 0, none⟩ 1 1 [.int .u8 165] rfl rfl ?c1 ?c2 ?c3 ?c4 ?c5 ?_)
      case c1 =>
        intro j u hj
        match j, hj with
        | 0, hj => simp at hj; subst hj; simp [Addr.add]
      case c2 => intro u hu; simp at hu; subst hu; rfl
      case c3 => unfold maxLen; omega
      case c4 => omega
      case c5 => have := HB.out.size; simp; omega
      intro v' w3 hown' hgrow _
      have R : Hid (w3.ownsRow w.heap.size 5 1 v' (s.size + (k + 1)) (Lib.strCells s ++ marks (k + 1))) := by
        show w3.ownsRow _ _ _ _ _ _
        have e : Lib.strCells s ++ marks (k + 1) = Lib.strCells s ++ (marks k ++ [Value.int .u8 165]) := by
          rw [marks, marks, List.replicate_succ']
        rw [e, ← Nat.add_assoc]
        exact hown'
      have HB3 : Hid (Below w.heap.size w w3) := (HB.out.alloc HB.out.size _).grown hgrow (by have := HB.out.size; simp; omega) (fun q hq => (hown.lt q hq).1)
      clear hown' hgrow hown HB HO
      go_wp2
      go_roundw
      case rel => exact ⟨k + 1, by omega, by go_num, R, HB3⟩
      case measure => simp [intOf]; omega
    · obtain rfl : k = 70 := by omega
      obtain ⟨g, cap, hv, hg, hg2, hnc, hcm⟩ := slice_of_owns HO.out (by omega)
      have hown := HO.out
      rw [hv] at hown
      have HL : Hid (LentAt s g cap wr) := lent_of hown
      clear hown HO
      unfold maxLen at hcm
      rw [hv]
      have hq : (s.size : Int) ≤ (cap : Int) := by omega
      go_wp2
      go_ret
      exact ⟨g, cap, rfl, hg, hg2, HL.out, HB.out⟩

theorem lent_back {s : ByteArray} {g cap : Nat} {w : World} (h : RowAt s g 0 w) : (convert 25 9 (.slice (some ⟨g, 0, none⟩) s.size cap)).run Tryd.prog w = .ok (.string s) w := by
  have hl : s.data.toList.length = s.size := by rw [Array.length_toList]; rfl
  have := run_convert_bytes_back (P := Tryd.prog) w 25 9 5 ⟨g, 0, none⟩ cap s.data.toList Tryd.underlying25 Tryd.underlying5 Tryd.underlying9 (fun j hj => by
    rw [Addr.add_lit, h j (by omega)]
    rfl)
  rw [hl] at this
  simpa using this

set_option maxRecDepth 100000 in
set_option maxHeartbeats 1000000 in
theorem kept_any (s : ByteArray) (g cap : Nat) (w : World) (h : LentAt s g cap w) (hs : s.size ≤ 140737488351232) :
    Calls Tryd.prog 16 #[.slice (some ⟨g, 0, none⟩) s.size cap, .string s] w fun e w' => e = .returned (.bool true) ∧ w' = w := by
  have hback := lent_back (cap := cap) h.row
  have hroom := h.room
  have hmost := h.most
  unfold maxLen at hmost
  have HM : Hid (∀ j, j < 70 → w.cell? ⟨g, s.size + j, none⟩ = some (.int .u8 165)) := h.mark
  clear h
  go_enter Tryd.func16, Tryd.ntmps16
  go_wp2
  go_loop [6] (fun i => ∃ k : Nat, k ≤ 70 ∧ i = .int .i64 ((s.size + k : Nat) : Int)) (fun i => s.size + 70 - (intOf i).toNat)
  case atStart => exact ⟨0, Nat.zero_le _, by go_num⟩
  case round =>
    obtain ⟨k, hk, rfl⟩ := hrel
    by_cases hlt : k < 70
    · have hc := HM.out k hlt
      go_wp2
      go_round
      case rel => exact ⟨k + 1, by omega, by go_num⟩
      case measure => simp [intOf]; omega
    · go_wp2
      go_ret
      exact ⟨rfl, rfl⟩
end Go.Proofs.YtdgbkllhcoincaaDoor
