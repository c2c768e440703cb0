/-
  The sums that the document names, as every statement asks them.
-/
import Derived.Test.YtekjhfhakodooaaSums
namespace Go.Proofs.Ytekjhfhakodooaa
open Go.RowKit

/-- Bytes as cells. -/
def cellsB (l : List UInt8) : List Value := l.map fun b => Value.int .u8 (b.toNat : Int)
theorem cellsB_length (l : List UInt8) : (cellsB l).length = l.length := by simp [cellsB]
theorem cellsB_append (l r : List UInt8) : cellsB (l ++ r) = cellsB l ++ cellsB r := by simp [cellsB]
theorem cellsB_one (l : List UInt8) : ∀ v ∈ cellsB l, v.oneCell' = true := by
  intro v hv
  simp only [cellsB, List.mem_map] at hv
  obtain ⟨b, _, rfl⟩ := hv
  rfl
theorem cellsB_at (l : List UInt8) (j : Nat) (h : j < l.length) : (cellsB l)[j]? = some (.int .u8 (l[j].toNat : Int)) := by
  simp [cellsB, h]
/-- A part of a row of bytes. -/
theorem lies_part {w : World} {g t : Nat} (A l r : List UInt8) (h : Lies w g (cellsB (A ++ l ++ r)).toArray t) : Bts (some ⟨g, A.length, none⟩) l w :=
  .inr ⟨g, A.length, rfl, h.lt, fun j hj => (h.cell (A.length + j)).trans (by
    rw [List.getElem?_toArray, cellsB_at _ _ (by simp; omega)]
    have e : (A ++ l ++ r)[A.length + j]'(by simp; omega) = l[j] := by
      rw [List.getElem_append_left (by simp; omega), List.getElem_append_right (by omega)]
      congr 1
      omega
    rw [e])⟩

def digs : List UInt8 := [49, 50, 51, 52, 53, 54, 55, 56, 57]
theorem digits_any (w : World) : Calls Try.prog 32 #[] w fun e w' => e = .returned (.slice (some ⟨w.heap.size, 0, none⟩) 9 9) ∧ w' = w.alloc (.cells (cellsB digs).toArray 5) := by
  go_enter Try.func32, Try.ntmps32
  go_wp2
  go_ret
  exact ⟨rfl, rfl⟩

theorem known_all : (more 0#32 digs).toNat = 3808858755 := by decide +kernel
theorem known_more : (more (more 0#32 [49, 50, 51, 52]) [53, 54, 55, 56, 57]).toNat = 3808858755 := by decide +kernel
theorem known_join : (join (more 0#32 [49, 50, 51, 52, 53]) (more 0#32 [54, 55, 56, 57]) 4).toNat = 3808858755 := by decide +kernel

theorem of_digs (g : Nat) (w : World) (h : Bts (some ⟨g, 0, none⟩) digs w) :
    Calls Try.prog 11 #[.slice (some ⟨g, 0, none⟩) 9 9] w fun e w' => e = .returned (.int .u32 3808858755) ∧ w' = w := by
  have := of_any (some ⟨g, 0, none⟩) digs 9 w h (by unfold maxLen digs; decide)
  rw [known_all] at this
  exact this
theorem more_digs (g : Nat) (w : World) (h : Bts (some ⟨g, 4, none⟩) [53, 54, 55, 56, 57] w) :
    Calls Try.prog 14 #[.int .u32 ((more 0#32 [49, 50, 51, 52]).toNat : Int), .slice (some ⟨g, 4, none⟩) 5 5] w fun e w' => e = .returned (.int .u32 3808858755) ∧ w' = w := by
  have := more_any (more 0#32 [49, 50, 51, 52]) (some ⟨g, 4, none⟩) [53, 54, 55, 56, 57] 5 w h (by unfold maxLen; decide)
  rw [known_more] at this
  exact this
theorem join_digs (w : World) :
    Calls Try.prog 9 #[.int .u32 ((more 0#32 [49, 50, 51, 52, 53]).toNat : Int), .int .u32 ((more 0#32 [54, 55, 56, 57]).toNat : Int), .int .i64 4] w fun e w' => e = .returned (.tuple #[.int .u32 3808858755, .int .i64 0]) ∧ Below w.heap.size w w' := by
  have := join_any (more 0#32 [49, 50, 51, 52, 53]) (more 0#32 [54, 55, 56, 57]) 4 (by omega) w
  rw [known_join] at this
  exact this

theorem wakes_any (w : World) : Calls Try.prog 10 #[] w fun e w' => e = .returned (.bool true) ∧ Below w.heap.size w w' := by
  have HM : Hid (∀ n : Nat, n ≤ 9 → n ≤ maxLen) := fun n h => by unfold maxLen; omega
  go_enter Try.func10, Try.ntmps10
  go_wp2_with fail
  refine (digits_any _).mono ?_
  rintro e w1 ⟨rfl, hw1⟩
  have HL1 : Hid (Lies w1 w.heap.size (cellsB digs).toArray 5) := by rw [hw1]; exact Lies.new w _ _
  have HB1 : Hid (Below w.heap.size w w1) := by rw [hw1]; exact (Below.refl _ _).alloc (Nat.le_refl _) _
  clear hw1
  have HP : Hid (∀ w2, Below w1.heap.size w1 w2 → Bts (some ⟨w.heap.size, 0, none⟩) digs w2 ∧ Bts (some ⟨w.heap.size, 0, none⟩) [49, 50, 51, 52, 53] w2 ∧ Bts (some ⟨w.heap.size, 5, none⟩) [54, 55, 56, 57] w2 ∧ Bts (some ⟨w.heap.size, 0, none⟩) [49, 50, 51, 52] w2 ∧ Bts (some ⟨w.heap.size, 4, none⟩) [53, 54, 55, 56, 57] w2) := fun w2 hb =>
    ⟨(lies_part [] digs [] HL1.out).below hb, (lies_part [] [49, 50, 51, 52, 53] [54, 55, 56, 57] HL1.out).below hb, (lies_part [49, 50, 51, 52, 53] [54, 55, 56, 57] [] HL1.out).below hb, (lies_part [] [49, 50, 51, 52] [53, 54, 55, 56, 57] HL1.out).below hb, (lies_part [49, 50, 51, 52] [53, 54, 55, 56, 57] [] HL1.out).below hb⟩
  go_wp2_with fail
  go_region_held3 (fun _ => True) (trivial)
    (first
      | (go_at_call 11; refine (of_any (some ⟨w.heap.size, 0, none⟩) [49, 50, 51, 52, 53] 9 w1.drew (HP.out _ (Below.refl _ w1).drew).2.1 (HM.out 5 (by omega))).mono ?_; rintro e w2 ⟨rfl, rfl⟩)
      | (go_at_call 11; refine (of_any (some ⟨w.heap.size, 5, none⟩) [54, 55, 56, 57] 4 w1.drew (HP.out _ (Below.refl _ w1).drew).2.2.1 (HM.out 4 (by omega))).mono ?_; rintro e w2 ⟨rfl, rfl⟩)
      | (go_at_call 9; refine (join_digs w1.drew).mono ?_; rintro e w2 ⟨rfl, hb2⟩))
  rename_i hHeld
  clear hHeld
  have HB2 : Hid (Below w1.heap.size w1 w2) := ⟨hb2.os, hb2.tape, hb2.output, hb2.size, hb2.block⟩
  clear hb2
  go_wp2_with fail
  go_region_held3 (fun _ => True) (trivial)
    (first
      | (go_at_call 11; refine (of_digs _ _ (HP.out _ HB2.out.drew).1).mono ?_; rintro e w3 ⟨rfl, rfl⟩)
      | (go_at_call 11; refine (of_any (some ⟨w.heap.size, 0, none⟩) [49, 50, 51, 52] 9 _ (HP.out _ HB2.out.drew).2.2.2.1 (HM.out 4 (by omega))).mono ?_; rintro e w3 ⟨rfl, rfl⟩)
      | (go_at_call 14; refine (more_digs _ _ (HP.out _ HB2.out.drew).2.2.2.2).mono ?_; rintro e w3 ⟨rfl, rfl⟩))
  go_wp2
  go_ret
  exact ⟨rfl, (HB1.out.trans (HB2.out.mono HB1.out.size)).drew⟩
end Go.Proofs.Ytekjhfhakodooaa
