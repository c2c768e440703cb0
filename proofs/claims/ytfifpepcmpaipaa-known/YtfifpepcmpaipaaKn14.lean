/-
  The document's examples: a table of bodies.
-/
import Derived.Test.YtfifpepcmpaipaaWk14
import Derived.Test.YtfifpepcmpaipaaOwn7
import Derived.Lib.ConvBytes
namespace Go.Proofs.Ytfifpepcmpaipaa
open Go.RowKit

/-- The rows: a body, a bound, what Check tells. -/
def kt : List (List UInt8 × Int × Int) := [([], 1, 0), ([97, 98, 13, 10], 2, 0), ([97, 98, 99, 13, 10], 2, 140), ([97, 98], 9, 141), ([97, 10, 98, 13, 10], 9, 130), ([97, 98, 13, 10, 13], 9, 130), ([97, 13, 10], 0, 2), ([97, 13, 10], 16777217, 2), ([97, 13, 10], 16777216, 0)]
def celK (x : List UInt8 × Int × Int) : List Value := [.string ⟨x.1.toArray⟩, .int .i64 x.2.1, .int .i64 x.2.2]
theorem celK_length (x : List UInt8 × Int × Int) : (celK x).length = 3 := rfl
theorem kt_check (j : Nat) (hj : j < kt.length) (ad : Option Addr) (cap : Nat) (w : World) (hb : Bts ad kt[j].1 w) : Calls Try.prog 10 #[.slice ad kt[j].1.length cap, .int .i64 kt[j].2.1] w fun e w' => e = .returned (.int .i64 kt[j].2.2) ∧ w' = w := by
  rcases (by simp [kt] at hj; omega : j = 0 ∨ j = 1 ∨ j = 2 ∨ j = 3 ∨ j = 4 ∨ j = 5 ∨ j = 6 ∨ j = 7 ∨ j = 8) with rfl | rfl | rfl | rfl | rfl | rfl | rfl | rfl | rfl
  · exact dcheck_ok ad [] 0 cap 1 rfl (by decide) (by decide) (by decide) w hb
  · exact dcheck_ok ad [97, 98, 13, 10] 4 cap 2 rfl (by decide) (by decide) (by decide) w hb
  · exact dcheck_ok ad [97, 98, 99, 13, 10] 5 cap 2 rfl (by decide) (by decide) (by decide) w hb
  · exact dcheck_ok ad [97, 98] 2 cap 9 rfl (by decide) (by decide) (by decide) w hb
  · exact dcheck_ok ad [97, 10, 98, 13, 10] 5 cap 9 rfl (by decide) (by decide) (by decide) w hb
  · exact dcheck_ok ad [97, 98, 13, 10, 13] 5 cap 9 rfl (by decide) (by decide) (by decide) w hb
  · exact dcheck_arg ad 3 cap 0 (by decide) w
  · exact dcheck_arg ad 3 cap 16777217 (by decide) w
  · exact dcheck_ok ad [97, 13, 10] 3 cap 16777216 rfl (by decide) (by decide) (by decide) w hb
theorem kt_cells {w : World} {g n c : Nat} (h : Ow celK 24 3 w (.slice (some ⟨g, 0, none⟩) n c) kt) (j : Nat) (hj : j < kt.length) : w.cell? ⟨g, j * 3, none⟩ = some (.string ⟨kt[j].1.toArray⟩) ∧ w.cell? ⟨g, j * 3 + 1, none⟩ = some (.int .i64 kt[j].2.1) ∧ w.cell? ⟨g, j * 3 + 2, none⟩ = some (.int .i64 kt[j].2.2) := by
  have hl : (kt.flatMap celK).length = kt.length * 3 := flat_length celK_length kt
  refine ⟨?_, ?_, ?_⟩
  · rw [h.cells (j * 3) (by omega)]; exact flat_at celK_length kt j 0 hj (by decide)
  · rw [h.cells (j * 3 + 1) (by omega)]; exact flat_at celK_length kt j 1 hj (by decide)
  · rw [h.cells (j * 3 + 2) (by omega)]; exact flat_at celK_length kt j 2 hj (by decide)
/-- A text's bytes in new memory. -/
theorem conv_bytes (w : World) (s : List UInt8) : ∃ c w2, (convert 9 27 (.string ⟨s.toArray⟩)).run Try.prog w = .ok (.slice (some ⟨w.heap.size, 0, none⟩) s.length c) w2 ∧ Bts (some ⟨w.heap.size, 0, none⟩) s w2 ∧ Below w.heap.size w w2 := by
  refine ⟨_, _, Lib.run_convert_string_bytes w 9 27 5 ⟨s.toArray⟩ Try.underlying9 Try.underlying27 Try.underlying5, ?_, ?_⟩
  · refine .inr ⟨w.heap.size, 0, rfl, by rw [Lib.bytesWorld_size]; omega, fun j hj => ?_⟩
    rw [Nat.zero_add, Lib.bytesWorld_cell w 5 ⟨s.toArray⟩ j (show j < s.toArray.size by simpa using hj)]
    simp [List.getD, hj]
  · exact ⟨rfl, rfl, rfl, by rw [Lib.bytesWorld_size]; omega, fun k hk => Lib.bytesWorld_at_old w 5 _ k hk⟩
/-- The second table: what is handed in, how many bytes are taken, what is told, what is held. -/
def kd : Nat → List UInt8 × Nat × Im × Nat
  | 0 => ([97, 98, 13, 10, 46, 46], 6, .body [97, 98, 13, 10, 46], 0)
  | 1 => ([99, 13], 2, .body [99, 13], 0)
  | 2 => ([10, 46], 2, .body [10], 1)
  | 3 => ([13], 1, .no, 2)
  | 4 => ([10, 81, 85, 73, 84, 13, 10], 1, .fin 0 false, 0)
  | _ => ([120], 0, .no, 0)
/-- The reader ahead of each row. -/
def stK : Nat → Ds
  | 0 => Ds.new
  | j + 1 => stOf ((stK j).run 9 99 (kd j).1).2.1 ((stK j).run 9 99 (kd j).1).2.2
theorem kd_ok (j : Nat) (hj : j < 6) : ((stK j).run 9 99 (kd j).1).1 = (kd j).2.1 ∧ imOf 99 ((stK j).run 9 99 (kd j).1).2.1 ((stK j).run 9 99 (kd j).1).2.2 = (kd j).2.2.1 ∧ (stK (j + 1)).held = (kd j).2.2.2 ∧ 1 ≤ (stK j).p ∧ (stK j).p ≤ 7 ∧ (stK j).size ≤ 99 ∧ (stK j).row ≤ 99 ∧ (kd j).1.length ≤ 99 := by
  rcases (by omega : j = 0 ∨ j = 1 ∨ j = 2 ∨ j = 3 ∨ j = 4 ∨ j = 5) with rfl | rfl | rfl | rfl | rfl | rfl
  all_goals exact ⟨rfl, rfl, rfl, by decide, by decide, by decide, by decide, by decide⟩
/-- A row's cells, with the slice of its bytes. -/
def celD (x : (List UInt8 × Nat × Im × Nat) × Value) : List Value := [.string ⟨x.1.1.toArray⟩, .int .i64 (x.1.2.1 : Int), .int .i64 (imK x.1.2.2.1), .string ⟨#[]⟩, x.2, .int .i64 (imY x.1.2.2.1), .bool (imH x.1.2.2.1), .int .i64 (x.1.2.2.2 : Int)]
theorem celD_length (x : (List UInt8 × Nat × Im × Nat) × Value) : (celD x).length = 8 := rfl
def vsD (a b c : Nat) : Nat → Value
  | 0 => .slice (some ⟨a, 0, none⟩) 5 5
  | 1 => .slice (some ⟨b, 0, none⟩) 2 2
  | 2 => .slice (some ⟨c, 0, none⟩) 1 1
  | _ => .slice none 0 0
def tbD (a b c : Nat) : List ((List UInt8 × Nat × Im × Nat) × Value) := (List.range 6).map fun j => (kd j, vsD a b c j)
theorem tbD_cells {w : World} {g n c x y z : Nat} (h : Ow celD 35 8 w (.slice (some ⟨g, 0, none⟩) n c) (tbD x y z)) (j : Nat) (hj : j < 6) : ∀ i, i < 8 → w.cell? ⟨g, j * 8 + i, none⟩ = (celD (kd j, vsD x y z j))[i]? := fun i hi => by
  have hl : ((tbD x y z).flatMap celD).length = (tbD x y z).length * 8 := flat_length celD_length _
  have h6 : (tbD x y z).length = 6 := by simp [tbD]
  rw [h.cells (j * 8 + i) (by omega), flat_at celD_length (tbD x y z) j i (by omega) hi]
  simp [tbD]
theorem tbD_len (a b c : Nat) : (tbD a b c).length = 6 := by simp [tbD]
theorem tbD_own (w : World) (a b c : Nat) : Ow celD 35 8 (w.alloc (.cells ((tbD a b c).flatMap celD).toArray 35)) (.slice (some ⟨w.heap.size, 0, none⟩) 6 6) (tbD a b c) := by
  have hl : ((tbD a b c).flatMap celD).length = 48 := by rw [flat_length celD_length, tbD_len]
  generalize hx : (tbD a b c).flatMap celD = X at *
  unfold Ow
  rw [hx, tbD_len]
  exact ⟨by rw [hl], .inr ⟨w.heap.size, 6, X.toArray, rfl, Nat.zero_le _, heap_alloc_last w _, Nat.le_refl _, by unfold maxLen; omega, by simp [hl], by rw [List.toList_toArray, List.take_of_length_le (by omega)]⟩⟩
/-- The bytes of a row. -/
theorem vsD_bts {w : World} {a b c : Nat} (ha : Bts (some ⟨a, 0, none⟩) [97, 98, 13, 10, 46] w) (hb : Bts (some ⟨b, 0, none⟩) [99, 13] w) (hc : Bts (some ⟨c, 0, none⟩) [10] w) (j : Nat) (hj : j < 6) : ∃ va n cc, vsD a b c j = .slice va n cc ∧ n = (imB (kd j).2.2.1).length ∧ Bts va (imB (kd j).2.2.1) w := by
  rcases (by omega : j = 0 ∨ j = 1 ∨ j = 2 ∨ j = 3 ∨ j = 4 ∨ j = 5) with rfl | rfl | rfl | rfl | rfl | rfl
  · exact ⟨_, _, _, rfl, rfl, ha⟩
  · exact ⟨_, _, _, rfl, rfl, hb⟩
  · exact ⟨_, _, _, rfl, rfl, hc⟩
  · exact ⟨_, _, _, rfl, rfl, .inl rfl⟩
  · exact ⟨_, _, _, rfl, rfl, .inl rfl⟩
  · exact ⟨_, _, _, rfl, rfl, .inl rfl⟩
def wkA : List UInt8 := [46, 97, 13, 10, 98, 13, 10, 13, 10, 46, 46, 13, 10]
theorem wkA_stuff : stuffL wkA = [46, 46, 97, 13, 10, 98, 13, 10, 13, 10, 46, 46, 46, 13, 10, 46, 13, 10] := by decide
theorem wkA_whole : wholeI wkA = 0 := by decide
end Go.Proofs.Ytfifpepcmpaipaa
