/-
  No liner, and one that New did not make; the answers that each statement asks first.
-/
import Derived.Test.YthjcjecimidedaaTk13
import Derived.Lib.SlBytesConst
namespace Go.Proofs.Ythjcjecimidedaa
open Go.RowKit

set_option maxHeartbeats 1000000 in
theorem ztake_nil (v : Value) (w : World) : Calls Try.prog 13 #[.pointer none, v] w fun e w' => e = .returned (.tuple #[.int .i64 0, itV .no]) ∧ Below w.heap.size w w' := by
  have HT := zthere_nil (w.alloc (.cells zit 35))
  have HW : Hid (w.alloc (.cells #[.int .i64 0, .string ⟨#[]⟩, .slice none 0 0, .int .i64 0, .bool false] 35) = w.alloc (.cells zit 35)) := rfl
  have HL : Hid (Lies (w.alloc (.cells zit 35)) w.heap.size zit 35) := Lies.new w _ _
  have HB : Hid (Below w.heap.size w (w.alloc (.cells zit 35))) := (Below.refl _ _).alloc (Nat.le_refl _) _
  generalize w.alloc (.cells zit 35) = W at *
  obtain ⟨⟨a0, a1, a2, a3, a4⟩, b0, b1, b2, b3, b4⟩ := it_cells HL.out
  go_enter Try.func13, Try.ntmps13
  go_wp2_with fail
  rw [HW.out]
  go_step3
  go_wp2_with fail
  refine HT.mono ?_
  rintro e w2 ⟨rfl, rfl⟩
  go_wp2_with fail
  rw [Exit.noGoto_ret]
  refine res_vc rfl w.heap.size 35 zit _ _ ?_ ?_ (((((HL.out.set 0 _).set 1 _).set 2 _).set 3 _).set 4 _) Try.underlying35 rfl (by rw [infoIT]; rfl) ⟨rfl, ?_⟩
  · rfl
  · rfl
  · exact ((((HB.out.setCell (Nat.le_refl _) _).setCell (Nat.le_refl _) _).setCell (Nat.le_refl _) _).setCell (Nat.le_refl _) _).setCell (Nat.le_refl _) _
set_option maxHeartbeats 1000000 in
theorem ztake_zero (v : Value) (b : Nat) (w : World) (h : w.cell? ⟨b, 0, none⟩ = some (.int .i64 0)) (hb : b < w.heap.size) : Calls Try.prog 13 #[.pointer (some ⟨b, 0, none⟩), v] w fun e w' => e = .returned (.tuple #[.int .i64 0, itV .no]) ∧ Below w.heap.size w w' := by
  have HT := zthere_zero b (w.alloc (.cells zit 35)) (((Below.refl w.heap.size w).alloc (Nat.le_refl _) _).cell (p := ⟨b, 0, none⟩) hb |>.trans h)
  clear h hb
  have HW : Hid (w.alloc (.cells #[.int .i64 0, .string ⟨#[]⟩, .slice none 0 0, .int .i64 0, .bool false] 35) = w.alloc (.cells zit 35)) := rfl
  have HL : Hid (Lies (w.alloc (.cells zit 35)) w.heap.size zit 35) := Lies.new w _ _
  have HB : Hid (Below w.heap.size w (w.alloc (.cells zit 35))) := (Below.refl _ _).alloc (Nat.le_refl _) _
  generalize w.alloc (.cells zit 35) = W at *
  obtain ⟨⟨a0, a1, a2, a3, a4⟩, b0, b1, b2, b3, b4⟩ := it_cells HL.out
  go_enter Try.func13, Try.ntmps13
  go_wp2_with fail
  rw [HW.out]
  go_step3
  go_wp2_with fail
  refine HT.mono ?_
  rintro e w2 ⟨rfl, rfl⟩
  go_wp2_with fail
  rw [Exit.noGoto_ret]
  refine res_vc rfl w.heap.size 35 zit _ _ ?_ ?_ (((((HL.out.set 0 _).set 1 _).set 2 _).set 3 _).set 4 _) Try.underlying35 rfl (by rw [infoIT]; rfl) ⟨rfl, ?_⟩
  · rfl
  · rfl
  · exact ((((HB.out.setCell (Nat.le_refl _) _).setCell (Nat.le_refl _) _).setCell (Nat.le_refl _) _).setCell (Nat.le_refl _) _).setCell (Nat.le_refl _) _
end Go.Proofs.Ythjcjecimidedaa
