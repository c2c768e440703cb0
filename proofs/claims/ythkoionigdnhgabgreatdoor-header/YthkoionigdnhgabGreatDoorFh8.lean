/-
  The contracts of domain.fourthHost and of literal's told.
-/
import Derived.Test.YthkoionigdnhgabGreatDoorWt8
import Derived.Test.YthkoionigdnhgabGreatDoorDmR
namespace Go.Proofs.YthkoionigdnhgabGreatDoor
open Go.RowKit

theorem infoHo : (Tryz.prog.info? 27).map (·.size) = some 18 := by kernel_rfl
/-- A host's cells. -/
def hostC (h : Ho) : Array Value := (Value.int .i64 h.k :: Value.string ⟨h.n.toArray⟩ :: h.a.map fun n => Value.int .u8 (n : Nat)).toArray
def hostV (h : Ho) : Value := .agg (hostC h)
theorem hostC_size (h : Ho) (ha : h.a.length = 16) : (hostC h).size = 18 := by simp [hostC, ha]
theorem hostC_one (h : Ho) : (hostC h).all (·.oneCell') = true := by
  rw [Array.all_eq_true_iff_forall_mem]
  intro v hv
  unfold hostC at hv
  rw [List.mem_toArray] at hv
  rcases List.mem_cons.1 hv with rfl | hv
  · rfl
  · rcases List.mem_cons.1 hv with rfl | hv
    · rfl
    · obtain ⟨n, _, rfl⟩ := List.mem_map.1 hv
      rfl
set_option maxHeartbeats 4000000 in
set_option maxRecDepth 100000 in
theorem fh_any (x y z u : Nat) (w : World) : Calls Tryz.prog 76 #[.agg (bytesV [x, y, z, u])] w fun e w' => e = .returned (hostV (fourH [x, y, z, u])) ∧ Below w.heap.size w w' := by
  have hu5 : (Tryz.prog.info? 5).map (·.size) = some 1 := by kernel_rfl
  have hL0 : Hid (Lies (((w.alloc (.cells (bytesV [x, y, z, u]) 128)).alloc (.cells #[.int .i64 0, .string ⟨#[]⟩, .int .u8 0, .int .u8 0, .int .u8 0, .int .u8 0, .int .u8 0, .int .u8 0, .int .u8 0, .int .u8 0, .int .u8 0, .int .u8 0, .int .u8 0, .int .u8 0, .int .u8 0, .int .u8 0, .int .u8 0, .int .u8 0] 27)).alloc (.cells #[.int .i64 2, .string ⟨#[]⟩, .int .u8 0, .int .u8 0, .int .u8 0, .int .u8 0, .int .u8 0, .int .u8 0, .int .u8 0, .int .u8 0, .int .u8 0, .int .u8 0, .int .u8 0, .int .u8 0, .int .u8 0, .int .u8 0, .int .u8 0, .int .u8 0] 27)) w.heap.size (bytesV [x, y, z, u]) 128) := ((Lies.new w _ _).alloc _).alloc _
  have hL1 : Hid (Lies (((w.alloc (.cells (bytesV [x, y, z, u]) 128)).alloc (.cells #[.int .i64 0, .string ⟨#[]⟩, .int .u8 0, .int .u8 0, .int .u8 0, .int .u8 0, .int .u8 0, .int .u8 0, .int .u8 0, .int .u8 0, .int .u8 0, .int .u8 0, .int .u8 0, .int .u8 0, .int .u8 0, .int .u8 0, .int .u8 0, .int .u8 0] 27)).alloc (.cells #[.int .i64 2, .string ⟨#[]⟩, .int .u8 0, .int .u8 0, .int .u8 0, .int .u8 0, .int .u8 0, .int .u8 0, .int .u8 0, .int .u8 0, .int .u8 0, .int .u8 0, .int .u8 0, .int .u8 0, .int .u8 0, .int .u8 0, .int .u8 0, .int .u8 0] 27)) (w.heap.size + 1) #[.int .i64 0, .string ⟨#[]⟩, .int .u8 0, .int .u8 0, .int .u8 0, .int .u8 0, .int .u8 0, .int .u8 0, .int .u8 0, .int .u8 0, .int .u8 0, .int .u8 0, .int .u8 0, .int .u8 0, .int .u8 0, .int .u8 0, .int .u8 0, .int .u8 0] 27) := (new_one w _ _ _).alloc _
  have hL2 : Hid (Lies (((w.alloc (.cells (bytesV [x, y, z, u]) 128)).alloc (.cells #[.int .i64 0, .string ⟨#[]⟩, .int .u8 0, .int .u8 0, .int .u8 0, .int .u8 0, .int .u8 0, .int .u8 0, .int .u8 0, .int .u8 0, .int .u8 0, .int .u8 0, .int .u8 0, .int .u8 0, .int .u8 0, .int .u8 0, .int .u8 0, .int .u8 0] 27)).alloc (.cells #[.int .i64 2, .string ⟨#[]⟩, .int .u8 0, .int .u8 0, .int .u8 0, .int .u8 0, .int .u8 0, .int .u8 0, .int .u8 0, .int .u8 0, .int .u8 0, .int .u8 0, .int .u8 0, .int .u8 0, .int .u8 0, .int .u8 0, .int .u8 0, .int .u8 0] 27)) (w.heap.size + 1 + 1) #[.int .i64 2, .string ⟨#[]⟩, .int .u8 0, .int .u8 0, .int .u8 0, .int .u8 0, .int .u8 0, .int .u8 0, .int .u8 0, .int .u8 0, .int .u8 0, .int .u8 0, .int .u8 0, .int .u8 0, .int .u8 0, .int .u8 0, .int .u8 0, .int .u8 0] 27) := new_two w _ _ _ _
  have hB : Hid (Below w.heap.size w (((w.alloc (.cells (bytesV [x, y, z, u]) 128)).alloc (.cells #[.int .i64 0, .string ⟨#[]⟩, .int .u8 0, .int .u8 0, .int .u8 0, .int .u8 0, .int .u8 0, .int .u8 0, .int .u8 0, .int .u8 0, .int .u8 0, .int .u8 0, .int .u8 0, .int .u8 0, .int .u8 0, .int .u8 0, .int .u8 0, .int .u8 0] 27)).alloc (.cells #[.int .i64 2, .string ⟨#[]⟩, .int .u8 0, .int .u8 0, .int .u8 0, .int .u8 0, .int .u8 0, .int .u8 0, .int .u8 0, .int .u8 0, .int .u8 0, .int .u8 0, .int .u8 0, .int .u8 0, .int .u8 0, .int .u8 0, .int .u8 0, .int .u8 0] 27))) := (((Below.refl _ _).alloc (Nat.le_refl _) _).alloc (by simp) _).alloc (by simp; omega) _
  go_enter Tryz.func76, Tryz.ntmps76
  go_wp2_with fail
  generalize ((w.alloc (.cells (bytesV [x, y, z, u]) 128)).alloc (.cells #[.int .i64 0, .string ⟨#[]⟩, .int .u8 0, .int .u8 0, .int .u8 0, .int .u8 0, .int .u8 0, .int .u8 0, .int .u8 0, .int .u8 0, .int .u8 0, .int .u8 0, .int .u8 0, .int .u8 0, .int .u8 0, .int .u8 0, .int .u8 0, .int .u8 0] 27)).alloc (.cells #[.int .i64 2, .string ⟨#[]⟩, .int .u8 0, .int .u8 0, .int .u8 0, .int .u8 0, .int .u8 0, .int .u8 0, .int .u8 0, .int .u8 0, .int .u8 0, .int .u8 0, .int .u8 0, .int .u8 0, .int .u8 0, .int .u8 0, .int .u8 0, .int .u8 0] 27) = wA at hL0 hL1 hL2 hB ⊢
  obtain ⟨cs, hcs⟩ : ∃ cs : List Value, cs = [.int .u8 (x : Nat), .int .u8 (y : Nat), .int .u8 (z : Nat), .int .u8 (u : Nat)] := ⟨_, rfl⟩
  have hL2d : Lies wA.drew (w.heap.size + 1 + 1) #[.int .i64 2, .string ⟨#[]⟩, .int .u8 0, .int .u8 0, .int .u8 0, .int .u8 0, .int .u8 0, .int .u8 0, .int .u8 0, .int .u8 0, .int .u8 0, .int .u8 0, .int .u8 0, .int .u8 0, .int .u8 0, .int .u8 0, .int .u8 0, .int .u8 0] 27 := hL2.out
  have hL0d : Lies wA.drew w.heap.size (bytesV [x, y, z, u]) 128 := hL0.out
  have hL1d : Lies wA.drew (w.heap.size + 1) #[.int .i64 0, .string ⟨#[]⟩, .int .u8 0, .int .u8 0, .int .u8 0, .int .u8 0, .int .u8 0, .int .u8 0, .int .u8 0, .int .u8 0, .int .u8 0, .int .u8 0, .int .u8 0, .int .u8 0, .int .u8 0, .int .u8 0, .int .u8 0, .int .u8 0] 27 := hL1.out
  have hcp := run_copy_row (P := Tryz.prog) wA.drew 53 53 3 5 (w.heap.size + 1 + 1) 2 16 16 ⟨w.heap.size, 0, none⟩ 4 4 #[.int .i64 2, .string ⟨#[]⟩, .int .u8 0, .int .u8 0, .int .u8 0, .int .u8 0, .int .u8 0, .int .u8 0, .int .u8 0, .int .u8 0, .int .u8 0, .int .u8 0, .int .u8 0, .int .u8 0, .int .u8 0, .int .u8 0, .int .u8 0, .int .u8 0] 27 cs Tryz.underlying53 hu5 hL2d (by rw [hcs]; rfl) (fun j v hv => by
    rw [Addr.add_lit, Nat.zero_add, hL0d.cell]
    rw [hcs] at hv
    unfold bytesV
    rw [List.getElem?_toArray]
    exact hv) (by rw [hcs]; simp) (fun v hv => by
    rw [hcs] at hv
    simp at hv
    rcases hv with rfl | rfl | rfl | rfl <;> rfl)
  have hrow : (((#[.int .i64 2, .string ⟨#[]⟩, .int .u8 0, .int .u8 0, .int .u8 0, .int .u8 0, .int .u8 0, .int .u8 0, .int .u8 0, .int .u8 0, .int .u8 0, .int .u8 0, .int .u8 0, .int .u8 0, .int .u8 0, .int .u8 0, .int .u8 0, .int .u8 0] : Array Value).toList.take 2 ++ cs ++ (#[.int .i64 2, .string ⟨#[]⟩, .int .u8 0, .int .u8 0, .int .u8 0, .int .u8 0, .int .u8 0, .int .u8 0, .int .u8 0, .int .u8 0, .int .u8 0, .int .u8 0, .int .u8 0, .int .u8 0, .int .u8 0, .int .u8 0, .int .u8 0, .int .u8 0] : Array Value).toList.drop (2 + cs.length)).toArray) = hostC (fourH [x, y, z, u]) := by rw [hcs]; rfl
  have hcl : cs.length = 4 := by rw [hcs]; rfl
  rw [hrow, hcl] at hcp
  have HL3 : Hid (Lies (wA.drew.setRow (w.heap.size + 1 + 1) (hostC (fourH [x, y, z, u]))) (w.heap.size + 1 + 1) (hostC (fourH [x, y, z, u])) 27) := hL2d.row _
  have HL4 : Hid (Lies (wA.drew.setRow (w.heap.size + 1 + 1) (hostC (fourH [x, y, z, u]))) (w.heap.size + 1) #[.int .i64 0, .string ⟨#[]⟩, .int .u8 0, .int .u8 0, .int .u8 0, .int .u8 0, .int .u8 0, .int .u8 0, .int .u8 0, .int .u8 0, .int .u8 0, .int .u8 0, .int .u8 0, .int .u8 0, .int .u8 0, .int .u8 0, .int .u8 0, .int .u8 0] 27) := hL1d.row_other (show w.heap.size + 1 ≠ w.heap.size + 1 + 1 by omega) _
  have HB2 : Hid (Below w.heap.size w (wA.drew.setRow (w.heap.size + 1 + 1) (hostC (fourH [x, y, z, u])))) := below_row hB.out.drew (show w.heap.size ≤ w.heap.size + 1 + 1 by omega) _
  have hsz := hostC_size (fourH [x, y, z, u]) rfl
  have hon := hostC_one (fourH [x, y, z, u])
  have HFH : Hid (hostV (fourH [x, y, z, u]) = .agg (hostC (fourH [x, y, z, u]))) := rfl
  have hz : w.heap.size + 1 + 1 < wA.heap.size := hL2.out.lt
  generalize hostC (fourH [x, y, z, u]) = HC at hcp HL3 HL4 HB2 hsz hon HFH
  clear hrow hcl hcs hL0 hL1 hL2 hB hu5 hL0d hL1d hL2d
  go_region
  generalize wA.drew.setRow (w.heap.size + 1 + 1) HC = wB at HL3 HL4 HB2 ⊢
  have hz2 := HL3.out.lt
  clear hcp
  go_wp2_with (first | (refine wpList_load_row rfl 27 _ rfl (w.heap.size + 1 + 1) rfl HC 27 _ HL3.out Tryz.underlying27 rfl (by rw [hsz]; exact infoHo) ?_) | (refine wpList_store_row rfl 27 _ _ rfl (w.heap.size + 1) rfl _ HC rfl 27 HL4.out (by rw [hsz]; exact infoHo) (by rw [hsz]; rfl) hon rfl ?_))
  exact bodyPost_ret (results_row (p := 2) (by kernel_rfl) _ _ (w.heap.size + 1) 27 _ (0, 0) _ rfl (HL4.out.row _) Tryz.underlying27 rfl (by rw [hsz]; exact infoHo)) rfl ⟨by rw [HFH.out], below_row HB2.out (by omega) _⟩
end Go.Proofs.YthkoionigdnhgabGreatDoor
