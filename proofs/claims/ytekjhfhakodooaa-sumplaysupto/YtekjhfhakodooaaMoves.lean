/-
  The moves that are handed on as values: by one byte, twice as far, and Join.
-/
import Derived.Test.YtekjhfhakodooaaRowl
import Derived.Deep.RegionHeld3
namespace Go.Proofs.Ytekjhfhakodooaa
open Go.RowKit

theorem one_shl (k : Nat) : (2 ^ k % 4294967296 : Int) = ((1#32 <<< k).toNat : Int) := by
  have h1 : (1#32 <<< k).toNat = 2 ^ k % 4294967296 := by rw [BitVec.toNat_shiftLeft, Nat.shiftLeft_eq]; rw [show (1#32).toNat = 1 from rfl, Nat.one_mul]
  rw [h1, Int.natCast_emod, Int.natCast_pow]
  rfl

theorem new_two (w : World) (a b : Obj) (cs : Array Value) (t : TypeId) : Lies (((w.alloc a).alloc b).alloc (.cells cs t)) (w.heap.size + 2) cs t := by
  simpa using Lies.new ((w.alloc a).alloc b) cs t
theorem new_one (w : World) (a : Obj) (cs : Array Value) (t : TypeId) : Lies ((w.alloc a).alloc (.cells cs t)) (w.heap.size + 1) cs t := by
  simpa using Lies.new (w.alloc a) cs t

set_option maxRecDepth 100000 in
theorem oneb_any (w : World) : Calls Try.prog 29 #[] w fun e w' => e = .returned (.agg (rowOf (dnN 8))) ∧ Below w.heap.size w w' := by
  go_enter Try.func29, Try.ntmps29
  go_wp2
  rw [zeros_spelt]
  go_loopw [3] (fun i wr => ∃ (k : Nat) (c : Array Value), k ≤ 32 ∧ i = .int .i64 k ∧ Hid (Lies wr w.heap.size zeros 59) ∧ Hid (Lies wr (w.heap.size + 1) c 59) ∧ Hid (Below w.heap.size w wr) ∧ Hid (Upto k c (rowOf (dnN 8)))) (fun i _ => 32 - (intOf i).toNat)
  case atStart => exact ⟨0, zeros, by omega, rfl, (Lies.new w zeros 59).alloc _, new_one _ _ _ _, ((Below.refl _ _).alloc (Nat.le_refl _) _).alloc (by simp) _, rfl, fun j h => by omega⟩
  case round =>
    obtain ⟨k, c, hk, rfl, HZ, HC, HB, HU⟩ := hrel
    by_cases hlt : k < 32
    · have hkc : k < c.size := by rw [HU.out.size]; exact hlt
      have hcell : wr.cell? ⟨w.heap.size + 1, k, none⟩ = some c[k] := (HC.out.cell k).trans (Array.getElem?_eq_getElem hkc)
      have hfro := HC.out.frozen k
      go_wp2_with fail
      rw [one_shl]
      refine (moved_any _ _).mono ?_
      rintro e w1 ⟨rfl, hw⟩
      rw [hw]
      go_wp2
      clear hcell hfro hw
      go_roundw
      case rel => exact ⟨k + 1, _, by omega, by go_num, HZ.out.set_other (by simp) _, HC.out.set k _, HB.out.setCell (by simp) _, HU.out.next hlt (rowOf_at _ k hlt)⟩
      case measure => simp [intOf]; omega
    · obtain rfl : k = 32 := by omega
      obtain rfl := HU.out.all (rowOf_size _)
      clear HU
      go_wp2_with (first | (refine wpList_load_row rfl 59 _ rfl _ rfl (rowOf (dnN 8)) 59 _ HC.out Try.underlying59 rfl (infoRow _) ?_) | (refine wpList_store_row rfl 59 _ _ rfl _ rfl zeros (rowOf (dnN 8)) rfl 59 HZ.out (infoRow _) (by rw [rowOf_size]; rfl) (rowOf_one _) rfl ?_))
      refine bodyPost_ret (v := .agg (rowOf (dnN 8))) ?_ rfl ⟨rfl, below_row HB.out (Nat.le_refl _) _⟩
      exact results_cell_row rfl _ _ _ 59 _ (0, 0) _ rfl (HZ.out.row (rowOf (dnN 8))) Try.underlying59 rfl (infoRow _)

set_option maxRecDepth 100000 in
theorem sq_any (L : BitVec 32 → BitVec 32) (hL : Lin L) (w : World) :
    Calls Try.prog 31 #[.agg (rowOf L)] w fun e w' => e = .returned (.agg (rowOf (fun x => L (L x)))) ∧ Below w.heap.size w w' := by
  have HL : Hid (Lin L) := hL
  clear hL
  go_enter Try.func31, Try.ntmps31
  go_wp2_with (first | (refine wpList_load_row rfl 59 _ rfl _ rfl (rowOf L) 59 _ ((Lies.new w (rowOf L) 59).alloc _) Try.underlying59 rfl (infoRow _) ?_) | (refine wpList_store_row rfl 59 _ _ rfl (w.heap.size + 2) rfl _ (rowOf L) rfl 59 (new_two w _ _ _ 59) (infoRow _) (by rw [rowOf_size]; rfl) (rowOf_one _) rfl ?_))
  rw [zeros_spelt]
  go_loopw [6] (fun i wr => ∃ (k : Nat) (c : Array Value), k ≤ 32 ∧ i = .int .i64 k ∧ Hid (Lies wr w.heap.size (rowOf L) 59) ∧ Hid (Lies wr (w.heap.size + 1) zeros 59) ∧ Hid (Lies wr (w.heap.size + 2) c 59) ∧ Hid (Below w.heap.size w wr) ∧ Hid (Upto k c (rowOf (fun x => L (L x))))) (fun i _ => 32 - (intOf i).toNat)
  case atStart =>
    refine ⟨0, rowOf L, by omega, rfl, ?_, ?_, ?_, ?_, ?_⟩
    · exact (((Lies.new w (rowOf L) 59).alloc _).alloc _).row_other (by omega) _
    · exact ((new_one w _ _ 59).alloc _).row_other (by omega) _
    · exact (new_two w _ _ _ 59).row _
    · exact below_row ((((Below.refl _ _).alloc (Nat.le_refl _) _).alloc (by simp) _).alloc (by simp; omega) _) (by omega) _
    · exact ⟨rowOf_size _, fun j h => by omega⟩
  case round =>
    obtain ⟨k, c, hk, rfl, HM, HZ, HC, HB, HU⟩ := hrel
    by_cases hlt : k < 32
    · have hkc : k < c.size := by rw [HU.out.size]; exact hlt
      have HS : Hid (∀ w1, Below wr.heap.size wr w1 → w1.rangeAt w.heap.size 0 (rowOf L).toList ∧ w1.cell? ⟨w.heap.size, k, none⟩ = some (.int .u32 ((L (1#32 <<< k)).toNat : Int))) := fun w1 hb => by
        have hm := HM.out.below hb HM.out.lt
        exact ⟨fun j v hv => by rw [Nat.zero_add, hm.cell j, ← hv, Array.getElem?_toList], (hm.cell k).trans (rowOf_at L k hlt)⟩
      have HS2 : Hid (∀ w1 v, Below wr.heap.size wr w1 → (w1.setCell ⟨w.heap.size + 2, k, none⟩ v).rangeAt w.heap.size 0 (rowOf L).toList ∧ (w1.setCell ⟨w.heap.size + 2, k, none⟩ v).cell? ⟨w.heap.size, k, none⟩ = some (.int .u32 ((L (1#32 <<< k)).toNat : Int))) := fun w1 v hb => by
        have hm := (HM.out.below hb HM.out.lt).set_other (a := ⟨w.heap.size + 2, k, none⟩) (by simp) v
        exact ⟨fun j v hv => by rw [Nat.zero_add, hm.cell j, ← hv, Array.getElem?_toList], (hm.cell k).trans (rowOf_at L k hlt)⟩
      have HF : Hid (∀ w1, Below wr.heap.size wr w1 → w1.cell? ⟨w.heap.size + 2, k, none⟩ = some c[k] ∧ w1.frozen? ⟨w.heap.size + 2, k, none⟩ = false) := fun w1 hb => by
        have hm := HC.out.below hb HC.out.lt
        exact ⟨(hm.cell k).trans (Array.getElem?_eq_getElem hkc), hm.frozen k⟩
      have hu := Try.underlying59
      have hi : (Try.prog.info? 59).map (·.size) = some (rowOf L).toList.length := infoRow L
      go_wp2_with fail
      go_region_held3 (fun w' => w'.rangeAt w.heap.size 0 (rowOf L).toList ∧ w'.cell? ⟨w.heap.size, k, none⟩ = some (.int .u32 ((L (1#32 <<< k)).toNat : Int))) (first | assumption | exact HS.out _ (Below.refl _ wr).drew | exact HS.out _ hb1 | exact HS2.out _ _ hb1)
        (first | (go_at_call 30; refine (mof_any L HL.out _ _).mono ?_; rintro e w1 ⟨rfl, hb0⟩; have hb1 : Below wr.heap.size wr w1 := ⟨hb0.os, hb0.tape, hb0.output, hb0.size, hb0.block⟩; have hcl := (HF.out w1 hb1).1; have hfr := (HF.out w1 hb1).2; clear hb0))
      clear hcl hfr HS HS2 HF hu hi
      rename_i hHeld
      clear hHeld
      go_wp2
      go_roundw
      case rel => exact ⟨k + 1, _, by omega, by go_num, (HM.out.below hb1 HM.out.lt).set_other (by simp; omega) _, (HZ.out.below hb1 HZ.out.lt).set_other (by simp) _, (HC.out.below hb1 HC.out.lt).set k _, (HB.out.trans (hb1.mono HB.out.size)).setCell (by simp; omega) _, HU.out.next hlt (rowOf_at (fun x => L (L x)) k hlt)⟩
      case measure => simp [intOf]; omega
    · obtain rfl : k = 32 := by omega
      obtain rfl := HU.out.all (rowOf_size _)
      clear HU
      go_wp2_with (first | (refine wpList_load_row rfl 59 _ rfl _ rfl (rowOf (fun x => L (L x))) 59 _ HC.out Try.underlying59 rfl (infoRow _) ?_) | (refine wpList_store_row rfl 59 _ _ rfl _ rfl zeros (rowOf (fun x => L (L x))) rfl 59 HZ.out (infoRow _) (by rw [rowOf_size]; rfl) (rowOf_one _) rfl ?_))
      refine bodyPost_ret (v := .agg (rowOf (fun x => L (L x)))) ?_ rfl ⟨rfl, below_row HB.out (by omega) _⟩
      exact results_cell_row rfl _ _ _ 59 _ (0, 0) _ rfl (HZ.out.row (rowOf (fun x => L (L x)))) Try.underlying59 rfl (infoRow _)
end Go.Proofs.Ytekjhfhakodooaa
