/-
  Two calls, two variables and two stores in a statement whose order is drawn: a row laid over two bytes.
-/
import Derived.Test.YtlkflikhbkhpeabDoorHst
namespace Go.Proofs.YtlkflikhbkhpeabDoor
open Go.RowKit

theorem xor8 (x y : UInt8) : bits .xor .u8 (x.toNat : Int) (y.toNat : Int) = ((x ^^^ y).toNat : Int) := by
  rw [u8_xor_nat _ _ x.toNat_lt y.toNat_lt, UInt8.toNat_xor]
theorem laid_at (x : UInt8) (l : List UInt8) (k : Nat) (h : k < l.length) (h' : k < (laid x l).length) : (laid x l)[k] = l[k] ^^^ x := by simp [laid]
theorem infoRw (l : List UInt8) (h : l.length = 64) : (Tryd.prog.info? 38).map (·.size) = some (rowV l).size := by rw [rowV_size, h]; kernel_rfl
def zeroRw : Array Value := Array.replicate 64 (.int .u8 0)
theorem zero_row (w : World) : (zeroValue 38).run Tryd.prog w = .ok (.agg zeroRw) w := (zero_of_info (P := Tryd.prog) (t := 38) (v := .agg zeroRw) (n := 64) (by kernel_rfl)).1 w
theorem zeroRw_eq : zeroRw = rowV (List.replicate 64 0) := by kernel_rfl
/-- The first k bytes have been laid over. -/
structure Xd (k : Nat) (c : Array Value) (x : UInt8) (l : List UInt8) : Prop where
  upto : Upto k c (rowV (laid x l))
  rest : ∀ j, k ≤ j → c[j]? = (rowV l)[j]?
theorem Xd.next {k : Nat} {c : Array Value} {x : UInt8} {l : List UInt8} (h : Xd k c x l) (hk : k < l.length) : Xd (k + 1) (c.setIfInBounds k (.int .u8 ((l[k] ^^^ x).toNat : Int))) x l :=
  ⟨h.upto.next (by rw [rowV_at _ k (by rw [laid_length]; exact hk), laid_at x l k hk]), fun j hj => by rw [Array.getElem?_setIfInBounds_ne (by omega)]; exact h.rest j (by omega)⟩

set_option maxRecDepth 100000 in
theorem laidOver_any (l : List UInt8) (hl : l.length = 64) (x : UInt8) (w : World) : Calls Tryd.prog 20 #[.agg (rowV l), .int .u8 x.toNat] w fun e w' => e = .returned (.agg (rowV (laid x l))) ∧ Below w.heap.size w w' := by
  have HL : Hid (l.length = 64) := hl
  have hz := zero_row
  clear hl
  go_enter Tryd.func20, Tryd.ntmps20
  go_wp2_with fail
  go_loopw [6] (fun i wr => ∃ (k : Nat) (c : Array Value), k ≤ 64 ∧ i = .int .i64 k ∧ Hid (Lies wr w.heap.size c 38) ∧ Hid (Lies wr (w.heap.size + 1) zeroRw 38) ∧ Hid (Below w.heap.size w wr) ∧ Hid (Xd k c x l)) (fun i _ => 64 - (intOf i).toNat)
  case atStart =>
    refine ⟨0, rowV l, by omega, rfl, ?_, ?_, ?_, ?_, ?_⟩
    · exact (Lies.new w (rowV l) 38).alloc _
    · exact new_one w _ _ 38
    · exact ((Below.refl _ _).alloc (Nat.le_refl _) _).alloc (by simp) _
    · exact ⟨by rw [rowV_size, rowV_size, laid_length], fun j h => by omega⟩
    · exact fun _ _ => rfl
  case round =>
    obtain ⟨k, c, hk, rfl, HC, HZ, HB, HX⟩ := hrel
    by_cases hlt : k < 64
    · have hkl : k < l.length := by rw [HL.out]; exact hlt
      have hc1 : wr.cell? ⟨w.heap.size, k, none⟩ = some (.int .u8 (l[k].toNat : Int)) := (HC.out.cell k).trans ((HX.out.rest k (Nat.le_refl _)).trans (rowV_at l k hkl))
      have hfr := HC.out.frozen k
      have HN : Hid _ := HX.out.next hkl
      have e1 := xor8 l[k] x
      obtain ⟨y, hy⟩ : ∃ y, y = l[k] ^^^ x := ⟨_, rfl⟩
      rw [← hy] at e1 HN
      clear hy
      go_wp2
      clear hc1 hfr e1
      go_roundw
      case rel => exact ⟨k + 1, _, by omega, by go_num, HC.out.set k _, HZ.out.set_other (by simp) _, HB.out.setCell (by simp) _, HN⟩
      case measure => simp [intOf]; omega
    · obtain rfl : k = 64 := by omega
      obtain rfl := HX.out.upto.all (by rw [rowV_size, laid_length, HL.out])
      go_wp2_with (first | (refine wpList_load_row rfl 38 _ rfl _ rfl (rowV (laid x l)) 38 _ HC.out Tryd.underlying38 rfl (infoRw _ (by rw [laid_length, HL.out])) ?_) | (refine wpList_store_row rfl 38 _ _ rfl (w.heap.size + 1) rfl zeroRw (rowV (laid x l)) rfl 38 HZ.out (infoRw _ (by rw [laid_length, HL.out])) (by rw [rowV_size, laid_length, HL.out]; rfl) (rowV_one _) rfl ?_))
      refine bodyPost_ret (v := .agg (rowV (laid x l))) ?_ rfl ⟨rfl, below_row HB.out (by omega) _⟩
      exact results_cell_row rfl _ _ _ 38 _ (0, 0) _ rfl (HZ.out.row _) Tryd.underlying38 rfl (infoRw _ (by rw [laid_length, HL.out]))
end Go.Proofs.YtlkflikhbkhpeabDoor
