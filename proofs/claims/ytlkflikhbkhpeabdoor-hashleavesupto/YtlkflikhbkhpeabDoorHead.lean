/-
  The statements' own first look: one digest that the document fixes.
-/
import Derived.Test.YtlkflikhbkhpeabDoorMd5
import Derived.Test.YtlkflikhbkhpeabDoorTell
import Derived.Lib.SlBytesConst
namespace Go.Proofs.YtlkflikhbkhpeabDoor
open Go.RowKit

def abc : List UInt8 := [97, 98, 99]
def abcS : ByteArray := ⟨#[57, 48, 48, 49, 53, 48, 57, 56, 51, 99, 100, 50, 52, 102, 98, 48, 100, 54, 57, 54, 51, 102, 55, 100, 50, 56, 101, 49, 55, 102, 55, 50]⟩
theorem abc_told : (⟨(tl (md5 abc)).toArray⟩ : ByteArray) = abcS := by
  have h : tl (md5 abc) = abcS.data.toList := by decide +kernel
  rw [h]

set_option maxRecDepth 100000 in
theorem head_any (w : World) (ht : Tabs w) : Calls Tryd.prog 5 #[] w fun e w' => e = .returned (.bool true) ∧ Below w.heap.size w w' := by
  have HT : Hid (Tabs w) := ht
  clear ht
  go_enter Tryd.func5, Tryd.ntmps5
  have kc := fun (w : World) (C : Array Value) (n c : Nat) => Lib.run_convert_bytes_const (P := Tryd.prog) w 22 5 C n c Tryd.underlying22 Tryd.underlying5
  go_wp2_with fail
  have HB1 : Hid (Below w.heap.size w (w.alloc (.cells #[.int .u8 97, .int .u8 98, .int .u8 99] 5 (3, 4)))) := (Below.refl _ _).alloc (Nat.le_refl _) _
  have hbt : Bts (some ⟨w.heap.size, 0, none⟩) abc (w.alloc (.cells #[.int .u8 97, .int .u8 98, .int .u8 99] 5 (3, 4))) := by
    refine .inr ⟨w.heap.size, 0, rfl, by simp, fun j hj => ?_⟩
    have hl := heap_alloc_last w (.cells #[.int .u8 97, .int .u8 98, .int .u8 99] 5 (3, 4))
    rw [Nat.zero_add, cell_of_row _ _ j _ 5 (3, 4) hl]
    match j, hj with
    | 0, _ => rfl
    | 1, _ => rfl
    | 2, _ => rfl
  have hmd := md5_any (some ⟨w.heap.size, 0, none⟩) abc 3 _ hbt (fun ad e => by injection e with e; subst e; simp) (by decide) (HT.out.below HB1.out) (by decide)
  refine hmd.mono ?_
  clear hmd hbt
  rintro e w2 ⟨rfl, hb2⟩
  have HB2 : Hid (Below w.heap.size w w2) := HB1.out.trans (hb2.mono (by simp))
  clear hb2
  go_wp2_with fail
  refine (tell_any (md5 abc) (md5_length abc) w2).mono ?_
  rintro e w3 ⟨rfl, hb3⟩
  have HB3 : Hid (Below w.heap.size w w3) := HB2.out.trans (hb3.mono HB2.out.size)
  clear hb3
  rw [abc_told]
  unfold abcS
  go_wp2_with fail
  refine (new_any w3).mono ?_
  rintro e w4 ⟨g, rfl, _, _, hb4⟩
  have HB4 : Hid (Below w.heap.size w w4) := HB3.out.trans (hb4.mono HB3.out.size)
  clear hb4
  go_wp2
  go_ret
  exact ⟨rfl, HB4.out⟩
end Go.Proofs.YtlkflikhbkhpeabDoor
