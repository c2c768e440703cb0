/-
  strings.IndexByte of the signs that stand for themselves in Q.
-/
import Derived.Test.YtdgepnfgjgbkoaaDoorScP
import Derived.Test.YtdgepnfgjgbkoaaDoorChk2
import Derived.Test.YtdgepnfgjgbkoaaDoorShelf
namespace Go.Proofs.YtdgepnfgjgbkoaaDoor
open Go.RowKit

def sgS : ByteArray := ⟨#[33, 42, 43, 45, 47]⟩
theorem sg_fin : ∀ b : Fin 256, decide (0 ≤ Lib.indexByte sgS.data.toList (UInt8.ofNat b.val)) = (UInt8.ofNat b.val == 33 || UInt8.ofNat b.val == 42 || UInt8.ofNat b.val == 43 || UInt8.ofNat b.val == 45 || UInt8.ofNat b.val == 47) := by decide +kernel
theorem sidx_any (c : UInt8) (w : World) : Calls Tryd.prog 78 #[.string sgS, .int .u8 (c.toNat : Int)] w fun e w' => ∃ x : Int, e = .returned (.int .i64 x) ∧ w' = w ∧ decide (0 ≤ x) = (c == 33 || c == 42 || c == 43 || c == 45 || c == 47) := by
  refine (Tryd.strings_IndexByte sgS (c.toNat : Int) w).mono ?_
  rintro e w' ⟨rfl, rfl⟩
  refine ⟨_, rfl, rfl, ?_⟩
  have h := sg_fin ⟨c.toNat, c.toNat_lt⟩
  have e : UInt8.ofNat c.toNat = c := by simp
  simp only [e] at h
  rw [← h]
  simp
end Go.Proofs.YtdgepnfgjgbkoaaDoor
