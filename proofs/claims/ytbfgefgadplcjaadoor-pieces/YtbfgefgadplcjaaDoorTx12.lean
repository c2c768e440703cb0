/-
  Texts as lists of bytes.
-/
import Derived.Test.YtbfgefgadplcjaaDoorSu12
import Derived.Test.YtbfgefgadplcjaaDoorBase2
namespace Go.Proofs.YtbfgefgadplcjaaDoor
open Go.RowKit

def tx (l : List UInt8) : ByteArray := ⟨l.toArray⟩
theorem tx_size (l : List UInt8) : (tx l).size = l.length := List.size_toArray ..
theorem tx_cat (x y : List UInt8) : tx x ++ tx y = tx (x ++ y) := by
  apply ByteArray.ext
  rw [ByteArray.data_append]
  simp [tx]
theorem tx_back (s : ByteArray) : tx s.data.toList = s := by
  simp [tx]
theorem tx_list (l : List UInt8) : (tx l).data.toList = l := by simp [tx]
theorem tx_ext (s : ByteArray) (a b : Nat) : s.extract a b = tx ((s.data.toList.take b).drop a) := by rw [← ext_list, tx_back]
theorem tx_inj {x y : List UInt8} (h : tx x = tx y) : x = y := by have := congrArg (fun s => s.data.toList) h; simpa [tx] using this
theorem below_drN (w : World) (n : Nat) : Below w.heap.size w (w.drewN n) := ⟨rfl, rfl, rfl, Nat.le_refl _, fun _ _ => rfl⟩
theorem below_dN {B : Nat} {a w : World} (h : Below B a w) (n : Nat) : Below B a (w.drewN n) := ⟨h.os, h.tape, h.output, h.size, h.block⟩
end Go.Proofs.YtbfgefgadplcjaaDoor
