/-
  Small laws on texts, bytes and results.
-/
import Derived.Test.YtpepjiocjcjeeaaDoorBase2
import Derived.Test.YtpepjiocjcjeeaaDoorGrown
import Derived.Laws.Concat
import Derived.Deep.DeepCutAuto
namespace Go.Proofs.YtpepjiocjcjeeaaDoor
open Go.RowKit

theorem beq_u8 (c : UInt8) (n : UInt8) (m : Int) (hm : m = (n.toNat : Int)) : ((c.toNat : Int) == m) = decide (c = n) ∧ ((c.toNat : Int) != m) = !decide (c = n) := by
  have : ((c.toNat : Int) == m) = decide (c = n) := by
    subst hm
    rw [Bool.eq_iff_iff, beq_iff_eq, decide_eq_true_eq, Int.natCast_inj, UInt8.toNat_inj]
  refine ⟨this, ?_⟩
  rw [bne, this]
/-- A text of bytes. -/
def tx (l : List UInt8) : ByteArray := ⟨l.toArray⟩
theorem tx_size (l : List UInt8) : (tx l).size = l.length := List.size_toArray ..
theorem tx_cat (x y : List UInt8) : tx x ++ tx y = tx (x ++ y) := by
  apply ByteArray.ext
  rw [ByteArray.data_append]
  show x.toArray ++ y.toArray = (x ++ y).toArray
  simp
theorem tx_back (s : ByteArray) : tx s.data.toList = s := by
  show (⟨s.data.toList.toArray⟩ : ByteArray) = s
  rw [Array.toArray_toList]
theorem tx_list (l : List UInt8) : (tx l).data.toList = l := by simp [tx]
theorem tx_ext (s : ByteArray) (a b : Nat) : s.extract a b = tx ((s.data.toList.take b).drop a) := by rw [← ext_list, tx_back]
theorem tx_sub (s : ByteArray) (a n : Nat) : s.extract a (a + n) = tx ((s.data.toList.drop a).take n) := by rw [tx_ext, List.drop_take, Nat.add_sub_cancel_left]
theorem infoSp : (Tryd.prog.info? 27).map (·.size) = some 2 := by kernel_rfl
theorem res_vc {P : Program} {fn : Func} {p r : Tmp} {ty : TypeId} (h : fn.results = #[.tmp p, .cell r ty]) (tmps : Array Value) (w : World) (g : Nat) (cs : Array Value) (d : TypeDesc) (v1 : Value) (hp : tmps.getD p undef = v1) (hr : tmps.getD r undef = .pointer (some ⟨g, 0, none⟩)) (hg : Lies w g cs ty)
    (hu : P.underlying ty = some d) (ha : (match d with | .struct _ | .array _ _ => true | _ => false) = true) (hz : (P.info? ty).map (·.size) = some cs.size) : (results fn tmps).run P w = .ok (.tuple #[v1, .agg cs]) w := by
  have hp' : tmps[p]?.getD undef = v1 := by simpa using hp
  have hr' : tmps[r]?.getD undef = .pointer (some ⟨g, 0, none⟩) := by simpa using hr
  simp [results, h, hp', hr', asAddr, run_loadVar_row w g ty ty cs (0, 0) d hg hu ha hz]
theorem own_tx {w : World} {B : Nat} {v : Value} {l : List UInt8} (h : w.ownsRow B 5 1 v l.length (cellsB l)) : (convert 22 9 v).run Tryd.prog w = .ok (.string (tx l)) w := own_conv h
theorem below_drN (w : World) (n : Nat) : Below w.heap.size w (w.drewN n) := ⟨rfl, rfl, rfl, Nat.le_refl _, fun _ _ => rfl⟩
theorem below_dN {B : Nat} {a w : World} (h : Below B a w) (n : Nat) : Below B a (w.drewN n) := ⟨h.os, h.tape, h.output, h.size, h.block⟩
end Go.Proofs.YtpepjiocjcjeeaaDoor
