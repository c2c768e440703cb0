/-
  Small laws on bytes, texts and lists.
-/
import Derived.Test.YthkoionigdnhgaaBase
namespace Go.Proofs.Ythkoionigdnhgaa
open Go.RowKit

theorem pad_eq (c : UInt8) : ((c.toNat : Int) == 61) = decide (c = 61) := by
  rw [Bool.eq_iff_iff]
  simp only [beq_iff_eq, decide_eq_true_eq]
  constructor
  · intro h
    exact UInt8.toNat_inj.1 (by simpa using (by omega : c.toNat = 61))
  · intro h
    rw [h]
    rfl
theorem pad_ne (c : UInt8) : ((c.toNat : Int) != 61) = !decide (c = 61) := by
  rw [bne, pad_eq]

theorem ext_list (s : ByteArray) (a b : Nat) : (s.extract a b).data.toList = (s.data.toList.take b).drop a := by
  simp [ByteArray.data_extract, List.drop_take]
theorem len_list (s : ByteArray) : s.data.toList.length = s.size := by rw [Array.length_toList]; rfl
theorem at_list (s : ByteArray) (k : Nat) (h : k < s.size) : s.data.toList[k]'(by rw [len_list]; exact h) = s[k] := rfl

/-- Three bytes that have just been laid. -/
theorem three_bts (w : World) (t : TypeId) (x y z : Int) (a b c : UInt8) (hx : x = (a.toNat : Int)) (hy : y = (b.toNat : Int)) (hz : z = (c.toNat : Int)) (n : Nat) :
    Bts (some ⟨w.heap.size, 0, none⟩) ([a, b, c].take n) (w.alloc (.cells #[.int .u8 x, .int .u8 y, .int .u8 z] t)) := by
  subst hx hy hz
  refine Bts.take (.inr ⟨w.heap.size, 0, rfl, by simp, fun j hj => ?_⟩) n
  have h3 : j < 3 := hj
  match j, h3 with
  | 0, _ => simp
  | 1, _ => simp
  | 2, _ => simp

theorem take4 (l : List UInt8) (k : Nat) (h : k + 3 < l.length) : l.take (k + 4) = l.take k ++ [l[k], l[k + 1], l[k + 2], l[k + 3]] := by
  have e3 := List.take_succ_eq_append_getElem (l := l) (i := k + 3) (by omega)
  have e2 := List.take_succ_eq_append_getElem (l := l) (i := k + 2) (by omega)
  have e1 := List.take_succ_eq_append_getElem (l := l) (i := k + 1) (by omega)
  have e0 := List.take_succ_eq_append_getElem (l := l) (i := k) (by omega)
  rw [show l.take (k + 4) = _ from e3, show l.take (k + 3) = _ from e2, show l.take (k + 2) = _ from e1, e0]
  simp only [List.append_assoc, List.cons_append, List.nil_append]
theorem own_nil (w : World) (B : Nat) : w.ownsRow B 5 1 (.slice none 0 0) ([] : List UInt8).length (cellsB []) := ⟨rfl, .inl ⟨rfl, rfl⟩⟩

end Go.Proofs.Ythkoionigdnhgaa
