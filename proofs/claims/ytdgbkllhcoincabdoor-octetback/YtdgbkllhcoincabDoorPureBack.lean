/-
  The plain mathematics of bytes in digits to the base sixteen, there and back.
-/
import Derived.Test.YtdgbkllhcoincabDoorPureHex
import Derived.Test.YtdgbkllhcoincabDoorPureUp
namespace Go.Proofs.YtdgbkllhcoincabDoor

theorem hexD_fin : ∀ n : Fin 16, isB 4 ((hexD n.val).toNat : Int) = true ∧ hexV (hexD n.val).toNat = n.val ∧ upB (hexD n.val) = hexD n.val := by decide +kernel
theorem hexD_ok (n : Nat) (h : n < 16) : isB 4 ((hexD n).toNat : Int) = true ∧ hexV (hexD n).toNat = n ∧ upB (hexD n) = hexD n := hexD_fin ⟨n, h⟩
theorem hex_bad : ∀ l : List UInt8, badN 4 (hexL l) = (hexL l).length
  | [] => rfl
  | b :: r => by
    have hb := b.toNat_lt
    rw [hexL, badN, if_pos (hexD_ok _ (by omega)).1, badN, if_pos (hexD_ok _ (by omega)).1, hex_bad r]
    rfl
theorem hex_ok (l : List UInt8) : hexOk (hexL l) := ⟨hex_bad l, by rw [hexL_length]; omega⟩
theorem un_hex : ∀ l : List UInt8, unL (hexL l) = l
  | [] => rfl
  | b :: r => by
    have hb := b.toNat_lt
    rw [hexL, unL, (hexD_ok _ (by omega)).2.1, (hexD_ok _ (by omega)).2.1, un_hex r]
    congr 1
    have e : b.toNat / 16 * 16 + b.toNat % 16 = b.toNat := by omega
    rw [e]
    simp
theorem up_hex : ∀ l : List UInt8, upL (hexL l) = hexL l
  | [] => rfl
  | b :: r => by
    have hb := b.toNat_lt
    have ih := up_hex r
    unfold upL at ih ⊢
    rw [hexL, List.map_cons, List.map_cons, (hexD_ok _ (by omega)).2.2, (hexD_ok _ (by omega)).2.2, ih]
theorem hexS_size (s : ByteArray) : (hexS s).size = 2 * s.size := by
  show (hexL s.data.toList).toArray.size = _
  rw [List.size_toArray, hexL_length, Array.length_toList]
  rfl
theorem hexS_up (s : ByteArray) : upS (hexS s) = hexS s := by
  unfold upS
  show (⟨(upL (hexL s.data.toList)).toArray⟩ : ByteArray) = _
  rw [up_hex]
  rfl
end Go.Proofs.YtdgbkllhcoincabDoor
