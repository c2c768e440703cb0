/-
  The plain mathematics of what a reader holds: no Go in sight.
-/
import Derived.Test.YtenfopabdegmhaaRdP
namespace Go.Proofs.Ytenfopabdegmhaa

/-- What a reader holds while it takes a piece: what was begun, and what goes on behind it. -/
def heldG (t b : List UInt8) : List UInt8 := tailG t ++ (noCr b).take (okN (stD 0 t) (noCr b))
theorem held_ok (t b : List UInt8) (h : okN 0 t = t.length) : okN 0 (heldG t b) = (heldG t b).length := by
  have hT := rdT_ok t b h
  have hK : (t.take (t.length / 4 * 4)).length = 4 * (t.length / 4) := by rw [List.length_take]; omega
  have e : rdT t b = t.take (t.length / 4 * 4) ++ heldG t b := by
    unfold rdT heldG tailG
    rw [← List.append_assoc, List.take_append_drop]
  have hpre : okN 0 (t.take (t.length / 4 * 4)) = (t.take (t.length / 4 * 4)).length := okN_pre 0 t _ (by rw [h]; omega)
  have h2 := okN_append 0 (t.take (t.length / 4 * 4)) (heldG t b) hpre
  rw [← e, hT, e, List.length_append] at h2
  have hst := st_whole (t.length / 4) _ hK hpre
  by_cases hp : (t.take (t.length / 4 * 4))[(t.take (t.length / 4 * 4)).length - 1]? = some 61
  · rw [if_pos hp] at hst
    rw [hst, okN_seven] at h2
    have : heldG t b = [] := List.eq_nil_of_length_eq_zero (by omega)
    rw [this]
    rfl
  · rw [if_neg hp] at hst
    rw [hst] at h2
    omega
theorem held_len (t b : List UInt8) : (heldG t b).length % 4 = (rdT t b).length % 4 := by
  have := tailG_len t
  unfold heldG rdT
  rw [List.length_append, List.length_append, this]
  omega
theorem held_tail (t b : List UInt8) : (heldG t b).drop ((heldG t b).length / 4 * 4) = tailG (rdT t b) := by
  have e : rdT t b = t.take (t.length / 4 * 4) ++ heldG t b := by
    unfold rdT heldG tailG
    rw [← List.append_assoc, List.take_append_drop]
  have hK : (t.take (t.length / 4 * 4)).length = t.length / 4 * 4 := by rw [List.length_take]; omega
  show _ = (rdT t b).drop ((rdT t b).length / 4 * 4)
  rw [e, List.length_append, hK, show (t.length / 4 * 4 + (heldG t b).length) / 4 * 4 = t.length / 4 * 4 + (heldG t b).length / 4 * 4 by omega]
  have hd : (t.take (t.length / 4 * 4) ++ heldG t b).drop (t.length / 4 * 4 + (heldG t b).length / 4 * 4) = (heldG t b).drop ((heldG t b).length / 4 * 4) := by
    rw [← List.drop_drop]
    congr 1
    rw [List.drop_append, List.drop_eq_nil_of_le (by rw [hK]; exact Nat.le_refl _), hK, Nat.sub_self, List.drop_zero, List.nil_append]
  rw [hd]
theorem decL_take (l : List UInt8) : decL (l.take (l.length / 4 * 4)) = decL l := by
  conv => rhs; rw [← List.take_append_drop (l.length / 4 * 4) l]
  rw [decL_append (l.length / 4) _ _ (by rw [List.length_take]; omega), decL_short (l.drop (l.length / 4 * 4)) (by rw [List.length_drop]; omega), List.append_nil]
theorem rdL_held (t b : List UInt8) : rdL t b = decL (heldG t b) := rfl
theorem held_le (t b : List UInt8) : (heldG t b).length ≤ 3 + b.length := by
  have h1 := tailG_len t
  have h2 := noCr_le b
  have h3 : ((noCr b).take (okN (stD 0 t) (noCr b))).length ≤ (noCr b).length := List.length_take_le' _ _
  unfold heldG
  rw [List.length_append]
  omega
end Go.Proofs.Ytenfopabdegmhaa
