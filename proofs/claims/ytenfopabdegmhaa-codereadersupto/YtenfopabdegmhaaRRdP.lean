/-
  The plain mathematics of the document's reader: no Go in sight.
-/
import Derived.Test.YtenfopabdegmhaaRdP2
namespace Go.Proofs.Ytenfopabdegmhaa

theorem on_shift (l : List UInt8) (i k : Nat) (hk : k = i / 4 * 4 - 4) : onB (l.drop k) (i - k) = onB l i := by
  have hle : k ≤ i := by omega
  have h1 : (i - k) / 4 * 4 = i / 4 * 4 - k := by omega
  have h3 : ((l.drop k).take (i - k + 1)).drop (i / 4 * 4 - k) = (l.take (i + 1)).drop (i / 4 * 4) := by
    rw [show i - k + 1 = i + 1 - k by omega, ← List.drop_take, List.drop_drop, show k + (i / 4 * 4 - k) = i / 4 * 4 by omega]
  unfold onB
  rw [h1, h3, show i - k + 1 - (i / 4 * 4 - k) = i + 1 - i / 4 * 4 by omega]
  congr 1
  by_cases h0 : i / 4 * 4 = 0
  · simp [h0]
  · have h4 : ¬ i / 4 * 4 - k = 0 := by omega
    have h5 : (l.drop k)[i / 4 * 4 - k - 1]? = l[i / 4 * 4 - 1]? := by
      rw [List.getElem?_drop]
      congr 1
      omega
    simp [h0, h4, h5]

theorem dec_snoc (h : List UInt8) (c : UInt8) : decL (h ++ [c]) = if (h.length + 1) % 4 = 0 then decL h ++ decL ((h ++ [c]).drop (h.length - 3)) else decL h := by
  have e := List.take_append_drop (h.length / 4 * 4) h
  have hl : (h.take (h.length / 4 * 4)).length = 4 * (h.length / 4) := by rw [List.length_take]; omega
  have hd : decL h = decL (h.take (h.length / 4 * 4)) := (decL_take h).symm
  have e2 : h ++ [c] = h.take (h.length / 4 * 4) ++ (h.drop (h.length / 4 * 4) ++ [c]) := by rw [← List.append_assoc, e]
  by_cases h4 : (h.length + 1) % 4 = 0
  · rw [if_pos h4, hd]
    have e3 : (h ++ [c]).drop (h.length - 3) = h.drop (h.length / 4 * 4) ++ [c] := by
      rw [show h.length - 3 = h.length / 4 * 4 by omega, List.drop_append_of_le_length (by omega)]
    rw [e3]
    conv => lhs; rw [e2]
    exact decL_append _ _ _ hl
  · rw [if_neg h4, hd]
    conv => lhs; rw [e2]
    rw [decL_append _ _ _ hl, decL_short (h.drop (h.length / 4 * 4) ++ [c]) (by rw [List.length_append, List.length_drop]; simp; omega), List.append_nil]
end Go.Proofs.Ytenfopabdegmhaa
