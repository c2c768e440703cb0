/-
  The plain mathematics of a reader that takes bytes one by one: no Go in sight.
-/
import Derived.Test.YtenfopabdegmhaaB64b
namespace Go.Proofs.Ytenfopabdegmhaa

theorem noCr_split (b : List UInt8) (k : Nat) (hk : k < b.length) (h : ¬ (b[k] = 13 ∨ b[k] = 10)) : noCr b = noCr (b.take k) ++ b[k] :: noCr (b.drop (k + 1)) := by
  have e : b = b.take k ++ (b[k] :: b.drop (k + 1)) := by rw [List.getElem_cons_drop, List.take_append_drop]
  have e1 : b[k] ≠ 13 := fun x => h (.inl x)
  have e2 : b[k] ≠ 10 := fun x => h (.inr x)
  conv => lhs; rw [e]
  rw [noCr_append]
  congr 1
  have h1 : (!(b[k] == 13 || b[k] == 10)) = true := by simp [e1, e2]
  unfold noCr
  rw [List.filter_cons, if_pos h1]
theorem rd_stop (t b : List UInt8) (k : Nat) (hk : k < b.length) (hc : ¬ (b[k] = 13 ∨ b[k] = 10)) (ht : okN 0 t = t.length) (h : okN (stD 0 t) (noCr (b.take k)) = (noCr (b.take k)).length) (hn : nextD (stD 0 (t ++ noCr (b.take k))) b[k] = none) :
    okN (stD 0 t) (noCr b) = (noCr (b.take k)).length ∧ rdE t b = errC b[k] ∧ rdT t b = t ++ noCr (b.take k) ∧ (noCr b).take (okN (stD 0 t) (noCr b)) = noCr (b.take k) := by
  have hs := noCr_split b k hk hc
  have e1 : okN (stD 0 t) (noCr b) = (noCr (b.take k)).length := by
    rw [hs, okN_append _ _ _ h, ← stD_append _ _ _ ht]
    simp [okN, hn]
  have e4 : (noCr b).take (okN (stD 0 t) (noCr b)) = noCr (b.take k) := by rw [e1, hs, List.take_left]
  refine ⟨e1, ?_, ?_, e4⟩
  · have hlt : okN (stD 0 t) (noCr b) < (noCr b).length := by rw [e1, hs, List.length_append, List.length_cons]; omega
    have hg : (noCr b)[okN (stD 0 t) (noCr b)] = b[k] := by
      simp only [e1]
      have : (noCr b)[(noCr (b.take k)).length]? = some b[k] := by
        rw [hs, List.getElem?_append_right (Nat.le_refl _), Nat.sub_self]
        rfl
      rw [List.getElem?_eq_getElem (by rw [← e1]; exact hlt)] at this
      injection this
    unfold rdE
    rw [dif_pos hlt, hg]
  · unfold rdT
    rw [e4]
theorem rd_end (t b : List UInt8) (h : okN (stD 0 t) (noCr b) = (noCr b).length) : rdE t b = 0 ∧ rdT t b = t ++ noCr b ∧ (noCr b).take (okN (stD 0 t) (noCr b)) = noCr b := by
  have e : (noCr b).take (okN (stD 0 t) (noCr b)) = noCr b := by rw [h, List.take_length]
  refine ⟨?_, ?_, e⟩
  · unfold rdE
    rw [dif_neg (by omega)]
  · unfold rdT
    rw [e]
theorem rd_more (t b : List UInt8) (k : Nat) (hk : k < b.length) (hc : ¬ (b[k] = 13 ∨ b[k] = 10)) (ht : okN 0 t = t.length) (h : okN (stD 0 t) (noCr (b.take k)) = (noCr (b.take k)).length) (d' : Nat) (hn : nextD (stD 0 (t ++ noCr (b.take k))) b[k] = some d') :
    noCr (b.take (k + 1)) = noCr (b.take k) ++ [b[k]] ∧ okN (stD 0 t) (noCr (b.take (k + 1))) = (noCr (b.take (k + 1))).length ∧ stD 0 (t ++ noCr (b.take (k + 1))) = d' := by
  have hs := noCr_snoc b k hk
  rw [if_neg hc] at hs
  have h2 := stD_append 0 t (noCr (b.take k)) ht
  refine ⟨hs, ?_, ?_⟩
  · rw [hs, okN_append _ _ _ h, List.length_append, ← h2]
    simp [okN, hn]
  · rw [hs, ← List.append_assoc, stD_append _ _ _ (by rw [okN_append _ _ _ ht, h, List.length_append])]
    simp [stD, hn]
theorem rd_same (b : List UInt8) (k : Nat) (hk : k < b.length) (hc : b[k] = 13 ∨ b[k] = 10) : noCr (b.take (k + 1)) = noCr (b.take k) := by
  rw [noCr_snoc b k hk, if_pos hc]
end Go.Proofs.Ytenfopabdegmhaa
