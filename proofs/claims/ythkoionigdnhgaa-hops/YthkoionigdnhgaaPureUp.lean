/-
  The plain mathematics of capitals: no Go in sight.
-/
namespace Go.Proofs.Ythkoionigdnhgaa

/-- A byte's capital. -/
def upB (b : UInt8) : UInt8 := if 97 ≤ b.toNat ∧ b.toNat ≤ 122 then UInt8.ofNat (b.toNat - 32) else b
/-- A row of bytes in capitals. -/
def upL (l : List UInt8) : List UInt8 := l.map upB
def upS (s : ByteArray) : ByteArray := ⟨(upL s.data.toList).toArray⟩

theorem upB_no (b : UInt8) (h : ¬ (97 ≤ b.toNat ∧ b.toNat ≤ 122)) : upB b = b := if_neg h
theorem upB_yes (b : UInt8) (h1 : 97 ≤ b.toNat) (h2 : b.toNat ≤ 122) : (upB b).toNat = b.toNat - 32 := by
  unfold upB
  rw [if_pos ⟨h1, h2⟩]
  simp
  omega
theorem upS_size (s : ByteArray) : (upS s).size = s.size := by
  show (upL s.data.toList).toArray.size = s.data.size
  rw [List.size_toArray, upL, List.length_map, Array.length_toList]
/-- The first k bytes in capitals, the others as they are: the byte at j. -/
def upAt (l : List UInt8) (k j : Nat) : UInt8 := if j < k then upB (l.getD j 0) else l.getD j 0
theorem upAt_zero (l : List UInt8) (j : Nat) : upAt l 0 j = l.getD j 0 := by simp [upAt]
theorem upAt_self (l : List UInt8) (k : Nat) : upAt l k k = l.getD k 0 := by simp [upAt]
theorem upAt_step (l : List UInt8) (k : Nat) : upAt l (k + 1) k = upB (l.getD k 0) := by simp [upAt]
theorem upAt_other (l : List UInt8) (k j : Nat) (h : j ≠ k) : upAt l (k + 1) j = upAt l k j := by
  unfold upAt
  by_cases h1 : j < k
  · rw [if_pos h1, if_pos (by omega)]
  · rw [if_neg h1, if_neg (by omega)]
theorem upAt_all (l : List UInt8) (n j : Nat) (hn : n = l.length) (h : j < (upL l).length) : upAt l n j = (upL l)[j] := by
  have h' : j < l.length := by simpa [upL] using h
  subst hn
  simp [upAt, upL, h', List.getD_eq_getElem?_getD]
theorem upB_fin : ∀ b : Fin 256, upB (upB (UInt8.ofNat b.val)) = upB (UInt8.ofNat b.val) := by decide +kernel
theorem upB_twice (b : UInt8) : upB (upB b) = upB b := by
  have := upB_fin ⟨b.toNat, b.toNat_lt⟩
  simpa using this
theorem upL_twice (l : List UInt8) : upL (upL l) = upL l := by simp [upL, upB_twice]
theorem upS_twice (s : ByteArray) : upS (upS s) = upS s := by
  show (⟨(upL (upL s.data.toList)).toArray⟩ : ByteArray) = _
  rw [upL_twice]
  rfl
end Go.Proofs.Ythkoionigdnhgaa
