/-
  The plain mathematics of reading quoted-printable text sign by sign: no Go in sight.
-/
import Derived.Test.YtenfopabdegmhabDoorQtP
namespace Go.Proofs.YtenfopabdegmhabDoor

theorem val_not (c : UInt8) (h : valB c = true) : c ≠ 13 ∧ c ≠ 61 ∧ blkB c = false := by
  unfold valB at h
  simp only [decide_eq_true_eq] at h
  refine ⟨fun e => ?_, fun e => ?_, ?_⟩
  · rw [e] at h; exact absurd h.1 (by decide)
  · rw [e] at h; exact absurd rfl h.2.2
  · unfold blkB
    simp only [decide_eq_false_iff_not]
    omega
theorem blk_not (c : UInt8) (h : blkB c = true) : c ≠ 13 ∧ c ≠ 61 ∧ valB c = false := by
  unfold blkB at h
  simp only [decide_eq_true_eq] at h
  refine ⟨fun e => ?_, fun e => ?_, ?_⟩
  · rw [e] at h; exact absurd h (by decide)
  · rw [e] at h; exact absurd h (by decide)
  · unfold valB
    simp only [decide_eq_false_iff_not]
    omega

theorem m_val {l : List UInt8} {i k p : Nat} {h : UInt8} {X : List UInt8} (hs : runM q0 (l.take i) = some ⟨k, p, h, X⟩) (hk : k ≤ 1) (hi : i < l.length) (hv : valB l[i] = true) (hp : p ≤ 75) : runM q0 (l.take (i + 1)) = some ⟨0, p + 1, 0, X ++ [l[i]]⟩ := by
  obtain ⟨n1, _, _⟩ := val_not _ hv
  rw [runM_snoc l i hi _ _ hs]
  have h01 : k = 0 ∨ k = 1 := by omega
  rcases h01 with rfl | rfl <;> simp [stepM, stepN, n1, hv, hp]
theorem m_blk {l : List UInt8} {i k p : Nat} {h : UInt8} {X : List UInt8} (hs : runM q0 (l.take i) = some ⟨k, p, h, X⟩) (hk : k ≤ 1) (hi : i < l.length) (hb : blkB l[i] = true) (hp : p ≤ 74) : runM q0 (l.take (i + 1)) = some ⟨1, p + 1, 0, X ++ [l[i]]⟩ := by
  obtain ⟨n1, _, n3⟩ := blk_not _ hb
  rw [runM_snoc l i hi _ _ hs]
  have h01 : k = 0 ∨ k = 1 := by omega
  rcases h01 with rfl | rfl <;> simp [stepM, stepN, n1, n3, hb, hp]
theorem m_eq {l : List UInt8} {i k p : Nat} {h : UInt8} {X : List UInt8} (hs : runM q0 (l.take i) = some ⟨k, p, h, X⟩) (hk : k ≤ 1) (hi : i < l.length) (he : l[i] = 61) (hp : p ≤ 75) : runM q0 (l.take (i + 1)) = some ⟨2, p + 1, 0, X⟩ := by
  rw [runM_snoc l i hi _ _ hs, he]
  have n1 : valB 61 = false := by decide
  have n2 : blkB 61 = false := by decide
  have h01 : k = 0 ∨ k = 1 := by omega
  rcases h01 with rfl | rfl <;> simp [stepM, stepN, n1, n2, hp]
theorem m_cr {l : List UInt8} {i p : Nat} {h : UInt8} {X : List UInt8} (hs : runM q0 (l.take i) = some ⟨0, p, h, X⟩) (hi : i < l.length) (he : l[i] = 13) : runM q0 (l.take (i + 1)) = some ⟨4, p, 0, X⟩ := by
  rw [runM_snoc l i hi _ _ hs, he]
  simp [stepM]
theorem un_stop {l : List UInt8} {i : Nat} {t : Qs} (hs : runM q0 (l.take i) = some t) (hi : i < l.length) (hn : stepM t l[i] = none) : unqOk l = false ∧ unqA l = i := by
  obtain ⟨h1, h2⟩ := okM_stop q0 t l i hi hs hn
  unfold unqOk unqA
  rw [h2]
  exact ⟨rfl, h1⟩
theorem un_end {l : List UInt8} {i : Nat} {t : Qs} (hs : runM q0 (l.take i) = some t) (hi : i = l.length) (hk : t.k ≠ 0) : unqOk l = false ∧ unqA l = i := by
  rw [hi, List.take_length] at hs
  unfold unqOk unqA
  rw [hs]
  refine ⟨by simpa using hk, ?_⟩
  rw [hi]
  exact (okM_run q0 l).2 (by rw [hs]; rfl)
/-- No sign stands there. -/
theorem m_no {l : List UInt8} {i k p : Nat} {h : UInt8} {X : List UInt8} (hs : runM q0 (l.take i) = some ⟨k, p, h, X⟩) (hk : k ≤ 1) (hi : i < l.length) (hv : ¬ (valB l[i] = true ∧ p ≤ 75)) (hb : ¬ (blkB l[i] = true ∧ p ≤ 74)) (he : ¬ (l[i] = 61 ∧ p ≤ 75)) (hc : ¬ (l[i] = 13 ∧ k = 0)) : unqOk l = false ∧ unqA l = i := by
  refine un_stop hs hi ?_
  have h01 : k = 0 ∨ k = 1 := by omega
  unfold stepM stepN
  rcases h01 with rfl | rfl
  · simp only [Nat.reduceEqDiff, if_false, and_true, and_false] at hc ⊢
    rw [if_neg hc]
    simp [hv, hb, he]
  · simp only [Nat.reduceEqDiff, if_false, and_false]
    simp [hv, hb, he]
/-- Behind a CR. -/
theorem m_lf {l : List UInt8} {i : Nat} {t : Qs} (hs : runM q0 (l.take i) = some t) (hk : t.k = 4 ∨ t.k = 5) :
    (l[i]? = some 10 → runM q0 (l.take (i + 1)) = some ⟨0, 0, 0, if t.k = 4 then t.o ++ [13, 10] else t.o⟩) ∧ (l[i]? ≠ some 10 → i ≤ l.length → unqOk l = false ∧ unqA l = i) := by
  constructor
  · intro h10
    have hi := (List.getElem?_eq_some_iff.1 h10).1
    have he := (List.getElem?_eq_some_iff.1 h10).2
    rw [runM_snoc l i hi _ _ hs, he]
    rcases hk with e | e <;> simp [stepM, e]
  · intro hne hle
    rcases Nat.lt_or_ge i l.length with hi | hi
    · refine un_stop hs hi ?_
      have he : l[i] ≠ 10 := fun e => hne (by rw [List.getElem?_eq_getElem hi, e])
      rcases hk with e | e <;> simp [stepM, e, he]
    · exact un_end hs (by omega) (by omega)
/-- Behind =. -/
theorem m_eqcr {l : List UInt8} {i p : Nat} {h : UInt8} {X : List UInt8} (hs : runM q0 (l.take i) = some ⟨2, p, h, X⟩) (hi : i < l.length) (he : l[i] = 13) : runM q0 (l.take (i + 1)) = some ⟨5, p, 0, X⟩ := by
  rw [runM_snoc l i hi _ _ hs, he]
  simp [stepM]
theorem m_eqno {l : List UInt8} {i p : Nat} {h : UInt8} {X : List UInt8} (hs : runM q0 (l.take i) = some ⟨2, p, h, X⟩) (hi : i ≤ l.length) (hc : l[i]? ≠ some 13) (hn : 74 < p ∨ ∀ c, l[i]? = some c → hexB c = false) : unqOk l = false ∧ unqA l = i := by
  rcases Nat.lt_or_ge i l.length with hlt | hge
  · refine un_stop hs hlt ?_
    have he : l[i] ≠ 13 := fun e => hc (by rw [List.getElem?_eq_getElem hlt, e])
    rcases hn with h74 | hx
    · simp [stepM, stepN, he]
      omega
    · simp [stepM, stepN, he, hx _ (List.getElem?_eq_getElem hlt)]
  · exact un_end hs (by omega) (by simp)
theorem m_hex1 {l : List UInt8} {i p : Nat} {h : UInt8} {X : List UInt8} (hs : runM q0 (l.take i) = some ⟨2, p, h, X⟩) (hi : i < l.length) (hx : hexB l[i] = true) (hp : p ≤ 74) : runM q0 (l.take (i + 1)) = some ⟨3, p + 1, l[i], X⟩ := by
  have n1 : l[i] ≠ 13 := fun e => by rw [e] at hx; exact absurd hx (by decide)
  rw [runM_snoc l i hi _ _ hs]
  simp [stepM, stepN, n1, hx, hp]
theorem m_hex1no {l : List UInt8} {i p : Nat} {h : UInt8} {X : List UInt8} (hs : runM q0 (l.take i) = some ⟨3, p, h, X⟩) (hi : i ≤ l.length) (hn : ∀ c, l[i]? = some c → hexB c = false) : unqOk l = false ∧ unqA l = i := by
  rcases Nat.lt_or_ge i l.length with hlt | hge
  · refine un_stop hs hlt ?_
    simp [stepM, stepN, hn _ (List.getElem?_eq_getElem hlt)]
  · exact un_end hs (by omega) (by simp)
theorem m_hex2 {l : List UInt8} {i p : Nat} {h : UInt8} {X : List UInt8} (hs : runM q0 (l.take i) = some ⟨3, p, h, X⟩) (hi : i < l.length) (hx : hexB l[i] = true) : runM q0 (l.take (i + 1)) = some ⟨0, p + 1, 0, X ++ [UInt8.ofNat (hexV h.toNat * 16 + hexV l[i].toNat)]⟩ := by
  rw [runM_snoc l i hi _ _ hs]
  simp [stepM, stepN, hx]
end Go.Proofs.YtenfopabdegmhabDoor
