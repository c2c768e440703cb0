/-
  The plain mathematics of quoted text that is read back: no Go in sight.
-/
import Derived.Test.YtenfopabdegmhaaDoorUqP
namespace Go.Proofs.YtenfopabdegmhaaDoor

theorem hexD_ok : ∀ n : Fin 16, hexB (hexD n.val) = true ∧ hexV (hexD n.val).toNat = n.val ∧ hexD n.val ≠ 13 := by decide +kernel
theorem hex_back (c : UInt8) : UInt8.ofNat (hexV (hexD (c.toNat / 16)).toNat * 16 + hexV (hexD (c.toNat % 16)).toNat) = c := by
  have h := c.toNat_lt
  rw [(hexD_ok ⟨c.toNat / 16, by omega⟩).2.1, (hexD_ok ⟨c.toNat % 16, by omega⟩).2.1]
  refine UInt8.toNat_inj.1 ?_
  rw [UInt8.toNat_ofNat']
  show (c.toNat / 16 * 16 + c.toNat % 16) % 2 ^ 8 = c.toNat
  omega
/-- A sign. -/
theorem sign_run (c : UInt8) (last : Bool) (k p : Nat) (h : UInt8) (o : List UInt8) (hk : k ≤ 1) (hp : p + (signQ c last).length + (if last = true then 0 else 1) ≤ 76) :
    ∃ k' h', runM ⟨k, p, h, o⟩ (signQ c last) = some ⟨k', p + (signQ c last).length, h', o ++ [c]⟩ ∧ k' ≤ 1 ∧ (last = true → k' = 0) := by
  have h01 : k = 0 ∨ k = 1 := by omega
  unfold signQ at hp ⊢
  by_cases hv : valB c = true
  · rw [if_pos (.inl hv)] at hp ⊢
    have n13 := (val_not c hv).1
    refine ⟨0, 0, ?_, by omega, fun _ => rfl⟩
    have hp' : p ≤ 75 := by simp at hp; split at hp <;> omega
    rcases h01 with rfl | rfl <;> simp [runM, stepM, stepN, n13, hv, hp']
  · by_cases hb : blkB c = true ∧ last = false
    · rw [if_pos (.inr hb)] at hp ⊢
      obtain ⟨hb, rfl⟩ := hb
      have n13 := (blk_not c hb).1
      have hv' : valB c = false := by simpa using hv
      refine ⟨1, 0, ?_, by omega, fun e => by cases e⟩
      have hp' : p ≤ 74 := by simp at hp; omega
      rcases h01 with rfl | rfl <;> simp [runM, stepM, stepN, n13, hv', hb, hp']
    · rw [if_neg (by rintro (h | h); exact hv h; exact hb h)] at hp ⊢
      have hp' : p ≤ 73 := by simp at hp; split at hp <;> omega
      have hc := c.toNat_lt
      obtain ⟨x1, _, x3⟩ := hexD_ok ⟨c.toNat / 16, by omega⟩
      obtain ⟨y1, _, _⟩ := hexD_ok ⟨c.toNat % 16, by omega⟩
      have hb := hex_back c
      have n1 : valB 61 = false := by decide
      have n2 : blkB 61 = false := by decide
      have q1 : p ≤ 75 := by omega
      have q2 : p + 1 ≤ 74 := by omega
      simp only at x1 x3 y1
      refine ⟨0, 0, ?_, by omega, fun _ => rfl⟩
      rcases h01 with rfl | rfl <;> simp [runM, stepM, stepN, n1, n2, q1, q2, x1, x3, y1, hb]
/-- A line's rows. -/
theorem qrow_run (l : List UInt8) : ∀ (r k : Nat) (h : UInt8) (o : List UInt8), k ≤ 1 → r ≤ 75 → ∃ k' p' h', runM ⟨k, r, h, o⟩ (qrow r l) = some ⟨k', p', h', o ++ l⟩ ∧ (l = [] → k' = k) ∧ (l ≠ [] → k' = 0) := by
  induction l with
  | nil => intro r k h o _ _; exact ⟨k, r, h, by simp [qrow, runM], fun _ => rfl, fun e => absurd rfl e⟩
  | cons c t ih =>
    intro r k h o hk hr
    have hs := sign_len c t.isEmpty
    have go : ∀ (k1 p1 : Nat) (h1 : UInt8) (o1 : List UInt8), k1 ≤ 1 → p1 + (signQ c t.isEmpty).length + (if t.isEmpty = true then 0 else 1) ≤ 76 → ∃ k' p' h', runM ⟨k1, p1, h1, o1⟩ (signQ c t.isEmpty ++ qrow (p1 + (signQ c t.isEmpty).length) t) = some ⟨k', p', h', o1 ++ c :: t⟩ ∧ k' = 0 := by
      intro k1 p1 h1 o1 hk1 hp1
      obtain ⟨k2, h2, e2, hk2, hl2⟩ := sign_run c t.isEmpty k1 p1 h1 o1 hk1 hp1
      rw [runM_append, e2]
      simp only [Option.bind]
      by_cases ht : t = []
      · subst ht
        exact ⟨k2, _, h2, rfl, hl2 rfl⟩
      · have hf : t.isEmpty = false := by simpa using ht
        rw [hf] at hp1 ⊢
        obtain ⟨k', p', h', e', _, hne⟩ := ih (p1 + (signQ c false).length) k2 h2 (o1 ++ [c]) hk2 (by simp at hp1; omega)
        refine ⟨k', p', h', ?_, hne ht⟩
        rw [hf] at *
        rw [e']
        simp
    rw [qrow]
    by_cases hbr : 76 < r + (signQ c t.isEmpty).length + (if t.isEmpty = true then 0 else 1)
    · rw [if_pos hbr]
      have n1 : valB 61 = false := by decide
      have n2 : blkB 61 = false := by decide
      have h01 : k = 0 ∨ k = 1 := by omega
      have e3 : ∀ x : List UInt8, runM ⟨k, r, h, o⟩ (61 :: 13 :: 10 :: x) = runM ⟨0, 0, 0, o⟩ x := fun x => by
        rcases h01 with rfl | rfl <;> simp [runM, stepM, stepN, n1, n2, hr]
      rw [e3]
      obtain ⟨k', p', h', e', hk'⟩ := go 0 0 0 o (by omega) (by split <;> omega)
      rw [Nat.zero_add] at e'
      exact ⟨k', p', h', e', fun e => (nomatch e), fun _ => hk'⟩
    · rw [if_neg hbr]
      obtain ⟨k', p', h', e', hk'⟩ := go k r h o hk (by omega)
      exact ⟨k', p', h', e', fun e => (nomatch e), fun _ => hk'⟩
theorem crlf_parts (l : List UInt8) : ∀ i, crlf l = some i → l = l.take i ++ 13 :: 10 :: l.drop (i + 2) := by
  induction l with
  | nil => intro i h; simp [crlf] at h
  | cons c r ih =>
    intro i h
    unfold crlf at h
    split at h
    · injection h with h
      rename_i heq
      injection heq with e1 e
      subst e h e1
      rfl
    · rename_i heq
      injection heq with e1 e2
      subst e1 e2
      rw [Option.map_eq_some_iff] at h
      obtain ⟨j, hj, rfl⟩ := h
      have := ih j hj
      rw [List.take_succ_cons, show j + 1 + 2 = (j + 2) + 1 by omega, List.drop_succ_cons, List.cons_append, ← this]
    · cases h
/-- What is quoted is read as it was. -/
theorem quote_run : ∀ (n : Nat) (l : List UInt8), l.length < n → ∃ p h, runM q0 (quoteL l) = some ⟨0, p, h, l⟩
  | 0, _, h => by omega
  | n + 1, l, hl => by
    cases hc : crlf l with
    | none =>
      obtain ⟨k', p', h', e, h0, h1⟩ := qrow_run l 0 0 0 [] (by omega) (by omega)
      rw [quote_none l hc]
      have : k' = 0 := by
        by_cases hn : l = []
        · exact h0 hn
        · exact h1 hn
      subst this
      exact ⟨p', h', e⟩
    | some i =>
      have hi := crlf_lt l i hc
      obtain ⟨k', p', h', e, h0, h1⟩ := qrow_run (l.take i) 0 0 0 [] (by omega) (by omega)
      have hk : k' = 0 := by
        by_cases hn : l.take i = []
        · exact h0 hn
        · exact h1 hn
      subst hk
      obtain ⟨p2, h2, e2⟩ := quote_run n (l.drop (i + 2)) (by rw [List.length_drop]; omega)
      rw [quote_some l i hc, runM_append, show q0 = ⟨0, 0, 0, []⟩ from rfl, e]
      simp only [Option.bind, List.nil_append]
      have e3 : ∀ x : List UInt8, runM ⟨0, p', h', l.take i⟩ (13 :: 10 :: x) = runM (ahead (l.take i ++ [13, 10]) q0) x := fun x => by
        simp [runM, stepM, ahead, q0]
      rw [e3, runM_ahead, e2]
      refine ⟨p2, h2, ?_⟩
      simp only [Option.map, ahead]
      congr 2
      conv => rhs; rw [crlf_parts l i hc]
      simp
theorem quote_back (l : List UInt8) : unqOk (quoteL l) = true ∧ unqL (quoteL l) = l := by
  obtain ⟨p, h, e⟩ := quote_run (l.length + 1) l (by omega)
  unfold unqOk unqL
  rw [e]
  exact ⟨rfl, rfl⟩
end Go.Proofs.YtenfopabdegmhaaDoor
