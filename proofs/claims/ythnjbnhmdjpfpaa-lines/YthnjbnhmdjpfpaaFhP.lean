/-
  How long a play goes on: steps and ends.
-/
import Derived.Test.YthnjbnhmdjpfpaaFgP
namespace Go.Proofs.Ythnjbnhmdjpfpaa

/-- The least number. -/
theorem least_is {P : Nat → Prop} (h : ∃ n, P n) : ∃ n, P n ∧ ∀ m, P m → n ≤ m := by
  obtain ⟨n, hn⟩ := h
  induction n using Nat.strongRecOn with
  | _ n ih =>
    by_cases hx : ∃ m, m < n ∧ P m
    · obtain ⟨m, hm, hp⟩ := hx
      exact ih m hm hp
    · exact ⟨n, hn, fun m hm => Nat.le_of_not_lt (fun hl => hx ⟨m, hl, hm⟩)⟩
open Classical in
noncomputable def rk (P : Nat → Prop) : Nat := if h : ∃ n, P n then (least_is h).choose else 0
theorem rk_spec {P : Nat → Prop} (h : ∃ n, P n) : P (rk P) ∧ ∀ m, P m → rk P ≤ m := by
  unfold rk
  rw [dif_pos h]
  exact (least_is h).choose_spec

def Fs.pot : Fs → Nat
  | .ln _ => 0
  | .dt d => if d.p = 6 then 1 else 0
  | .ch _ _ => 1
theorem Ds.stp_six {t a : Nat} {d : Ds} {c : UInt8} (h : (d.stp t c).p = 6) : d.out a c = [] := by
  have hi : ∀ x : Ds, (x.inn t c).p ≠ 6 := fun x => by
    unfold inn mid tl
    split <;> simp
  unfold stp at h
  unfold out
  split
  · rename_i h1
    rw [if_pos h1] at h
    split
    · rfl
    · rename_i h2
      rw [if_neg h2] at h
      exact absurd h (hi _)
  · rename_i h1
    rw [if_neg h1] at h
    split
    · rename_i h2
      rw [if_pos h2] at h
      split
      · rfl
      · rename_i h3
        rw [if_neg h3] at h
        exact absurd h (hi _)
    · rename_i h2
      rw [if_neg h2] at h
      split
      · rename_i h3
        rw [if_pos h3] at h
        split
        · rfl
        · rename_i h4
          rw [if_neg h4] at h
          exact absurd h (hi _)
      · rename_i h3
        rw [if_neg h3] at h
        split at h
        · split at h
          · simp [tl] at h
          · exact absurd h (hi _)
        · exact absurd h (hi _)
theorem Ds.run_zero {t a : Nat} {d : Ds} {l : List UInt8} (h : (d.run t a l).1 = 0) : d.run t a l = (0, [], d) := by
  cases l with
  | nil => rfl
  | cons c r =>
    by_cases hp : d.p < 6
    · rw [run_cons hp] at h
      simp at h
    · exact run_over hp _
theorem Ds.run_six {t a : Nat} {d : Ds} {l : List UInt8} (h1 : (d.run t a l).2.1 ≠ []) (h2 : (d.run t a l).2.2.p = 6) : 2 ≤ (d.run t a l).1 := by
  cases l with
  | nil => exact absurd rfl h1
  | cons c r =>
    by_cases hp : d.p < 6
    · rw [run_cons hp] at h1 h2 ⊢
      dsimp only at h1 h2 ⊢
      by_cases h0 : (run t a (d.stp t c) r).1 = 0
      · rw [run_zero h0] at h1 h2
        rw [stp_six h2] at h1
        exact absurd rfl h1
      · omega
    · rw [run_over hp] at h1
      exact absurd rfl h1
theorem Ds.run_ok (t a : Nat) : ∀ (l : List UInt8) (d : Ds), 1 ≤ d.p → d.p ≤ 6 → 1 ≤ (d.run t a l).2.2.p ∧ (d.run t a l).2.2.p ≤ 6
  | [], _, h1, h2 => ⟨h1, h2⟩
  | c :: r, d, h1, h2 => by
    by_cases hp : d.p < 6
    · rw [run_cons hp]
      have := stp_pp t d c
      exact run_ok t a r _ this.1 this.2
    · rw [run_over hp]
      exact ⟨h1, h2⟩
theorem take_pot (m t a : Nat) (s : Fs) (hs : s.ok) (l : List UInt8) : (ftk m t a s l).1 ≤ l.length ∧ (ftk m t a s l).2.2.ok ∧ ((ftk m t a s l).2.1 ≠ .no → 1 + (ftk m t a s l).2.2.pot ≤ s.pot + (ftk m t a s l).1) := by
  cases s with
  | ln s =>
    refine ⟨tk_len m l s, trivial, fun h => ?_⟩
    have : 1 ≤ (tk m s l).1 := tk_pos m l s (fun e => by subst e; exact h rfl)
    show 1 + 0 ≤ 0 + (tk m s l).1
    omega
  | dt d =>
    have hl := Ds.run_len t a l d
    have hr := Ds.run_ok t a l d hs.1 hs.2
    have hz := Ds.run_zero (t := t) (a := a) (d := d) (l := l)
    have hx := Ds.run_six (t := t) (a := a) (d := d) (l := l)
    obtain ⟨⟨k, o, x⟩, hR⟩ : ∃ R, d.run t a l = R := ⟨_, rfl⟩
    have e : ftk m t a (.dt d) l = (k, .ofIm (imOf a o x), .ofIm (stOf o x) (imOf a o x)) := by simp only [ftk, hR]
    rw [e]
    rw [hR] at hl hr hz hx
    dsimp only at *
    by_cases ho : o = []
    · subst ho
      by_cases h6 : x.p = 6
      · have hi : imOf a [] x = .fin (x.why a) x.high := by simp [imOf, h6]
        rw [hi]
        refine ⟨hl, trivial, fun _ => ?_⟩
        show 1 + 0 ≤ (if d.p = 6 then 1 else 0) + k
        by_cases h0 : k = 0
        · have := hz h0
          have hxd : x = d := (Prod.mk.inj (Prod.mk.inj this).2).2
          rw [← hxd, if_pos h6]
          omega
        · omega
      · have hi : imOf a [] x = .no := imOf_nil _ _ h6
        have hst : stOf [] x = x := by simp [stOf, h6]
        rw [hi, hst]
        exact ⟨hl, hr, fun h => absurd rfl h⟩
    · have hi : imOf a o x = .body o := by simp [imOf, ho]
      have hst : stOf o x = x := by simp [stOf, ho]
      rw [hi, hst]
      refine ⟨hl, hr, fun _ => ?_⟩
      show 1 + (if x.p = 6 then 1 else 0) ≤ _ + k
      by_cases h6 : x.p = 6
      · have := hx ho h6
        rw [if_pos h6]
        omega
      · rw [if_neg h6]
        have : k ≠ 0 := fun h0 => ho (Prod.mk.inj (Prod.mk.inj (hz h0)).2).1
        omega
  | ch n r =>
    refine ⟨Nat.min_le_left _ _, ?_, ?_⟩
    · show (chS n r l).ok
      unfold chS
      split
      · trivial
      · split <;> trivial
    · show chI n r l ≠ .no → 1 + (chS n r l).pot ≤ 1 + min l.length n
      unfold chI chS
      split
      · intro _
        show 1 + 1 ≤ _
        omega
      · split
        · intro _
          show 1 + 0 ≤ _
          omega
        · intro h
          exact absurd rfl h
def Pg.dur (a : Nat) (T : List Tu) : Nat → Pg → Nat
  | 0, _ => 0
  | k + 1, p => if p.s.rdy = true then Pg.dur a T k (p.fire a T) + 1 else 0
theorem Pg.dur_le (a : Nat) (T : List Tu) : ∀ (k : Nat) (p : Pg), p.dur a T k ≤ k
  | 0, _ => Nat.le_refl _
  | k + 1, p => by
    show (if p.s.rdy = true then Pg.dur a T k (p.fire a T) + 1 else 0) ≤ k + 1
    have := dur_le a T k (p.fire a T)
    split <;> omega
theorem Pg.dur_more (a : Nat) (T : List Tu) : ∀ (k : Nat) (p : Pg), (p.stl a T k).s.rdy = false → p.dur a T (k + 1) = p.dur a T k
  | 0, p, h => by
    have h' : p.s.rdy = false := h
    show (if p.s.rdy = true then _ else 0) = 0
    rw [h']
    rfl
  | k + 1, p, h => by
    have ih := dur_more a T k (p.fire a T) h
    show (if p.s.rdy = true then Pg.dur a T (k + 1) (p.fire a T) + 1 else 0) = if p.s.rdy = true then Pg.dur a T k (p.fire a T) + 1 else 0
    rw [ih]
theorem Pg.dur_fire {a : Nat} {T : List Tu} {K : Nat} (hK : Calm a T (K + 1)) (p : Pg) (h : p.s.rdy = true) : (p.fire a T).dur a T (K + 1) < p.dur a T (K + 1) := by
  have h1 : p.dur a T (K + 1) = (p.fire a T).dur a T K + 1 := by
    show (if p.s.rdy = true then Pg.dur a T K (p.fire a T) + 1 else 0) = _
    rw [if_pos h]
  have h2 := dur_more a T K (p.fire a T) (hK p)
  omega
def Pg.rank (a : Nat) (T : List Tu) (K : Nat) (p : Pg) (l : List UInt8) : Nat := l.length * (K + 1) + p.dur a T K
theorem take_zero {m t a : Nat} {s : Fs} (hs : s.ok) {l : List UInt8} (h : (ftk m t a s l).2.1 ≠ .no) (h0 : (ftk m t a s l).1 = 0) : s.rdy = true := by
  have hp := (take_pot m t a s hs l).2.2 h
  rw [h0] at hp
  cases s with
  | ln s => have hp' : 1 + _ ≤ 0 + 0 := hp; omega
  | dt d =>
    have hp' : 1 + _ ≤ (if d.p = 6 then 1 else 0) + 0 := hp
    have : d.p = 6 := by
      by_cases h6 : d.p = 6
      · exact h6
      · rw [if_neg h6] at hp'; omega
    simp [Fs.rdy, this]
  | ch n r =>
    have h0' : min l.length n = 0 := h0
    by_cases hn : n = 0
    · simp [Fs.rdy, hn]
    · have hl : l.length = 0 := by omega
      exfalso
      apply h
      show chI n r l = .no
      unfold chI
      rw [h0']
      simp [hn]
theorem take_rank {m t a : Nat} {T : List Tu} {K : Nat} (hK : Calm a T (K + 1)) (p : Pg) (hs : p.s.ok) (l : List UInt8) (h : (ftk m t a p.s l).2.1 ≠ .no) :
    (p.on T (ftk m t a p.s l).2.1 (ftk m t a p.s l).2.2).rank a T (K + 1) (l.drop (ftk m t a p.s l).1) < p.rank a T (K + 1) l := by
  by_cases h0 : (ftk m t a p.s l).1 = 0
  · have hr := take_zero hs h h0
    rw [ftk_rdy hr hs l, List.drop_zero]
    have := Pg.dur_fire hK p hr
    have hf : p.fire a T = p.on T (p.s.fin a) (.ln []) := by simp [Pg.fire, hr]
    rw [hf] at this
    unfold Pg.rank
    dsimp only
    omega
  · have hl := (take_pot m t a p.s hs l).1
    unfold Pg.rank
    have hd := Pg.dur_le a T (K + 1) (p.on T (ftk m t a p.s l).2.1 (ftk m t a p.s l).2.2)
    rw [List.length_drop]
    have : (l.length - (ftk m t a p.s l).1) * (K + 1 + 1) + (K + 1 + 1) ≤ l.length * (K + 1 + 1) := by
      have h1 : (l.length - (ftk m t a p.s l).1) * (K + 1 + 1) + (K + 1 + 1) = (l.length - (ftk m t a p.s l).1 + 1) * (K + 1 + 1) := by rw [Nat.add_mul, Nat.one_mul]
      rw [h1]
      exact Nat.mul_le_mul_right _ (by omega)
    omega
end Go.Proofs.Ythnjbnhmdjpfpaa
