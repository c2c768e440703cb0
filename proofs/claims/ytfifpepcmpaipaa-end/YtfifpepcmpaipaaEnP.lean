/-
  Where a stream ends, in plain words: behind the first CR LF . CR LF.
-/
import Derived.Test.YtfifpepcmpaipaaHdP
import Derived.Lib.IndexMore
namespace Go.Proofs.Ytfifpepcmpaipaa

def sepE : List UInt8 := [13, 10, 46, 13, 10]
/-- What is told by the start. -/
theorem stt_new {t a : Nat} {s : List UInt8} (h : s.length ≤ a) : ((Ds.new.run t a s).2.2.p = 6 ∧ ∃ u, s.take (Ds.new.run t a s).1 = u ++ [46, 13, 10] ∧ lb u) ∨ ((Ds.new.run t a s).2.2.p < 6 ∧ Stt s (Ds.new.run t a s).2.2) := by
  have := stt_run (t := t) (a := a) s [] Ds.new 0 (.inl ⟨rfl, .inl rfl⟩) (by decide) (by simpa using h) (by simp [drp, bgs, dotAt, Ds.new])
  rcases this with ⟨h1, u, h2, h3⟩ | ⟨h1, h2, _⟩
  · exact .inl ⟨h1, u, by simpa using h2, h3⟩
  · exact .inr ⟨h1, by simpa using h2⟩
theorem lb_one {t : List UInt8} {x : Ds} (h : Stt t x) (hl : lb t) : x.p = 1 := by
  rcases h with ⟨h1, _⟩ | ⟨h1, u, e, _⟩ | ⟨h1, u, e, _⟩ | ⟨h1, e, _⟩ | ⟨h1, u, e⟩
  · exact h1
  · rw [e] at hl; exact absurd (lb_last hl).1 (by decide)
  · have : t = (u ++ [46]) ++ [13] := by rw [e]; simp
    exact absurd this (lb_none hl)
  · exact absurd hl e
  · exact absurd e (lb_none hl)
/-- Where the five stand side by side. -/
theorem occ_is {s : List UInt8} {j : Nat} (h : Lib.occAt ([13, 10] ++ s) sepE j = true) : lb (s.take j) ∧ j ≤ s.length ∧ ∃ r, s.drop j = 46 :: 13 :: 10 :: r := by
  unfold Lib.occAt at h
  rw [List.isPrefixOf_iff_prefix] at h
  obtain ⟨r, hr⟩ := h
  have hlen : j + 5 ≤ s.length + 2 := by
    have := congrArg List.length hr
    simp [sepE] at this
    omega
  match j with
  | 0 =>
    refine ⟨.inl (by simp), Nat.zero_le _, r, ?_⟩
    simp [sepE] at hr
    simpa using hr.symm
  | 1 => simp [sepE] at hr
  | j + 2 =>
    have h1 : s.drop j = sepE ++ r := by simpa using hr.symm
    have h2 : s.drop (j + 2) = 46 :: 13 :: 10 :: r := by
      rw [← List.drop_drop, h1]
      rfl
    refine ⟨.inr ⟨s.take j, ?_⟩, by omega, r, h2⟩
    rw [List.take_add, h1]
    rfl
theorem occ_end {t a : Nat} {s : List UInt8} {j : Nat} (hl : s.length ≤ a) (h : Lib.occAt ([13, 10] ++ s) sepE j = true) : (Ds.new.run t a s).2.2.p = 6 ∧ (Ds.new.run t a s).1 ≤ j + 3 := by
  obtain ⟨h1, h2, r, h3⟩ := occ_is h
  have hs : s = s.take j ++ s.drop j := (List.take_append_drop j s).symm
  have hj := Ds.run_len t a (s.take j) Ds.new
  rw [List.length_take, Nat.min_eq_left h2] at hj
  have hr := Ds.run_append t a (s.take j) (s.drop j) Ds.new
  rw [← hs] at hr
  rw [hr]
  rcases stt_new (t := t) (a := a) (s := s.take j) (by rw [List.length_take]; omega) with ⟨k1, _⟩ | ⟨k1, k2⟩
  · generalize (Ds.new.run t a (s.take j)) = R at *
    obtain ⟨n, o, x⟩ := R
    dsimp only at *
    rw [Ds.run_over (by omega)]
    exact ⟨k1, by dsimp only; omega⟩
  · have hp := lb_one k2 h1
    generalize (Ds.new.run t a (s.take j)) = R at *
    obtain ⟨n, o, x⟩ := R
    dsimp only at *
    have e1 : x.stp t 46 = { x with p := 2 } := by simp [Ds.stp, hp]
    have e2 : ({ x with p := 2 } : Ds).stp t 13 = { x with p := 3 } := by simp [Ds.stp]
    have e3 : ({ x with p := 3 } : Ds).stp t 10 = { x with p := 6 } := by simp [Ds.stp]
    rw [h3, Ds.run_cons (by omega), e1, Ds.run_cons (by simp), e2, Ds.run_cons (by simp), e3, Ds.run_over (by simp)]
    exact ⟨rfl, by dsimp only; omega⟩
/-- The first place is that of the end. -/
theorem index_end {t a : Nat} {s : List UInt8} (hl : s.length ≤ a) (h6 : (Ds.new.run t a s).2.2.p = 6) : Lib.index ([13, 10] ++ s) sepE + 3 = ((Ds.new.run t a s).1 : Int) := by
  rcases stt_new (t := t) (a := a) hl with ⟨_, u, hu, hlb⟩ | ⟨k, _⟩
  · have hn : (Ds.new.run t a s).1 = u.length + 3 := by
      have h1 := congrArg List.length hu
      have h2 := Ds.run_len t a s Ds.new
      rw [List.length_take, Nat.min_eq_left h2] at h1
      simpa using h1
    have hs : s = (u ++ [46, 13, 10]) ++ s.drop (Ds.new.run t a s).1 := by rw [← hu, List.take_append_drop]
    have hv : ∃ v : List UInt8, v.length = u.length ∧ [13, 10] ++ u = v ++ [13, 10] := by
      rcases hlb with e | ⟨x, e⟩
      · exact ⟨[], by rw [e], by rw [e]; rfl⟩
      · exact ⟨[13, 10] ++ x, by rw [e]; simp, by rw [e]; simp⟩
    obtain ⟨v, hv1, hv2⟩ := hv
    have hocc : Lib.occAt ([13, 10] ++ s) sepE u.length = true := by
      unfold Lib.occAt
      rw [List.isPrefixOf_iff_prefix]
      refine ⟨s.drop (Ds.new.run t a s).1, ?_⟩
      have : [13, 10] ++ s = v ++ (sepE ++ s.drop (Ds.new.run t a s).1) := by
        conv => lhs; rw [hs]
        rw [← List.append_assoc, ← List.append_assoc, hv2]
        simp [sepE]
      rw [this, ← hv1, List.drop_left]
    have hi := Lib.index_first (s := [13, 10] ++ s) (sub := sepE) (i := u.length) (by rw [List.length_append]; have := congrArg List.length hs; simp at this ⊢; omega) hocc (fun j hj => by
      cases ho : Lib.occAt ([13, 10] ++ s) sepE j with
      | false => rfl
      | true =>
        have := (occ_end (t := t) hl ho).2
        omega)
    rw [hi, hn]
    rfl
  · omega
theorem index_never {t a : Nat} {s : List UInt8} (hl : s.length ≤ a) (h6 : ¬ (Ds.new.run t a s).2.2.p = 6) : Lib.index ([13, 10] ++ s) sepE = -1 :=
  Lib.index_none (fun j _ => by
    cases ho : Lib.occAt ([13, 10] ++ s) sepE j with
    | false => rfl
    | true => exact absurd (occ_end (t := t) hl ho).1 h6)
end Go.Proofs.Ytfifpepcmpaipaa
