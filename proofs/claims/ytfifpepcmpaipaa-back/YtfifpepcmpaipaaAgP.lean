/-
  What a reader comes to, in plain words: sizes, rows; where each line that begins with a dot begins with two, what was told, stuffed, is the stream.
-/
import Derived.Test.YtfifpepcmpaipaaHrP
import Derived.Test.YtfifpepcmpaipaaCkP
namespace Go.Proofs.Ytfifpepcmpaipaa

theorem Ds.inn_at (t : Nat) (s : Ds) (c : UInt8) : (s.inn t c).size = s.size + 1 ∧ (s.inn t c).row ≤ s.row + 1 ∧ ((s.inn t c).bare = false → s.bare = false) ∧ (s.long = false → s.row + 1 ≤ t → (s.inn t c).long = false) := by
  unfold inn mid tl
  split
  · exact ⟨rfl, Nat.le_succ _, id, fun h _ => h⟩
  · refine ⟨rfl, Nat.le_refl _, ?_, ?_⟩
    · intro h
      dsimp only at h
      cases hb : s.bare <;> simp_all
    · intro h1 h2
      dsimp only
      rw [h1, decide_eq_false (by omega)]
      rfl
theorem Ds.stp_at (t : Nat) (s : Ds) (c : UInt8) : (s.stp t c).size + (s.stp t c).held ≤ s.size + s.held + 1 ∧ (s.stp t c).row ≤ s.row + 1 ∧ ((s.stp t c).bare = false → s.bare = false) ∧ (s.long = false → s.row + 1 ≤ t → (s.stp t c).long = false) := by
  have hh : ∀ x : Ds, (x.inn t c).held = 0 := fun x => by rcases x.inn_p t c with h | h <;> simp [held, h]
  unfold stp
  split
  · rename_i hp
    split
    · refine ⟨?_, Nat.le_succ _, id, fun h _ => h⟩
      simp [held, hp]
    · have := s.inn_at t c
      rw [hh]
      exact ⟨by omega, this.2.1, this.2.2.1, this.2.2.2⟩
  · split
    · rename_i hp
      split
      · refine ⟨?_, Nat.le_succ _, id, fun h _ => h⟩
        simp [held, hp]
      · have := s.inn_at t c
        rw [hh]
        exact ⟨by omega, this.2.1, this.2.2.1, this.2.2.2⟩
    · split
      · rename_i hp
        split
        · refine ⟨?_, Nat.le_succ _, id, fun h _ => h⟩
          simp [held, hp]
          omega
        · have := Ds.inn_at t { s.tl 13 with bare := true } c
          rw [hh]
          have hhs : s.held = 2 := by simp [held, hp]
          refine ⟨?_, this.2.1, fun h => ?_, this.2.2.2⟩
          · have h1 := this.1
            simp only [tl] at h1 ⊢
            omega
          · have := this.2.2.1 h
            cases this
      · split
        · rename_i hp
          split
          · refine ⟨?_, ?_, id, fun h _ => h⟩
            · simp [held, tl, hp]
            · simp [tl]
          · have := Ds.inn_at t { s with bare := true } c
            rw [hh]
            refine ⟨?_, this.2.1, fun h => ?_, this.2.2.2⟩
            · have h1 := this.1
              dsimp only at h1 ⊢
              omega
            · have := this.2.2.1 h
              cases this
        · have := s.inn_at t c
          rw [hh]
          exact ⟨by omega, this.2.1, this.2.2.1, this.2.2.2⟩
theorem Ds.run_to (t a : Nat) : ∀ (l : List UInt8) (s : Ds), (s.run t a l).2.2.size + (s.run t a l).2.2.held ≤ s.size + s.held + (s.run t a l).1 ∧ ((s.run t a l).2.2.bare = false → s.bare = false) ∧ (s.long = false → s.row + l.length ≤ t → (s.run t a l).2.2.long = false)
  | [], s => ⟨Nat.le_refl _, id, fun h _ => h⟩
  | c :: r, s => by
    by_cases h : s.p < 6
    · have h1 := run_to t a r (s.stp t c)
      have h2 := stp_at t s c
      rw [run_cons h]
      refine ⟨?_, fun hb => h2.2.2.1 (h1.2.1 hb), fun hl hr => ?_⟩
      · dsimp only
        omega
      · simp only [List.length_cons] at hr
        exact h1.2.2 (h2.2.2.2 hl (by omega)) (by omega)
    · rw [run_over h]
      exact ⟨Nat.le_refl _, id, fun h _ => h⟩
/-- How many bytes there are to the end at least. -/
def rem6 (p : Nat) : Nat := if p = 1 then 3 else if p = 2 then 2 else if p = 3 then 1 else if p = 5 then 4 else if p < 6 then 5 else 0
theorem Ds.run_rem (t a : Nat) : ∀ (l : List UInt8) (s : Ds), (s.run t a l).2.2.p = 6 → rem6 s.p ≤ (s.run t a l).1
  | [], s, h => by
    rw [run_nil] at h ⊢
    dsimp only at h ⊢
    simp [rem6, h]
  | c :: r, s, h => by
    by_cases hp : s.p < 6
    · rw [run_cons hp] at h ⊢
      have h1 := run_rem t a r (s.stp t c) h
      have h2 : rem6 s.p ≤ rem6 (s.stp t c).p + 1 := by
        have hi : ∀ x : Ds, 4 ≤ rem6 (x.inn t c).p := fun x => by rcases x.inn_p t c with h | h <;> simp [rem6, h]
        have hi5 : s.p = 4 ∨ s.p = 0 → rem6 s.p = 5 := fun h => by rcases h with h | h <;> simp [rem6, h]
        unfold stp
        split
        · rename_i h1
          split
          · simp [rem6, h1]
          · have := hi s; simp [rem6, h1] at this ⊢; omega
        · split
          · rename_i h1
            split
            · simp [rem6, h1]
            · have := hi s; simp [rem6, h1] at this ⊢; omega
          · split
            · rename_i h1
              split
              · simp [rem6, h1]
              · simp [rem6, h1]
            · split
              · rename_i h1
                split
                · simp [rem6, h1, tl]
                · have := hi { s with bare := true }; simp [rem6, h1] at this ⊢; omega
              · have := hi s
                have h5 := hi5 (by omega)
                omega
      dsimp only
      omega
    · rw [run_over hp] at h ⊢
      dsimp only at h ⊢
      simp [rem6, h]
/-- Does a line begin behind these bytes? -/
def lb (t : List UInt8) : Prop := t = [] ∨ ∃ u, t = u ++ [13, 10]
/-- Each line that begins with a dot begins with two, but the last. -/
def Dbl (p : List UInt8) : Prop := ∀ i, i + 3 < p.length → lb (p.take i) → p[i]? = some 46 → p[i + 1]? = some 46
/-- Behind a line's end? -/
def flg (o : List UInt8) : Bool := lastOk o
theorem flg_snoc (o : List UInt8) (c : UInt8) : flg (o ++ [c]) = (c == 10) := by
  unfold flg lastOk
  simp
theorem stf_snoc : ∀ (o : List UInt8) (c : UInt8) (b : Bool), stf b (o ++ [c]) = stf b o ++ (if ((if o = [] then b else o.getLast? == some 10) && c == 46) = true then [46, c] else [c])
  | [], c, b => by simp [stf]
  | d :: o, c, b => by
    rw [List.cons_append, stf_cons, stf_cons, stf_snoc o c (d == 10), List.append_assoc]
    congr 2
    cases o with
    | nil => simp
    | cons e o => simp [List.getLast?_cons_cons]
theorem stf_flg (o : List UInt8) (c : UInt8) : stf true (o ++ [c]) = stf true o ++ (if (flg o && c == 46) = true then [46, c] else [c]) := by
  rw [stf_snoc]
  congr 2
  unfold flg lastOk
  by_cases h : o = []
  · simp [h]
  · rw [if_neg h]
    cases hg : o.getLast? with
    | none => exact absurd (List.getLast?_eq_none_iff.1 hg) h
    | some x => simp
/-- What is known of a row of bytes as to line ends: none: one was bare; else: is the last a CR? -/
def whS : Bool → List UInt8 → Option Bool
  | h, [] => some h
  | h, c :: r => if (h != (c == 10)) = true then none else whS (c == 13) r
theorem whS_snoc : ∀ (o : List UInt8) (c : UInt8) (h : Bool), whS h (o ++ [c]) = (whS h o).bind (fun k => if (k != (c == 10)) = true then none else some (c == 13))
  | [], c, h => by simp [whS]
  | d :: o, c, h => by
    rw [List.cons_append]
    unfold whS
    split
    · rfl
    · exact whS_snoc o c (d == 13)
theorem whE_of : ∀ (o : List UInt8) (h : Bool), whS h o = some false → whE h o = false
  | [], h, e => by simpa [whS, whE] using e
  | d :: o, h, e => by
    unfold whS at e
    rw [whE_cons]
    split at e
    · cases e
    · rename_i hn
      rw [if_neg hn]
      exact whE_of o _ e
theorem whole_of {o : List UInt8} (h1 : whS false o = some false) (h2 : flg o = true) : wholeI o = 0 := by
  unfold wholeI
  rw [whE_of o false h1]
  unfold flg at h2
  simp [h2]
/-- What stands where, as long as nothing is bare. -/
def Agn (t o : List UInt8) (x : Ds) : Prop :=
  (x.p = 1 ∧ stf true o = t ∧ whS false o = some false ∧ flg o = true ∧ lb t) ∨
  (x.p = 2 ∧ ∃ u, t = u ++ [46] ∧ stf true o = u ∧ whS false o = some false ∧ flg o = true ∧ lb u) ∨
  (x.p = 3 ∧ ∃ u, t = u ++ [46, 13] ∧ stf true o = u ∧ whS false o = some false ∧ flg o = true) ∨
  (x.p = 4 ∧ stf true o = t ∧ whS false o = some false ∧ flg o = false) ∨
  (x.p = 5 ∧ stf true o = t ∧ whS false o = some true ∧ flg o = false ∧ ∃ u, t = u ++ [13])
theorem whS_on {o : List UInt8} {c : UInt8} (h : whS false o = some false) (hc : ¬ c = 10) : whS false (o ++ [c]) = some (c == 13) := by
  rw [whS_snoc, h]
  simp [beq_false_of_ne hc]
theorem Ds.ou_one {a : Nat} {x : Ds} (c : UInt8) (h : x.size + 1 ≤ a) : x.ou a c = [c] := if_neg (by omega)
/-- A byte within a line. -/
theorem agn_in {t : Nat} {T o : List UInt8} {x : Ds} {c : UInt8} (hf : stf true (o ++ [c]) = T ++ [c]) (hw : whS false o = some false) (hb : (x.inn t c).bare = false) : Agn (T ++ [c]) (o ++ [c]) (x.inn t c) := by
  by_cases h13 : c = 13
  · subst h13
    have hp : (x.inn t 13).p = 5 := by simp [Ds.inn, Ds.mid, Ds.tl]
    exact .inr (.inr (.inr (.inr ⟨hp, hf, whS_on hw (by decide), by rw [flg_snoc]; rfl, T, rfl⟩)))
  · have h10 : ¬ c = 10 := fun e => by
      subst e
      simp [Ds.inn, Ds.mid, Ds.tl] at hb
    have hp : (x.inn t c).p = 4 := by simp [Ds.inn, Ds.mid, Ds.tl, h13]
    exact .inr (.inr (.inr (.inl ⟨hp, hf, by rw [whS_on hw h10, beq_false_of_ne h13], by rw [flg_snoc, beq_false_of_ne h10]⟩)))
theorem again_go (t a : Nat) : ∀ (r T o : List UInt8) (x : Ds), Agn T o x → x.size + x.held ≤ T.length → T.length + r.length ≤ a → (x.run t a r).2.2.p = 6 → (x.run t a r).2.2.bare = false → Dbl (T ++ r.take (x.run t a r).1) → stuffL (o ++ (x.run t a r).2.1) = T ++ r.take (x.run t a r).1 ∧ wholeI (o ++ (x.run t a r).2.1) = 0
  | [], T, o, x, hA, _, _, h6, _, _ => by
    rw [Ds.run_nil] at h6
    dsimp only at h6
    rcases hA with h | h | h | h | h <;> (have := h.1; omega)
  | c :: r, T, o, x, hA, hs, hl, h6, hb, hD => by
    have hp : x.p < 6 := by rcases hA with h | h | h | h | h <;> (have := h.1; omega)
    rw [Ds.run_cons hp] at h6 hb hD ⊢
    dsimp only at h6 hb hD ⊢
    have hb1 : (x.stp t c).bare = false := (Ds.run_to t a r (x.stp t c)).2.1 hb
    have hs1 := (Ds.stp_at t x c).1
    have hrm := Ds.run_rem t a r (x.stp t c) h6
    rw [List.length_cons] at hl
    have go : ∀ o2, x.out a c = o2 → Agn (T ++ [c]) (o ++ o2) (x.stp t c) → stuffL (o ++ (o2 ++ ((x.stp t c).run t a r).2.1)) = T ++ (c :: r).take (((x.stp t c).run t a r).1 + 1) ∧ wholeI (o ++ (o2 ++ ((x.stp t c).run t a r).2.1)) = 0 := fun o2 _ hA2 => by
      have := again_go t a r (T ++ [c]) (o ++ o2) (x.stp t c) hA2 (by simp; omega) (by simp; omega) h6 hb (by rw [List.append_assoc]; simpa using hD)
      rw [List.append_assoc, List.append_assoc] at this
      simpa using this
    have hou : x.ou a c = [c] := x.ou_one c (by omega)
    rcases hA with ⟨h1, e1, e2, e3, e4⟩ | ⟨h1, u, e0, e1, e2, e3, e4⟩ | ⟨h1, u, e0, e1, e2, e3⟩ | ⟨h1, e1, e2, e3⟩ | ⟨h1, e1, e2, e3, u, e4⟩
    · by_cases h46 : c = 46
      · have hst : x.stp t c = { x with p := 2 } := by simp [Ds.stp, h1, h46]
        have hou2 : x.out a c = [] := by simp [Ds.out, h1, h46]
        rw [hou2]
        refine go [] hou2 ?_
        rw [hst, List.append_nil, h46]
        exact .inr (.inl ⟨rfl, T, rfl, e1, e2, e3, e4⟩)
      · have hst : x.stp t c = x.inn t c := by simp [Ds.stp, h1, h46]
        have hou2 : x.out a c = [c] := by simp [Ds.out, h1, h46, hou]
        rw [hou2]
        refine go [c] hou2 ?_
        rw [hst] at hb1 ⊢
        exact agn_in (by rw [stf_flg, e1, beq_false_of_ne h46]; simp) e2 hb1
    · by_cases h13 : c = 13
      · have hst : x.stp t c = { x with p := 3 } := by simp [Ds.stp, h1, h13]
        have hou2 : x.out a c = [] := by simp [Ds.out, h1, h13]
        rw [hou2]
        refine go [] hou2 ?_
        rw [hst, List.append_nil, h13, e0, List.append_assoc]
        exact .inr (.inr (.inl ⟨rfl, u, rfl, e1, e2, e3⟩))
      · have hst : x.stp t c = x.inn t c := by simp [Ds.stp, h1, h13]
        have hou2 : x.out a c = [c] := by simp [Ds.out, h1, h13, hou]
        have h46 : c = 46 := by
          have hi : 4 ≤ rem6 (x.stp t c).p := by rw [hst]; rcases x.inn_p t c with h | h <;> simp [rem6, h]
          have hlen : (r.take ((x.stp t c).run t a r).1).length = ((x.stp t c).run t a r).1 := by
            rw [List.length_take]
            have := Ds.run_len t a r (x.stp t c)
            omega
          have hd := hD u.length (by simp [e0, hlen]; omega) (by rw [e0]; simp; exact e4) (by rw [e0]; simp)
          rw [e0] at hd
          simpa using hd
        rw [hou2]
        refine go [c] hou2 ?_
        rw [hst] at hb1 ⊢
        exact agn_in (by rw [stf_flg, e1, e3, h46, e0]; simp) e2 hb1
    · by_cases h10 : c = 10
      · have hst : x.stp t c = { x with p := 6 } := by simp [Ds.stp, h1, h10]
        have hou2 : x.out a c = [] := by simp [Ds.out, h1, h10]
        rw [hou2, hst, Ds.run_over (by simp)]
        simp only [List.append_nil]
        refine ⟨?_, whole_of e2 e3⟩
        unfold stuffL
        rw [e1, e0, h10]
        simp
      · have : (x.stp t c).bare = true := by
          have : x.stp t c = ({ x.tl 13 with bare := true }).inn t c := by simp [Ds.stp, h1, h10]
          rw [this]
          unfold Ds.inn Ds.mid Ds.tl
          split <;> simp
        rw [this] at hb1
        cases hb1
    · have hst : x.stp t c = x.inn t c := by simp [Ds.stp, h1]
      have hou2 : x.out a c = [c] := by simp [Ds.out, h1, hou]
      rw [hou2]
      refine go [c] hou2 ?_
      rw [hst] at hb1 ⊢
      exact agn_in (by rw [stf_flg, e1, e3]; simp) e2 hb1
    · by_cases h10 : c = 10
      · have hst : x.stp t c = ({ x with p := 1, row := 0 }).tl 10 := by simp [Ds.stp, h1, h10]
        have hou2 : x.out a c = [c] := by simp [Ds.out, h1, hou]
        rw [hou2]
        refine go [c] hou2 ?_
        rw [hst, h10]
        refine .inl ⟨rfl, by rw [stf_flg, e1, e3]; simp, by rw [whS_snoc, e2]; rfl, by rw [flg_snoc]; rfl, .inr ⟨u, by rw [e4]; simp⟩⟩
      · have : (x.stp t c).bare = true := by
          have : x.stp t c = ({ x with bare := true }).inn t c := by simp [Ds.stp, h1, h10]
          rw [this]
          unfold Ds.inn Ds.mid Ds.tl
          split <;> simp
        rw [this] at hb1
        cases hb1
/-- What was told, stuffed, is the stream. -/
theorem again_all {t a : Nat} {l : List UInt8} (hl : l.length ≤ a) (h6 : (Ds.new.run t a l).2.2.p = 6) (hb : (Ds.new.run t a l).2.2.bare = false) (hD : Dbl (l.take (Ds.new.run t a l).1)) : stuffL (Ds.new.run t a l).2.1 = l.take (Ds.new.run t a l).1 ∧ wholeI (Ds.new.run t a l).2.1 = 0 := by
  have := again_go t a l [] [] Ds.new (.inl ⟨rfl, rfl, rfl, rfl, .inl rfl⟩) (by decide) (by simpa using hl) h6 hb (by simpa using hD)
  simpa using this
/-- What may be wrong with a stream that is not too long. -/
theorem why_small {t a : Nat} {l : List UInt8} (ht : l.length ≤ t) (ha : l.length ≤ a) : (Ds.new.run t a l).2.2.why a = if (Ds.new.run t a l).2.2.bare = true then 130 else 0 := by
  have h := Ds.run_to t a l Ds.new
  have h2 := Ds.run_len t a l Ds.new
  have hl : (Ds.new.run t a l).2.2.long = false := h.2.2 rfl (by simpa [Ds.new] using ht)
  have hz : ¬ a < (Ds.new.run t a l).2.2.size := by
    have h1 := h.1
    simp [Ds.new, Ds.held] at h1 h2 ⊢
    omega
  unfold Ds.why
  rw [hl, if_neg hz]
  rfl
end Go.Proofs.Ytfifpepcmpaipaa
