/-
  What V6 reads is a whole address of the sixth kind, as the document has it.
-/
import Derived.Test.YtfjpkfhbmldmfaaGreatDoorAdE
import Derived.Test.YtfjpkfhbmldmfaaGreatDoorRpP
namespace Go.Proofs.YtfjpkfhbmldmfaaGreatDoor

/-- What is still to come, no two colons having stood. -/
def Rst (g : Gs) (s : List UInt8) (x : List Nat) : Prop :=
  (cut2 s = none ∧ ∃ b, dGrps true (splitB 58 s) = some b ∧ 2 * g.l.length + b.length = 16 ∧ x = twoB g.l ++ b) ∨
  ∃ h t b c, cut2 s = some (h, t) ∧ dGrps false (splitB 58 h) = some b ∧ groupsD t true = some c ∧ 2 * g.l.length + b.length + c.length ≤ 12 ∧ x = twoB g.l ++ b ++ List.replicate (16 - 2 * g.l.length - b.length - c.length) 0 ++ c
theorem Rst.room {g : Gs} {s : List UInt8} {x : List Nat} (h : Rst g s x) : g.l.length < 8 := by
  rcases h with ⟨_, b, h1, h2, _⟩ | ⟨h, t, b, c, _, h1, _, h2, _⟩
  · have := dGrps_len true _ b (splitB_ne 58 s) h1
    omega
  · have := dGrps_len false _ b (splitB_ne 58 h) h1
    omega
theorem twoB_put (g : Gs) (n : Nat) : twoB (g.put n).l = twoB g.l ++ [n / 256, n % 256] := by
  unfold Gs.put
  rw [twoB_appendP]
  rfl
theorem put_len (g : Gs) (n : Nat) : (g.put n).l.length = g.l.length + 1 := by simp [Gs.put]
/-- A group, a colon, and what follows. -/
theorem Rst.cons {g : Gs} {p r : List UInt8} {x b : List Nat} (hp : ∀ c ∈ p, c ≠ 58) (hd : dGrp p = some b) (hr : r.head? ≠ some 58) : Rst g (p ++ 58 :: r) x ↔ Rst (g.put (hexN 0 p)) r x := by
  have hb := (dGrp_some hd).2.2.2
  have hbl : b.length = 2 := by rw [hb]; rfl
  unfold Rst
  rw [cut2_one p r hp hr, splitB_at 58 p r hp, dGrps_cons true p _ (splitB_ne 58 r), hd, twoB_put, put_len, ← hb]
  dsimp only
  constructor
  · rintro (⟨h1, b', h2, h3, h4⟩ | ⟨h, t, b', c, h1, h2, h3, h4, h5⟩)
    · left
      have hcn : cut2 r = none := by
        cases hc : cut2 r with
        | none => rfl
        | some y => rw [hc] at h1; cases h1
      refine ⟨hcn, ?_⟩
      cases hrr : dGrps true (splitB 58 r) with
      | none => rw [hrr] at h2; cases h2
      | some c =>
        rw [hrr] at h2
        have e : some (b ++ c) = some b' := h2
        injection e with e
        subst e
        rw [List.length_append] at h3
        exact ⟨c, rfl, by omega, by rw [h4, List.append_assoc]⟩
    · right
      cases hc : cut2 r with
      | none => rw [hc] at h1; cases h1
      | some y =>
        obtain ⟨h', t'⟩ := y
        rw [hc] at h1
        have e : some (p ++ 58 :: h', t') = some (h, t) := h1
        injection e with e
        injection e with e1 e2
        subst e1 e2
        rw [splitB_at 58 p h' hp, dGrps_cons false p _ (splitB_ne 58 h'), hd] at h2
        dsimp only at h2
        cases hrr : dGrps false (splitB 58 h') with
        | none => rw [hrr] at h2; cases h2
        | some c' =>
          rw [hrr] at h2
          have e : some (b ++ c') = some b' := h2
          injection e with e
          subst e
          rw [List.length_append] at h4 h5
          refine ⟨h', t', c', c, rfl, hrr, h3, by omega, ?_⟩
          rw [h5, show 16 - 2 * (g.l.length + 1) - c'.length - c.length = 16 - 2 * g.l.length - (b.length + c'.length) - c.length from by omega]
          simp
  · rintro (⟨h1, c, h2, h3, h4⟩ | ⟨h, t, b', c, h1, h2, h3, h4, h5⟩)
    · left
      refine ⟨by rw [h1]; rfl, b ++ c, by rw [h2]; rfl, by rw [List.length_append]; omega, by rw [h4, List.append_assoc]⟩
    · right
      refine ⟨p ++ 58 :: h, t, b ++ b', c, by rw [h1]; rfl, ?_, h3, by rw [List.length_append]; omega, ?_⟩
      · rw [splitB_at 58 p h hp, dGrps_cons false p _ (splitB_ne 58 h), hd]
        dsimp only
        rw [h2]
        rfl
      · rw [h5, List.length_append, show 16 - 2 * (g.l.length + 1) - b'.length - c.length = 16 - 2 * g.l.length - (b.length + b'.length) - c.length from by omega]
        simp
/-- What is no group ahead of a colon. -/
theorem Rst.no {g : Gs} {p r : List UInt8} {x : List Nat} (hp : ∀ c ∈ p, c ≠ 58) (hd : dGrp p = none) : ¬ Rst g (p ++ 58 :: r) x := by
  rintro (⟨h1, b', h2, _⟩ | ⟨h, t, b', c, h1, h2, _⟩)
  · rw [splitB_at 58 p r hp, dGrps_cons true p _ (splitB_ne 58 r), hd] at h2
    cases h2
  · by_cases hr : r.head? = some 58
    · match r, hr with
      | d :: r', hr =>
        simp at hr
        subst hr
        rw [cut2_dd p r' hp] at h1
        injection h1 with h1
        injection h1 with e1 e2
        subst e1
        rw [splitB_none 58 p hp] at h2
        have : dGrp p = some b' := h2
        rw [hd] at this
        cases this
    · rw [cut2_one p r hp hr] at h1
      cases hc : cut2 r with
      | none => rw [hc] at h1; cases h1
      | some y =>
        obtain ⟨h', t'⟩ := y
        rw [hc] at h1
        have e : some (p ++ 58 :: h', t') = some (h, t) := h1
        injection e with e
        injection e with e1 e2
        subst e1
        rw [splitB_at 58 p h' hp, dGrps_cons false p _ (splitB_ne 58 h'), hd] at h2
        cases h2
theorem Rst.last {g : Gs} {p : List UInt8} {x : List Nat} (hp : ∀ c ∈ p, c ≠ 58) : Rst g p x ↔ ∃ b, dGrps true [p] = some b ∧ 2 * g.l.length + b.length = 16 ∧ x = twoB g.l ++ b := by
  unfold Rst
  rw [cut2_none p hp, splitB_none 58 p hp]
  constructor
  · rintro (⟨_, h⟩ | ⟨_, _, _, _, h, _⟩)
    · exact h
    · cases h
  · intro h
    exact Or.inl ⟨rfl, h⟩
theorem addr_none {g : Gs} (h : g.gap = none) : g.addr = twoB g.l := by
  unfold Gs.addr Gs.all
  rw [h]
/-- No two colons having stood. -/
theorem v6Go_none : ∀ (f : Nat) (g : Gs) (a : Nat) (s : List UInt8) (x : List Nat), g.gap = none → g.Fit → 8 - g.l.length ≤ f → (v6Go f g a s = .ok x ↔ Rst g s x)
  | 0, g, a, s, x, hg, hf, hl => by
    rw [v6Go]
    constructor
    · intro h; cases h
    · intro h
      have := h.room
      omega
  | f + 1, g, a, s, x, hg, hf, hl => by
    have hle := hf.le hg
    have hroom : g.room = 8 - g.l.length := by unfold Gs.room; rw [hg]; rfl
    rw [v6Go]
    by_cases hr0 : g.room = 0
    · rw [if_pos (Or.inr hr0)]
      constructor
      · intro h; cases h
      · intro h
        have := h.room
        omega
    have hputroom : ∀ n, (g.put n).room = 8 - (g.l.length + 1) := fun n => by unfold Gs.room Gs.put; rw [hg]; simp
    have hput0 : ∀ n, (g.put n).whole 0 = true ↔ g.l.length + 1 = 8 := fun n => by
      unfold Gs.whole
      rw [hputroom]
      have : (g.put n).gap = none := hg
      rw [this]
      simp
      omega
    rcases piece s with hs | ⟨p, r, hp, rfl⟩
    · rw [Rst.last hs]
      cases hd : dGrp s with
      | some b =>
        obtain ⟨d1, d2, d3, d4⟩ := grp_piece hd [] (Or.inl rfl)
        rw [List.append_nil] at d1 d2 d3
        have hb := (dGrp_some hd).2.2.2
        have hlen := (dGrp_some hd).1
        have h4 : whole4 s = none := by
          cases hw : whole4 s with
          | none => rfl
          | some v => rw [(four_piece hw).2.2.1] at hd; cases hd
        have hdr : s.drop s.length = [] := List.drop_eq_nil_of_le (Nat.le_refl _)
        rw [dGrps_one s true h4, hd, d1, d2, if_neg (by omega), if_neg (by rw [d3]; simp), hdr]
        by_cases h8 : g.l.length + 1 = 8
        · rw [if_pos ⟨rfl, (hput0 _).2 h8⟩, addr_none (g := g.put (hexN 0 s)) hg, twoB_put, ← hb]
          constructor
          · intro h
            injection h with h
            exact ⟨b, rfl, by rw [hb]; simp; omega, h.symm⟩
          · rintro ⟨b', h1, _, h3⟩
            injection h1 with h1
            rw [h3, h1]
        · rw [if_neg (fun h => h8 ((hput0 _).1 h.2)), if_pos (Or.inl (by simp))]
          constructor
          · intro h; cases h
          · rintro ⟨b', h1, h2, _⟩
            injection h1 with h1
            rw [← h1, hb] at h2
            simp at h2
            omega
      | none =>
        have key := no_piece hs hd [] (Or.inl rfl)
        rw [List.append_nil] at key
        cases hw : whole4 s with
        | some v =>
          obtain ⟨w1, w2, _, _⟩ := four_piece hw
          have hv := (whole4_v4 s v).1 hw
          obtain ⟨x1, x2, x3, x4, rfl, l1, l2, l3, l4⟩ := v4_four' s v hv
          have hdg : dGrps true [s] = some [x1, x2, x3, x4] := by rw [dGrps, if_pos rfl, hw]
          rw [hdg, if_neg (by omega)]
          have hw2 : g.whole 2 = true ↔ g.l.length = 6 := by
            unfold Gs.whole
            rw [hroom, hg]
            simp
            omega
          by_cases h6 : g.l.length = 6
          · rw [if_pos ⟨hw2.2 h6, w2⟩, hv]
            dsimp only
            have hp1 : pairN [x1, x2, x3, x4] 0 = 256 * x1 + x2 := rfl
            have hp2 : pairN [x1, x2, x3, x4] 2 = 256 * x3 + x4 := rfl
            rw [hp1, hp2, addr_none (g := (g.put (256 * x1 + x2)).put (256 * x3 + x4)) hg, twoB_put, twoB_put, (pair_bytes x1 x2 l2).1, (pair_bytes x1 x2 l2).2, (pair_bytes x3 x4 l4).1, (pair_bytes x3 x4 l4).2, List.append_assoc]
            constructor
            · intro h
              injection h with h
              exact ⟨_, rfl, by simp; omega, h.symm⟩
            · rintro ⟨b', h1, _, h3⟩
              injection h1 with h1
              rw [h3, ← h1]
              rfl
          · rw [if_neg (fun h => h6 (hw2.1 h.1)), if_neg ?_, if_pos ?_]
            · constructor
              · intro h; cases h
              · rintro ⟨b', h1, h2, _⟩
                injection h1 with h1
                rw [← h1] at h2
                simp at h2
                omega
            · left
              rw [List.head?_drop, w2]
              simp
            · rintro ⟨h, _⟩
              have : s[grpL s]? = none := by
                rw [List.getElem?_eq_none_iff]
                exact List.drop_eq_nil_iff.1 h
              rw [w2] at this
              cases this
        | none =>
          rw [dGrps_one s true hw, hd]
          constructor
          · intro h
            exfalso
            rcases key with k0 | ⟨k1, c, k2, k3, _⟩
            · rw [if_pos (Or.inl k0)] at h; cases h
            · split at h
              · cases h
              · split at h
                · cases hv : v4 s with
                  | ok y => rw [(whole4_v4 s y).2 hv] at hw; cases hw
                  | error q => rw [hv] at h; cases h
                · rw [if_neg ?_, if_pos ?_] at h
                  · cases h
                  · left
                    rw [List.head?_drop, k2]
                    simp [k3]
                  · rintro ⟨h', _⟩
                    have : s[grpL s]? = none := by
                      rw [List.getElem?_eq_none_iff]
                      exact List.drop_eq_nil_iff.1 h'
                    rw [k2] at this
                    cases this
          · rintro ⟨b, h1, _⟩
            cases h1
    · cases hd : dGrp p with
      | some b =>
        obtain ⟨d1, d2, d3, d4⟩ := grp_piece hd (58 :: r) (Or.inr rfl)
        have hb := (dGrp_some hd).2.2.2
        have hbl : b.length = 2 := by rw [hb]; rfl
        have hlen := (dGrp_some hd).1
        have hdrop : (p ++ 58 :: r).drop p.length = 58 :: r := List.drop_left
        have hdrop1 : (p ++ 58 :: r).drop (p.length + 1) = r := by rw [← List.drop_drop, hdrop]; rfl
        have hdrop2 : (p ++ 58 :: r).drop (p.length + 2) = r.drop 1 := by rw [← List.drop_drop, hdrop]; rfl
        rw [d1, d2, if_neg (by omega), if_neg (by rw [d3]; simp), hdrop, if_neg (by simp), hputroom]
        have hfit := hf.put d4 (by omega)
        by_cases hr1 : 8 - (g.l.length + 1) = 0
        · rw [if_pos (Or.inr hr1)]
          constructor
          · intro h; cases h
          · intro h
            exfalso
            by_cases hh : r.head? = some 58
            · match r, hh with
              | c :: r', hh =>
                simp at hh
                subst hh
                rcases h with ⟨h1, _⟩ | ⟨h', t, b', c, h1, h2, _, h4, _⟩
                · rw [cut2_dd p r' hp] at h1; cases h1
                · have := dGrps_len false _ b' (splitB_ne 58 h') h2
                  omega
            · have := ((Rst.cons hp hd hh).1 h).room
              rw [put_len] at this
              omega
        · rw [if_neg (by simp; omega), hdrop1, hdrop2]
          by_cases hh : r.head? = some 58
          · rw [if_pos hh]
            match r, hh with
            | c :: t, hh =>
              simp at hh
              subst hh
              have hmo : (g.put (hexN 0 p)).mayOpen = true ↔ g.l.length + 1 ≤ 6 := by
                unfold Gs.mayOpen
                have : (g.put (hexN 0 p)).gap = none := hg
                rw [this, put_len]
                simp
              have hrst : Rst g (p ++ 58 :: 58 :: t) x ↔ ∃ c, groupsD t true = some c ∧ 2 * g.l.length + 2 + c.length ≤ 12 ∧ x = twoB g.l ++ b ++ List.replicate (16 - 2 * g.l.length - 2 - c.length) 0 ++ c := by
                unfold Rst
                rw [cut2_dd p t hp]
                constructor
                · rintro (⟨h1, _⟩ | ⟨h', t', b', c, h1, h2, h3, h4, h5⟩)
                  · cases h1
                  · injection h1 with h1
                    injection h1 with e1 e2
                    subst e1 e2
                    rw [splitB_none 58 p hp] at h2
                    have e : dGrp p = some b' := h2
                    rw [hd] at e
                    injection e with e
                    subst e
                    rw [hbl] at h4 h5
                    exact ⟨c, h3, h4, h5⟩
                · rintro ⟨c, h3, h4, h5⟩
                  refine Or.inr ⟨p, t, b, c, rfl, ?_, h3, by rw [hbl]; exact h4, by rw [hbl]; exact h5⟩
                  rw [splitB_none 58 p hp]
                  exact hd
              rw [hrst]
              show (if (g.put (hexN 0 p)).mayOpen = true then if t = [] then _ else _ else _) = _ ↔ _
              by_cases h6 : g.l.length + 1 ≤ 6
              · rw [if_pos (hmo.2 h6)]
                have hofit := hfit.open' (hmo.2 h6)
                have hog : (g.put (hexN 0 p)).open'.gap = some (g.l.length + 1) := by show some _ = _; rw [put_len]
                have hres : ∀ c, resG (g.put (hexN 0 p)).open' (g.l.length + 1) c = twoB g.l ++ b ++ List.replicate (16 - 2 * g.l.length - 2 - c.length) 0 ++ c := fun c => by
                  unfold resG
                  show twoB ((g.put (hexN 0 p)).l.take (g.l.length + 1)) ++ List.replicate (16 - 2 * (g.put (hexN 0 p)).l.length - c.length) 0 ++ twoB ((g.put (hexN 0 p)).l.drop (g.l.length + 1)) ++ c = _
                  rw [put_len, List.take_of_length_le (by rw [put_len]; omega), List.drop_eq_nil_of_le (by rw [put_len]; omega), twoB_put, ← hb, show 16 - 2 * (g.l.length + 1) - c.length = 16 - 2 * g.l.length - 2 - c.length from by omega]
                  simp [twoB]
                by_cases ht : t = []
                · rw [if_pos ht, resG_addr hog hofit, hres]
                  subst ht
                  constructor
                  · intro h
                    injection h with h
                    exact ⟨[], rfl, by simp; omega, h.symm⟩
                  · rintro ⟨c, h1, _, h3⟩
                    have : some ([] : List Nat) = some c := h1
                    injection this with this
                    rw [h3, ← this]
                · rw [if_neg ht, show List.drop 1 (58 :: t) = t from rfl, v6Go_gap f _ (g.l.length + 1) _ t x hog hofit (by show 6 - (g.put (hexN 0 p)).l.length ≤ f; rw [put_len]; omega)]
                  have : groupsD t true = dGrps true (splitB 58 t) := by unfold groupsD; rw [if_neg ht]
                  rw [this]
                  have hol : (g.put (hexN 0 p)).open'.l.length = g.l.length + 1 := put_len g _
                  constructor
                  · rintro ⟨c, h1, h2, h3⟩
                    exact ⟨c, h1, by omega, by rw [h3, hres]⟩
                  · rintro ⟨c, h1, h2, h3⟩
                    exact ⟨c, h1, by omega, by rw [h3, hres]⟩
              · rw [if_neg (fun h => h6 (hmo.1 h))]
                constructor
                · intro h; cases h
                · rintro ⟨c, _, h2, _⟩
                  omega
          · rw [if_neg hh, Rst.cons hp hd hh]
            exact v6Go_none f (g.put (hexN 0 p)) _ r x hg hfit (by rw [put_len]; omega)
      | none =>
        have key := no_piece hp hd (58 :: r) (Or.inr rfl)
        constructor
        · intro h
          exfalso
          rcases key with k0 | ⟨k1, c, k2, k3, _⟩
          · rw [if_pos (Or.inl k0)] at h; cases h
          · split at h
            · cases h
            · split at h
              · cases hv : v4 (p ++ 58 :: r) with
                | ok y =>
                  have := (four_piece ((whole4_v4 _ y).2 hv)).2.2.2 58 (by simp)
                  exact this rfl
                | error q => rw [hv] at h; cases h
              · rw [if_neg ?_, if_pos ?_] at h
                · cases h
                · left
                  rw [List.head?_drop, k2]
                  simp [k3]
                · rintro ⟨h', _⟩
                  have : (p ++ 58 :: r)[grpL (p ++ 58 :: r)]? = none := by
                    rw [List.getElem?_eq_none_iff]
                    exact List.drop_eq_nil_iff.1 h'
                  rw [k2] at this
                  cases this
        · intro h
          exact absurd h (Rst.no hp hd)
theorem fit0 : (⟨[], some 0⟩ : Gs).Fit := ⟨fun n hn => (by cases hn), fun e => (by cases e), fun k e => (by injection e with e; subst e; exact ⟨Nat.le_refl _, Nat.zero_le _⟩)⟩
theorem fit1 : (⟨[], none⟩ : Gs).Fit := ⟨fun n hn => (by cases hn), fun e => Nat.zero_le _, fun k e => (by cases e)⟩
/-- What V6 reads is a whole address. -/
theorem whole6_v6 (s : List UInt8) (x : List Nat) : whole6 s = some x ↔ v6 s = .ok x := by
  unfold v6
  by_cases h2 : s.take 2 = [58, 58]
  · rw [if_pos h2]
    match s, h2 with
    | c :: d :: t, h2 =>
      have hc : c = 58 ∧ d = 58 := by simpa using h2
      obtain ⟨rfl, rfl⟩ := hc
      have hcut : cut2 (58 :: 58 :: t) = some ([], t) := by rw [cut2, if_pos ⟨rfl, rfl⟩]
      have hw : whole6 (58 :: 58 :: t) = some x ↔ ∃ c, groupsD t true = some c ∧ c.length ≤ 12 ∧ x = List.replicate (16 - c.length) 0 ++ c := by
        unfold whole6
        rw [hcut]
        dsimp only
        have e : groupsD [] false = some [] := rfl
        rw [e]
        cases hg : groupsD t true with
        | none =>
          constructor
          · intro h; cases h
          · rintro ⟨c, h, _⟩; cases h
        | some c =>
          dsimp only
          rw [List.length_nil, Nat.zero_add, Nat.sub_zero, List.nil_append]
          constructor
          · intro h
            split at h
            · injection h with h
              exact ⟨c, rfl, by assumption, h.symm⟩
            · cases h
          · rintro ⟨c', h1, h2, h3⟩
            injection h1 with h1
            subst h1
            rw [if_pos h2, h3]
      rw [hw]
      have hres : ∀ c, resG ⟨[], some 0⟩ 0 c = List.replicate (16 - c.length) 0 ++ c := fun c => by simp [resG, twoB]
      by_cases ht : t = []
      · subst ht
        rw [if_pos (show ([58, 58] : List UInt8).length = 2 from rfl), resG_addr (k := 0) rfl fit0, hres]
        constructor
        · rintro ⟨c, h1, _, h3⟩
          have : some ([] : List Nat) = some c := h1
          injection this with this
          rw [h3, ← this]
        · intro h
          injection h with h
          exact ⟨[], rfl, by simp, h.symm⟩
      · have hl : ¬ (58 :: 58 :: t).length = 2 := by
          cases t with
          | nil => exact absurd rfl ht
          | cons c r => simp
        rw [if_neg hl]
        have e : (58 :: 58 :: t).drop 2 = t := rfl
        rw [e, v6Go_gap 9 ⟨[], some 0⟩ 0 2 t x rfl fit0 (by simp)]
        have : groupsD t true = dGrps true (splitB 58 t) := by unfold groupsD; rw [if_neg ht]
        rw [this]
        constructor
        · rintro ⟨c, h1, h2, h3⟩
          exact ⟨c, h1, by simpa using h2, by rw [h3, hres]⟩
        · rintro ⟨c, h1, h2, h3⟩
          exact ⟨c, h1, by simpa using h2, by rw [h3, hres]⟩
  · rw [if_neg h2]
    by_cases h1 : s.head? = some 58
    · rw [if_pos h1]
      constructor
      · intro h
        exfalso
        match s, h1 with
        | c :: r, h1 =>
          simp at h1
          subst h1
          have hr : r.head? ≠ some 58 := fun e => by
            match r, e with
            | d :: r', e =>
              simp at e
              subst e
              exact h2 rfl
          have hc := cut2_one [] r (fun c hc => by cases hc) hr
          rw [List.nil_append] at hc
          unfold whole6 at h
          rw [hc] at h
          cases hcr : cut2 r with
          | none =>
            rw [hcr] at h
            have e : groupsD (58 :: r) true = none := by
              unfold groupsD
              rw [if_neg (by simp), splitB, if_pos rfl, dGrps_cons true [] _ (splitB_ne 58 r), dGrp_nil]
            simp only [Option.map_none, e] at h
            cases h
          | some y =>
            rw [hcr] at h
            have e : groupsD ([] ++ 58 :: y.1) false = none := by
              unfold groupsD
              rw [List.nil_append, if_neg (by simp), splitB, if_pos rfl, dGrps_cons false [] _ (splitB_ne 58 y.1), dGrp_nil]
            simp only [Option.map_some, e] at h
            cases h
      · intro h; cases h
    · rw [if_neg h1, v6Go_none 9 ⟨[], none⟩ 0 s x rfl fit1 (by simp)]
      unfold whole6 Rst
      cases hc : cut2 s with
      | none =>
        dsimp only
        by_cases hs : s = []
        · subst hs
          constructor
          · intro h
            have : (if ([] : List Nat).length = 16 then some ([] : List Nat) else none) = some x := h
            rw [if_neg (by simp)] at this
            cases this
          · rintro (⟨_, b, hb, _⟩ | ⟨_, _, _, _, h, _⟩)
            · have : (none : Option (List Nat)) = some b := hb
              cases this
            · cases h
        · have : groupsD s true = dGrps true (splitB 58 s) := by unfold groupsD; rw [if_neg hs]
          rw [this]
          constructor
          · intro h
            cases hg : dGrps true (splitB 58 s) with
            | none => rw [hg] at h; cases h
            | some b =>
              rw [hg] at h
              dsimp only at h
              split at h
              · injection h with h
                exact Or.inl ⟨rfl, b, rfl, by simp; assumption, by rw [← h]; rfl⟩
              · cases h
          · rintro (⟨_, b, h3, h4, h5⟩ | ⟨_, _, _, _, h, _⟩)
            · rw [h3]
              dsimp only
              rw [if_pos (by simpa using h4), h5]
              rfl
            · cases h
      | some y =>
        obtain ⟨h, t⟩ := y
        dsimp only
        have hh : h ≠ [] := fun e => by
          subst e
          match s, hc, h2 with
          | c :: d :: r, hc, h2 =>
            rw [cut2] at hc
            split at hc
            · rename_i e
              rw [e.1, e.2] at h2
              exact h2 rfl
            · cases hcc : cut2 (d :: r) with
              | none => rw [hcc] at hc; cases hc
              | some z =>
                rw [hcc] at hc
                have : some (c :: z.1, z.2) = some ([], t) := hc
                injection this with this
                injection this with e1 _
                cases e1
        have : groupsD h false = dGrps false (splitB 58 h) := by unfold groupsD; rw [if_neg hh]
        rw [this]
        constructor
        · intro hw
          cases hg : dGrps false (splitB 58 h) with
          | none => rw [hg] at hw; cases hw
          | some b =>
            rw [hg] at hw
            cases hg2 : groupsD t true with
            | none => rw [hg2] at hw; cases hw
            | some c =>
              rw [hg2] at hw
              dsimp only at hw
              split at hw
              · injection hw with hw
                refine Or.inr ⟨h, t, b, c, rfl, hg, hg2, by simp; assumption, ?_⟩
                rw [← hw]
                simp [twoB]
              · cases hw
        · rintro (⟨h', _⟩ | ⟨h', t', b, c, e, h3, h4, h5, h6⟩)
          · cases h'
          · injection e with e
            injection e with e1 e2
            subst e1 e2
            rw [h3, h4]
            dsimp only
            rw [if_pos (by simpa using h5), h6]
            simp [twoB]

end Go.Proofs.YtfjpkfhbmldmfaaGreatDoor
/-
  An address of the sixth kind is written in at most one byte more than it was read of.
-/
namespace Go.Proofs.YtfjpkfhbmldmfaaGreatDoor

/-- How many bytes groups take, each with a colon. -/
def wtG : List Nat → Nat
  | [] => 0
  | n :: r => (hexD n).length + 1 + wtG r
def wtP : List (List UInt8) → Nat
  | [] => 0
  | p :: r => p.length + 1 + wtP r
theorem wtP_append : ∀ x y : List (List UInt8), wtP (x ++ y) = wtP x + wtP y
  | [], y => by rw [List.nil_append, wtP, Nat.zero_add]
  | p :: x, y => by rw [List.cons_append, wtP, wtP, wtP_append x y]; omega
theorem wtG_append : ∀ x y : List Nat, wtG (x ++ y) = wtG x + wtG y
  | [], y => by rw [List.nil_append, wtG, Nat.zero_add]
  | p :: x, y => by rw [List.cons_append, wtG, wtG, wtG_append x y]; omega
theorem wtP_map : ∀ G : List Nat, wtP (G.map hexD) = wtG G
  | [] => rfl
  | n :: r => by rw [List.map_cons, wtP, wtG, wtP_map r]
theorem wt_join (d : UInt8) : ∀ L : List (List UInt8), (joinL [d] L).length + (if L = [] then 0 else 1) = wtP L
  | [] => rfl
  | [x] => by rw [joinL, wtP, wtP, if_neg (by simp)]
  | x :: y :: r => by
    have ih := wt_join d (y :: r)
    rw [if_neg (by simp)] at ih
    rw [joinL, wtP, if_neg (by simp), ← ih, List.length_append, List.length_append, List.length_singleton]
    omega
theorem wtP_split (s : List UInt8) : wtP (splitB 58 s) = s.length + 1 := by
  have := wt_join 58 (splitB 58 s)
  rw [joinL_splitB, if_neg (splitB_ne 58 s)] at this
  exact this.symm
theorem grpsOf_append : ∀ x y : List Nat, x.length % 2 = 0 → grpsOf (x ++ y) = grpsOf x ++ grpsOf y
  | [], y, _ => rfl
  | [_], y, h => by simp at h
  | a :: b :: x, y, h => by
    rw [List.cons_append, List.cons_append, grpsOf, grpsOf, grpsOf_append x y (by simp only [List.length_cons] at h; omega), List.cons_append]
theorem grpsOf_zeros : ∀ k, grpsOf (List.replicate (2 * k) 0) = List.replicate k 0
  | 0 => rfl
  | k + 1 => by
    rw [show 2 * (k + 1) = 2 * k + 1 + 1 from by omega, List.replicate_succ, List.replicate_succ, grpsOf, grpsOf_zeros k, List.replicate_succ]
theorem wtG_zeros : ∀ k, wtG (List.replicate k 0) = 2 * k
  | 0 => rfl
  | k + 1 => by
    rw [List.replicate_succ, wtG, wtG_zeros k, show (hexD 0).length = 1 from by decide +kernel]
    omega
theorem hexD_short {n k : Nat} (h : n < 16 ^ (k + 1)) (hn : n < 65536) : (hexD n).length ≤ k + 1 :=
  (hexF_ok 16 n (Nat.lt_of_lt_of_le hn (by decide))).2.2.2 k h
theorem dGrp_wt {p : List UInt8} {b : List Nat} (h : dGrp p = some b) : wtG (grpsOf b) ≤ p.length + 1 ∧ b.length = 2 := by
  obtain ⟨h1, h4, hx, rfl⟩ := dGrp_some h
  have hs := hexN_small p 0 hx
  rw [Nat.zero_add, Nat.one_mul] at hs
  refine ⟨?_, rfl⟩
  have e : grpsOf [hexN 0 p / 256, hexN 0 p % 256] = [hexN 0 p] := by
    show [256 * (hexN 0 p / 256) + hexN 0 p % 256] = _
    rw [Nat.div_add_mod]
  rw [e, wtG, wtG]
  obtain ⟨k, hk⟩ : ∃ k, p.length = k + 1 := ⟨p.length - 1, by omega⟩
  have hn : hexN 0 p < 65536 := Nat.lt_of_lt_of_le hs (Nat.pow_le_pow_right (by decide) h4)
  have := hexD_short (n := hexN 0 p) (k := k) (by rw [← hk]; exact hs) hn
  omega
theorem decD_pos (n : Nat) : 1 ≤ (decD n).length ∧ (10 ≤ n → 2 ≤ (decD n).length) := by
  unfold decD
  split
  · exact ⟨by simp, fun h => by omega⟩
  · split <;> exact ⟨by simp, fun _ => by simp⟩
theorem pair_wt {a b : Nat} (ha : a < 256) (hb : b < 256) : (hexD (256 * a + b)).length ≤ (decD a).length + (decD b).length + 1 := by
  have h1 := decD_pos a
  have h2 := (decD_pos b).1
  rcases Nat.lt_or_ge a 16 with h | h
  · have := hexD_short (n := 256 * a + b) (k := 2) (by show _ < 4096; omega) (by omega)
    omega
  · have := hexD_short (n := 256 * a + b) (k := 3) (by show _ < 65536; omega) (by omega)
    have := h1.2 (by omega)
    omega
theorem whole4_wt {p : List UInt8} {v : List Nat} (h : whole4 p = some v) : wtG (grpsOf v) ≤ p.length + 1 ∧ v.length = 4 := by
  have hv := (whole4_v4 p v).1 h
  have hp := v4_back p v hv
  obtain ⟨a, b, c, d, rfl, ha, hb, hc, hd⟩ := v4_four' p v hv
  refine ⟨?_, rfl⟩
  have e : p.length = (decD a).length + (decD b).length + (decD c).length + (decD d).length + 3 := by
    rw [← hp]
    show (joinL [46] [decD a, decD b, decD c, decD d]).length = _
    simp only [joinL, List.length_append, List.length_singleton]
    omega
  have e2 : grpsOf [a, b, c, d] = [256 * a + b, 256 * c + d] := rfl
  have h1 := pair_wt ha hb
  have h2 := pair_wt hc hd
  rw [e2, wtG, wtG, wtG]
  omega
theorem dGrps_wt (last : Bool) : ∀ (L : List (List UInt8)) (b : List Nat), dGrps last L = some b → wtG (grpsOf b) ≤ wtP L ∧ b.length % 2 = 0
  | [], b, h => by
    rw [dGrps] at h
    injection h with h
    subst h
    exact ⟨Nat.le_refl _, rfl⟩
  | [p], b, h => by
    rw [dGrps] at h
    have key : dGrp p = some b → wtG (grpsOf b) ≤ wtP [p] ∧ b.length % 2 = 0 := fun h => by
      obtain ⟨h1, h2⟩ := dGrp_wt h
      rw [wtP, wtP, h2]
      exact ⟨h1, rfl⟩
    split at h
    · split at h
      · rename_i v hv
        injection h with h
        subst h
        obtain ⟨h1, h2⟩ := whole4_wt hv
        rw [wtP, wtP, h2]
        exact ⟨h1, rfl⟩
      · exact key h
    · exact key h
  | p :: q :: r, b, h => by
    rw [dGrps] at h
    cases hp : dGrp p with
    | none => rw [hp] at h; cases h
    | some b1 =>
      rw [hp] at h
      cases hr : dGrps last (q :: r) with
      | none => rw [hr] at h; cases h
      | some b2 =>
        rw [hr] at h
        have e : b = b1 ++ b2 := by
          have : some (b1 ++ b2) = some b := h
          injection this with this
          exact this.symm
        obtain ⟨h1, h2⟩ := dGrp_wt hp
        obtain ⟨h3, h4⟩ := dGrps_wt last (q :: r) b2 hr
        rw [e, grpsOf_append _ _ (by omega), wtG_append, wtP, List.length_append]
        exact ⟨by omega, by omega⟩
theorem groups_wt {s : List UInt8} {last : Bool} {b : List Nat} (h : groupsD s last = some b) : wtG (grpsOf b) ≤ s.length + (if grpsOf b = [] then 0 else 1) ∧ b.length % 2 = 0 := by
  unfold groupsD at h
  split at h
  · injection h with h
    subst h
    exact ⟨Nat.zero_le _, rfl⟩
  · obtain ⟨h1, h2⟩ := dGrps_wt last _ b h
    rw [wtP_split] at h1
    refine ⟨?_, h2⟩
    split
    · rename_i e
      rw [e]
      exact Nat.zero_le _
    · exact h1
theorem cut2_len : ∀ (s h t : List UInt8), cut2 s = some (h, t) → s.length = h.length + 2 + t.length
  | [], _, _, e => by cases e
  | [_], _, _, e => by cases e
  | c :: d :: r, h, t, e => by
    rw [cut2] at e
    split at e
    · injection e with e
      injection e with e1 e2
      subst e1 e2
      simp only [List.length_cons, List.length_nil]
      omega
    · cases hq : cut2 (d :: r) with
      | none => rw [hq] at e; cases e
      | some x =>
        rw [hq] at e
        have e' : some (c :: x.1, x.2) = some (h, t) := e
        injection e' with e'
        injection e' with e1 e2
        subst e1 e2
        have := cut2_len (d :: r) x.1 x.2 hq
        simp only [List.length_cons] at this ⊢
        omega
theorem zr_max8 : ∀ a b c d e f g h : Bool, ∀ i j : Fin 9, (((([a, b, c, d, e, f, g, h] : List Bool).drop i.val).take (j.val - i.val)).all id = true) → j.val ≤ 8 → j.val - i.val ≤ (zrB 0 0 0 0 [a, b, c, d, e, f, g, h]).2 - (zrB 0 0 0 0 [a, b, c, d, e, f, g, h]).1 := by decide +kernel
theorem zr_max (P : List Bool) (hP : P.length = 8) (i z : Nat) (hz : i + z ≤ 8) (ha : ((P.drop i).take z).all id = true) : z ≤ (zrB 0 0 0 0 P).2 - (zrB 0 0 0 0 P).1 := by
  match P, hP with
  | [a, b, c, d, e, f, g, h], _ =>
    have := zr_max8 a b c d e f g h ⟨i, by omega⟩ ⟨i + z, by omega⟩
    dsimp only at this
    rw [Nat.add_sub_cancel_left] at this
    exact this ha (by omega)
theorem wtP_mid (L : List (List UInt8)) (f t : Nat) (hft : f ≤ t) (ht : t ≤ L.length) (hz : ∀ k, f ≤ k → k < t → L[k]? = some [48]) : wtP L = wtP (L.take f) + 2 * (t - f) + wtP (L.drop t) := by
  have key : ∀ (n : Nat) (M : List (List UInt8)), n ≤ M.length → (∀ k, k < n → M[k]? = some [48]) → wtP M = 2 * n + wtP (M.drop n) := by
    intro n
    induction n with
    | zero => intro M _ _; rw [List.drop_zero]; omega
    | succ n ih =>
      intro M hM hk
      cases M with
      | nil => simp at hM
      | cons x M =>
        have h0 := hk 0 (by omega)
        rw [List.getElem?_cons_zero] at h0
        injection h0 with h0
        have := ih M (by rw [List.length_cons] at hM; omega) (fun k hk' => by have := hk (k + 1) (by omega); rw [List.getElem?_cons_succ] at this; exact this)
        rw [wtP, h0, List.drop_succ_cons, this, List.length_singleton]
        omega
  have h1 := key (t - f) (L.drop f) (by rw [List.length_drop]; omega) (fun k hk => by rw [List.getElem?_drop]; exact hz (f + k) (by omega) (by omega))
  rw [List.drop_drop, show f + (t - f) = t from by omega] at h1
  have h2 := wtP_append (L.take f) (L.drop f)
  rw [List.take_append_drop] at h2
  omega
/-- How long an address as it is written is. -/
theorem print6_wt (a : List Nat) (ha : a.length = 16) (la : ∀ x ∈ a, x < 256) (i z : Nat) (hz : i + z ≤ 8) (hr : ((grpsOf a).drop i).take z = List.replicate z 0) :
    (print6 a).length + 1 ≤ wtG (grpsOf a) ∧ (2 ≤ z → ∃ f t, z ≤ t - f ∧ t ≤ 8 ∧ f ≤ t ∧ (print6 a).length + (if f = 0 then 0 else 1) + (if t = 8 then 0 else 1) + 2 * (t - f) = wtG (grpsOf a) + 2) := by
  have hl : (grpsOf a).length = 8 := by rw [grpsOf_len, ha]
  have hlt := grpsOf_lt a la
  generalize hG : grpsOf a = G at hl hlt hr
  obtain ⟨L, hL⟩ : ∃ L, L = G.map hexD := ⟨_, rfl⟩
  have hLl : L.length = 8 := by rw [hL, List.length_map, hl]
  have hw : wtP L = wtG G := by rw [hL, wtP_map]
  obtain ⟨z1, z2, z3⟩ := zeros_ok L
  have hmax : z ≤ (zeros L).2 - (zeros L).1 := by
    unfold zeros
    rw [zr_zrB]
    refine zr_max _ (by rw [List.length_map, hLl]) i z hz ?_
    rw [← List.map_drop, ← List.map_take, hL, ← List.map_drop, ← List.map_take, hr, List.map_replicate, List.map_replicate, List.all_eq_true]
    intro x hx
    rw [(List.mem_replicate.1 hx).2]
    decide +kernel
  have hp : print6 a = if (zeros L).2 - (zeros L).1 < 2 then joinL [58] L else joinL [58] (L.take (zeros L).1) ++ [58, 58] ++ joinL [58] (L.drop (zeros L).2) := by
    unfold print6
    rw [hG, ← hL]
  have hm := wtP_mid L _ _ z1 z2 z3
  have j1 := wt_join 58 L
  have j2 := wt_join 58 (L.take (zeros L).1)
  have j3 := wt_join 58 (L.drop (zeros L).2)
  rw [if_neg (by intro e; rw [e] at hLl; simp at hLl)] at j1
  generalize (zeros L).1 = f at z1 z3 hmax hp hm j2
  generalize (zeros L).2 = t at z1 z2 z3 hmax hp hm j3
  have c2 : (L.take f = []) ↔ f = 0 := by
    constructor
    · intro e
      have := congrArg List.length e
      rw [List.length_take, List.length_nil] at this
      omega
    · rintro rfl; rfl
  have c3 : (L.drop t = []) ↔ t = 8 := by
    rw [List.drop_eq_nil_iff, hLl]
    omega
  simp only [c2] at j2
  simp only [c3] at j3
  rw [hp]
  by_cases hft : t - f < 2
  · rw [if_pos hft]
    exact ⟨by omega, fun h => by omega⟩
  · rw [if_neg hft, List.length_append, List.length_append, show ([58, 58] : List UInt8).length = 2 from rfl]
    refine ⟨?_, fun _ => ⟨f, t, hmax, by omega, z1, ?_⟩⟩
    · split at j2 <;> split at j3 <;> omega
    · generalize (if f = 0 then 0 else 1) = A at j2 ⊢
      generalize (if t = 8 then 0 else 1) = B at j3 ⊢
      omega
theorem v6_short {s : List UInt8} {x : List Nat} (h : v6 s = .ok x) : (print6 x).length ≤ s.length + 1 := by
  obtain ⟨h16, hx⟩ := v6_ok s x h
  have hwh := (whole6_v6 s x).2 h
  unfold whole6 at hwh
  split at hwh
  · split at hwh
    · rename_i b hb
      split at hwh
      · injection hwh with e
        subst e
        obtain ⟨h1, h2⟩ := groups_wt hb
        have := (print6_wt b h16 hx 0 0 (by omega) rfl).1
        split at h1 <;> omega
      · cases hwh
    · cases hwh
  · rename_i hd tl hc
    have hlen := cut2_len _ _ _ hc
    split at hwh
    · rename_i b c hb hcc
      split at hwh
      · rename_i h12
        injection hwh with e
        obtain ⟨b1, b2⟩ := groups_wt hb
        obtain ⟨c1, c2⟩ := groups_wt hcc
        obtain ⟨z, hz⟩ : ∃ z, 16 - b.length - c.length = 2 * z := ⟨(16 - b.length - c.length) / 2, by omega⟩
        rw [hz] at e
        have eg : grpsOf x = grpsOf b ++ List.replicate z 0 ++ grpsOf c := by
          rw [← e, grpsOf_append _ _ (by rw [List.length_append, List.length_replicate]; omega), grpsOf_append _ _ b2, grpsOf_zeros]
        have lb := grpsOf_len b
        have lc := grpsOf_len c
        have hw : wtG (grpsOf x) = wtG (grpsOf b) + 2 * z + wtG (grpsOf c) := by rw [eg, wtG_append, wtG_append, wtG_zeros]
        obtain ⟨_, hp⟩ := print6_wt x h16 hx (grpsOf b).length z (by omega) (by
          rw [eg, List.append_assoc, List.drop_left, List.take_append_of_le_length (by rw [List.length_replicate]; omega), List.take_of_length_le (by rw [List.length_replicate]; omega)])
        obtain ⟨f, t, g1, g2, g3, g4⟩ := hp (by omega)
        have nb : grpsOf b = [] ↔ (grpsOf b).length = 0 := List.length_eq_zero_iff.symm
        have nc : grpsOf c = [] ↔ (grpsOf c).length = 0 := List.length_eq_zero_iff.symm
        simp only [nb] at b1
        simp only [nc] at c1
        split at b1 <;> split at c1 <;> split at g4 <;> split at g4 <;> omega
      · cases hwh
    · cases hwh

end Go.Proofs.YtfjpkfhbmldmfaaGreatDoor
