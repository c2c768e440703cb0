/-
  Plain: what is read is written again, but for capitals; errors and their places; a parameter ahead.
-/
import Derived.Test.YtjpmfgmoekpcpabGreatDoorPbP
namespace Go.Proofs.YtjpmfgmoekpcpabGreatDoor

theorem upB_up_fin : ∀ b : Fin 256, upB (upB (UInt8.ofNat b.val)) = upB (UInt8.ofNat b.val) := by decide +kernel
theorem upB_up (c : UInt8) : upB (upB c) = upB c := p_fin (P := fun c => upB (upB c) = upB c) upB_up_fin c
theorem upL_up (l : List UInt8) : upL (upL l) = upL l := by
  unfold upL
  rw [List.map_map]
  exact List.map_congr_left fun c _ => upB_up c
theorem upL_len (l : List UInt8) : (upL l).length = l.length := List.length_map ..
theorem upL_app (a b : List UInt8) : upL (a ++ b) = upL a ++ upL b := List.map_append ..
theorem badN_take (k : Int) : ∀ l : List UInt8, badN k (l.take (badN k l)) = badN k l
  | [] => rfl
  | c :: r => by
    by_cases h : isB k (c.toNat : Int) = true
    · have e : badN k (c :: r) = badN k r + 1 := by rw [badN, if_pos h]
      rw [e, List.take_succ_cons, badN, if_pos h, badN_take k r]
    · have e : badN k (c :: r) = 0 := by rw [badN, if_neg h]
      rw [e]
      rfl
theorem badN_up (l : List UInt8) : badN 10 (upL l) = badN 10 l := by
  induction l with
  | nil => rfl
  | cons c r ih =>
    show badN 10 (upB c :: upL r) = _
    rw [badN, badN, up10, ih]
theorem kwN_take (l : List UInt8) : kwN (l.take (kwN l)) = kwN l := by
  cases l with
  | nil => rfl
  | cons c r =>
    by_cases h : isB 3 (c.toNat : Int) = true
    · have e : kwN (c :: r) = badN 10 (c :: r) := by rw [kwN, if_pos h]
      rw [e]
      have e1 := badN_take 10 (c :: r)
      rcases hb : badN 10 (c :: r) with _ | n
      · rfl
      · rw [hb] at e1
        rw [List.take_succ_cons] at e1 ⊢
        rw [kwN, if_pos h, e1]
    · have e : kwN (c :: r) = 0 := by rw [kwN, if_neg h]
      rw [e]
      rfl
theorem kwN_up (l : List UInt8) : kwN (upL l) = kwN l := by
  cases l with
  | nil => rfl
  | cons c r =>
    have h := badN_up (c :: r)
    show kwN (upB c :: upL r) = _
    rw [kwN, kwN, up3]
    split
    · exact h
    · rfl
theorem nmB_up (l : List UInt8) (h : kwN l ≠ 0) : nmB (upL (l.take (kwN l))) = true := by
  have hl := kwN_le l
  have h1 : (l.take (kwN l)).length = kwN l := by rw [List.length_take]; omega
  unfold nmB
  rw [upL_len, h1, kwN_up, kwN_take, upL_up]
  simp [h]
theorem badV_le (wide : Bool) (v : List UInt8) : badV wide v ≤ v.length := by
  unfold badV
  split
  · omega
  · exact badU_le _
/-- What pm1 reads can be written, in as many bytes, the same but for capitals. -/
theorem pm1_ok {wide : Bool} {r : List UInt8} {p : Pm} {n : Nat} (h : pm1 wide r = .ok (p, n)) :
    nmB p.name = true ∧ vaB p = true ∧ (wide = true ∨ ∀ c ∈ p.val, c.toNat < 128) ∧ upL (wr0 p) = upL (r.take n) ∧ (wr0 p).length = n ∧ n ≤ r.length := by
  have hkl := kwN_le r
  unfold pm1 at h
  by_cases h0 : kwN r = 0
  · rw [if_pos h0] at h; cases h
  · rw [if_neg h0] at h
    have hnm := nmB_up r h0
    have htl : (r.take (kwN r)).length = kwN r := by rw [List.length_take]; omega
    have plain : ∀ q : Pm × Nat, q = (⟨upL (r.take (kwN r)), [], false⟩, kwN r) → q = (p, n) → nmB p.name = true ∧ vaB p = true ∧ (wide = true ∨ ∀ c ∈ p.val, c.toNat < 128) ∧ upL (wr0 p) = upL (r.take n) ∧ (wr0 p).length = n ∧ n ≤ r.length := by
      intro q hq e
      rw [hq] at e
      injection e with e1 e2
      subst e1
      subst e2
      refine ⟨hnm, rfl, .inr (by simp), ?_, ?_, hkl⟩
      · show upL (upL (r.take (kwN r)) ++ []) = _
        rw [List.append_nil, upL_up]
      · show (upL (r.take (kwN r)) ++ []).length = _
        rw [List.append_nil, upL_len, htl]
    rcases hd : r.drop (kwN r) with _ | ⟨c, t⟩
    · rw [hd] at h
      injection h with h
      exact plain _ rfl h
    · rw [hd] at h
      simp only at h
      split at h
      · injection h with h
        exact plain _ rfl h
      · split at h
        · split at h
          · cases h
          · rename_i hc32 hc61 hno
            injection h with h
            injection h with e1 e2
            subst e1
            subst e2
            have hle := badV_le wide (tilB 32 t)
            obtain ⟨va, vb⟩ := badV_all (wide := wide) (v := tilB 32 t) (by omega)
            have hT : ∀ c ∈ tilB 32 t, vlB true c = true := fun c hc => by
              have := va c hc
              cases wide with
              | true => exact this
              | false => rw [vln] at this; simp at this; exact this.1
            have hrt : r = r.take (kwN r) ++ (61 :: t) := by
              have := List.take_append_drop (kwN r) r
              rw [hd, hc61] at this
              exact this.symm
            have htb := tilB_len 32 t
            refine ⟨hnm, ?_, ?_, ?_, ?_, ?_⟩
            · unfold vaB
              simp only [if_true]
              rw [badV_of hT, vb]
              simp
              intro he
              rw [he] at hno
              simp at hno
            · cases wide with
              | true => exact .inl rfl
              | false =>
                refine .inr fun c hc => ?_
                have := va c hc
                rw [vln] at this
                simp at this
                exact this.2
            · show upL (upL (r.take (kwN r)) ++ (61 :: tilB 32 t)) = _
              have e3 : r.take (kwN r + 1 + (tilB 32 t).length) = r.take (kwN r) ++ (61 :: tilB 32 t) := by
                have e4 : r.take (kwN r + 1 + (tilB 32 t).length) = (r.take (kwN r) ++ (61 :: t)).take (kwN r + 1 + (tilB 32 t).length) := by rw [← hrt]
                rw [e4, List.take_append, htl, show kwN r + 1 + (tilB 32 t).length - kwN r = (tilB 32 t).length + 1 by omega, List.take_succ_cons, ← tilB_take, List.take_of_length_le (by rw [htl]; omega)]
              rw [e3, upL_app, upL_app, upL_up]
            · show (upL (r.take (kwN r)) ++ (61 :: tilB 32 t)).length = _
              rw [List.length_append, upL_len, htl, List.length_cons]
              omega
            · have : r.length = kwN r + (t.length + 1) := by
                have := congrArg List.length hrt
                rw [List.length_append, htl, List.length_cons] at this
                exact this
              omega
        · cases h
/-- What is read is written again: as long, the same but for capitals; and is read as it was. -/
theorem prs_again {wide : Bool} : ∀ (j : Nat) (l : List UInt8) (ps : List Pm), prs wide j l = .ok ps → ps.length ≤ j ∧ (∃ t, prtL ps = .ok t ∧ t.length = l.length ∧ upL t = upL l) ∧ (wide = true ∨ ∀ p ∈ ps, ∀ c ∈ p.val, c.toNat < 128)
  | j, [], ps, h => by
    rw [prs_end] at h
    injection h with h
    subst h
    exact ⟨Nat.zero_le _, ⟨[], rfl, rfl, rfl⟩, .inr (by simp)⟩
  | 0, c :: r, ps, h => by
    rw [prs] at h
    split at h <;> cases h
  | j + 1, c :: r, ps, h => by
    by_cases hc : c = 32
    · rw [prs_step _ _ _ _ hc] at h
      rcases hp : pm1 wide r with ⟨e, q⟩ | ⟨p, n⟩
      · rw [hp] at h; cases h
      · rw [hp] at h
        simp only at h
        obtain ⟨hn, hv, hw, hu, hl, hle⟩ := pm1_ok hp
        rcases hq : prs wide j (r.drop n) with ⟨e, q⟩ | qs
        · rw [hq] at h; cases h
        · rw [hq] at h
          injection h with h
          obtain ⟨g1, ⟨t, g2, g3, g4⟩, g5⟩ := prs_again j (r.drop n) qs hq
          subst h
          refine ⟨by simp; omega, ⟨32 :: (wr0 p ++ t), ?_, ?_, ?_⟩, ?_⟩
          · show prtL (p :: qs) = _
            rw [prtL, if_pos hn, if_pos hv, g2, wr1_is]
            rfl
          · rw [List.length_cons, List.length_append, hl, g3, List.length_drop, List.length_cons]
            omega
          · subst hc
            show upB 32 :: upL (wr0 p ++ t) = upB 32 :: upL r
            rw [upL_app, hu, g4, ← upL_app, List.take_append_drop]
          · rcases hw with hw | hw
            · exact .inl hw
            · rcases g5 with g5 | g5
              · exact .inl g5
              · refine .inr fun x hx => ?_
                rcases List.mem_cons.1 hx with rfl | hx
                · exact hw
                · exact g5 x hx
    · rw [prs_no _ _ _ _ hc] at h; cases h
theorem pm1_bad {wide : Bool} {r : List UInt8} {e q : Nat} (h : pm1 wide r = .error (e, q)) : q ≤ r.length ∧ (e = 100 ∨ e = 101) := by
  have hkl := kwN_le r
  unfold pm1 at h
  by_cases h0 : kwN r = 0
  · rw [if_pos h0] at h
    injection h with h
    injection h with h1 h2
    omega
  · rw [if_neg h0] at h
    rcases hd : r.drop (kwN r) with _ | ⟨c, t⟩
    · rw [hd] at h; cases h
    · have hlen : r.length - kwN r = t.length + 1 := by rw [← List.length_drop, hd, List.length_cons]
      rw [hd] at h
      simp only at h
      split at h
      · cases h
      · split at h
        · split at h
          · injection h with h
            injection h with h1 h2
            have := badV_le wide (tilB 32 t)
            have := tilB_len 32 t
            omega
          · cases h
        · injection h with h
          injection h with h1 h2
          omega
theorem prs_bad {wide : Bool} : ∀ (j : Nat) (l : List UInt8) (e q : Nat), prs wide j l = .error (e, q) → q ≤ l.length ∧ (e = 100 ∨ e = 101 ∨ e = 4)
  | j, [], e, q, h => by rw [prs_end] at h; cases h
  | 0, c :: r, e, q, h => by
    rw [prs] at h
    split at h
    · injection h with h; injection h with h1 h2; omega
    · injection h with h; injection h with h1 h2; omega
  | j + 1, c :: r, e, q, h => by
    by_cases hc : c = 32
    · rw [prs_step _ _ _ _ hc] at h
      rcases hp : pm1 wide r with ⟨e1, q1⟩ | ⟨p, n⟩
      · rw [hp] at h
        injection h with h
        injection h with h1 h2
        obtain ⟨b1, b2⟩ := pm1_bad hp
        rw [List.length_cons]
        omega
      · rw [hp] at h
        simp only at h
        obtain ⟨_, _, _, _, _, hle⟩ := pm1_ok hp
        rcases hq : prs wide j (r.drop n) with ⟨e1, q1⟩ | qs
        · rw [hq] at h
          injection h with h
          injection h with h1 h2
          obtain ⟨b1, b2⟩ := prs_bad j (r.drop n) e1 q1 hq
          rw [List.length_drop] at b1
          rw [List.length_cons]
          omega
        · rw [hq] at h; cases h
    · rw [prs_no _ _ _ _ hc] at h
      injection h with h
      injection h with h1 h2
      omega
theorem prs_less {wide : Bool} : ∀ (j : Nat) (l : List UInt8) (e q : Nat), prs wide (j + 1) l = .error (e, q) → prs wide j l = .error (e, q) ∨ ∃ q', prs wide j l = .error (4, q')
  | j, [], e, q, h => by rw [prs_end] at h; cases h
  | 0, c :: r, e, q, h => by
    by_cases hc : c = 32
    · exact .inr ⟨0, prs_full _ _ _ hc⟩
    · rw [prs_no _ _ _ _ hc] at h ⊢
      exact .inl h
  | j + 1, c :: r, e, q, h => by
    by_cases hc : c = 32
    · rw [prs_step _ _ _ _ hc] at h ⊢
      rcases hp : pm1 wide r with ⟨e1, q1⟩ | ⟨p, n⟩
      · rw [hp] at h
        exact .inl h
      · rw [hp] at h
        simp only at h ⊢
        rcases hq : prs wide (j + 1) (r.drop n) with ⟨e1, q1⟩ | qs
        · rw [hq] at h
          injection h with h
          injection h with h1 h2
          rcases prs_less j (r.drop n) e1 q1 hq with g | ⟨q', g⟩
          · rw [g]
            subst h1
            subst h2
            exact .inl rfl
          · rw [g]
            exact .inr ⟨_, rfl⟩
        · rw [hq] at h; cases h
    · rw [prs_no _ _ _ _ hc] at h ⊢
      exact .inl h
theorem pm1_X (wide : Bool) (r : List UInt8) : pm1 wide (88 :: 32 :: r) = .ok (⟨[88], [], false⟩, 1) := by
  have hk : kwN (88 :: 32 :: r) = 1 := by
    have a : isB 3 ((88 : UInt8).toNat : Int) = true := by decide +kernel
    have b : isB 10 ((88 : UInt8).toNat : Int) = true := by decide +kernel
    rw [kwN, if_pos a, badN, if_pos b, badN, if_neg (by rw [c32_10]; simp)]
  unfold pm1
  rw [hk]
  rfl
/-- One parameter ahead. -/
theorem prs_later {wide : Bool} (l : List UInt8) (e q : Nat) (h : prs wide 16 l = .error (e, q)) :
    (e = 100 ∧ q = 0) ∨ (∃ q', prs wide 16 (32 :: 88 :: l) = .error (4, q')) ∨ prs wide 16 (32 :: 88 :: l) = .error (e, q + 2) := by
  rcases l with _ | ⟨c, r⟩
  · rw [prs_end] at h; cases h
  · by_cases hc : c = 32
    · subst hc
      rw [prs_step wide 15 32 (88 :: 32 :: r) rfl, pm1_X]
      simp only [List.drop_succ_cons, List.drop_zero]
      rcases prs_less 15 (32 :: r) e q h with g | ⟨q', g⟩
      · rw [g]
        refine .inr (.inr ?_)
        show Except.error (e, 1 + 1 + q) = _
        rw [show 1 + 1 + q = q + 2 by omega]
      · rw [g]
        exact .inr (.inl ⟨_, rfl⟩)
    · rw [prs_no _ _ _ _ hc] at h
      injection h with h
      injection h with h1 h2
      exact .inl ⟨h1.symm, h2.symm⟩
theorem wrA_part : ∀ (l : List Pm) (p : Pm), p ∈ l → p.name.length ≤ (wrA l).length ∧ (p.has = true → p.val.length ≤ (wrA l).length)
  | q :: r, p, h => by
    have e : (wrA (q :: r)).length = (wr1 q).length + (wrA r).length := by unfold wrA; rw [List.flatMap_cons, List.length_append]
    rcases List.mem_cons.1 h with rfl | h
    · have e1 : (wr1 p).length = 1 + p.name.length + (if p.has then p.val.length + 1 else 0) := by
        unfold wr1
        rw [List.cons_append, List.length_cons, List.length_append]
        split <;> simp <;> omega
      refine ⟨by omega, fun hh => ?_⟩
      rw [if_pos hh] at e1
      omega
    · obtain ⟨h1, h2⟩ := wrA_part r p h
      exact ⟨by omega, fun hh => by have := h2 hh; omega⟩
theorem prtL_vals : ∀ (l : List Pm) (t : List UInt8), prtL l = .ok t → ∀ p ∈ l, p.has = false → p.val = []
  | q :: r, t, h, p, hp, hh => by
    obtain ⟨_, hv, u, hu, _⟩ := prtL_cons h
    rcases List.mem_cons.1 hp with rfl | hp
    · exact vaB_no hv hh
    · exact prtL_vals r u hu p hp hh
end Go.Proofs.YtjpmfgmoekpcpabGreatDoor
