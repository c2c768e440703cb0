/-
  Parameters there and back: no Go in sight.
-/
import Derived.Test.YtjpmfgmoekpcpabGreatDoorPmP
namespace Go.Proofs.YtjpmfgmoekpcpabGreatDoor

theorem p_fin {P : UInt8 → Prop} (h : ∀ b : Fin 256, P (UInt8.ofNat b.val)) (c : UInt8) : P c := by
  have := h ⟨c.toNat, c.toNat_lt⟩
  simpa using this
theorem badN_app (k : Int) (r : List UInt8) (hr : ∀ x t, r = x :: t → isB k (x.toNat : Int) = false) : ∀ l : List UInt8, badN k l = l.length → badN k (l ++ r) = l.length
  | [], _ => by
    cases r with
    | nil => rfl
    | cons x t => show badN k (x :: t) = _; rw [badN, if_neg (by rw [hr x t rfl]; simp)]; rfl
  | b :: l, h => by
    rw [badN] at h
    rw [List.cons_append, badN]
    by_cases hb : isB k (b.toNat : Int) = true
    · rw [if_pos hb] at h ⊢
      rw [badN_app k r hr l (by simpa using h)]
      rfl
    · rw [if_neg hb] at h
      simp at h
theorem badN_all (k : Int) : ∀ l : List UInt8, badN k l = l.length → ∀ c ∈ l, isB k (c.toNat : Int) = true
  | [], _, c, hc => by simp at hc
  | b :: l, h, c, hc => by
    rw [badN] at h
    by_cases hb : isB k (b.toNat : Int) = true
    · rw [if_pos hb] at h
      rcases List.mem_cons.1 hc with rfl | hc
      · exact hb
      · exact badN_all k l (by simpa using h) c hc
    · rw [if_neg hb] at h
      simp at h
theorem badN_of (k : Int) : ∀ l : List UInt8, (∀ c ∈ l, isB k (c.toNat : Int) = true) → badN k l = l.length
  | [], _ => rfl
  | b :: l, h => by
    rw [badN, if_pos (h b (by simp)), badN_of k l (fun c hc => h c (by simp [hc]))]
    rfl
/-- A whole keyword. -/
theorem kwN_all {l : List UInt8} (h : kwN l = l.length) : ∀ c ∈ l, isB 10 (c.toNat : Int) = true := by
  cases l with
  | nil => intro c hc; simp at hc
  | cons b r =>
    rw [kwN] at h
    split at h
    · exact badN_all 10 _ h
    · simp at h
theorem kwN_app {l : List UInt8} (hl : l.length ≠ 0) (h : kwN l = l.length) (r : List UInt8) (hr : ∀ x t, r = x :: t → isB 10 (x.toNat : Int) = false) : kwN (l ++ r) = l.length := by
  cases l with
  | nil => exact absurd rfl hl
  | cons b l =>
    rw [kwN] at h
    split at h
    · rename_i h3
      rw [List.cons_append, kwN, if_pos h3]
      exact badN_app 10 r hr (b :: l) h
    · simp at h
theorem c32_10 : isB 10 ((32 : UInt8).toNat : Int) = false := by decide +kernel
theorem c61_10 : isB 10 ((61 : UInt8).toNat : Int) = false := by decide +kernel
theorem vl_fin : ∀ b : Fin 256, vlB true (UInt8.ofNat b.val) = true → UInt8.ofNat b.val ≠ 32 := by decide +kernel
theorem vl_ne (c : UInt8) (h : vlB true c = true) : c ≠ 32 := p_fin (P := fun c => vlB true c = true → c ≠ 32) vl_fin c h
theorem vln_fin : ∀ b : Fin 256, vlB false (UInt8.ofNat b.val) = (vlB true (UInt8.ofNat b.val) && decide ((UInt8.ofNat b.val).toNat < 128)) := by decide +kernel
theorem vln (c : UInt8) : vlB false c = (vlB true c && decide (c.toNat < 128)) := p_fin (P := fun c => vlB false c = (vlB true c && decide (c.toNat < 128))) vln_fin c
theorem lab_fin : ∀ b : Fin 256, isB 10 ((UInt8.ofNat b.val).toNat : Int) = true → (UInt8.ofNat b.val).toNat < 128 := by decide +kernel
theorem lab_lt (c : UInt8) (h : isB 10 (c.toNat : Int) = true) : c.toNat < 128 := p_fin (P := fun c => isB 10 (c.toNat : Int) = true → c.toNat < 128) lab_fin c h
theorem up10_fin : ∀ b : Fin 256, isB 10 ((upB (UInt8.ofNat b.val)).toNat : Int) = isB 10 ((UInt8.ofNat b.val).toNat : Int) := by decide +kernel
theorem up10 (c : UInt8) : isB 10 ((upB c).toNat : Int) = isB 10 (c.toNat : Int) := p_fin (P := fun c => isB 10 ((upB c).toNat : Int) = isB 10 (c.toNat : Int)) up10_fin c
theorem up3_fin : ∀ b : Fin 256, isB 3 ((upB (UInt8.ofNat b.val)).toNat : Int) = isB 3 ((UInt8.ofNat b.val).toNat : Int) := by decide +kernel
theorem up3 (c : UInt8) : isB 3 ((upB c).toNat : Int) = isB 3 (c.toNat : Int) := p_fin (P := fun c => isB 3 ((upB c).toNat : Int) = isB 3 (c.toNat : Int)) up3_fin c
theorem takeWhile_all {α : Type} (f : α → Bool) : ∀ l : List α, l.length ≤ (l.takeWhile f).length → ∀ c ∈ l, f c = true
  | [], _, c, hc => by simp at hc
  | b :: l, h, c, hc => by
    rw [List.takeWhile_cons] at h
    split at h
    · rename_i hb
      rcases List.mem_cons.1 hc with rfl | hc
      · exact hb
      · exact takeWhile_all f l (by simpa using h) c hc
    · simp at h
theorem takeWhile_of {α : Type} (f : α → Bool) : ∀ l : List α, (∀ c ∈ l, f c = true) → l.takeWhile f = l
  | [], _ => rfl
  | b :: l, h => by rw [List.takeWhile_cons, if_pos (h b (by simp)), takeWhile_of f l (fun c hc => h c (by simp [hc]))]
theorem badV_all {wide : Bool} {v : List UInt8} (h : badV wide v = v.length) : (∀ c ∈ v, vlB wide c = true) ∧ badU v = v.length := by
  unfold badV at h
  split at h
  · omega
  · exact ⟨takeWhile_all _ _ (by omega), h⟩
theorem badV_of {wide : Bool} {v : List UInt8} (h : ∀ c ∈ v, vlB wide c = true) : badV wide v = badU v := by
  unfold badV
  rw [takeWhile_of _ _ h, if_neg (Nat.lt_irrefl _)]
theorem badV_lt {v : List UInt8} (h : ¬ ∀ c ∈ v, c.toNat < 128) : badV false v < v.length := by
  unfold badV
  have hl : (v.takeWhile (vlB false)).length ≤ v.length := (List.takeWhile_sublist _).length_le
  split
  · assumption
  · rename_i hn
    exfalso
    apply h
    intro c hc
    have := takeWhile_all (vlB false) v (by omega) c hc
    rw [vln] at this
    simp at this
    exact this.2
theorem tilB_app (v r : List UInt8) (h : ∀ c ∈ v, c ≠ 32) (hr : r = [] ∨ ∃ u, r = 32 :: u) : tilB 32 (v ++ r) = v := by
  unfold tilB
  induction v with
  | nil => rcases hr with rfl | ⟨u, rfl⟩ <;> rfl
  | cons b v ih =>
    rw [List.cons_append, List.takeWhile_cons, if_pos (by simpa using h b (by simp)), ih (fun c hc => h c (by simp [hc]))]
/-- What may be written. -/
theorem nmB_is {l : List UInt8} (h : nmB l = true) : l.length ≠ 0 ∧ kwN l = l.length ∧ upL l = l := by
  unfold nmB at h
  simp at h
  exact ⟨by have := h.1.1; simpa using this, h.1.2, h.2⟩
theorem vaB_yes {p : Pm} (h : vaB p = true) (hh : p.has = true) : p.val.length ≠ 0 ∧ badV true p.val = p.val.length := by
  unfold vaB at h
  rw [if_pos hh] at h
  simp at h
  exact ⟨by have := h.1; simpa using this, h.2⟩
theorem vaB_no {p : Pm} (h : vaB p = true) (hh : p.has = false) : p.val = [] := by
  unfold vaB at h
  rw [if_neg (by simp [hh])] at h
  simpa using h
/-- A parameter, behind its blank. -/
def wr0 (p : Pm) : List UInt8 := p.name ++ (if p.has then 61 :: p.val else [])
theorem wr1_is (p : Pm) : wr1 p = 32 :: wr0 p := rfl
theorem pm1_wr {wide : Bool} {p : Pm} (hn : nmB p.name = true) (hv : vaB p = true) (hw : wide = true ∨ ∀ c ∈ p.val, c.toNat < 128) (r : List UInt8) (hr : r = [] ∨ ∃ u, r = 32 :: u) :
    pm1 wide (wr0 p ++ r) = .ok (p, (wr0 p).length) := by
  obtain ⟨n0, n1, n2⟩ := nmB_is hn
  obtain ⟨nm, vl, hs⟩ := p
  simp only at n0 n1 n2 hw
  cases hs with
  | false =>
    have hvl : vl = [] := vaB_no hv rfl
    subst hvl
    have e : wr0 ⟨nm, [], false⟩ = nm := by simp [wr0]
    rw [e]
    have hk : kwN (nm ++ r) = nm.length := kwN_app n0 n1 r (by
      rcases hr with rfl | ⟨u, rfl⟩
      · intro x t h; cases h
      · intro x t h; injection h with h _; subst h; exact c32_10)
    unfold pm1
    rw [hk, if_neg n0, List.drop_left, List.take_left, n2]
    rcases hr with rfl | ⟨u, rfl⟩
    · rfl
    · simp only [if_pos]
  | true =>
    obtain ⟨v0, v1⟩ := vaB_yes hv rfl
    simp only at v0 v1
    obtain ⟨va, vb⟩ := badV_all v1
    have e : wr0 ⟨nm, vl, true⟩ = nm ++ 61 :: vl := by simp [wr0]
    rw [e, List.append_assoc, List.cons_append]
    have hk : kwN (nm ++ 61 :: (vl ++ r)) = nm.length := kwN_app n0 n1 _ (by intro x t h; injection h with h _; subst h; exact c61_10)
    have ht : tilB 32 (vl ++ r) = vl := tilB_app vl r (fun c hc => vl_ne c (va c hc)) hr
    have hb : badV wide vl = vl.length := by
      rw [badV_of, vb]
      intro c hc
      rcases hw with rfl | hw
      · exact va c hc
      · cases wide with
        | true => exact va c hc
        | false => rw [vln, va c hc, decide_eq_true (hw c hc)]; rfl
    unfold pm1
    rw [hk, if_neg n0, List.drop_left, List.take_left, n2]
    simp only [show ¬ (61 : UInt8) = 32 from by decide, if_false, if_true, ht, hb]
    rw [if_neg (by omega)]
    simp only [List.length_append, List.length_cons]
    rw [show nm.length + 1 + vl.length = nm.length + (vl.length + 1) by omega]
/-- Without wide a wide value is refused. -/
theorem pm1_high {p : Pm} (hn : nmB p.name = true) (hv : vaB p = true) (hw : ¬ ∀ c ∈ p.val, c.toNat < 128) (r : List UInt8) (hr : r = [] ∨ ∃ u, r = 32 :: u) :
    ∃ q, pm1 false (wr0 p ++ r) = .error (101, q) := by
  obtain ⟨n0, n1, n2⟩ := nmB_is hn
  obtain ⟨nm, vl, hs⟩ := p
  simp only at n0 n1 n2 hw
  cases hs with
  | false =>
    have hvl : vl = [] := vaB_no hv rfl
    subst hvl
    simp at hw
  | true =>
    obtain ⟨v0, v1⟩ := vaB_yes hv rfl
    simp only at v0 v1
    obtain ⟨va, vb⟩ := badV_all v1
    have e : wr0 ⟨nm, vl, true⟩ = nm ++ 61 :: vl := by simp [wr0]
    rw [e, List.append_assoc, List.cons_append]
    have hk : kwN (nm ++ 61 :: (vl ++ r)) = nm.length := kwN_app n0 n1 _ (by intro x t h; injection h with h _; subst h; exact c61_10)
    have ht : tilB 32 (vl ++ r) = vl := tilB_app vl r (fun c hc => vl_ne c (va c hc)) hr
    have hb := badV_lt hw
    refine ⟨nm.length + 1 + badV false vl, ?_⟩
    unfold pm1
    rw [hk, if_neg n0, List.drop_left, List.take_left]
    simp only [show ¬ (61 : UInt8) = 32 from by decide, if_false, if_true, ht]
    rw [if_pos (Or.inr hb)]
theorem prtL_head {l : List Pm} {t : List UInt8} (h : prtL l = .ok t) : t = [] ∨ ∃ u, t = 32 :: u := by
  cases l with
  | nil => rw [prtL] at h; injection h with h; exact .inl h.symm
  | cons p r =>
    rw [prtL] at h
    split at h
    · split at h
      · split at h
        · cases h
        · injection h with h
          subst h
          exact .inr ⟨_, rfl⟩
      · cases h
    · cases h
theorem prtL_cons {p : Pm} {r : List Pm} {t : List UInt8} (h : prtL (p :: r) = .ok t) : nmB p.name = true ∧ vaB p = true ∧ ∃ u, prtL r = .ok u ∧ t = 32 :: (wr0 p ++ u) := by
  rw [prtL] at h
  split at h
  · rename_i h1
    split at h
    · rename_i h2
      refine ⟨h1, h2, ?_⟩
      split at h
      · cases h
      · rename_i u hu
        injection h with h
        exact ⟨u, hu, by rw [← h, wr1_is]; rfl⟩
    · cases h
  · cases h
/-- What is written is read as it was. -/
theorem prs_prt {wide : Bool} : ∀ (l : List Pm) (j : Nat) (t : List UInt8), l.length ≤ j → prtL l = .ok t → (wide = true ∨ ∀ p ∈ l, ∀ c ∈ p.val, c.toNat < 128) → prs wide j t = .ok l
  | [], j, t, _, h, _ => by
    rw [prtL] at h
    injection h with h
    subst h
    exact prs_end wide j
  | p :: r, 0, t, hj, _, _ => by simp at hj
  | p :: r, j + 1, t, hj, h, hw => by
    obtain ⟨hn, hv, u, hu, rfl⟩ := prtL_cons h
    have hw1 : wide = true ∨ ∀ c ∈ p.val, c.toNat < 128 := by rcases hw with h | h; exact .inl h; exact .inr (h p (by simp))
    have hw2 : wide = true ∨ ∀ p ∈ r, ∀ c ∈ p.val, c.toNat < 128 := by rcases hw with h | h; exact .inl h; exact .inr (fun q hq => h q (by simp [hq]))
    rw [prs_step _ _ _ _ rfl, pm1_wr hn hv hw1 u (prtL_head hu)]
    simp only [List.drop_left]
    rw [prs_prt r j u (by simpa using hj) hu hw2]
    rfl
theorem prtL_low : ∀ (l : List Pm) (t : List UInt8), prtL l = .ok t → ((∀ c ∈ t, c.toNat < 128) ↔ ∀ p ∈ l, ∀ c ∈ p.val, c.toNat < 128)
  | [], t, h => by
    rw [prtL] at h
    injection h with h
    subst h
    simp
  | p :: r, t, h => by
    obtain ⟨hn, hv, u, hu, rfl⟩ := prtL_cons h
    have ih := prtL_low r u hu
    obtain ⟨n0, n1, n2⟩ := nmB_is hn
    have hnl : ∀ c ∈ p.name, c.toNat < 128 := fun c hc => lab_lt c (kwN_all n1 c hc)
    constructor
    · intro ha q hq c hc
      rcases List.mem_cons.1 hq with rfl | hq
      · cases hh : q.has with
        | true => exact ha c (by simp [wr0, hh, hc])
        | false => rw [vaB_no hv hh] at hc; simp at hc
      · exact ih.1 (fun c hc => ha c (by simp [hc])) q hq c hc
    · intro ha c hc
      rw [List.mem_cons, List.mem_append] at hc
      rcases hc with rfl | hc | hc
      · decide
      · unfold wr0 at hc
        rw [List.mem_append] at hc
        rcases hc with hc | hc
        · exact hnl c hc
        · cases hh : p.has with
          | true =>
            rw [hh] at hc
            simp only [if_true, List.mem_cons] at hc
            rcases hc with rfl | hc
            · decide
            · exact ha p (by simp) c hc
          | false => rw [hh] at hc; simp at hc
      · exact ih.2 (fun q hq => ha q (by simp [hq])) c hc
theorem prs_high : ∀ (l : List Pm) (j : Nat) (t : List UInt8), l.length ≤ j → prtL l = .ok t → ¬ (∀ p ∈ l, ∀ c ∈ p.val, c.toNat < 128) → ∃ q, prs false j t = .error (101, q)
  | [], j, t, _, h, hw => by simp at hw
  | p :: r, 0, t, hj, _, _ => by simp at hj
  | p :: r, j + 1, t, hj, h, hw => by
    obtain ⟨hn, hv, u, hu, rfl⟩ := prtL_cons h
    rw [prs_step _ _ _ _ rfl]
    by_cases hp : ∀ c ∈ p.val, c.toNat < 128
    · rw [pm1_wr hn hv (.inr hp) u (prtL_head hu)]
      simp only [List.drop_left]
      obtain ⟨q, hq⟩ := prs_high r j u (by simpa using hj) hu (fun ha => hw (fun x hx => by
        rcases List.mem_cons.1 hx with rfl | hx
        · exact hp
        · exact ha x hx))
      rw [hq]
      exact ⟨_, rfl⟩
    · obtain ⟨q, hq⟩ := pm1_high hn hv hp u (prtL_head hu)
      rw [hq]
      exact ⟨_, rfl⟩
end Go.Proofs.YtjpmfgmoekpcpabGreatDoor
