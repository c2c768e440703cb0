/-
  What is printed is read as it was: the fields one by one, plainly.
-/
import Derived.Test.YtpepjiocjcjeeabDoorPbkP
namespace Go.Proofs.YtpepjiocjcjeeabDoor

theorem badN_cat (k : Int) (r : List UInt8) (hr : ∀ x t, r = x :: t → isB k (x.toNat : Int) = false) : ∀ l : List UInt8, badN k l = l.length → badN k (l ++ r) = l.length
  | [], _ => by
    cases r with
    | nil => rfl
    | cons x t => show badN k (x :: t) = _; rw [badN, if_neg (by rw [hr x t rfl]; simp)]; rfl
  | b :: l, h => by
    rw [badN] at h
    rw [List.cons_append, badN]
    by_cases hb : isB k (b.toNat : Int) = true
    · rw [if_pos hb] at h ⊢
      rw [badN_cat k r hr l (by simpa using h)]
      rfl
    · rw [if_neg hb] at h
      simp at h
theorem nm_cls_fin : ∀ b : Fin 256, isB 11 ((UInt8.ofNat b.val).toNat : Int) = true → blB (UInt8.ofNat b.val) = false ∧ UInt8.ofNat b.val ≠ 13 ∧ UInt8.ofNat b.val ≠ 58 := by decide +kernel
theorem nm_cls (c : UInt8) (h : isB 11 (c.toNat : Int) = true) : blB c = false ∧ c ≠ 13 ∧ c ≠ 58 := by
  have := nm_cls_fin ⟨c.toNat, c.toNat_lt⟩
  simp only [UInt8.ofNat_toNat] at this
  exact this h
theorem c58_11 : isB 11 ((58 : UInt8).toNat : Int) = false := by decide +kernel
theorem nm_ne {nm : List UInt8} (h : nmB nm = true) : ∃ c r, nm = c :: r ∧ isB 11 (c.toNat : Int) = true := by
  unfold nmB at h
  rw [Bool.and_eq_true, beq_iff_eq] at h
  cases nm with
  | nil => cases h.1
  | cons c r => exact ⟨c, r, rfl, badN_full 11 _ h.2 c (List.mem_cons_self ..)⟩
theorem bad_nm {nm : List UInt8} (h : nmB nm = true) (r : List UInt8) : badN 11 (nm ++ (58 :: r)) = nm.length := by
  unfold nmB at h
  rw [Bool.and_eq_true, beq_iff_eq] at h
  refine badN_cat 11 (58 :: r) (fun x t e => ?_) nm h.2
  rw [← (List.cons.inj e).1]
  exact c58_11
theorem le_no (P Z : List UInt8) (c : UInt8) (n : Nat) (hn : n = P.length) (hc : crB c = false) : leH ((P ++ (c :: Z)).drop n) = false := by
  rw [hn, List.drop_left]
  unfold leH crB at *
  simp only [Bool.or_eq_false_iff, beq_eq_false_iff_ne] at hc
  simp
  intro h
  exact absurd h hc.1
theorem fld_ne {r : List UInt8} (h : fldB r = true) : ∃ c t, r = c :: t ∧ blB c = true := by
  unfold fldB at h
  cases r with
  | nil => simp at h
  | cons c t =>
    rw [Bool.and_eq_true] at h
    exact ⟨c, t, rfl, h.1⟩
/-- One fold more. -/
theorem fold_one (A r C : List UInt8) (ps : List Plc) (p : Plc) (hr : okR r) (h : Pdt (A ++ (r ++ ([13, 10] ++ C))) A.length (ps ++ [p])) : Pdt (A ++ (r ++ ([13, 10] ++ C))) (A.length + r.length + 2) (ps ++ [⟨p.f, p.c, A.length + r.length⟩]) := by
  obtain ⟨c, t, hct, hbl⟩ := fld_ne hr.2.1
  have h1 : rwE (A ++ (r ++ ([13, 10] ++ C))) A.length = A.length + r.length := rwE_app A r _ hr.1 (.inr ⟨13, _, rfl, rfl⟩)
  have h2 : leH ((A ++ (r ++ ([13, 10] ++ C))).drop (A.length + r.length)) = true := by
    rw [← List.append_assoc]
    exact leH_app (A ++ r) C _ (by simp)
  have h3 : stE (A ++ (r ++ ([13, 10] ++ C))) A.length (A.length + r.length) = r := stE_mid A r _ _ _ rfl rfl
  have hne : A.length ≠ (A ++ (r ++ ([13, 10] ++ C))).length := by
    rw [hct]
    simp
  have hcr : crB c = false := hr.1 c (by rw [hct]; exact List.mem_cons_self ..)
  have hle : leH ((A ++ (r ++ ([13, 10] ++ C))).drop A.length) = false := by
    rw [hct]
    exact le_no A _ c _ rfl hcr
  have hat : (A ++ (r ++ ([13, 10] ++ C)))[A.length]? = some c := by
    rw [hct, List.getElem?_append_right (Nat.le_refl _), Nat.sub_self]
    rfl
  have ht : tkH (A ++ (r ++ ([13, 10] ++ C))) (ps ++ [p]) A.length (rwE (A ++ (r ++ ([13, 10] ++ C))) A.length) = .ok (ps ++ [⟨p.f, p.c, A.length + r.length⟩]) := by
    rw [h1]
    unfold tkH
    rw [if_neg (by have := hr.2.2; omega), if_neg (by rw [h2]; decide), hat]
    rw [if_pos hbl]
    unfold foldH
    rw [h3, if_neg (by rw [hr.2.1]; simp), setLast_snoc]
  have := h.next hne hle ht
  rw [h1] at this
  exact this
/-- All folds of a field. -/
theorem fold_all : ∀ (rs : List (List UInt8)) (A C : List UInt8) (ps : List Plc) (p : Plc), (∀ q ∈ rs, okR q) → Pdt (A ++ ((rs.flatMap fun r => r ++ [13, 10]) ++ C)) A.length (ps ++ [p]) →
    Pdt (A ++ ((rs.flatMap fun r => r ++ [13, 10]) ++ C)) (A.length + (rs.flatMap fun r => r ++ [13, 10]).length) (ps ++ [⟨p.f, p.c, A.length + (rs.flatMap fun r => r ++ [13, 10]).length - 2⟩])
  | [], A, C, ps, p, _, h => by
    have h1 := (h.la ps p rfl).1
    have e : A.length + (([] : List (List UInt8)).flatMap fun r => r ++ [13, 10]).length - 2 = p.t := by
      simp
      omega
    rw [e]
    exact h
  | r :: q, A, C, ps, p, hr, h => by
    have e1 : A ++ (((r :: q).flatMap fun r => r ++ [13, 10]) ++ C) = A ++ (r ++ ([13, 10] ++ ((q.flatMap fun r => r ++ [13, 10]) ++ C))) := by simp
    have e2 : A ++ (((r :: q).flatMap fun r => r ++ [13, 10]) ++ C) = (A ++ r ++ [13, 10]) ++ ((q.flatMap fun r => r ++ [13, 10]) ++ C) := by simp
    rw [e1] at h
    have h1 := fold_one A r _ ps p (hr r (List.mem_cons_self ..)) h
    rw [← e1, e2, show A.length + r.length + 2 = (A ++ r ++ [13, 10]).length by simp; omega] at h1
    have h2 := fold_all q (A ++ r ++ [13, 10]) C ps _ (fun x hx => hr x (List.mem_cons_of_mem _ hx)) h1
    rw [← e2] at h2
    have e3 : (A ++ r ++ [13, 10]).length + (q.flatMap fun r => r ++ [13, 10]).length = A.length + ((r :: q).flatMap fun r => r ++ [13, 10]).length := by
      simp
      omega
    rw [e3] at h2
    exact h2
/-- One field more. -/
theorem field_one (A C nm bd : List UInt8) (ps : List Plc) (hc : chkF nm bd = 0) (hp : ps.length < 4096) (h : Pdt (A ++ (wrF ⟨nm, bd⟩ ++ C)) A.length ps) :
    Pdt (A ++ (wrF ⟨nm, bd⟩ ++ C)) (A.length + (wrF ⟨nm, bd⟩).length) (ps ++ [⟨A.length, A.length + nm.length, A.length + nm.length + 1 + bd.length⟩]) := by
  obtain ⟨hn, r0, rs, hb, h0, hl, hrs⟩ := chk_ok hc
  obtain ⟨c, nt, hnm, hcl⟩ := nm_ne hn
  have hcc := nm_cls c hcl
  have hno : noCR (nm ++ ([58] ++ r0)) := fun x hx => by
    rcases List.mem_append.1 hx with hx | hx
    · exact nm_cr nm hn x hx
    · rcases List.mem_append.1 hx with hx | hx
      · rw [List.mem_singleton.1 hx]
        rfl
      · exact h0 x hx
  have e0 : wrF ⟨nm, bd⟩ = (nm ++ ([58] ++ r0)) ++ ([13, 10] ++ (rs.flatMap fun r => r ++ [13, 10])) := by
    unfold wrF
    dsimp only
    rw [hb]
    unfold bdR
    have h9 := bdR_end rs
    have e9 : nm ++ [58] ++ (r0 ++ rs.flatMap fun r => [13, 10] ++ r) ++ [13, 10] = (nm ++ ([58] ++ r0)) ++ ((rs.flatMap fun r => [13, 10] ++ r) ++ [13, 10]) := by simp only [List.append_assoc]
    rw [e9, h9]
  obtain ⟨X, hX⟩ : ∃ X, X = A ++ (wrF ⟨nm, bd⟩ ++ C) := ⟨_, rfl⟩
  have e1 : X = A ++ ((nm ++ ([58] ++ r0)) ++ ([13, 10] ++ ((rs.flatMap fun r => r ++ [13, 10]) ++ C))) := by
    rw [hX, e0]
    simp
  have e2 : X = (A ++ (nm ++ ([58] ++ r0)) ++ [13, 10]) ++ ((rs.flatMap fun r => r ++ [13, 10]) ++ C) := by
    rw [e1]
    simp
  rw [← hX] at h ⊢
  have hlen : (nm ++ ([58] ++ r0)).length = nm.length + 1 + r0.length := by rw [List.length_append, List.length_append, List.length_singleton]; omega
  have h1 : rwE X A.length = A.length + (nm ++ ([58] ++ r0)).length := by
    rw [e1]
    exact rwE_app A _ _ hno (.inr ⟨13, _, rfl, rfl⟩)
  have h2 : leH (X.drop (A.length + (nm ++ ([58] ++ r0)).length)) = true := by
    have h9 := leH_app (A ++ (nm ++ ([58] ++ r0))) ((rs.flatMap fun r => r ++ [13, 10]) ++ C) (A.length + (nm ++ ([58] ++ r0)).length) (List.length_append).symm
    rw [List.append_assoc A] at h9
    rw [e1]
    exact h9
  have h3 : stE X A.length (A.length + (nm ++ ([58] ++ r0)).length) = nm ++ ([58] ++ r0) := by
    rw [e1]
    exact stE_mid A _ _ _ _ rfl rfl
  have hne : A.length ≠ X.length := by
    rw [e1, hnm]
    simp
  have hcr : crB c = false := nm_cr nm hn c (by rw [hnm]; exact List.mem_cons_self ..)
  have hle : leH (X.drop A.length) = false := by
    rw [e1, hnm]
    exact le_no A _ c _ rfl hcr
  have hat : X[A.length]? = some c := by
    rw [e1, hnm, List.getElem?_append_right (Nat.le_refl _), Nat.sub_self]
    rfl
  have hbad : badN 11 (stE X A.length (A.length + (nm ++ ([58] ++ r0)).length)) = nm.length := by
    rw [h3]
    exact bad_nm hn r0
  have hco : X[A.length + nm.length]? = some 58 := by
    have e3 : X = (A ++ nm) ++ (58 :: (r0 ++ ([13, 10] ++ ((rs.flatMap fun r => r ++ [13, 10]) ++ C)))) := by
      rw [e1]
      simp
    rw [e3, List.getElem?_append_right (by simp)]
    simp
  have hnl : 0 < nm.length := by rw [hnm]; simp
  have ht : tkH X ps A.length (rwE X A.length) = .ok (ps ++ [⟨A.length, A.length + nm.length, A.length + (nm ++ ([58] ++ r0)).length⟩]) := by
    rw [h1]
    unfold tkH
    rw [if_neg (by omega), if_neg (by rw [h2]; decide), hat]
    rw [if_neg (by show ¬ blB c = true; rw [hcc.1]; decide)]
    unfold begH
    dsimp only
    have hT : A.length + (nm ++ ([58] ++ r0)).length - A.length = nm.length + 1 + r0.length := by omega
    rw [hbad, hT, if_neg (fun h9 => by
      rcases h9 with h9 | h9 | h9
      · omega
      · omega
      · exact h9 hco), if_neg (by omega)]
  have h4 := h.next hne hle ht
  rw [h1] at h4
  have e5 : A.length + (nm ++ ([58] ++ r0)).length + 2 = (A ++ (nm ++ ([58] ++ r0)) ++ [13, 10]).length := by simp; omega
  rw [e5, e2] at h4
  have h5 := fold_all rs _ C ps _ hrs h4
  rw [← e2] at h5
  have e6 : (A ++ (nm ++ ([58] ++ r0)) ++ [13, 10]).length + (rs.flatMap fun r => r ++ [13, 10]).length = A.length + (wrF ⟨nm, bd⟩).length := by
    rw [e0]
    simp
    omega
  rw [e6] at h5
  have e7 : A.length + (wrF ⟨nm, bd⟩).length - 2 = A.length + nm.length + 1 + bd.length := by
    unfold wrF
    simp
    omega
  rw [e7] at h5
  exact h5
theorem fd_mid (A C nm bd : List UInt8) : fdOf (A ++ (wrF ⟨nm, bd⟩ ++ C)) ⟨A.length, A.length + nm.length, A.length + nm.length + 1 + bd.length⟩ = ⟨nm, bd⟩ := by
  unfold fdOf
  dsimp only
  have e1 : A ++ (wrF ⟨nm, bd⟩ ++ C) = A ++ (nm ++ ([58] ++ bd ++ [13, 10] ++ C)) := by simp [wrF]
  have e2 : A ++ (wrF ⟨nm, bd⟩ ++ C) = (A ++ nm ++ [58]) ++ (bd ++ ([13, 10] ++ C)) := by simp [wrF]
  congr 1
  · rw [e1]
    exact stE_mid A nm _ _ _ rfl rfl
  · rw [e2]
    exact stE_mid (A ++ nm ++ [58]) bd _ _ _ (by simp; omega) (by simp; omega)
theorem print_in : ∀ (l : List Fd) (A R : List UInt8) (ps : List Plc), errF l = 0 → ps.length + l.length ≤ 4096 → Pdt (A ++ (prL l ++ R)) A.length ps →
    ∃ qs, Pdt (A ++ (prL l ++ R)) (A.length + (prL l).length) (ps ++ qs) ∧ qs.map (fdOf (A ++ (prL l ++ R))) = l
  | [], A, R, ps, _, _, h => ⟨[], by simpa [prL] using h, rfl⟩
  | ⟨nm, bd⟩ :: r, A, R, ps, he, hn, h => by
    rw [errF] at he
    have hc : chkF nm bd = 0 := by
      by_cases hc : chkF nm bd = 0
      · exact hc
      · rw [if_neg hc] at he
        exact absurd he hc
    rw [if_pos hc] at he
    rw [List.length_cons] at hn
    have e1 : A ++ (prL (⟨nm, bd⟩ :: r) ++ R) = A ++ (wrF ⟨nm, bd⟩ ++ (prL r ++ R)) := by simp [prL]
    have e2 : A ++ (prL (⟨nm, bd⟩ :: r) ++ R) = (A ++ wrF ⟨nm, bd⟩) ++ (prL r ++ R) := by simp [prL]
    have h1 := h
    rw [e1] at h1
    have h2 := field_one A _ nm bd ps hc (by omega) h1
    have hfd := fd_mid A (prL r ++ R) nm bd
    rw [← e1] at hfd h2
    rw [e2, ← List.length_append] at h2
    obtain ⟨qs, h3, h4⟩ := print_in r (A ++ wrF ⟨nm, bd⟩) R _ he (by simp; omega) h2
    rw [← e2] at h3 h4
    refine ⟨⟨A.length, A.length + nm.length, A.length + nm.length + 1 + bd.length⟩ :: qs, ?_, ?_⟩
    · have e4 : (A ++ wrF ⟨nm, bd⟩).length + (prL r).length = A.length + (prL (⟨nm, bd⟩ :: r)).length := by
        simp [prL]
        omega
      rw [e4, List.append_assoc] at h3
      exact h3
    · rw [List.map_cons, hfd, h4]
/-- What is printed, and behind it nothing or a line end, is read as it was. -/
theorem back_all (l : List Fd) (h : prE l = 0) (R : List UInt8) (hR : R = [] ∨ leH R = true) : ∃ ps, prsF (prL l ++ R) = .ok (ps, (prL l).length + (if R = [] then 0 else 2)) ∧ ps.map (fdOf (prL l ++ R)) = l := by
  have hl : l.length ≤ 4096 ∧ errF l = 0 := by
    unfold prE at h
    by_cases hb : 4096 < l.length
    · rw [if_pos hb] at h
      cases h
    · rw [if_neg hb] at h
      exact ⟨by omega, h⟩
  obtain ⟨qs, h1, h2⟩ := print_in l [] R [] hl.2 (by simpa using hl.1) (Pdt.zero _)
  rw [List.nil_append] at h1 h2
  rw [List.nil_append, List.length_nil, Nat.zero_add] at h1
  obtain ⟨k, hk⟩ := h1.st
  refine ⟨qs, ?_, h2⟩
  rcases hR with rfl | hR
  · rw [if_pos rfl, Nat.add_zero]
    exact hk.endA (by simp)
  · have hne : R ≠ [] := fun e => by rw [e] at hR; cases hR
    rw [if_neg hne]
    refine hk.endB ?_ ?_
    · have : 0 < R.length := List.length_pos_iff.2 hne
      simp
      omega
    · rw [List.drop_left]
      exact hR
end Go.Proofs.YtpepjiocjcjeeabDoor
