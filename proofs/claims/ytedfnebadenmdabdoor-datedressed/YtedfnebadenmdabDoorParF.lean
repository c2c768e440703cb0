/-
  The plain mathematics of a date's text of any gaps and capitals, read.
-/
import Derived.Test.YtedfnebadenmdabDoorParB
namespace Go.Proofs.YtedfnebadenmdabDoor

theorem head_of {P : UInt8 → Prop} {w r : List UInt8} (hn : w ≠ []) (h : ∀ b ∈ w, P b) : ∀ b, (w ++ r).head? = some b → P b := by
  intro b hb
  cases w with
  | nil => exact absurd rfl hn
  | cons x w =>
    simp at hb
    subst hb
    exact h _ (by simp)
theorem dig_apart (b : UInt8) (h : isB 2 (b.toNat : Int) = true) : isBl b = false ∧ isB 1 (b.toNat : Int) = false := by
  have : ∀ b : Fin 256, isB 2 (b.val : Int) = true → isBl (UInt8.ofNat b.val) = false ∧ isB 1 (b.val : Int) = false := by decide +kernel
  have := this ⟨b.toNat, b.toNat_lt⟩ h
  simpa using this
theorem let_apart (b : UInt8) (h : isB 1 (b.toNat : Int) = true) : isBl b = false ∧ isB 2 (b.toNat : Int) = false := by
  have : ∀ b : Fin 256, isB 1 (b.val : Int) = true → isBl (UInt8.ofNat b.val) = false ∧ isB 2 (b.val : Int) = false := by decide +kernel
  have := this ⟨b.toNat, b.toNat_lt⟩ h
  simpa using this
theorem bl_apart (b : UInt8) (h : isBl b = true) : isB 1 (b.toNat : Int) = false ∧ isB 2 (b.toNat : Int) = false := by
  unfold isBl at h
  simp only [Bool.or_eq_true, beq_iff_eq] at h
  rcases h with rfl | rfl <;> decide
theorem ne_of_len {l : List UInt8} (h : 1 ≤ l.length) : l ≠ [] := by
  intro e
  rw [e] at h
  simp at h
/-- A row of digits of that length. -/
structure Dg (w : List UInt8) (a z : Nat) : Prop where
  all : ∀ b ∈ w, isB 2 (b.toNat : Int) = true
  lo : a ≤ w.length
  hi : w.length ≤ z
/-- A row of letters that is a name. -/
structure Nm (w : List UInt8) (ns : List (List UInt8)) (i : Nat) : Prop where
  all : ∀ b ∈ w, isB 1 (b.toNat : Int) = true
  at' : nameAt ns (upL w) = some i
  ne : w ≠ []
/-- A gap. -/
structure Gp (g : List UInt8) : Prop where
  all : ∀ b ∈ g, isBl b = true
  ne : g ≠ []
/-- What stands behind the weekday. -/
theorem parts_form {D g2 M g3 Y g4 H MI S g5 ZH ZM tl : List UInt8} {sg : UInt8} {m1 : Nat} (z : Int) (hD : Dg D 1 2) (h2 : Gp g2) (hM : Nm M moL m1) (h3 : Gp g3) (hY : Dg Y 4 4) (h4 : Gp g4) (hH : Dg H 2 2) (hMI : Dg MI 2 2) (hS : Dg S 2 2) (h5 : Gp g5) (hZH : Dg ZH 2 2) (hZM : Dg ZM 2 2) (h59 : numV ZM ≤ 59)
    (hz : (sg = 43 ∧ z = 60 * (numV ZH : Int) + (numV ZM : Int)) ∨ (sg = 45 ∧ z = -(60 * (numV ZH : Int) + (numV ZM : Int)))) (ht : pEnd tl = .ok () []) (ht2 : ∀ b, tl.head? = some b → isB 2 (b.toNat : Int) = false) :
    ∃ za, both pHere (both (pNum 1 2) (both pGap (both pMon (both pGap (both pYear (both pGap (both pTime (both pGap (both pHere (both pZone pEnd))))))))))
      (D ++ (g2 ++ (M ++ (g3 ++ (Y ++ (g4 ++ (H ++ 58 :: (MI ++ 58 :: (S ++ (g5 ++ (sg :: (ZH ++ (ZM ++ tl))))))))))))) =
      .ok ((D ++ (g2 ++ (M ++ (g3 ++ (Y ++ (g4 ++ (H ++ 58 :: (MI ++ 58 :: (S ++ (g5 ++ (sg :: (ZH ++ (ZM ++ tl))))))))))))).length, (numV D : Int), (), (m1 : Int) + 1, (), (numV Y : Int), (), ((numV H : Int), (numV MI : Int), (numV S : Int)), (), za, z, ()) [] := by
  have sgb : isBl sg = false ∧ isB 2 (sg.toNat : Int) = false := by
    rcases hz with ⟨rfl, _⟩ | ⟨rfl, _⟩ <;> decide
  have e1 : pNum 1 2 (D ++ (g2 ++ (M ++ (g3 ++ (Y ++ (g4 ++ (H ++ 58 :: (MI ++ 58 :: (S ++ (g5 ++ (sg :: (ZH ++ (ZM ++ tl))))))))))))) = .ok (numV D : Int) (g2 ++ (M ++ (g3 ++ (Y ++ (g4 ++ (H ++ 58 :: (MI ++ 58 :: (S ++ (g5 ++ (sg :: (ZH ++ (ZM ++ tl)))))))))))) :=
    pNum_app hD.all (head_of h2.ne (fun b hb => (bl_apart b (h2.all b hb)).2)) hD.lo hD.hi
  have e2 : pGap (g2 ++ (M ++ (g3 ++ (Y ++ (g4 ++ (H ++ 58 :: (MI ++ 58 :: (S ++ (g5 ++ (sg :: (ZH ++ (ZM ++ tl)))))))))))) = .ok () (M ++ (g3 ++ (Y ++ (g4 ++ (H ++ 58 :: (MI ++ 58 :: (S ++ (g5 ++ (sg :: (ZH ++ (ZM ++ tl))))))))))) :=
    pGap_app h2.all h2.ne (head_of hM.ne (fun b hb => (let_apart b (hM.all b hb)).1))
  have e3 : pMon (M ++ (g3 ++ (Y ++ (g4 ++ (H ++ 58 :: (MI ++ 58 :: (S ++ (g5 ++ (sg :: (ZH ++ (ZM ++ tl))))))))))) = .ok ((m1 : Int) + 1) (g3 ++ (Y ++ (g4 ++ (H ++ 58 :: (MI ++ 58 :: (S ++ (g5 ++ (sg :: (ZH ++ (ZM ++ tl)))))))))) :=
    pMon_app hM.all (head_of h3.ne (fun b hb => (bl_apart b (h3.all b hb)).1)) hM.at'
  have e4 : pGap (g3 ++ (Y ++ (g4 ++ (H ++ 58 :: (MI ++ 58 :: (S ++ (g5 ++ (sg :: (ZH ++ (ZM ++ tl)))))))))) = .ok () (Y ++ (g4 ++ (H ++ 58 :: (MI ++ 58 :: (S ++ (g5 ++ (sg :: (ZH ++ (ZM ++ tl))))))))) :=
    pGap_app h3.all h3.ne (head_of (ne_of_len (by have := hY.lo; omega)) (fun b hb => (dig_apart b (hY.all b hb)).1))
  have e5 : pYear (Y ++ (g4 ++ (H ++ 58 :: (MI ++ 58 :: (S ++ (g5 ++ (sg :: (ZH ++ (ZM ++ tl))))))))) = .ok (numV Y : Int) (g4 ++ (H ++ 58 :: (MI ++ 58 :: (S ++ (g5 ++ (sg :: (ZH ++ (ZM ++ tl)))))))) :=
    pYear_app hY.all (head_of h4.ne (fun b hb => (bl_apart b (h4.all b hb)).2)) (by have := hY.lo; have := hY.hi; omega)
  have e6 : pGap (g4 ++ (H ++ 58 :: (MI ++ 58 :: (S ++ (g5 ++ (sg :: (ZH ++ (ZM ++ tl)))))))) = .ok () (H ++ 58 :: (MI ++ 58 :: (S ++ (g5 ++ (sg :: (ZH ++ (ZM ++ tl))))))) :=
    pGap_app h4.all h4.ne (head_of (ne_of_len (by have := hH.lo; omega)) (fun b hb => (dig_apart b (hH.all b hb)).1))
  have e7 : pTime (H ++ 58 :: (MI ++ 58 :: (S ++ (g5 ++ (sg :: (ZH ++ (ZM ++ tl))))))) = .ok ((numV H : Int), (numV MI : Int), (numV S : Int)) (g5 ++ (sg :: (ZH ++ (ZM ++ tl)))) :=
    pTime_app hH.all hMI.all hS.all (by have := hH.lo; have := hH.hi; omega) (by have := hMI.lo; have := hMI.hi; omega) (by have := hS.lo; have := hS.hi; omega) (head_of h5.ne (fun b hb => (bl_apart b (h5.all b hb)).2))
  have e8 : pGap (g5 ++ (sg :: (ZH ++ (ZM ++ tl)))) = .ok () (sg :: (ZH ++ (ZM ++ tl))) :=
    pGap_app h5.all h5.ne (fun b hb => by simp at hb; subst hb; exact sgb.1)
  have e9 : pZone (sg :: (ZH ++ (ZM ++ tl))) = .ok z tl :=
    pZone_app z hZH.all hZM.all (by have := hZH.lo; have := hZH.hi; omega) (by have := hZM.lo; have := hZM.hi; omega) h59 hz ht2
  refine ⟨(sg :: (ZH ++ (ZM ++ tl))).length, ?_⟩
  simp only [both, pHere, e1, e2, e3, e4, e5, e6, e7, e8, e9, ht]
theorem judge_ok {x : Dt} (hm : May x) (wd da za : Int) (hw : wd < 0 ∨ wd = wdN (numD x.y x.mo x.d)) : judge x wd da za = ⟨x, 0, 0⟩ := by
  unfold judge
  rw [(chk_may x).2 hm, if_neg (by omega), if_neg (by omega)]
/-- A text with a weekday. -/
theorem parse_form {g0 W g1 D g2 M g3 Y g4 H MI S g5 ZH ZM tl : List UInt8} {sg : UInt8} {m1 wd : Nat} {x : Dt} (h0 : ∀ b ∈ g0, isBl b = true) (hW : Nm W wdL wd) (h1 : ∀ b ∈ g1, isBl b = true) (hD : Dg D 1 2) (h2 : Gp g2) (hM : Nm M moL m1) (h3 : Gp g3) (hY : Dg Y 4 4) (h4 : Gp g4) (hH : Dg H 2 2) (hMI : Dg MI 2 2) (hS : Dg S 2 2) (h5 : Gp g5) (hZH : Dg ZH 2 2) (hZM : Dg ZM 2 2) (h59 : numV ZM ≤ 59)
    (hz : (sg = 43 ∧ x.z = 60 * (numV ZH : Int) + (numV ZM : Int)) ∨ (sg = 45 ∧ x.z = -(60 * (numV ZH : Int) + (numV ZM : Int)))) (ht : pEnd tl = .ok () []) (ht2 : ∀ b, tl.head? = some b → isB 2 (b.toNat : Int) = false)
    (hm : May x) (ey : x.y = (numV Y : Int)) (em : x.mo = (m1 : Int) + 1) (ed : x.d = (numV D : Int)) (eh : x.h = (numV H : Int)) (ei : x.mi = (numV MI : Int)) (es : x.s = (numV S : Int)) (hwd : wdN (numD x.y x.mo x.d) = (wd : Int)) :
    parse (g0 ++ (W ++ 44 :: (g1 ++ (D ++ (g2 ++ (M ++ (g3 ++ (Y ++ (g4 ++ (H ++ 58 :: (MI ++ 58 :: (S ++ (g5 ++ (sg :: (ZH ++ (ZM ++ tl)))))))))))))))) = ⟨x, 0, 0⟩ := by
  obtain ⟨za, hp⟩ := parts_form x.z hD h2 hM h3 hY h4 hH hMI hS h5 hZH hZM h59 hz ht ht2
  have e0 := pWd_app (g0 := g0) (w := W) (g := g1) (r := D ++ (g2 ++ (M ++ (g3 ++ (Y ++ (g4 ++ (H ++ 58 :: (MI ++ 58 :: (S ++ (g5 ++ (sg :: (ZH ++ (ZM ++ tl))))))))))))) h0 hW.all hW.at' hW.ne h1 (head_of (ne_of_len hD.lo) (fun b hb => (dig_apart b (hD.all b hb)).1))
  unfold parse pAll
  rw [both, e0]
  simp only [hp]
  rw [← ey, ← em, ← ed, ← eh, ← ei, ← es]
  exact judge_ok hm _ _ _ (.inr hwd.symm)
/-- A text without one. -/
theorem parse_bare {D g2 M g3 Y g4 H MI S g5 ZH ZM tl : List UInt8} {sg : UInt8} {m1 : Nat} {x : Dt} (hD : Dg D 1 2) (h2 : Gp g2) (hM : Nm M moL m1) (h3 : Gp g3) (hY : Dg Y 4 4) (h4 : Gp g4) (hH : Dg H 2 2) (hMI : Dg MI 2 2) (hS : Dg S 2 2) (h5 : Gp g5) (hZH : Dg ZH 2 2) (hZM : Dg ZM 2 2) (h59 : numV ZM ≤ 59)
    (hz : (sg = 43 ∧ x.z = 60 * (numV ZH : Int) + (numV ZM : Int)) ∨ (sg = 45 ∧ x.z = -(60 * (numV ZH : Int) + (numV ZM : Int)))) (ht : pEnd tl = .ok () []) (ht2 : ∀ b, tl.head? = some b → isB 2 (b.toNat : Int) = false)
    (hm : May x) (ey : x.y = (numV Y : Int)) (em : x.mo = (m1 : Int) + 1) (ed : x.d = (numV D : Int)) (eh : x.h = (numV H : Int)) (ei : x.mi = (numV MI : Int)) (es : x.s = (numV S : Int)) :
    parse (D ++ (g2 ++ (M ++ (g3 ++ (Y ++ (g4 ++ (H ++ 58 :: (MI ++ 58 :: (S ++ (g5 ++ (sg :: (ZH ++ (ZM ++ tl))))))))))))) = ⟨x, 0, 0⟩ := by
  obtain ⟨za, hp⟩ := parts_form x.z hD h2 hM h3 hY h4 hH hMI hS h5 hZH hZM h59 hz ht ht2
  have e0 := pWd_none (r := D ++ (g2 ++ (M ++ (g3 ++ (Y ++ (g4 ++ (H ++ 58 :: (MI ++ 58 :: (S ++ (g5 ++ (sg :: (ZH ++ (ZM ++ tl))))))))))))) (head_of (ne_of_len hD.lo) hD.all)
  unfold parse pAll
  rw [both, e0]
  simp only [hp]
  rw [← ey, ← em, ← ed, ← eh, ← ei, ← es]
  exact judge_ok hm _ _ _ (.inl (by omega))
end Go.Proofs.YtedfnebadenmdabDoor
