/-
  The plain mathematics of a date that is written and read: no Go in sight.
-/
import Derived.Test.YtedfnebadenmdabDoorPar
namespace Go.Proofs.YtedfnebadenmdabDoor

theorem badN_app (c : Int) : ∀ (w r : List UInt8), (∀ b ∈ w, isB c (b.toNat : Int) = true) → (∀ b, r.head? = some b → isB c (b.toNat : Int) = false) → badN c (w ++ r) = w.length
  | [], [], _, _ => rfl
  | [], b :: r, _, h => by
    show badN c (b :: r) = 0
    rw [badN, if_neg (by rw [h b rfl]; decide)]
  | b :: w, r, hw, hr => by
    show badN c (b :: (w ++ r)) = w.length + 1
    rw [badN, if_pos (hw b (by simp)), badN_app c w r (fun x hx => hw x (by simp [hx])) hr]
theorem blN_app : ∀ (w r : List UInt8), (∀ b ∈ w, isBl b = true) → (∀ b, r.head? = some b → isBl b = false) → blN (w ++ r) = w.length
  | [], [], _, _ => rfl
  | [], b :: r, _, h => by
    show blN (b :: r) = 0
    rw [blN, if_neg (by rw [h b rfl]; decide)]
  | b :: w, r, hw, hr => by
    show blN (b :: (w ++ r)) = w.length + 1
    rw [blN, if_pos (hw b (by simp)), blN_app w r (fun x hx => hw x (by simp [hx])) hr]
theorem remN_app : ∀ (w r : List UInt8), (∀ b ∈ w, remB b = true) → (∀ b, r.head? = some b → remB b = false) → remN (w ++ r) = w.length
  | [], [], _, _ => rfl
  | [], b :: r, _, h => by
    show remN (b :: r) = 0
    rw [remN, if_neg (by rw [h b rfl]; decide)]
  | b :: w, r, hw, hr => by
    show remN (b :: (w ++ r)) = w.length + 1
    rw [remN, if_pos (hw b (by simp)), remN_app w r (fun x hx => hw x (by simp [hx])) hr]

theorem pFree_app {g r : List UInt8} (hg : ∀ b ∈ g, isBl b = true) (hr : ∀ b, r.head? = some b → isBl b = false) : pFree (g ++ r) = .ok () r := by
  unfold pFree
  rw [blN_app g r hg hr, List.drop_left]
theorem pGap_app {g r : List UInt8} (hg : ∀ b ∈ g, isBl b = true) (hn : g ≠ []) (hr : ∀ b, r.head? = some b → isBl b = false) : pGap (g ++ r) = .ok () r := by
  unfold pGap
  rw [blN_app g r hg hr, if_neg (by intro h; exact hn (List.eq_nil_of_length_eq_zero h)), List.drop_left]
theorem pMark_app (b : UInt8) (r : List UInt8) : pMark b (b :: r) = .ok () r := by simp [pMark]
theorem pNum_app {a z : Nat} {w r : List UInt8} (hw : ∀ b ∈ w, isB 2 (b.toNat : Int) = true) (hr : ∀ b, r.head? = some b → isB 2 (b.toNat : Int) = false) (h1 : a ≤ w.length) (h2 : w.length ≤ z) : pNum a z (w ++ r) = .ok (numV w : Int) r := by
  unfold pNum
  rw [badN_app 2 w r hw hr, if_neg (by omega), List.drop_left, List.take_left]
theorem pName_app {ns : List (List UInt8)} {w r : List UInt8} {i : Nat} (hw : ∀ b ∈ w, isB 1 (b.toNat : Int) = true) (hr : ∀ b, r.head? = some b → isB 1 (b.toNat : Int) = false) (h : nameAt ns (upL w) = some i) : pName ns (w ++ r) = .ok (i : Int) r := by
  unfold pName
  rw [badN_app 1 w r hw hr, List.take_left, h, List.drop_left]
theorem pNamed_app {w g r : List UInt8} {i : Nat} (hw : ∀ b ∈ w, isB 1 (b.toNat : Int) = true) (h : nameAt wdL (upL w) = some i) (hg : ∀ b ∈ g, isBl b = true) (hr : ∀ b, r.head? = some b → isBl b = false) : pNamed (w ++ 44 :: (g ++ r)) = .ok (i : Int) r := by
  unfold pNamed
  have e1 := pName_app (ns := wdL) (w := w) (r := 44 :: (g ++ r)) (i := i) hw (fun b hb => by simp at hb; subst hb; decide) h
  simp only [mapR, both, e1, pMark_app, pFree_app hg hr]
theorem pWd_app {g0 w g r : List UInt8} {i : Nat} (hg0 : ∀ b ∈ g0, isBl b = true) (hw : ∀ b ∈ w, isB 1 (b.toNat : Int) = true) (h : nameAt wdL (upL w) = some i) (hn : w ≠ []) (hg : ∀ b ∈ g, isBl b = true) (hr : ∀ b, r.head? = some b → isBl b = false) : pWd (g0 ++ (w ++ 44 :: (g ++ r))) = .ok (i : Int) r := by
  have hb : ∀ b, isB 1 (b.toNat : Int) = true → isBl b = false := by
    intro b h
    by_cases c : isBl b = true
    · unfold isBl at c
      simp only [Bool.or_eq_true, beq_iff_eq] at c
      rcases c with c | c <;> subst c <;> revert h <;> decide
    · simpa using c
  have hh : ∀ b, (w ++ 44 :: (g ++ r)).head? = some b → isBl b = false := by
    intro b hb'
    cases w with
    | nil => exact absurd rfl hn
    | cons x w =>
      simp at hb'
      subst hb'
      exact hb _ (hw _ (by simp))
  have e0 := blN_app g0 (w ++ 44 :: (g ++ r)) hg0 hh
  have e1 := badN_app 1 w (44 :: (g ++ r)) hw (fun b hb => by simp at hb; subst hb; decide)
  unfold pWd
  rw [e0, List.drop_left, e1, if_neg (by intro h; exact hn (List.eq_nil_of_length_eq_zero h))]
  exact pNamed_app hw h hg hr
/-- No weekday is named. -/
theorem pWd_none {r : List UInt8} (h1 : ∀ b, r.head? = some b → isB 2 (b.toNat : Int) = true) : pWd r = .ok (-1) r := by
  have hd : ∀ b : UInt8, isB 2 (b.toNat : Int) = true → isBl b = false ∧ isB 1 (b.toNat : Int) = false := by
    have : ∀ b : Fin 256, isB 2 (b.val : Int) = true → isBl (UInt8.ofNat b.val) = false ∧ isB 1 (b.val : Int) = false := by decide +kernel
    intro b h
    have := this ⟨b.toNat, b.toNat_lt⟩ h
    simpa using this
  have e0 : blN r = 0 := blN_app [] r (fun b hb => by cases hb) (fun b hb => (hd b (h1 b hb)).1)
  have e1 : badN 1 r = 0 := badN_app 1 [] r (fun b hb => by cases hb) (fun b hb => (hd b (h1 b hb)).2)
  unfold pWd
  rw [e0, List.drop_zero, e1, if_pos rfl]
theorem pMon_app {w r : List UInt8} {i : Nat} (hw : ∀ b ∈ w, isB 1 (b.toNat : Int) = true) (hr : ∀ b, r.head? = some b → isB 1 (b.toNat : Int) = false) (h : nameAt moL (upL w) = some i) : pMon (w ++ r) = .ok ((i : Int) + 1) r := by
  unfold pMon mapR
  rw [pName_app hw hr h]
theorem pYear_app {w r : List UInt8} (hw : ∀ b ∈ w, isB 2 (b.toNat : Int) = true) (hr : ∀ b, r.head? = some b → isB 2 (b.toNat : Int) = false) (h : w.length = 4) : pYear (w ++ r) = .ok (numV w : Int) r := by
  unfold pYear mapR
  rw [pNum_app hw hr (by omega) (by omega), badN_app 2 w r hw hr, h]
  rfl
theorem pTime_app {a b c r : List UInt8} (ha : ∀ x ∈ a, isB 2 (x.toNat : Int) = true) (hb : ∀ x ∈ b, isB 2 (x.toNat : Int) = true) (hc : ∀ x ∈ c, isB 2 (x.toNat : Int) = true) (la : a.length = 2) (lb : b.length = 2) (lc : c.length = 2)
    (hr : ∀ b, r.head? = some b → isB 2 (b.toNat : Int) = false) : pTime (a ++ 58 :: (b ++ 58 :: (c ++ r))) = .ok ((numV a : Int), (numV b : Int), (numV c : Int)) r := by
  have h58 : ∀ (q : List UInt8) (x : UInt8), (58 :: q).head? = some x → isB 2 (x.toNat : Int) = false := fun q x h => by simp at h; subst h; decide
  have e1 := pNum_app (a := 2) (z := 2) (w := a) (r := 58 :: (b ++ 58 :: (c ++ r))) ha (h58 _) (by omega) (by omega)
  have e2 := pNum_app (a := 2) (z := 2) (w := b) (r := 58 :: (c ++ r)) hb (h58 _) (by omega) (by omega)
  have e3 := pNum_app (a := 2) (z := 2) (w := c) (r := r) hc hr (by omega) (by omega)
  have e4 : pSec (58 :: (c ++ r)) = .ok (numV c : Int) r := by
    unfold pSec
    simp [e3]
  unfold pTime
  simp only [mapR, both, e1, pMark_app, e2, e4]
theorem pZone_app {a b r : List UInt8} {sg : UInt8} (z : Int) (ha : ∀ x ∈ a, isB 2 (x.toNat : Int) = true) (hb : ∀ x ∈ b, isB 2 (x.toNat : Int) = true) (la : a.length = 2) (lb : b.length = 2) (h59 : numV b ≤ 59)
    (hz : (sg = 43 ∧ z = 60 * (numV a : Int) + (numV b : Int)) ∨ (sg = 45 ∧ z = -(60 * (numV a : Int) + (numV b : Int)))) (hr : ∀ b, r.head? = some b → isB 2 (b.toNat : Int) = false) : pZone (sg :: (a ++ (b ++ r))) = .ok z r := by
  have e0 : badN 2 (a ++ (b ++ r)) = 4 := by
    rw [← List.append_assoc, badN_app 2 (a ++ b) r (fun x hx => by rcases List.mem_append.1 hx with h | h; exact ha x h; exact hb x h) hr]
    simp [la, lb]
  have e1 : (a ++ (b ++ r)).take 4 = a ++ b := by
    rw [← List.append_assoc]
    exact List.take_left' (by simp [la, lb])
  have e2 : (a ++ (b ++ r)).drop 4 = r := by
    rw [← List.append_assoc]
    exact List.drop_left' (by simp [la, lb])
  have e3 : zoneD (a ++ b) = some (60 * (numV a : Int) + (numV b : Int)) := by
    unfold zoneD
    rw [show (a ++ b).drop 2 = b from List.drop_left' la, show (a ++ b).take 2 = a from List.take_left' la, if_pos ⟨by simp [la, lb], h59⟩]
  have e4 : (sg :: (a ++ (b ++ r))).drop (1 + 4) = r := by
    rw [Nat.add_comm, List.drop_succ_cons, e2]
  unfold pZone
  simp only [List.head?_cons, List.drop_succ_cons, List.drop_zero, e0, e1, e3, e4]
  rcases hz with ⟨rfl, rfl⟩ | ⟨rfl, rfl⟩
  · rw [if_pos rfl]; rfl
  · rw [if_neg (by decide), if_pos rfl]; rfl
theorem pEnd_nil : pEnd [] = .ok () [] := by rfl
theorem pEnd_app {t : List UInt8} (h : ∀ b ∈ t, remB b = true) : pEnd (32 :: 40 :: (t ++ [41, 32])) = .ok () [] := by
  have e1 : pFree (32 :: 40 :: (t ++ [41, 32])) = .ok () (40 :: (t ++ [41, 32])) := pFree_app (g := [32]) (by decide) (fun b hb => by simp at hb; subst hb; decide)
  have e2 : remN (t ++ [41, 32]) = t.length := remN_app t [41, 32] h (fun b hb => by simp at hb; subst hb; decide)
  have e3 : (40 :: (t ++ [41, 32])).drop (1 + t.length) = [41, 32] := by
    rw [Nat.add_comm, List.drop_succ_cons, List.drop_left]
  have e4 : (40 :: (t ++ [41, 32])).drop (1 + t.length + 1) = [32] := by
    rw [← List.drop_drop, e3]
    rfl
  have e5 : pRem (40 :: (t ++ [41, 32])) = .ok () [32] := by
    unfold pRem
    simp only [List.head?_cons, List.drop_succ_cons, List.drop_zero, e2, e3, e4]
    simp
  have e6 : pFree [32] = .ok () [] := by rfl
  have e7 : pFin [] = .ok () [] := by rfl
  unfold pEnd
  simp only [mapR, both, e1, e5, e6, e7]
end Go.Proofs.YtedfnebadenmdabDoor
