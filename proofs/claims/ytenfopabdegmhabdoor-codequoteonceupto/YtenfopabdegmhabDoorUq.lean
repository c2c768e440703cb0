/-
  The program's reading of quoted-printable text: endRow and behindEqual.
-/
import Derived.Test.YtenfopabdegmhabDoorUqP
import Derived.Test.YtenfopabdegmhabDoorQt
import Derived.Test.YtenfopabdegmhabDoorLate
import Derived.Test.YtenfopabdegmhabDoorGrown
import Derived.BigQuiet
import Derived.BigRegion
namespace Go.Proofs.YtenfopabdegmhabDoor
open Go.RowKit

def uqC (s : ByteArray) (i r : Nat) (b : Bool) (v : Value) : Array Value := #[.string s, .int .i64 (i : Int), .int .i64 (r : Int), .bool b, v]
/-- A text that is being read: at, the row's begin, behind a blank, what is said. -/
structure UqAt (w : World) (g B : Nat) (s : ByteArray) (i r : Nat) (b : Bool) (v : Value) (X : List UInt8) : Prop where
  lies : Lies w g (uqC s i r b v) 66
  own : w.ownsRow B 5 1 v X.length (cellsB X)
theorem UqAt.ne {w : World} {g B : Nat} {s : ByteArray} {i r : Nat} {b : Bool} {v : Value} {X : List UInt8} (h : UqAt w g B s i r b v X) : ∀ k, v.ownBlock = some k → k ≠ g := own_apart h.own h.lies (by decide)
theorem UqAt.setAt {w : World} {g B : Nat} {s : ByteArray} {i r : Nat} {b : Bool} {v : Value} {X : List UInt8} (h : UqAt w g B s i r b v X) (j : Nat) (x : Int) (hx : x = (j : Int)) : UqAt (w.setCell ⟨g, 1, none⟩ (.int .i64 x)) g B s j r b v X := by
  subst hx
  exact ⟨h.lies.set 1 _, own_keep h.own (fun k hk => Below.heap_setCell _ _ _ _ (h.ne k hk))⟩
theorem UqAt.setRow {w : World} {g B : Nat} {s : ByteArray} {i r : Nat} {b : Bool} {v : Value} {X : List UInt8} (h : UqAt w g B s i r b v X) (j : Nat) (x : Int) (hx : x = (j : Int)) : UqAt (w.setCell ⟨g, 2, none⟩ (.int .i64 x)) g B s i j b v X := by
  subst hx
  exact ⟨h.lies.set 2 _, own_keep h.own (fun k hk => Below.heap_setCell _ _ _ _ (h.ne k hk))⟩
theorem UqAt.setBlank {w : World} {g B : Nat} {s : ByteArray} {i r : Nat} {b : Bool} {v : Value} {X : List UInt8} (h : UqAt w g B s i r b v X) (c : Bool) : UqAt (w.setCell ⟨g, 3, none⟩ (.bool c)) g B s i r c v X :=
  ⟨h.lies.set 3 _, own_keep h.own (fun k hk => Below.heap_setCell _ _ _ _ (h.ne k hk))⟩
theorem UqAt.drewN {w : World} {g B : Nat} {s : ByteArray} {i r : Nat} {b : Bool} {v : Value} {X : List UInt8} (h : UqAt w g B s i r b v X) (n : Nat) : UqAt (w.drewN n) g B s i r b v X := ⟨h.lies.drewN n, own_keep h.own (fun _ _ => rfl)⟩
theorem UqAt.below {w : World} {g B : Nat} {s : ByteArray} {i r : Nat} {b : Bool} {v : Value} {X : List UInt8} {w' : World} (h : UqAt w g B s i r b v X) (hb : Below w.heap.size w w') : UqAt w' g B s i r b v X := ⟨h.lies.below hb h.lies.lt, own_below h.own hb⟩
theorem UqAt.alloc {w : World} {g B : Nat} {s : ByteArray} {i r : Nat} {b : Bool} {v : Value} {X : List UInt8} (h : UqAt w g B s i r b v X) (o : Obj) : UqAt (w.alloc o) g B s i r b v X := ⟨h.lies.alloc o, h.own.alloc o⟩
theorem UqAt.cells {w : World} {g B : Nat} {s : ByteArray} {i r : Nat} {b : Bool} {v : Value} {X : List UInt8} (h : UqAt w g B s i r b v X) : w.cell? ⟨g, 0, none⟩ = some (.string s) ∧ w.cell? ⟨g, 1, none⟩ = some (.int .i64 (i : Int)) ∧ w.cell? ⟨g, 2, none⟩ = some (.int .i64 (r : Int)) ∧ w.cell? ⟨g, 3, none⟩ = some (.bool b) ∧ w.cell? ⟨g, 4, none⟩ = some v :=
  ⟨h.lies.cell 0, h.lies.cell 1, h.lies.cell 2, h.lies.cell 3, h.lies.cell 4⟩
theorem below_put {B g : Nat} {w0 w : World} (h : Below B w0 w) (hB : B ≤ g) (k : Nat) (v : Value) : Below B w0 (w.setCell ⟨g, k, none⟩ v) :=
  ⟨h.os, h.tape, h.output, by rw [World.size_setCell]; exact h.size, fun j hj => (Below.heap_setCell _ _ _ _ (by show j ≠ g; omega)).trans (h.block j hj)⟩
theorem below_drewN {B : Nat} {w0 w : World} (h : Below B w0 w) (n : Nat) : Below B w0 (w.drewN n) := ⟨h.os, h.tape, h.output, h.size, h.block⟩
theorem pref1 (s : ByteArray) (i : Nat) (c : UInt8) (t : ByteArray) (ht : t.data.toList = [c]) : Lib.hasPrefix (s.extract i s.size).data.toList t.data.toList = decide (s.data.toList[i]? = some c) := by
  rw [ht, ext_list, ← len_list, List.take_length]
  unfold Lib.hasPrefix
  rw [← List.head?_drop]
  cases s.data.toList.drop i with
  | nil => simp
  | cons x r => simp [List.isPrefixOf, eq_comm, Bool.beq_eq_decide_eq]

set_option maxHeartbeats 2000000 in
set_option maxRecDepth 100000 in
theorem endrow_any (g B : Nat) (s : ByteArray) (i r : Nat) (b : Bool) (v : Value) (X : List UInt8) (w : World) (h : UqAt w g B s i r b v X) (hs : s.size ≤ 9000000000000000000) (hi : i < s.size) (hB : B ≤ g) :
    Calls Tryd.prog 47 #[.pointer (some ⟨g, 0, none⟩)] w fun e w' => e = .returned (.bool (decide (s.data.toList[i + 1]? = some 10))) ∧ Below B w w' ∧
      UqAt w' g B s (if s.data.toList[i + 1]? = some 10 then i + 2 else i + 1) (if s.data.toList[i + 1]? = some 10 then i + 2 else r) b v X := by
  obtain ⟨c0, c1, c2, c3, c4⟩ := h.cells
  have f1 := h.lies.frozen 1
  have HH : Hid (UqAt w g B s i r b v X) := h
  have HP : Hid (∀ wx : World, Calls Tryd.prog 58 #[.string (s.extract (i + 1) s.size), .string ⟨#[10]⟩] wx fun e w' => e = .returned (.bool (decide (s.data.toList[i + 1]? = some 10))) ∧ w' = wx) := fun wx => by
    have := Tryd.strings_HasPrefix (s.extract (i + 1) s.size) ⟨#[10]⟩ wx
    rw [pref1 s (i + 1) 10 ⟨#[10]⟩ rfl] at this
    exact this
  clear h
  by_cases hq : s.data.toList[i + 1]? = some 10
  · simp only [hq, decide_true, if_true] at HP ⊢
    clear hq
    go_enter Tryd.func47, Tryd.ntmps47
    go_wp2_with fail
    have H1 : Hid (UqAt (w.setCell ⟨g, 1, none⟩ (.int .i64 ((i : Int) + 1))) g B s (i + 1) r b v X) := HH.out.setAt (i + 1) _ (by push_cast; rfl)
    have HB1 : Hid (Below B w (w.setCell ⟨g, 1, none⟩ (.int .i64 ((i : Int) + 1)))) := below_put (Below.refl _ _) hB 1 _
    clear c0 c1 c2 c3 c4 f1 HH
    generalize w.setCell ⟨g, 1, none⟩ (.int .i64 ((i : Int) + 1)) = w1 at H1 HB1 ⊢
    obtain ⟨c0, c1, c2, c3, c4⟩ := H1.out.cells
    have f1 := H1.out.lies.frozen 1
    have hsz : ((i + 1 : Nat) : Int) ≤ (s.size : Int) := by omega
    go_quiet ((go_at_call 58; exact Calls.quiet_of_same (HP.out _)))
    have f2 := H1.out.lies.frozen 2
    go_wp2
    go_ret
    refine ⟨rfl, ?_, ?_⟩
    · exact below_put (below_put (below_drewN HB1.out _) hB 1 _) hB 2 _
    · exact ((H1.out.drewN _).setAt (i + 2) _ (by push_cast; omega)).setRow (i + 2) _ (by push_cast; omega)
  · have hd : decide (s.data.toList[i + 1]? = some 10) = false := decide_eq_false hq
    rw [hd, if_neg hq, if_neg hq]
    rw [hd] at HP
    clear hd
    clear hq
    go_enter Tryd.func47, Tryd.ntmps47
    go_wp2_with fail
    have H1 : Hid (UqAt (w.setCell ⟨g, 1, none⟩ (.int .i64 ((i : Int) + 1))) g B s (i + 1) r b v X) := HH.out.setAt (i + 1) _ (by push_cast; rfl)
    have HB1 : Hid (Below B w (w.setCell ⟨g, 1, none⟩ (.int .i64 ((i : Int) + 1)))) := below_put (Below.refl _ _) hB 1 _
    clear c0 c1 c2 c3 c4 f1 HH
    generalize w.setCell ⟨g, 1, none⟩ (.int .i64 ((i : Int) + 1)) = w1 at H1 HB1 ⊢
    obtain ⟨c0, c1, c2, c3, c4⟩ := H1.out.cells
    have f1 := H1.out.lies.frozen 1
    have hsz : ((i + 1 : Nat) : Int) ≤ (s.size : Int) := by omega
    go_quiet ((go_at_call 58; exact Calls.quiet_of_same (HP.out _)))
    go_wp2
    go_ret
    refine ⟨rfl, ?_, ?_⟩
    · exact below_drewN HB1.out _
    · exact H1.out.drewN _

theorem UqAt.said {w w' : World} {g B : Nat} {s : ByteArray} {i r : Nat} {b : Bool} {v v' : Value} {X Y : List UInt8} (h : UqAt w g B s i r b v X) (hg : w.grownBy w' v.ownBlock) (ho : w'.ownsRow B 5 1 v' Y.length (cellsB Y)) : UqAt (w'.setCell ⟨g, 4, none⟩ v') g B s i r b v' Y := by
  have hl : Lies w' g (uqC s i r b v) 66 := (hg.block g h.lies.lt (fun e => h.ne g e.symm rfl)).trans h.lies
  exact ⟨hl.set 4 _, own_keep ho (fun k hk => Below.heap_setCell _ _ _ _ (own_apart ho hl (by decide) k hk))⟩
/-- Where reading is behind a sign (ok), or where it stopped. -/
def UqGo (s : ByteArray) (ok : Bool) (i r : Nat) (b : Bool) (X : List UInt8) : Prop :=
  i ≤ s.size ∧ (ok = true → r ≤ i ∧ X.length ≤ i ∧ ∃ h, runM q0 (s.data.toList.take i) = some ⟨if b then 1 else 0, i - r, h, X⟩) ∧ (ok = false → unqOk s.data.toList = false ∧ unqA s.data.toList = i)

theorem dig_cases (l : List UInt8) (i e : Nat) (hi : i ≤ l.length) (he : e = min (i + 2) l.length) :
    (badN 4 ((l.take e).drop i) = 0 ∧ ∀ c, l[i]? = some c → hexB c = false) ∨
    (badN 4 ((l.take e).drop i) = 1 ∧ ∃ h : i < l.length, hexB l[i] = true ∧ ∀ c, l[i + 1]? = some c → hexB c = false) ∨
    (badN 4 ((l.take e).drop i) = 2 ∧ e = i + 2 ∧ ∃ (h : i + 1 < l.length), hexB l[i] = true ∧ hexB l[i + 1] = true ∧ (l.take e).drop i = [l[i], l[i + 1]]) := by
  have e1 : (l.take e).drop i = (l.drop i).take 2 := by
    rw [List.drop_take]
    rcases Nat.le_total (i + 2) l.length with h | h
    · rw [he, Nat.min_eq_left h, show i + 2 - i = 2 by omega]
    · rw [he, Nat.min_eq_right h, List.take_of_length_le (by simp), List.take_of_length_le (by simp; omega)]
  rw [e1]
  rcases Nat.lt_or_ge i l.length with h1 | h1
  · have d1 := List.drop_eq_getElem_cons h1
    cases hx : hexB l[i] with
    | false =>
      refine .inl ⟨?_, fun c hc => ?_⟩
      · rw [d1, List.take_succ_cons, badN, if_neg (by unfold hexB at hx; rw [hx]; decide)]
      · rw [List.getElem?_eq_getElem h1] at hc
        injection hc with hc
        rw [← hc]
        exact hx
    | true =>
      have hx' : isB 4 (l[i].toNat : Int) = true := hx
      rcases Nat.lt_or_ge (i + 1) l.length with h2 | h2
      · have d2 := List.drop_eq_getElem_cons h2
        cases hy : hexB l[i + 1] with
        | false =>
          refine .inr (.inl ⟨?_, h1, hx, fun c hc => ?_⟩)
          · rw [d1, d2, List.take_succ_cons, List.take_succ_cons, badN, if_pos hx', badN, if_neg (by unfold hexB at hy; rw [hy]; decide)]
          · rw [List.getElem?_eq_getElem h2] at hc
            injection hc with hc
            rw [← hc]
            exact hy
        | true =>
          refine .inr (.inr ⟨?_, by omega, h2, hx, hy, ?_⟩)
          · rw [d1, d2, List.take_succ_cons, List.take_succ_cons, List.take_zero, badN, if_pos hx', badN, if_pos (show isB 4 (l[i + 1].toNat : Int) = true from hy), badN]
          · rw [d1, d2, List.take_succ_cons, List.take_succ_cons, List.take_zero]
      · have d2 : l.drop (i + 1) = [] := List.drop_eq_nil_of_le h2
        refine .inr (.inl ⟨?_, h1, hx, fun c hc => ?_⟩)
        · rw [d1, d2, List.take_succ_cons, List.take_nil, badN, if_pos hx', badN]
        · rw [List.getElem?_eq_none h2] at hc
          cases hc
  · refine .inl ⟨?_, fun c hc => ?_⟩
    · rw [List.drop_eq_nil_of_le h1, List.take_nil, badN]
    · rw [List.getElem?_eq_none h1] at hc
      cases hc
/-- What is read of a text. -/
structure Cells2 (w : World) (g : Nat) (s : ByteArray) (i : Nat) : Prop where
  e0 : w.cell? ⟨g, 0, none⟩ = some (.string s)
  e1 : w.cell? ⟨g, 1, none⟩ = some (.int .i64 (i : Int))

set_option maxHeartbeats 4000000 in
set_option maxRecDepth 100000 in
theorem beq_any (g B : Nat) (s : ByteArray) (i r p : Nat) (v : Value) (X : List UInt8) (h0 : UInt8) (w : World) (ht : Table w) (hgcl : 1 < B) (h : UqAt w g B s i r false v X) (hs : s.size ≤ 140737488355000) (hi : i ≤ s.size) (hri : r ≤ i) (hX : X.length + 1 ≤ i) (hB : B ≤ g) (hBw : B ≤ w.heap.size) (hp : p = i - r)
    (hm : runM q0 (s.data.toList.take i) = some ⟨2, p, h0, X⟩) (rm : Int) (hrm : rm = 76 - (p : Int)) (hp76 : p ≤ 76) :
    Calls Tryd.prog 46 #[.pointer (some ⟨g, 0, none⟩), .int .i64 rm] w fun e w' => ∃ ok i' r' v' X', e = .returned (.bool ok) ∧ Below B w w' ∧ UqAt w' g B s i' r' false v' X' ∧ i ≤ i' ∧ UqGo s ok i' r' false X' := by
  obtain ⟨c0, c1, c2, c3, c4⟩ := h.cells
  have f1 := h.lies.frozen 1
  have HH : Hid (UqAt w g B s i r false v X) := h
  have HM : Hid (runM q0 (s.data.toList.take i) = some ⟨2, p, h0, X⟩) := hm
  have HL : Hid (s.data.toList.length = s.size) := len_list s
  have HP : Hid (∀ wx : World, Calls Tryd.prog 58 #[.string (s.extract i s.size), .string ⟨#[13]⟩] wx fun e w' => e = .returned (.bool (decide (s.data.toList[i]? = some 13))) ∧ w' = wx) := fun wx => by
    have := Tryd.strings_HasPrefix (s.extract i s.size) ⟨#[13]⟩ wx
    rw [pref1 s i 13 ⟨#[13]⟩ rfl] at this
    exact this
  have HT : Hid (Table w) := ht
  clear h hm ht
  have hsz : (i : Int) ≤ (s.size : Int) := by omega
  by_cases hq : s.data.toList[i]? = some 13
  · have hil : i < s.data.toList.length := (List.getElem?_eq_some_iff.1 hq).1
    have h13 : s.data.toList[i] = 13 := (List.getElem?_eq_some_iff.1 hq).2
    have HM1 := m_lf (m_eqcr HM.out hil h13) (.inr rfl)
    have hil' : i < s.size := by rw [← HL.out]; exact hil
    simp only [hq, decide_true] at HP
    clear hq h13 hil
    have HMH : Hid _ := HM1
    clear HM1
    go_enter Tryd.func46, Tryd.ntmps46
    go_wp2_with fail
    go_quiet ((go_at_call 58; exact Calls.quiet_of_same (HP.out _)))
    go_wp2_with (go_at_call 47; refine Calls.mono (endrow_any g B s i r false v X _ (HH.out.drewN _) (by omega) hil' hB) ?_; rintro e w1 ⟨rfl, hb1, hu1⟩)
    go_ret
    refine ⟨_, _, _, v, X, rfl, ⟨hb1.os, hb1.tape, hb1.output, hb1.size, hb1.block⟩, hu1, by split <;> omega, ?_⟩
    obtain ⟨hy, hn⟩ := HMH.out
    by_cases h10 : s.data.toList[i + 1]? = some 10
    · have hlt := (List.getElem?_eq_some_iff.1 h10).1
      rw [HL.out] at hlt
      rw [if_pos h10, if_pos h10]
      refine ⟨by omega, fun _ => ⟨by omega, by omega, 0, ?_⟩, fun hf => absurd h10 (by simpa using hf)⟩
      rw [hy h10]
      simp
    · rw [if_neg h10, if_neg h10]
      refine ⟨by omega, fun hf => absurd (by simpa using hf) h10, fun _ => hn h10 (by rw [HL.out]; omega)⟩
  · have hd : decide (s.data.toList[i]? = some 13) = false := decide_eq_false hq
    rw [hd] at HP
    have HQ : Hid (s.data.toList[i]? ≠ some 13) := hq
    clear hd hq
    by_cases hp74 : 74 < p
    · have hr2 : rm < 2 := by omega
      clear hrm
      go_enter Tryd.func46, Tryd.ntmps46
      go_wp2_with fail
      go_quiet ((go_at_call 58; exact Calls.quiet_of_same (HP.out _)))
      go_wp2
      go_ret
      refine ⟨_, i, r, v, X, rfl, below_drewN (Below.refl _ _) _, HH.out.drewN _, Nat.le_refl _, by omega, fun hf => by (cases hf), fun _ => m_eqno HM.out (by rw [HL.out]; omega) HQ.out (.inl hp74)⟩
    have hr2 : ¬ rm < 2 := by omega
    clear hrm
    obtain ⟨e, he⟩ : ∃ e, e = min (i + 2) s.size := ⟨_, rfl⟩
    have HDC : Hid _ := dig_cases s.data.toList i e (by rw [HL.out]; exact hi) (by rw [HL.out]; exact he)
    have hei : (i : Int) ≤ (e : Int) := by omega
    have hes : (e : Int) ≤ (s.size : Int) := by omega
    have hme : min ((i : Int) + 2) (s.size : Int) = (e : Int) := by omega
    have HE : Hid (e = min (i + 2) s.size) := he
    have HXT : Hid ((s.extract i e).data.toList = (s.data.toList.take e).drop i) := ext_list s i e
    have HXS : Hid ((s.extract i e).size ≤ 2) := by
      show _ ≤ _
      rw [← len_list, HXT.out, List.length_drop, List.length_take]
      omega
    clear he
    go_enter Tryd.func46, Tryd.ntmps46
    go_wp2_with fail
    go_quiet ((go_at_call 58; exact Calls.quiet_of_same (HP.out _)))
    have H1 : Hid (UqAt (w.drewN nq) g B s i r false v X) := HH.out.drewN _
    have HT1 : Hid (Table (w.drewN nq)) := HT.out
    have HB1 : Hid (Below B w (w.drewN nq)) := below_drewN (Below.refl _ _) _
    clear c0 c1 c2 c3 c4 f1 HH HT
    generalize w.drewN nq = w1 at H1 HT1 HB1 ⊢
    go_wp2_with fail
    refine wp_region_late (fun w' => Cells2 w' g s i) 20 (by kernel_rfl) ⟨H1.out.lies.cell 0, H1.out.lies.cell 1⟩ (fun hHeld => ?_)
    refine wpAnyE_take (i := 0) (d := some 23) (v := ?_) rfl (by kernel_rfl) (by kernel_rfl) (by kernel_rfl) (by kernel_rfl) (fun _ _ _ h => h) rfl rfl ?hy (by assumption) ?_
    case hy => (intro w' hSw; have e0 := hSw.e0; have e1 := hSw.e1; clear hSw; go_simp <;> (try with_reducible rfl))
    simp only [Act.put, List.setIfInBounds_toArray, List.set_cons_zero, List.set_cons_succ]
    refine wpAnyE_take (i := 1) (d := some 24) (v := ?_) rfl (by kernel_rfl) (by kernel_rfl) (by kernel_rfl) (by kernel_rfl) (fun _ _ _ h => h) rfl rfl ?hy (by assumption) ?_
    case hy => (intro w' hSw; have e0 := hSw.e0; have e1 := hSw.e1; clear hSw; go_simp <;> (try with_reducible rfl))
    simp only [Act.put, List.setIfInBounds_toArray, List.set_cons_zero, List.set_cons_succ]
    refine wpAnyE_take (i := 2) (d := some 25) (v := ?_) rfl (by kernel_rfl) (by kernel_rfl) (by kernel_rfl) (by kernel_rfl) (fun _ _ _ h => h) rfl rfl ?hy (by assumption) ?_
    case hy => (intro w' hSw; have e0 := hSw.e0; have e1 := hSw.e1; clear hSw; go_simp <;> (try with_reducible rfl))
    simp only [Act.put, List.setIfInBounds_toArray, List.set_cons_zero, List.set_cons_succ]
    refine wpAnyE_take (i := 3) (d := some 26) (v := ?_) rfl (by kernel_rfl) (by kernel_rfl) (by kernel_rfl) (by kernel_rfl) (fun _ _ _ h => h) rfl rfl ?hy (by assumption) ?_
    case hy => (intro w' hSw; have e0 := hSw.e0; have e1 := hSw.e1; clear hSw; go_simp <;> (try with_reducible rfl))
    simp only [Act.put, List.setIfInBounds_toArray, List.set_cons_zero, List.set_cons_succ]
    refine wpAnyE_take (i := 4) (d := some 27) (v := ?_) rfl (by kernel_rfl) (by kernel_rfl) (by kernel_rfl) (by kernel_rfl) (fun _ _ _ h => h) rfl rfl ?hy (by assumption) ?_
    case hy => (intro w' hSw; have e0 := hSw.e0; have e1 := hSw.e1; clear hSw; go_simp <;> (try with_reducible rfl))
    simp only [Act.put, List.setIfInBounds_toArray, List.set_cons_zero, List.set_cons_succ]
    refine wpAnyE_take (i := 5) (d := some 28) (v := ?_) rfl (by kernel_rfl) (by kernel_rfl) (by kernel_rfl) (by kernel_rfl) (fun _ _ _ h => h) rfl rfl ?hy (by assumption) ?_
    case hy => (intro w' hSw; have e0 := hSw.e0; have e1 := hSw.e1; clear hSw; go_simp <;> (try with_reducible rfl))
    simp only [Act.put, List.setIfInBounds_toArray, List.set_cons_zero, List.set_cons_succ]
    refine wpAnyE_take (i := 6) (d := some 29) (v := ?_) rfl (by kernel_rfl) (by kernel_rfl) (by kernel_rfl) (by kernel_rfl) (fun _ _ _ h => h) rfl rfl ?hy (by assumption) ?_
    case hy => (intro w' hSw; have e0 := hSw.e0; have e1 := hSw.e1; clear hSw; go_simp <;> (try with_reducible rfl))
    simp only [Act.put, List.setIfInBounds_toArray, List.set_cons_zero, List.set_cons_succ]
    refine wpAnyE_take (i := 7) (d := some 30) (v := ?_) rfl (by kernel_rfl) (by kernel_rfl) (by kernel_rfl) (by kernel_rfl) (fun _ _ _ h => h) rfl rfl ?hy (by assumption) ?_
    case hy => (intro w' hSw; have e0 := hSw.e0; have e1 := hSw.e1; clear hSw; go_simp <;> (try with_reducible rfl))
    simp only [Act.put, List.setIfInBounds_toArray, List.set_cons_zero, List.set_cons_succ]
    refine wpAnyE_take (i := 8) (d := some 31) (v := ?_) rfl (by kernel_rfl) (by kernel_rfl) (by kernel_rfl) (by kernel_rfl) (fun _ _ _ h => h) rfl rfl ?hy (by assumption) ?_
    case hy => (intro w' hSw; have e0 := hSw.e0; have e1 := hSw.e1; clear hSw; go_simp <;> (try with_reducible rfl))
    simp only [Act.put, List.setIfInBounds_toArray, List.set_cons_zero, List.set_cons_succ]
    refine wpAnyE_take (i := 9) (d := some 32) (v := ?_) rfl (by kernel_rfl) (by kernel_rfl) (by kernel_rfl) (by kernel_rfl) (fun _ _ _ h => h) rfl rfl ?hy (by assumption) ?_
    case hy => (intro w' hSw; have e0 := hSw.e0; have e1 := hSw.e1; clear hSw; go_simp <;> (try with_reducible rfl))
    simp only [Act.put, List.setIfInBounds_toArray, List.set_cons_zero, List.set_cons_succ]
    refine wpAnyE_take (i := 10) (d := some 33) (v := ?_) rfl (by kernel_rfl) (by kernel_rfl) (by kernel_rfl) (by kernel_rfl) (fun _ _ _ h => h) rfl rfl ?hy (by assumption) ?_
    case hy => (intro w' hSw; have e0 := hSw.e0; have e1 := hSw.e1; clear hSw; go_simp <;> (try with_reducible rfl))
    simp only [Act.put, List.setIfInBounds_toArray, List.set_cons_zero, List.set_cons_succ]
    refine wpAnyE_take (i := 11) (d := some 34) (v := ?_) rfl (by kernel_rfl) (by kernel_rfl) (by kernel_rfl) (by kernel_rfl) (fun _ _ _ h => h) rfl rfl ?hy (by assumption) ?_
    case hy => (intro w' hSw; have e0 := hSw.e0; have e1 := hSw.e1; clear hSw; go_simp <;> (try with_reducible rfl))
    simp only [Act.put, List.setIfInBounds_toArray, List.set_cons_zero, List.set_cons_succ]
    refine wpAnyE_take (i := 12) (d := some 35) (v := .int .i64 ((i : Int) + 2)) rfl (by kernel_rfl) (by kernel_rfl) (by kernel_rfl) (by kernel_rfl) (fun _ _ _ h => h) rfl rfl ?hy (by assumption) ?_
    case hy => (intro w' hSw; have e0 := hSw.e0; have e1 := hSw.e1; clear hSw; go_simp <;> (first | with_reducible rfl | (rw [IntKind.wrap_i64]; omega)))
    simp only [Act.put, List.setIfInBounds_toArray, List.set_cons_zero, List.set_cons_succ]
    refine wpAnyE_take (i := 13) (d := some 36) (v := ?_) rfl (by kernel_rfl) (by kernel_rfl) (by kernel_rfl) (by kernel_rfl) (fun _ _ _ h => h) rfl rfl ?hy (by assumption) ?_
    case hy => (intro w' hSw; have e0 := hSw.e0; have e1 := hSw.e1; clear hSw; go_simp <;> (try with_reducible rfl))
    simp only [Act.put, List.setIfInBounds_toArray, List.set_cons_zero, List.set_cons_succ]
    refine wpAnyE_take (i := 14) (d := some 37) (v := ?_) rfl (by kernel_rfl) (by kernel_rfl) (by kernel_rfl) (by kernel_rfl) (fun _ _ _ h => h) rfl rfl ?hy (by assumption) ?_
    case hy => (intro w' hSw; have e0 := hSw.e0; have e1 := hSw.e1; clear hSw; go_simp <;> (try with_reducible rfl))
    simp only [Act.put, List.setIfInBounds_toArray, List.set_cons_zero, List.set_cons_succ]
    refine wpAnyE_take (i := 15) (d := some 38) (v := ?_) rfl (by kernel_rfl) (by kernel_rfl) (by kernel_rfl) (by kernel_rfl) (fun _ _ _ h => h) rfl rfl ?hy (by assumption) ?_
    case hy => (intro w' hSw; have e0 := hSw.e0; have e1 := hSw.e1; clear hSw; go_simp <;> (try with_reducible rfl))
    simp only [Act.put, List.setIfInBounds_toArray, List.set_cons_zero, List.set_cons_succ]
    refine wpAnyE_take (i := 16) (d := some 39) (v := ?_) rfl (by kernel_rfl) (by kernel_rfl) (by kernel_rfl) (by kernel_rfl) (fun _ _ _ h => h) rfl rfl ?hy (by assumption) ?_
    case hy => (intro w' hSw; have e0 := hSw.e0; have e1 := hSw.e1; clear hSw; go_simp <;> (try with_reducible rfl))
    simp only [Act.put, List.setIfInBounds_toArray, List.set_cons_zero, List.set_cons_succ]
    refine wpAnyE_take (i := 17) (d := some 40) (v := ?_) rfl (by kernel_rfl) (by kernel_rfl) (by kernel_rfl) (by kernel_rfl) (fun _ _ _ h => h) rfl rfl ?hy (by assumption) ?_
    case hy => (intro w' hSw; have e0 := hSw.e0; have e1 := hSw.e1; clear hSw; go_simp <;> (try with_reducible rfl))
    simp only [Act.put, List.setIfInBounds_toArray, List.set_cons_zero, List.set_cons_succ]
    refine wpAnyE_take (i := 18) (d := some 41) (v := .int .i64 (e : Int)) rfl (by kernel_rfl) (by kernel_rfl) (by kernel_rfl) (by kernel_rfl) (fun _ _ _ h => h) rfl rfl ?hy (by assumption) ?_
    case hy => (intro w' hSw; have e0 := hSw.e0; have e1 := hSw.e1; clear hSw; go_simp <;> (first | with_reducible rfl | exact hme))
    simp only [Act.put, List.setIfInBounds_toArray, List.set_cons_zero, List.set_cons_succ]
    refine wpAnyE_take (i := 19) (d := some 42) (v := ?_) rfl (by kernel_rfl) (by kernel_rfl) (by kernel_rfl) (by kernel_rfl) (fun _ _ _ h => h) rfl rfl ?hy (by assumption) ?_
    case hy => (intro w' hSw; have e0 := hSw.e0; have e1 := hSw.e1; clear hSw; go_simp <;> (try with_reducible rfl))
    simp only [Act.put, List.setIfInBounds_toArray, List.set_cons_zero, List.set_cons_succ]
    refine wpAnyE_one (i := 20) (by kernel_rfl) rfl rfl ?_
    go_simp
    refine wpAnyE_done (by kernel_rfl) ?_ _
    have H2 : Hid (UqAt w1.drew g B s i r false v X) := H1.out.drewN 1
    have HT2 : Hid (Table w1.drew) := HT1.out
    have HB2 : Hid (Below B w w1.drew) := below_drewN HB1.out 1
    clear hHeld H1 HT1 HB1
    generalize w1.drew = w2 at H2 HT2 HB2 ⊢
    have HBD : Hid (Calls Tryd.prog 59 #[.int .i64 4, .string (s.extract i e)] w2 fun e' w' => e' = .returned (.int .i64 (badN 4 ((s.data.toList.take e).drop i))) ∧ w' = w2) := by
      have := bad_anyT 4 (s.extract i e) w2 HT2.out (by unfold maxLen; have := HXS.out; omega)
      rw [HXT.out] at this
      exact this
    obtain ⟨c0, c1, c2, c3, c4⟩ := H2.out.cells
    have f1 := H2.out.lies.frozen 1
    generalize badN 4 ((s.data.toList.take e).drop i) = R at HBD HDC
    rcases HDC.out with ⟨rfl, hno⟩ | ⟨rfl, hil, hx, hno⟩ | ⟨rfl, he2, hil, hx, hy, hD⟩
    · have HNO : Hid (∀ c, s.data.toList[i]? = some c → hexB c = false) := hno
      clear hno HDC
      go_wp2_with (go_at_call 59; refine Calls.mono HBD.out ?_; rintro e' w3 ⟨rfl, rfl⟩)
      go_ret
      refine ⟨_, i, r, v, X, rfl, below_put HB2.out hB 1 _, H2.out.setAt i _ (by simp), Nat.le_refl _, by omega, fun hf => by (cases hf), fun _ => m_eqno HM.out (by rw [HL.out]; omega) HQ.out (.inr HNO.out)⟩
    · have HNO : Hid (unqOk s.data.toList = false ∧ unqA s.data.toList = i + 1) := m_hex1no (m_hex1 HM.out hil hx (by omega)) (by omega) hno
      have hil' : i < s.size := by rw [← HL.out]; exact hil
      clear hno hil hx HDC
      go_wp2_with (go_at_call 59; refine Calls.mono HBD.out ?_; rintro e' w3 ⟨rfl, rfl⟩)
      go_ret
      refine ⟨_, i + 1, r, v, X, rfl, below_put HB2.out hB 1 _, H2.out.setAt (i + 1) _ (by simp), by omega, by omega, fun hf => by (cases hf), fun _ => HNO.out⟩
    · have HM2 : Hid _ := m_hex2 (m_hex1 HM.out (by omega) hx (by omega)) hil hy
      have hil' : i + 1 < s.size := by rw [← HL.out]; exact hil
      have HU : Hid (∀ wx : World, Table wx → Calls Tryd.prog 60 #[.string (s.extract i e)] wx fun e' w' => ∃ g1, e' = .returned (.tuple #[.slice (some ⟨g1, 0, none⟩) 1 1, .agg #[.int .i64 0, .int .i64 0]]) ∧ wx.heap.size ≤ g1 ∧
          w'.ownsRow wx.heap.size 5 1 (.slice (some ⟨g1, 0, none⟩) 1 1) 1 (cellsB [UInt8.ofNat (hexV s.data.toList[i].toNat * 16 + hexV s.data.toList[i + 1].toNat)]) ∧ Below wx.heap.size wx w') := fun wx htx => by
        have h2 : (s.extract i e).size = 2 * 1 := by
          rw [← len_list, HXT.out, hD]
          rfl
        have hok : hexOk (s.extract i e).data.toList := by
          rw [HXT.out, hD]
          unfold hexOk
          have hx' : isB 4 (s.data.toList[i].toNat : Int) = true := hx
          have hy' : isB 4 (s.data.toList[i + 1].toNat : Int) = true := hy
          exact ⟨by rw [badN, if_pos hx', badN, if_pos hy', badN]; rfl, by simp⟩
        have := unhex_okn (s.extract i e) 1 h2 wx htx (by omega) hok
        rw [HXT.out, hD] at this
        exact this
      generalize UInt8.ofNat (hexV s.data.toList[i].toNat * 16 + hexV s.data.toList[i + 1].toNat) = C at HM2 HU
      clear hil hx hy hD HDC he2
      go_wp2_with (go_at_call 59; refine Calls.mono HBD.out ?_; rintro e' w3 ⟨rfl, rfl⟩)
      have H4 : Hid (UqAt (w3.setCell ⟨g, 1, none⟩ (.int .i64 ((i : Int) + 2))) g B s (i + 2) r false v X) := H2.out.setAt (i + 2) _ (by push_cast; rfl)
      have HB4 : Hid (Below B w (w3.setCell ⟨g, 1, none⟩ (.int .i64 ((i : Int) + 2)))) := below_put HB2.out hB 1 _
      have HT4 : Hid (Table (w3.setCell ⟨g, 1, none⟩ (.int .i64 ((i : Int) + 2)))) := by
        intro c hc
        rw [(below_put (Below.refl _ w3) hB 1 _).cell (p := ⟨1, c, none⟩) hgcl]
        exact HT2.out c hc
      clear HBD H2 HT2 HB2 c0 c1 c2 c3 c4 f1
      generalize w3.setCell ⟨g, 1, none⟩ (.int .i64 ((i : Int) + 2)) = w4 at H4 HB4 HT4 ⊢
      refine Calls.mono (HU.out _ HT4.out) ?_
      rintro e' w5 ⟨g1, rfl, hg1, ho5, hb5⟩
      have H6 : Hid (UqAt (w5.alloc (.cells #[.int .i64 0, .int .i64 0] 26)) g B s (i + 2) r false v X) := (H4.out.below hb5).alloc _
      have HB6 : Hid (Below B w (w5.alloc (.cells #[.int .i64 0, .int .i64 0] 26))) := (HB4.out.trans (hb5.mono (Nat.le_trans hBw HB4.out.size))).alloc (Nat.le_trans hBw (HB4.out.trans (hb5.mono (Nat.le_trans hBw HB4.out.size))).size) _
      have HC6 : Hid (Bts (some ⟨g1, 0, none⟩) [C] (w5.alloc (.cells #[.int .i64 0, .int .i64 0] 26))) := by
        obtain ⟨a', c', e, hb', _⟩ := own_bts (ho5.alloc (.cells #[.int .i64 0, .int .i64 0] 26))
        injection e with e
        rw [e]
        exact hb'
      have hz6 := Nat.le_trans hBw HB6.out.size
      obtain ⟨_, _, _, _, c4⟩ := H6.out.cells
      have HF : Hid (∀ w' : World, (w5.alloc (.cells #[.int .i64 0, .int .i64 0] 26)).grownBy w' v.ownBlock → w'.frozen? ⟨g, 4, none⟩ = false ∧ w'.cell? ⟨g, 4, none⟩ = some v) := fun w' hg => by
        have hl : Lies w' g (uqC s (i + 2) r false v) 66 := (hg.block g H6.out.lies.lt (fun e => H6.out.ne g e.symm rfl)).trans H6.out.lies
        exact ⟨hl.frozen 4, hl.cell 4⟩
      clear ho5 hb5 H4 HB4 HT4 HU hg1
      go_wp2_with (at_builtin; refine wpList_append_keep rfl _ _ rfl B v X.length X rfl H6.out.own (some ⟨g1, 0, none⟩) [C] 1 1 rfl rfl HC6.out (fun e => by cases e) (by omega) hz6 ?_)
      intro v7 w7 ho7 hg7
      have HO7 : Hid (w7.ownsRow B 5 1 v7 (X.length + 1) (cellsB (X ++ [C]))) := ho7
      have HG7 : Hid (World.grownBy _ w7 v.ownBlock) := hg7
      obtain ⟨f4, c47⟩ := HF.out w7 hg7
      obtain ⟨a7, k7, rfl⟩ := own_shape ho7
      clear ho7 hg7 c4
      go_wp2
      go_ret
      have HO8 : w7.ownsRow B 5 1 (.slice a7 (X.length + 1) k7) (X ++ [C]).length (cellsB (X ++ [C])) := by rw [List.length_append]; exact HO7.out
      refine ⟨_, i + 2, r, _, X ++ [C], rfl, below_put (HB6.out.grown HG7.out hz6 (fun q hq => (H6.out.own.lt q hq).1)) hB 4 _, H6.out.said HG7.out HO8, by omega, by omega, fun _ => ⟨by omega, by simp; omega, 0, ?_⟩, fun hf => by (cases hf)⟩
      rw [HM2.out]
      simp
      omega
end Go.Proofs.YtenfopabdegmhabDoor
