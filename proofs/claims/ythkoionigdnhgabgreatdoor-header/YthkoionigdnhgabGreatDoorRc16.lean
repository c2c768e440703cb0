/-
  isName, Check.
-/
import Derived.Test.YthkoionigdnhgabGreatDoorRa16
import Derived.Test.YthkoionigdnhgabGreatDoorPureUp
import Derived.OrdersIn
import Derived.TacticsIn
import Derived.RangeFuncIn
import Derived.RangeFuncCalls
import Derived.Test.YthkoionigdnhgabGreatDoorGa8
import Derived.Test.YthkoionigdnhgabGreatDoorFc16
namespace Go.Proofs.YthkoionigdnhgabGreatDoor
open Go.RowKit Go.Shelf

attribute [local go_sem] Oper.semAt_some

/-- A field's name. -/
def nmB (l : List UInt8) : Bool := !l.isEmpty && badN 11 l == l.length
set_option maxHeartbeats 1000000 in
theorem fisn_any (s : ByteArray) (hs : s.size ≤ 281474976710656) (w : World) (ht : Table w) : Calls Tryz.prog 126 #[.string s] w fun e w' => e = .returned (.bool (nmB s.data.toList)) ∧ w' = w := by
  have HB : Hid (Calls Tryz.prog 48 #[.int .i64 11, .string s] w fun e w' => e = .returned (.int .i64 (badN 11 s.data.toList : Int)) ∧ w' = w) := bad_anyT 11 s w ht (by unfold maxLen; omega)
  clear ht
  by_cases h0 : 0 < s.size
  · have hem : s.toList.isEmpty = false := by
      rw [ByteArray.toList_eq]
      cases hh : s.data.toList with
      | nil => have := len_list s; rw [hh] at this; simp at this; omega
      | cons c r => rfl
    have HN : Hid (nmB s.data.toList = ((badN 11 s.data.toList : Int) == (s.size : Int))) := by
      show nmB _ = _
      unfold nmB
      have e : s.data.toList.isEmpty = false := by rw [← ByteArray.toList_eq]; exact hem
      rw [e, len_list, Bool.eq_iff_iff]
      simp only [Bool.not_false, Bool.true_and, beq_iff_eq]
      omega
    generalize badN 11 s.data.toList = m at *
    go_enter Tryz.func126, Tryz.ntmps126
    go_wp2_with (go_at_call 48; refine HB.out.mono ?_; rintro e w1 ⟨rfl, rfl⟩)
    go_ret
    exact ⟨by rw [HN.out]; rfl, rfl⟩
  · have hem : s.toList.isEmpty = true := by
      have e : s.data.toList = [] := List.eq_nil_of_length_eq_zero (by rw [len_list]; omega)
      rw [ByteArray.toList_eq, e]
      rfl
    have HN : Hid (nmB s.data.toList = false) := by
      show nmB _ = _
      unfold nmB
      have e : s.data.toList.isEmpty = true := by rw [← ByteArray.toList_eq]; exact hem
      rw [e]
      rfl
    clear HB
    go_enter Tryz.func126, Tryz.ntmps126
    go_wp2_with fail
    go_ret
    exact ⟨by rw [HN.out]; rfl, rfl⟩
theorem tab_below {w w' : World} (h : Table w) (hb : Below w.heap.size w w') : Table w' := fun c hc => (hb.cell (p := ⟨2, c, none⟩) (lt_of_cell (h c hc))).trans (h c hc)
/-- What Check tells of the rows of a body that are left; nl is the name's length. -/
def ckRf (nl : Nat) (bd : List UInt8) : List (Nat × Nat) → Nat → Nat → Nat
  | [], told, e => if e < bd.length then 160 else told
  | (f, t) :: r, told, _ => if 998 < (if f = 0 then t - f + (nl + 1) else t - f) then 160 else ckRf nl bd r (if f = 0 then told else if fldB (stE bd f t) then told else 161) t
def chkF (nm bd : List UInt8) : Nat := if nmB nm then ckRf nm.length bd (rws bd 0) 0 0 else 160
theorem rws_in (l : List UInt8) : ∀ (n f : Nat), l.length - f = n → f ≤ l.length → ∀ p ∈ rws l f, f ≤ p.1 ∧ p.1 ≤ p.2 ∧ p.2 ≤ l.length := by
  intro n
  induction n using Nat.strongRecOn with
  | ind n ih =>
    intro f hn hf p hp
    have h1 := rwE_ge l f
    have h2 := rwE_le l f hf
    cases hc : leH (l.drop (rwE l f)) with
    | true =>
      rw [rws_on l f hc] at hp
      have h3 := leH_lt l _ hc
      rcases List.mem_cons.1 hp with rfl | hp
      · exact ⟨Nat.le_refl _, h1, h2⟩
      · have := ih (l.length - (rwE l f + 2)) (by omega) (rwE l f + 2) rfl (by omega) p hp
        omega
    | false =>
      rw [rws_off l f hc, List.mem_singleton] at hp
      subst hp
      exact ⟨Nat.le_refl _, h1, h2⟩
/-- The k-th row. -/
def rwk (l : List UInt8) (k : Nat) : Nat × Nat := (rws l 0).getD k (0, 0)
theorem rwk_eq (l : List UInt8) (k : Nat) (h : k < (rws l 0).length) : (rws l 0)[k] = rwk l k := by
  unfold rwk
  rw [List.getD_eq_getElem?_getD, List.getElem?_eq_getElem h]
  rfl
theorem vsR_len (l : List UInt8) : (vsR l).length = (rws l 0).length := List.length_map ..
theorem vsR_at (l : List UInt8) (k : Nat) (h : k < (vsR l).length) : (vsR l)[k] = #[.int .i64 ((rwk l k).1 : Int), .int .i64 ((rwk l k).2 : Int)] := by
  have h' : k < (rws l 0).length := by rw [← vsR_len]; exact h
  have h5 : (vsR l)[k]? = some #[.int .i64 ((rwk l k).1 : Int), .int .i64 ((rwk l k).2 : Int)] := by
    unfold vsR
    rw [List.getElem?_map, List.getElem?_eq_getElem h', rwk_eq _ _ h']
    rfl
  rw [List.getElem?_eq_getElem h] at h5
  exact Option.some.inj h5
theorem vsR_size (l : List UInt8) : ∀ v ∈ vsR l, v.size = 2 := fun v hv => by
  obtain ⟨p, _, rfl⟩ := List.mem_map.1 hv
  rfl
/-- What Check has in memory. -/
structure Cw (w : World) (nm bd : ByteArray) (W : World) (res told e : Nat) : Prop where
  f0 : Lies W w.heap.size #[.string nm, .string bd] 23
  r0 : Lies W (w.heap.size + 1) #[.int .i64 (res : Int)] 39
  t0 : Lies W (w.heap.size + 2) #[.int .i64 (told : Int)] 39
  e0 : Lies W (w.heap.size + 3) #[.int .i64 (e : Int)] 3
  g0 : Lies W (w.heap.size + 4) #[.string bd] 9
  be : Below w.heap.size w W
theorem Cw.turn {w : World} {nm bd : ByteArray} {W W' : World} {res told e C : Nat} (h : Cw w nm bd W res told e) (hC : w.heap.size ≤ C) {row : Option Nat} (hg : W.grownBy W' row) (hr : ∀ r, row = some r → C ≤ r ∧ ∃ o : Obj, W.heap[r]? = some o ∧ o.isCells = false) : Cw w nm bd W' res told e :=
  have hr' := fun r e => (hr r e).2
  ⟨lies_turn h.f0 hg hr', lies_turn h.r0 hg hr', lies_turn h.t0 hg hr', lies_turn h.e0 hg hr', lies_turn h.g0 hg hr', below_turn h.be hC (Nat.le_refl _) hg hr⟩
theorem Cw.setR {w : World} {nm bd : ByteArray} {W : World} {res told e : Nat} (h : Cw w nm bd W res told e) (x : Nat) (v : Value) (hv : v = .int .i64 (x : Int)) : Cw w nm bd (W.setCell ⟨w.heap.size + 1, 0, none⟩ v) x told e := by
  subst hv
  exact ⟨h.f0.set_other (a := ⟨w.heap.size + 1, 0, none⟩) (by dsimp only; omega) _, h.r0.set 0 _, h.t0.set_other (a := ⟨w.heap.size + 1, 0, none⟩) (by dsimp only; omega) _, h.e0.set_other (a := ⟨w.heap.size + 1, 0, none⟩) (by dsimp only; omega) _, h.g0.set_other (a := ⟨w.heap.size + 1, 0, none⟩) (by dsimp only; omega) _, h.be.setCell (p := ⟨w.heap.size + 1, 0, none⟩) (by dsimp only; omega) _⟩
theorem Cw.setT {w : World} {nm bd : ByteArray} {W : World} {res told e : Nat} (h : Cw w nm bd W res told e) (x : Nat) (v : Value) (hv : v = .int .i64 (x : Int)) : Cw w nm bd (W.setCell ⟨w.heap.size + 2, 0, none⟩ v) res x e := by
  subst hv
  exact ⟨h.f0.set_other (a := ⟨w.heap.size + 2, 0, none⟩) (by dsimp only; omega) _, h.r0.set_other (a := ⟨w.heap.size + 2, 0, none⟩) (by dsimp only; omega) _, h.t0.set 0 _, h.e0.set_other (a := ⟨w.heap.size + 2, 0, none⟩) (by dsimp only; omega) _, h.g0.set_other (a := ⟨w.heap.size + 2, 0, none⟩) (by dsimp only; omega) _, h.be.setCell (p := ⟨w.heap.size + 2, 0, none⟩) (by dsimp only; omega) _⟩
theorem Cw.setE {w : World} {nm bd : ByteArray} {W : World} {res told e : Nat} (h : Cw w nm bd W res told e) (x : Nat) (v : Value) (hv : v = .int .i64 (x : Int)) : Cw w nm bd (W.setCell ⟨w.heap.size + 3, 0, none⟩ v) res told x := by
  subst hv
  exact ⟨h.f0.set_other (a := ⟨w.heap.size + 3, 0, none⟩) (by dsimp only; omega) _, h.r0.set_other (a := ⟨w.heap.size + 3, 0, none⟩) (by dsimp only; omega) _, h.t0.set_other (a := ⟨w.heap.size + 3, 0, none⟩) (by dsimp only; omega) _, h.e0.set 0 _, h.g0.set_other (a := ⟨w.heap.size + 3, 0, none⟩) (by dsimp only; omega) _, h.be.setCell (p := ⟨w.heap.size + 3, 0, none⟩) (by dsimp only; omega) _⟩
/-- The three boxes that a round may change. -/
def C3 (w : World) (k : Nat) : Prop := k = w.heap.size + 1 ∨ k = w.heap.size + 2 ∨ k = w.heap.size + 3
theorem Cw.kept {w : World} {nm bd : ByteArray} {W W' : World} {res told e C : Nat} (h : Cw w nm bd W res told e) (hc : Chg (C3 w) W W') : KeepsFrom C W W' ∧ Kg (· = w.heap.size + 4) W W' :=
  ⟨keeps_cells hc (fun i hi => by
    rcases hi with rfl | rfl | rfl
    · exact ⟨_, h.r0, rfl⟩
    · exact ⟨_, h.t0, rfl⟩
    · exact ⟨_, h.e0, rfl⟩), Kg.of_chg hc (fun i hi e => by
    subst e
    rcases hi with hi | hi | hi <;> omega)⟩
set_option maxHeartbeats 1000000 in
theorem fcheck_any (nm bd : ByteArray) (hn : nm.size ≤ 140737488351232) (hb : bd.size ≤ 140737488351232) (w : World) (ht : Table w) : Calls Tryz.prog 87 #[.agg #[.string nm, .string bd]] w fun e w' => e = .returned (.int .i64 (chkF nm.data.toList bd.data.toList : Int)) ∧ Below w.heap.size w w' := by
  have HNA : Hid (∀ wx, Below w.heap.size w wx → Calls Tryz.prog 126 #[.string nm] wx fun e w' => e = .returned (.bool (nmB nm.data.toList)) ∧ w' = wx) := fun wx h => fisn_any nm (by omega) wx (tab_below ht h)
  have HRO : Hid (∀ wx, Calls Tryz.prog 127 #[.string bd] wx fun e w' => e = .returned (.func (.func 160) #[] #[.pointer (some ⟨wx.heap.size, 0, none⟩)]) ∧ w' = wx.alloc (.cells #[.string bd] 9)) := fun wx => rowss_any bd wx
  clear ht
  cases hnm : nmB nm.data.toList with
  | false =>
    have HR : Hid (chkF nm.data.toList bd.data.toList = 160) := by show chkF _ _ = _; unfold chkF; rw [hnm]; rfl
    rw [hnm] at HNA
    refine (callsIn_wide (n := 9)).1 ?_
    refine callsIn_of_wp_marks Tryz.func87 rfl trivial ?_ rfl
    simp only [Tryz.ntmps87, List.size_toArray, List.length_cons, List.length_nil, Nat.reduceAdd, Nat.reduceSub, Array.replicate_succ, Array.replicate_zero, List.push_toArray, List.append_toArray, List.nil_append, List.cons_append]
    refine wpIn_wide.2 ?_
    go_wp2_with fail
    refine (HNA.out _ (((Below.refl _ w).alloc (Nat.le_refl _) _).alloc (by simp) _)).mono ?_
    rintro e w1 ⟨rfl, h1⟩
    rw [h1]
    go_wp2_with fail
    refine ⟨.int .i64 160, ?_, by rw [HR.out]; rfl, ((Below.refl _ w).alloc (Nat.le_refl _) _).alloc (by simp) _⟩
    simp [results, Tryz.results87, go_sem]
  | true =>
    have HR : Hid (chkF nm.data.toList bd.data.toList = ckRf nm.size bd.data.toList (rws bd.data.toList 0) 0 0) := by show chkF _ _ = _; unfold chkF; rw [hnm, len_list]; rfl
    rw [hnm] at HNA
    refine (callsIn_wide (n := 9)).1 ?_
    refine callsIn_of_wp_marks Tryz.func87 rfl trivial ?_ rfl
    simp only [Tryz.ntmps87, List.size_toArray, List.length_cons, List.length_nil, Nat.reduceAdd, Nat.reduceSub, Array.replicate_succ, Array.replicate_zero, List.push_toArray, List.append_toArray, List.nil_append, List.cons_append]
    refine wpIn_wide.2 ?_
    go_wp2_with fail
    refine (HNA.out _ (((Below.refl _ w).alloc (Nat.le_refl _) _).alloc (by simp) _)).mono ?_
    rintro e w1 ⟨rfl, h1⟩
    rw [h1]
    clear h1 w1 HNA
    go_wp2_with fail
    refine (HRO.out _).mono ?_
    rintro e w2 ⟨rfl, hw2⟩
    go_wp2_with fail
    have HU : Hid (Cw w nm bd w2 0 0 0) := by
      rw [hw2]
      refine ⟨((((Lies.new _ _ _).alloc _).alloc _).alloc _).alloc _, (((new_one _ _ _ _).alloc _).alloc _).alloc _, ((new_two _ _ _ _ _).alloc _).alloc _, ?_, ?_, ?_⟩
      · have := (Lies.new (((w.alloc (.cells #[.string nm, .string bd] 23)).alloc (.cells #[.int .i64 0] 39)).alloc (.cells #[.int .i64 0] 39)) #[.int .i64 0] 3).alloc (.cells #[.string bd] 9)
        simp only [World.size_alloc] at this
        exact this
      · have := Lies.new ((((w.alloc (.cells #[.string nm, .string bd] 23)).alloc (.cells #[.int .i64 0] 39)).alloc (.cells #[.int .i64 0] 39)).alloc (.cells #[.int .i64 0] 3)) #[.string bd] 9
        simp only [World.size_alloc] at this
        exact this
      · exact (((((Below.refl _ w).alloc (Nat.le_refl _) _).alloc (by simp) _).alloc (by simp; omega) _).alloc (by simp; omega) _).alloc (by simp; omega) _
    rw [← hw2]
    clear hw2 HRO hnm
    obtain ⟨b0, hb0⟩ : ∃ b0, b0 = w.heap.size := ⟨_, rfl⟩
    refine (wpIn_wide (n := 9)).1 ?_
    refine' rv_out (by decide) (gf := 160) (lb := #[.pointer (some ⟨w.heap.size + 4, 0, none⟩)]) rfl (Go.Proofs.enters_of Tryz.func160 (by kernel_rfl) rfl) (rowss_seq bd (by omega) (w.heap.size + 4) 8 (by decide) w2 HU.out.g0) (vsR_size _) Kg.trans (fun W l o o' _ h1 h2 => Kg.book _ W l o o' h1 h2)
      (fun k W => ∃ told e, Hid (Cw w nm bd W 0 told e) ∧ Hid (ckRf nm.size bd.data.toList (rws bd.data.toList 0) 0 0 = ckRf nm.size bd.data.toList ((rws bd.data.toList 0).drop k) told e) ∧ Hid (told ≤ 161)) (fun c _ W => c = .ret ∧ ∃ told e, Hid (Cw w nm bd W 160 told e) ∧ Hid (ckRf nm.size bd.data.toList (rws bd.data.toList 0) 0 0 = 160)) ?hI ?hIx ⟨0, 0, HU.out, rfl, Nat.zero_le _⟩ _ ?assign ?body ?done ?stop
    case hI => exact fun k _ W W' row hs hg hr => by obtain ⟨a, b, h, h2, h3⟩ := hs; exact ⟨a, b, h.out.turn HU.out.be.size hg hr, h2, h3⟩
    case hIx => exact fun c k _ W W' row hs hg hr => by obtain ⟨e1, a, b, h, h2⟩ := hs; exact ⟨e1, a, b, h.out.turn HU.out.be.size hg hr, h2⟩
    case assign =>
      intro lp k hk W K hK
      rw [vsR_at _ k hk]
      gi_wp2
      exact hK
    case stop =>
      rintro D c k W hD _ ⟨rfl, told, e, H, HC⟩ hk
      refine wpIn_wide.2 ?_
      go_wp2
      refine ⟨by simp, .inl ⟨_, _, rfl, run_takeDeferred hk, ?_⟩⟩
      have hP := H.out.turn (C := w2.heap.size) HU.out.be.size (grownBy_putObj' W D (.deferred none)) (fun r e => by cases e; exact ⟨hD, _, hk, rfl⟩)
      have c1 := hP.r0.cell 0
      refine ⟨.int .i64 160, ?_, by rw [HR.out, HC.out]; rfl, hP.be⟩
      simp [results, Tryz.results87, go_sem, c1]
    case body =>
      rintro lp k hk W hlp hrec ⟨told, e, H, HC, HT⟩
      have hk' : k < (rws bd.data.toList 0).length := by rw [← vsR_len]; exact hk
      obtain ⟨-, hft, htl⟩ := rws_in bd.data.toList _ 0 rfl (Nat.zero_le _) _ (List.getElem_mem hk')
      have HC2 : Hid (ckRf nm.size bd.data.toList (rws bd.data.toList 0) 0 0 = ckRf nm.size bd.data.toList ((rwk bd.data.toList k) :: (rws bd.data.toList 0).drop (k + 1)) told e) := by
        rw [HC.out, List.drop_eq_getElem_cons hk', rwk_eq _ _ hk']
        exact rfl
      rw [rwk_eq _ _ hk'] at hft htl
      rw [len_list] at htl
      clear HC
      obtain ⟨p, hp⟩ : ∃ p, p = rwk bd.data.toList k := ⟨_, rfl⟩
      rw [← hp] at hft htl HC2
      rw [← hp]
      obtain ⟨f, tz⟩ := p
      dsimp only at hft htl
      dsimp only
      have hftI : (f : Int) ≤ (tz : Int) := by omega
      have htlI : (tz : Int) ≤ (bd.size : Int) := by omega
      have hsub : (tz : Int) - (f : Int) = ((tz - f : Nat) : Int) := by omega
      have hwt : IntKind.i64.wrap (tz : Int) = (tz : Int) := by rw [IntKind.wrap_i64]; omega
      have HFD : Hid (∀ wx, Calls Tryz.prog 128 #[.string (bd.extract f tz)] wx fun e w' => e = .returned (.bool (fldB (stE bd.data.toList f tz))) ∧ w' = wx) := fun wx => by
        have := fisfs_any (bd.extract f tz) (by rw [ByteArray.size_extract]; omega) wx
        rw [ext_list] at this
        exact this
      have c0 := H.out.f0.cell 0
      have c1 := H.out.f0.cell 1
      have c2 := H.out.t0.cell 0
      have z2 := H.out.t0.frozen 0
      have c3 := H.out.e0.cell 0
      have z3 := H.out.e0.frozen 0
      have c4 := H.out.r0.cell 0
      have z4 := H.out.r0.frozen 0
      simp only [List.getElem?_toArray, List.getElem?_cons_zero, List.getElem?_cons_succ] at c0 c1 c2 c3 c4
      by_cases hf0 : f = 0
      · have hfI : ((f : Int) == 0) = true := by rw [beq_iff_eq]; omega
        have HC3 : Hid (ckRf nm.size bd.data.toList (rws bd.data.toList 0) 0 0 = if 998 < tz - f + (nm.size + 1) then 160 else ckRf nm.size bd.data.toList ((rws bd.data.toList 0).drop (k + 1)) told tz) := by
          rw [HC2.out]
          show ckRf _ _ (_ :: _) _ _ = _
          rw [ckRf, if_pos hf0, if_pos hf0]
        have e1 : IntKind.i64.wrap ((nm.size : Int) + 1) = (nm.size : Int) + 1 := by rw [IntKind.wrap_i64]; omega
        have e2 : IntKind.i64.wrap ((tz : Int) - (f : Int) + ((nm.size : Int) + 1)) = (tz : Int) - (f : Int) + ((nm.size : Int) + 1) := by rw [IntKind.wrap_i64]; omega
        have e3 : IntKind.i64.wrap ((tz : Int) - (f : Int)) = (tz : Int) - (f : Int) := by rw [IntKind.wrap_i64]; omega
        clear hp hf0 HC2 hsub
        by_cases hbig : 998 < tz - f + (nm.size + 1)
        · have hbI : (998 : Int) < (tz : Int) - (f : Int) + ((nm.size : Int) + 1) := by omega
          have HC4 : Hid (ckRf nm.size bd.data.toList (rws bd.data.toList 0) 0 0 = 160) := by rw [HC3.out, if_pos hbig]; exact rfl
          gi_wp2_with fail
          have hX := H.out.setR 160 (.int .i64 160) rfl
          have hc := (Chg.refl (C3 w) W).set (p := ⟨w.heap.size + 1, 0, none⟩) (.inl (.inl rfl)) (.int .i64 160)
          exact ⟨(H.out.kept hc).1, rfl, told, _, hX, HC4.out⟩
        · have hbI : ¬ (998 : Int) < (tz : Int) - (f : Int) + ((nm.size : Int) + 1) := by omega
          have HC4 : Hid (ckRf nm.size bd.data.toList (rws bd.data.toList 0) 0 0 = ckRf nm.size bd.data.toList ((rws bd.data.toList 0).drop (k + 1)) told tz) := by rw [HC3.out, if_neg hbig]; exact rfl
          gi_wp2_with fail
          have hX := H.out.setE tz (.int .i64 (tz : Int)) rfl
          have hc := (Chg.refl (C3 w) W).set (p := ⟨w.heap.size + 3, 0, none⟩) (.inl (.inr (.inr rfl))) (.int .i64 (tz : Int))
          exact ⟨(H.out.kept hc).1, (H.out.kept (C := w2.heap.size) hc).2, told, tz, hX, HC4.out, HT.out⟩
      · have hfI : ((f : Int) == 0) = false := by rw [beq_eq_false_iff_ne]; omega
        have HC3 : Hid (ckRf nm.size bd.data.toList (rws bd.data.toList 0) 0 0 = if 998 < tz - f then 160 else ckRf nm.size bd.data.toList ((rws bd.data.toList 0).drop (k + 1)) (if fldB (stE bd.data.toList f tz) then told else 161) tz) := by
          rw [HC2.out]
          show ckRf _ _ (_ :: _) _ _ = _
          rw [ckRf, if_neg hf0, if_neg hf0]
        have e3 : IntKind.i64.wrap ((tz : Int) - (f : Int)) = (tz : Int) - (f : Int) := by rw [IntKind.wrap_i64]; omega
        clear hp hf0 HC2 hsub
        generalize fldB (stE bd.data.toList f tz) = bf at *
        cases bf with
        | true =>
          by_cases hbig : 998 < tz - f
          · have hbI : (998 : Int) < (tz : Int) - (f : Int) := by omega
            have HC4 : Hid (ckRf nm.size bd.data.toList (rws bd.data.toList 0) 0 0 = 160) := by rw [HC3.out, if_pos hbig]; exact rfl
            gi_wp2_with fail
            refine ⟨trivial, ?_⟩
            refine (CallsIn.inRound lp (callsIn_wide.2 (HFD.out _))).mono ?_
            rintro e4 w4 ⟨rfl, h4⟩
            rw [h4]
            clear h4 w4
            gi_wp2_with fail
            have hX := H.out.setR 160 (.int .i64 160) rfl
            have hc := (Chg.refl (C3 w) W).set (p := ⟨w.heap.size + 1, 0, none⟩) (.inl (.inl rfl)) (.int .i64 160)
            exact ⟨(H.out.kept hc).1, rfl, _, _, hX, HC4.out⟩
          · have hbI : ¬ (998 : Int) < (tz : Int) - (f : Int) := by omega
            have HC4 : Hid (ckRf nm.size bd.data.toList (rws bd.data.toList 0) 0 0 = ckRf nm.size bd.data.toList ((rws bd.data.toList 0).drop (k + 1)) told tz) := by rw [HC3.out, if_neg hbig]; exact rfl
            gi_wp2_with fail
            refine ⟨trivial, ?_⟩
            refine (CallsIn.inRound lp (callsIn_wide.2 (HFD.out _))).mono ?_
            rintro e4 w4 ⟨rfl, h4⟩
            rw [h4]
            clear h4 w4
            gi_wp2_with fail
            have hX := H.out.setE tz (.int .i64 (tz : Int)) rfl
            have hc := (Chg.refl (C3 w) W).set (p := ⟨w.heap.size + 3, 0, none⟩) (.inl (.inr (.inr rfl))) (.int .i64 (tz : Int))
            exact ⟨(H.out.kept hc).1, (H.out.kept (C := w2.heap.size) hc).2, told, tz, hX, HC4.out, HT.out⟩
        | false =>
          by_cases hbig : 998 < tz - f
          · have hbI : (998 : Int) < (tz : Int) - (f : Int) := by omega
            have HC4 : Hid (ckRf nm.size bd.data.toList (rws bd.data.toList 0) 0 0 = 160) := by rw [HC3.out, if_pos hbig]; exact rfl
            gi_wp2_with fail
            refine ⟨trivial, ?_⟩
            refine (CallsIn.inRound lp (callsIn_wide.2 (HFD.out _))).mono ?_
            rintro e4 w4 ⟨rfl, h4⟩
            rw [h4]
            clear h4 w4
            have hX1 := H.out.setT 161 (.int .i64 161) rfl
            have y4 := hX1.r0.cell 0
            have x4 := hX1.r0.frozen 0
            gi_wp2_with fail
            have hX := hX1.setR 160 (.int .i64 160) rfl
            have hc := ((Chg.refl (C3 w) W).set (p := ⟨w.heap.size + 2, 0, none⟩) (.inl (.inr (.inl rfl))) (.int .i64 161)).set (p := ⟨w.heap.size + 1, 0, none⟩) (.inl (.inl rfl)) (.int .i64 160)
            exact ⟨(H.out.kept hc).1, rfl, _, _, hX, HC4.out⟩
          · have hbI : ¬ (998 : Int) < (tz : Int) - (f : Int) := by omega
            have HC4 : Hid (ckRf nm.size bd.data.toList (rws bd.data.toList 0) 0 0 = ckRf nm.size bd.data.toList ((rws bd.data.toList 0).drop (k + 1)) 161 tz) := by rw [HC3.out, if_neg hbig]; exact rfl
            gi_wp2_with fail
            refine ⟨trivial, ?_⟩
            refine (CallsIn.inRound lp (callsIn_wide.2 (HFD.out _))).mono ?_
            rintro e4 w4 ⟨rfl, h4⟩
            rw [h4]
            clear h4 w4
            have hX1 := H.out.setT 161 (.int .i64 161) rfl
            have y3 := hX1.e0.cell 0
            have x3 := hX1.e0.frozen 0
            gi_wp2_with fail
            have hX := hX1.setE tz (.int .i64 (tz : Int)) rfl
            have hc := ((Chg.refl (C3 w) W).set (p := ⟨w.heap.size + 2, 0, none⟩) (.inl (.inr (.inl rfl))) (.int .i64 161)).set (p := ⟨w.heap.size + 3, 0, none⟩) (.inl (.inr (.inr rfl))) (.int .i64 (tz : Int))
            exact ⟨(H.out.kept hc).1, (H.out.kept (C := w2.heap.size) hc).2, 161, tz, hX, HC4.out, Nat.le_refl _⟩
    case done =>
      rintro D W hD ⟨told, e, H, HC, HT⟩ hk
      have HC2 : Hid (chkF nm.data.toList bd.data.toList = if e < bd.size then 160 else told) := by
        rw [HR.out, HC.out, vsR_len, List.drop_length]
        show ckRf _ _ [] _ _ = _
        rw [ckRf, len_list]
      have c1 := H.out.f0.cell 1
      have c2 := H.out.t0.cell 0
      have c3 := H.out.e0.cell 0
      have c4 := H.out.r0.cell 0
      have z4 := H.out.r0.frozen 0
      simp only [List.getElem?_toArray, List.getElem?_cons_zero, List.getElem?_cons_succ] at c1 c2 c3 c4
      by_cases he : e < bd.size
      · have heI : (e : Int) < (bd.size : Int) := by omega
        have HC3 : Hid (chkF nm.data.toList bd.data.toList = 160) := by rw [HC2.out, if_pos he]; exact rfl
        go_wp2_with fail
        have hX := H.out.setR 160 (.int .i64 160) rfl
        have hkX : (W.setCell ⟨w.heap.size + 1, 0, none⟩ (.int .i64 160)).heap[D]? = some (.deferred (some [])) := (keeps_cells (B := 0) ((Chg.refl (C3 w) W).set (p := ⟨w.heap.size + 1, 0, none⟩) (.inl (.inl rfl)) (.int .i64 160)) (fun i hi => by
          rcases hi with rfl | rfl | rfl
          · exact ⟨_, H.out.r0, rfl⟩
          · exact ⟨_, H.out.t0, rfl⟩
          · exact ⟨_, H.out.e0, rfl⟩)).same D _ (Nat.zero_le _) hk rfl
        refine ⟨by simp, .inl ⟨_, _, rfl, run_takeDeferred hkX, ?_⟩⟩
        have hP := hX.turn (C := w2.heap.size) HU.out.be.size (grownBy_putObj' _ D (.deferred none)) (fun r e => by cases e; exact ⟨hD, _, hkX, rfl⟩)
        have c1 := hP.r0.cell 0
        refine ⟨.int .i64 160, ?_, by rw [HC3.out]; rfl, hP.be⟩
        simp [results, Tryz.results87, go_sem, c1]
      · have heI : ¬ (e : Int) < (bd.size : Int) := by omega
        have HC3 : Hid (chkF nm.data.toList bd.data.toList = told) := by rw [HC2.out, if_neg he]; exact rfl
        go_wp2_with fail
        have hX := H.out.setR told (.int .i64 (told : Int)) rfl
        have hkX : (W.setCell ⟨w.heap.size + 1, 0, none⟩ (.int .i64 (told : Int))).heap[D]? = some (.deferred (some [])) := (keeps_cells (B := 0) ((Chg.refl (C3 w) W).set (p := ⟨w.heap.size + 1, 0, none⟩) (.inl (.inl rfl)) (.int .i64 (told : Int))) (fun i hi => by
          rcases hi with rfl | rfl | rfl
          · exact ⟨_, H.out.r0, rfl⟩
          · exact ⟨_, H.out.t0, rfl⟩
          · exact ⟨_, H.out.e0, rfl⟩)).same D _ (Nat.zero_le _) hk rfl
        refine ⟨by simp, .inl ⟨_, _, rfl, run_takeDeferred hkX, ?_⟩⟩
        have hP := hX.turn (C := w2.heap.size) HU.out.be.size (grownBy_putObj' _ D (.deferred none)) (fun r e => by cases e; exact ⟨hD, _, hkX, rfl⟩)
        have c1 := hP.r0.cell 0
        refine ⟨.int .i64 (told : Int), ?_, by rw [HC3.out], hP.be⟩
        simp [results, Tryz.results87, go_sem, c1]
end Go.Proofs.YthkoionigdnhgabGreatDoor
