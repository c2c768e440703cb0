/-
  Needs.
-/
import Derived.Test.YtdgepnfgjgbkoaaDoorWdm17
namespace Go.Proofs.YtdgepnfgjgbkoaaDoor
open Go.RowKit Go.Shelf

attribute [local go_sem] Oper.semAt_some

/-- What Needs has in memory while it goes through the words. -/
structure Nw (w : World) (s : ByteArray) (W : World) : Prop where
  s0 : Lies W w.heap.size #[.string s] 9
  r0 : Lies W (w.heap.size + 1) #[.bool false] 4
  g0 : Lies W (w.heap.size + 1 + 1) #[.string s] 9
  be : Below w.heap.size w W
theorem Nw.turn {w : World} {s : ByteArray} {W W' : World} {C : Nat} (h : Nw w s W) (hC : w.heap.size ≤ C) {row : Option Nat} (hg : W.grownBy W' row) (hr : ∀ r, row = some r → C ≤ r ∧ ∃ o : Obj, W.heap[r]? = some o ∧ o.isCells = false) : Nw w s W' :=
  have hr' := fun r e => (hr r e).2
  ⟨lies_turn h.s0 hg hr', lies_turn h.r0 hg hr', lies_turn h.g0 hg hr', below_turn h.be hC (Nat.le_refl _) hg hr⟩
theorem Nw.on {w : World} {s : ByteArray} {W W' : World} (H : Nw w s W) (h : Below W.heap.size W W') : Nw w s W' :=
  ⟨H.s0.below h H.s0.lt, H.r0.below h H.r0.lt, H.g0.below h H.g0.lt, H.be.trans (h.mono H.be.size)⟩
structure Nx (w : World) (W : World) : Prop where
  r0 : Lies W (w.heap.size + 1) #[.bool true] 4
  be : Below w.heap.size w W
theorem Nx.turn {w : World} {W W' : World} {C : Nat} (h : Nx w W) (hC : w.heap.size ≤ C) {row : Option Nat} (hg : W.grownBy W' row) (hr : ∀ r, row = some r → C ≤ r ∧ ∃ o : Obj, W.heap[r]? = some o ∧ o.isCells = false) : Nx w W' :=
  ⟨lies_turn h.r0 hg (fun r e => (hr r e).2), below_turn h.be hC (Nat.le_refl _) hg hr⟩
/-- No word of the first k is encoded. -/
def noEn (l : List UInt8) (k : Nat) : Prop := ∀ p ∈ (wdsA l).take k, pW (cutW l p.1 p.2) = none
theorem noEn_zero (l : List UInt8) : noEn l 0 := by intro p hp; simp at hp
theorem noEn_step {l : List UInt8} {k : Nat} (h : noEn l k) (hk : k < (wdsA l).length) (hp : pW (cutW l (wfk l k) (wtk l k)) = none) : noEn l (k + 1) := by
  intro p hm
  rw [List.take_succ_eq_append_getElem hk] at hm
  rcases List.mem_append.1 hm with hm | hm
  · exact h p hm
  · rw [List.mem_singleton] at hm
    subst hm
    unfold wfk wtk at hp
    rw [List.getD_eq_getElem?_getD, List.getElem?_eq_getElem hk] at hp
    exact hp
theorem need_no {l : List UInt8} (h : noEn l (wdsA l).length) (hb : ¬ badN 12 l < l.length) : needW l = false := by
  unfold needW
  rw [decide_eq_false hb, Bool.false_or, List.any_eq_false]
  intro p hp
  rw [h p (by rw [List.take_length]; exact hp)]
  simp
theorem need_yes {l : List UInt8} {k : Nat} (hk : k < (wdsA l).length) {p : List UInt8 × Bool × List UInt8} (hp : pW (cutW l (wfk l k) (wtk l k)) = some p) : needW l = true := by
  unfold needW
  rw [Bool.or_eq_true, List.any_eq_true]
  right
  refine ⟨(wdsA l)[k], List.getElem_mem hk, ?_⟩
  unfold wfk wtk at hp
  rw [List.getD_eq_getElem?_getD, List.getElem?_eq_getElem hk] at hp
  simp only [Option.getD_some] at hp
  rw [hp]
  rfl
theorem need_bad {l : List UInt8} (hb : badN 12 l < l.length) : needW l = true := by
  unfold needW
  rw [decide_eq_true hb, Bool.true_or]
theorem wf_ord : ∀ (r : List (Nat × Nat)) (m n k : Nat), ordW m n r → (h : k < r.length) → r[k].1 < r[k].2 ∧ r[k].2 ≤ m
  | (f, t) :: r, m, n, 0, ho, _ => ⟨ho.2.1, ho.2.2.1⟩
  | (f, t) :: r, m, n, k + 1, ho, h => wf_ord r m t k ho.2.2.2 (by simpa using h)
theorem wfk_lt (l : List UInt8) (k : Nat) (h : k < (wdsA l).length) : wfk l k < wtk l k ∧ wtk l k ≤ l.length := by
  have := wf_ord _ _ _ k (wdsA_ord l) h
  unfold wfk wtk
  rw [List.getD_eq_getElem?_getD, List.getElem?_eq_getElem h]
  exact this
set_option maxRecDepth 100000 in
set_option maxHeartbeats 4000000 in
theorem wneeds_any (s : ByteArray) (hs : s.size ≤ 4294967000) (w : World) (tb : Tb w) : Calls Tryd.prog 12 #[.string s] w fun e w' => e = .returned (.bool (needW s.data.toList)) ∧ Below w.heap.size w w' := by
  have hsI : (s.size : Int) ≤ 4294967000 := by omega
  have HFO : Hid (∀ wx, Calls Tryd.prog 20 #[.string s] wx fun e w' => e = .returned (.func (.func 37) #[] #[.pointer (some ⟨wx.heap.size, 0, none⟩)]) ∧ w' = wx.alloc (.cells #[.string s] 9)) := fun wx => wwords_any s wx
  obtain ⟨w0, hw0⟩ : ∃ w0, w0 = (w.alloc (.cells #[.string s] 9)).alloc (.cells #[.bool false] 4) := ⟨_, rfl⟩
  have hz0 : w0.heap.size = w.heap.size + 1 + 1 := by rw [hw0]; simp
  have hS0 : Lies w0 w.heap.size #[.string s] 9 := by rw [hw0]; exact (Lies.new w _ _).alloc _
  have hR0 : Lies w0 (w.heap.size + 1) #[.bool false] 4 := by rw [hw0]; simpa using Lies.new (w.alloc (.cells #[.string s] 9)) #[.bool false] 4
  have hB0 : Below w.heap.size w w0 := by rw [hw0]; exact ((Below.refl _ w).alloc (Nat.le_refl _) _).alloc (by simp) _
  have tb0 := tb.below hB0
  have HW0 : Hid ((w.alloc (.cells #[.string s] 9)).alloc (.cells #[.bool false] 4) = w0) := hw0.symm
  have hbn := badN_le 12 s.data.toList
  rw [len_list] at hbn
  have TBW : Hid (∀ wx, Below w.heap.size w wx → Tb wx) := fun wx h => tb.below h
  have HBAD : Hid (∀ wx, Below w.heap.size w wx → Calls Tryd.prog 24 #[.int .i64 12, .string s] wx fun e w' => e = .returned (.int .i64 (badN 12 s.data.toList)) ∧ w' = wx) := fun wx h => bad_anyT 12 s wx (tb.below h).cls (by unfold maxLen; omega)
  obtain ⟨y, hy⟩ : ∃ y, y = badN 12 s.data.toList := ⟨_, rfl⟩
  rw [← hy] at HBAD hbn
  have HY : Hid (y = badN 12 s.data.toList) := hy
  have c0 : w0.cell? ⟨w.heap.size, 0, none⟩ = some (.string s) := hS0.cell 0
  have r0 : w0.cell? ⟨w.heap.size + 1, 0, none⟩ = some (.bool false) := hR0.cell 0
  have rf := hR0.frozen 0
  have HNW : Hid (Nw w s (w0.drew.alloc (.cells #[.string s] 9))) := by
    refine ⟨hS0.alloc _, hR0.alloc _, ?_, hB0.drew.alloc hB0.size _⟩
    rw [← hz0]
    exact Lies.new w0.drew _ _
  have HR0 : Hid (Lies w0 (w.heap.size + 1) #[.bool false] 4) := hR0
  have HB0 : Hid (Below w.heap.size w w0) := hB0
  clear hw0 hS0 hR0 tb0 hB0 hy tb
  refine (callsIn_wide (n := 9)).1 ?_
  refine callsIn_of_wp_marks Tryd.func12 rfl trivial ?_ rfl
  simp only [Tryd.ntmps12, List.size_toArray, List.length_cons, List.length_nil, Nat.reduceAdd, Nat.reduceSub, Array.replicate_succ, Array.replicate_zero, List.push_toArray, List.append_toArray, List.nil_append, List.cons_append]
  refine wpIn_wide.2 ?_
  by_cases hyb : y < s.size
  · have hyi : (y : Int) < (s.size : Int) := by omega
    have HN : Hid (needW s.data.toList = true) := need_bad (by rw [← HY.out, len_list]; exact hyb)
    go_wp2_with (rw [HW0.out])
    refine wp_onlyN ?_
    refine wp_region_late (fun wx => wx = w0.drew) 5 (by kernel_rfl) rfl (fun hHeld => ?_)
    refine wpAnyE_tk (i := 0) (d := some 7) (v := .string s) rfl (by kernel_rfl) (by kernel_rfl) (by kernel_rfl) rfl (fun _ _ _ h => h) rfl rfl ?hy (by first | assumption | exact hHeld) ?_
    case hy => (intro w' hSw; subst hSw; go_simp <;> (first | with_reducible rfl | omega | skip))
    simp only [Act.put, List.setIfInBounds_toArray, List.set_cons_zero, List.set_cons_succ]
    refine wpAnyE_tk (i := 2) (d := some 9) (v := .string s) rfl (by kernel_rfl) (by kernel_rfl) (by kernel_rfl) rfl (fun _ _ _ h => h) rfl rfl ?hy (by first | assumption | exact hHeld) ?_
    case hy => (intro w' hSw; subst hSw; go_simp <;> (first | with_reducible rfl | omega | skip))
    simp only [Act.put, List.setIfInBounds_toArray, List.set_cons_zero, List.set_cons_succ]
    refine wpAnyE_tk (i := 3) (d := some 10) (v := .int .i64 (s.size : Int)) rfl (by kernel_rfl) (by kernel_rfl) (by kernel_rfl) rfl (fun _ _ _ h => h) rfl rfl ?hy (by first | assumption | exact hHeld) ?_
    case hy => (intro w' hSw; subst hSw; go_simp <;> (first | with_reducible rfl | omega | skip))
    simp only [Act.put, List.setIfInBounds_toArray, List.set_cons_zero, List.set_cons_succ]
    refine wpAnyE_on (i := 1) (by kernel_rfl) rfl rfl ?_
    go_simp
    refine (HBAD.out _ HB0.out.drew).mono ?_
    rintro e wz ⟨rfl, rfl⟩
    refine ⟨rfl, ?_⟩
    refine wpAnyE_tk (i := 4) (d := some 11) (v := .bool true) rfl (by kernel_rfl) (by kernel_rfl) (by kernel_rfl) rfl (fun _ _ _ h => h) rfl rfl ?hy (by first | assumption | exact hHeld) ?_
    case hy => (intro w' hSw; subst hSw; go_simp <;> (first | with_reducible rfl | omega | skip))
    simp only [Act.put, List.setIfInBounds_toArray, List.set_cons_zero, List.set_cons_succ]
    refine wpAnyE_done (by kernel_rfl) ?_ _
    simp only [OnlyN]
    clear hHeld
    go_wp2
    have r1 := (HR0.out.set 0 (.bool true)).cell 0
    refine ⟨.bool true, ?_, by rw [HN.out], (HB0.out.setCell (p := ⟨w.heap.size + 1, 0, none⟩) (Nat.le_succ _) _).drew⟩
    simp [results, Tryd.results12, go_sem, r0]
  · have hyi : ¬ (y : Int) < (s.size : Int) := by omega
    have HBN : Hid (¬ badN 12 s.data.toList < s.data.toList.length) := by show ¬ _; rw [← HY.out, len_list]; exact hyb
    go_wp2_with (rw [HW0.out])
    refine wp_onlyN ?_
    refine wp_region_late (fun wx => wx = w0.drew) 5 (by kernel_rfl) rfl (fun hHeld => ?_)
    refine wpAnyE_tk (i := 0) (d := some 7) (v := .string s) rfl (by kernel_rfl) (by kernel_rfl) (by kernel_rfl) rfl (fun _ _ _ h => h) rfl rfl ?hy (by first | assumption | exact hHeld) ?_
    case hy => (intro w' hSw; subst hSw; go_simp <;> (first | with_reducible rfl | omega | skip))
    simp only [Act.put, List.setIfInBounds_toArray, List.set_cons_zero, List.set_cons_succ]
    refine wpAnyE_tk (i := 2) (d := some 9) (v := .string s) rfl (by kernel_rfl) (by kernel_rfl) (by kernel_rfl) rfl (fun _ _ _ h => h) rfl rfl ?hy (by first | assumption | exact hHeld) ?_
    case hy => (intro w' hSw; subst hSw; go_simp <;> (first | with_reducible rfl | omega | skip))
    simp only [Act.put, List.setIfInBounds_toArray, List.set_cons_zero, List.set_cons_succ]
    refine wpAnyE_tk (i := 3) (d := some 10) (v := .int .i64 (s.size : Int)) rfl (by kernel_rfl) (by kernel_rfl) (by kernel_rfl) rfl (fun _ _ _ h => h) rfl rfl ?hy (by first | assumption | exact hHeld) ?_
    case hy => (intro w' hSw; subst hSw; go_simp <;> (first | with_reducible rfl | omega | skip))
    simp only [Act.put, List.setIfInBounds_toArray, List.set_cons_zero, List.set_cons_succ]
    refine wpAnyE_on (i := 1) (by kernel_rfl) rfl rfl ?_
    go_simp
    refine (HBAD.out _ HB0.out.drew).mono ?_
    rintro e wz ⟨rfl, rfl⟩
    refine ⟨rfl, ?_⟩
    refine wpAnyE_tk (i := 4) (d := some 11) (v := .bool false) rfl (by kernel_rfl) (by kernel_rfl) (by kernel_rfl) rfl (fun _ _ _ h => h) rfl rfl ?hy (by first | assumption | exact hHeld) ?_
    case hy => (intro w' hSw; subst hSw; go_simp <;> (first | with_reducible rfl | omega | skip))
    simp only [Act.put, List.setIfInBounds_toArray, List.set_cons_zero, List.set_cons_succ]
    refine wpAnyE_done (by kernel_rfl) ?_ _
    simp only [OnlyN]
    clear hHeld
    go_wp2_with fail
    refine (HFO.out _).mono ?_
    rintro e w3 ⟨rfl, hw3⟩
    have hzz : w0.drew.heap.size = w.heap.size + 1 + 1 := hz0
    rw [hzz]
    subst hw3
    clear HFO HW0 HR0 HB0 HBAD c0 r0 rf hz0 hzz hbn hyi hyb HY
    generalize w0.drew.alloc (.cells #[.string s] 9) = w4 at *
    go_wp2_with fail
    have hps : ∀ v ∈ vsW s.data.toList, v.size = 2 := fun v hv => by
      obtain ⟨p, _, rfl⟩ := List.mem_map.1 hv
      rfl
    refine (wpIn_wide (n := 9)).1 ?_
    refine' rv_out (by decide) (gf := 37) (lb := #[.pointer (some ⟨w.heap.size + 1 + 1, 0, none⟩)]) rfl (Go.Proofs.enters_of Tryd.func37 (by kernel_rfl) rfl) (words_seq s (by omega) (w.heap.size + 1 + 1) 8 (by decide) w4 HNW.out.g0) hps Kg.trans (fun W l o o' _ h1 h2 => Kg.book _ W l o o' h1 h2)
      (fun k W => Hid (Nw w s W) ∧ Hid (noEn s.data.toList k)) (fun c k W => c = .ret ∧ Hid (Nx w W) ∧ Hid (needW s.data.toList = true)) ?hI ?hIx ⟨HNW.out, noEn_zero _⟩ _ ?assign ?body ?done ?stop
    case hI => exact fun k _ W W' row hs hg hr => ⟨hs.1.out.turn HNW.out.be.size hg hr, hs.2⟩
    case hIx => exact fun c k _ W W' row hs hg hr => ⟨hs.1, hs.2.1.out.turn HNW.out.be.size hg hr, hs.2.2⟩
    case assign =>
      intro lp k hk W K hK
      rw [(vsW_k s.data.toList k hk).1]
      gi_wp2
      exact hK
    case stop =>
      rintro D c k W hD hk ⟨rfl, HX, HE⟩ hdd
      refine wpIn_wide.2 ?_
      go_wp2
      refine ⟨by simp, .inl ⟨_, _, rfl, run_takeDeferred hdd, ?_⟩⟩
      have hX := HX.out.turn (Nat.le_refl _) (grownBy_putObj' W D (.deferred none)) (fun r e => by cases e; exact ⟨by have := HNW.out.be.size; omega, _, hdd, rfl⟩)
      have r0 := hX.r0.cell 0
      refine ⟨.bool true, ?_, by rw [HE.out], hX.be⟩
      simp [results, Tryd.results12, go_sem, r0]
    case body =>
      intro lp k hk W hlp hrec hi
      obtain ⟨H, HD⟩ := hi
      have hkl : k < (wdsA s.data.toList).length := by unfold vsW at hk; rw [List.length_map] at hk; exact hk
      have hft := wfk_lt s.data.toList k hkl
      rw [len_list] at hft
      have hno : pW (cutW s.data.toList (wfk s.data.toList k) (wtk s.data.toList k)) = none → noEn s.data.toList (k + 1) := noEn_step HD.out hkl
      have hyes : ∀ p, pW (cutW s.data.toList (wfk s.data.toList k) (wtk s.data.toList k)) = some p → needW s.data.toList = true := fun p hp => need_yes hkl hp
      generalize wfk s.data.toList k = f at *
      generalize wtk s.data.toList k = t at *
      have hPA := wparse_any s f t (by omega) hft.2 (by omega) W (TBW.out W H.out.be)
      generalize pW (cutW s.data.toList f t) = o at *
      have HPA : Hid (Calls Tryd.prog 21 #[.string s, .int .i64 (f : Int), .int .i64 (t : Int)] W fun e w' => e = .returned (.tuple #[.agg (enC f t o), .bool o.isSome]) ∧ Below W.heap.size W w') := hPA
      have c0 : W.cell? ⟨w.heap.size, 0, none⟩ = some (.string s) := H.out.s0.cell 0
      have hWz := H.out.g0.lt
      have HNO : Hid (o = none → noEn s.data.toList (k + 1)) := hno
      have HYE : Hid (∀ p, o = some p → needW s.data.toList = true) := hyes
      clear hPA hno hyes
      gi_wp2_with fail
      refine ⟨trivial, ?_⟩
      refine (callsIn_wide.2 HPA.out).mono ?_
      rintro e W1 ⟨rfl, hb1⟩
      have hH1 := H.out.on hb1
      have r1 : W1.cell? ⟨w.heap.size + 1, 0, none⟩ = some (.bool false) := hH1.r0.cell 0
      have f1 := hH1.r0.frozen 0
      have hl1 := hH1.r0.lt
      have HH1 : Hid (Nw w s W1) := hH1
      have HB1 : Hid (Below W.heap.size W W1) := hb1
      clear hH1 hb1 HPA
      cases o with
      | none =>
        simp only [enC, Option.isSome_none]
        gi_wp2_with fail
        have hb2 : Below W.heap.size W (W1.alloc (.cells #[.string ⟨#[]⟩, .string ⟨#[]⟩, .string ⟨#[]⟩, .int .i64 0, .int .i64 0] 44)) := HB1.out.alloc HB1.out.size _
        exact ⟨keeps_cells (F := fun _ => False) (Chg.of_below hb2) (fun i hi => hi.elim), Kg.of_below hb2, H.out.on hb2, HNO.out trivial⟩
      | some p =>
        have HN : Hid (needW s.data.toList = true) := HYE.out p rfl
        obtain ⟨V0, V1, V2, V3, V4, hEN⟩ : ∃ (V0 V1 V2 : ByteArray) (V3 V4 : Int), enC f t (some p) = #[.string V0, .string V1, .string V2, .int .i64 V3, .int .i64 V4] := ⟨_, _, _, _, _, rfl⟩
        rw [hEN]
        simp only [Option.isSome_some]
        clear hEN HYE HNO
        gi_wp2_with fail
        have hc : Chg (· = w.heap.size + 1) W ((W1.setCell ⟨w.heap.size + 1, 0, none⟩ (.bool true)).alloc (.cells #[.string V0, .string V1, .string V2, .int .i64 V3, .int .i64 V4] 44)) := ((Chg.of_below (F := (· = w.heap.size + 1)) HB1.out).set (p := ⟨w.heap.size + 1, 0, none⟩) (.inl rfl) _).alloc _
        exact ⟨keeps_cells hc (fun i hi => by subst hi; exact ⟨_, H.out.r0, rfl⟩), rfl, ⟨(HH1.out.r0.set 0 _).alloc _, (HH1.out.be.setCell (p := ⟨w.heap.size + 1, 0, none⟩) (Nat.le_succ _) _).alloc (by have := HH1.out.be.size; simpa using this) _⟩, HN.out⟩
    case done =>
      rintro D W hD ⟨H, HD⟩ hk
      rw [show (vsW s.data.toList).length = (wdsA s.data.toList).length from List.length_map ..] at HD
      have HN : Hid (needW s.data.toList = false) := need_no HD.out HBN.out
      have r0 : W.cell? ⟨w.heap.size + 1, 0, none⟩ = some (.bool false) := H.out.r0.cell 0
      have f0 := H.out.r0.frozen 0
      have HK : Hid (W.heap[D]? = some (.deferred (some []))) := hk
      clear hk HD
      go_wp2
      have hne : D ≠ w.heap.size + 1 := fun e => by subst e; have := H.out.r0; rw [Lies, HK.out] at this; cases this
      have hD2 : (W.setCell ⟨w.heap.size + 1, 0, none⟩ (.bool false)).heap[D]? = some (.deferred (some [])) := (Below.heap_setCell W ⟨w.heap.size + 1, 0, none⟩ _ D hne).trans HK.out
      refine ⟨by simp, .inl ⟨_, _, rfl, run_takeDeferred hD2, ?_⟩⟩
      have g9 := grownBy_putObj' (W.setCell ⟨w.heap.size + 1, 0, none⟩ (.bool false)) D (.deferred none)
      have hr9 : ∀ r, some D = some r → w.heap.size ≤ r ∧ ∃ o : Obj, (W.setCell ⟨w.heap.size + 1, 0, none⟩ (.bool false)).heap[r]? = some o ∧ o.isCells = false := fun r e => by cases e; exact ⟨by have := HNW.out.be.size; omega, _, hD2, rfl⟩
      have r9 := (lies_turn (H.out.r0.set 0 (.bool false)) g9 (fun r e => (hr9 r e).2)).cell 0
      refine ⟨.bool false, ?_, by rw [HN.out], below_turn (H.out.be.setCell (p := ⟨w.heap.size + 1, 0, none⟩) (Nat.le_succ _) _) (Nat.le_refl _) (Nat.le_refl _) g9 hr9⟩
      simp [results, Tryd.results12, go_sem, r9]
end Go.Proofs.YtdgepnfgjgbkoaaDoor
