/-
  write: a text as encoded words.
-/
import Derived.Test.YtdgepnfgjgbkoaaDoorScP
import Derived.Test.YtdgepnfgjgbkoaaDoorSr17
import Derived.Test.YtdgepnfgjgbkoaaDoorSpB16
import Derived.Test.YtdgepnfgjgbkoaaDoorUnb
import Derived.Test.YtdgepnfgjgbkoaaDoorLate5
import Derived.Test.YtdgepnfgjgbkoaaDoorRDec
import Derived.Lib.OthersKept
namespace Go.Proofs.YtdgepnfgjgbkoaaDoor
open Go.RowKit

theorem oneN_all {l : List UInt8} (h : badU l = l.length) (h0 : 0 < l.length) : ∃ r n, oneN l = some (r, n) := by
  cases e : oneN l with
  | none => rw [badU_none e] at h; omega
  | some p => exact ⟨p.1, p.2, rfl⟩
/-- Rows of unlike things share no block. -/
theorem own_two {w w' : World} {B n e m B' n' e' m' : Nat} {v v' : Value} {xs ys : List Value} (h : w.ownsRow B e m v n xs) (h' : w.ownsRow B' e' m' v' n' ys) (hne : e ≠ e') (hg : w.grownBy w' v'.ownBlock) : w'.ownsRow B e m v n xs :=
  ownN_keep h (fun k hk => hg.block k (h.lt k hk).2 (fun q => by
    rcases h.2 with ⟨rfl, _⟩ | ⟨g, cap, cur, rfl, _, hgc, _⟩
    · cases hk
    · rcases h'.2 with ⟨rfl, _⟩ | ⟨g', cap', cur', rfl, _, hgc', _⟩
      · cases q
      · cases hk
        cases q
        have := hgc.symm.trans hgc'
        injection this with this
        injection this with _ this
        exact hne this))
/-- An iterator is no row. -/
theorem own_iter {w : World} {B n e m k pos : Nat} {v : Value} {xs : List Value} {s : ByteArray} (h : w.ownsRow B e m v n xs) (hk : w.heap[k]? = some (.stringIter s pos)) : v.ownBlock ≠ some k := fun q => by
  rcases h.2 with ⟨rfl, _⟩ | ⟨g, cap, cur, rfl, _, hgc, _⟩
  · cases q
  · cases q
    have := hgc.symm.trans hk
    injection this with this
    cases this
set_option maxRecDepth 100000 in
set_option maxHeartbeats 4000000 in
theorem wwrite_any (q : Bool) (s : ByteArray) (hs : s.size ≤ 1048576) (hb : badU s.data.toList = s.size) (w : World) (tb : Tb w) :
    Calls Tryd.prog 23 #[.string (cdS q), .string s] w fun e w' => e = .returned (.string (bS (wrT q s.data.toList))) ∧ Below w.heap.size w w' := by
  have HTB : Hid (∀ wx, Below w.heap.size w wx → Tb wx) := fun wx h => tb.below h
  have HRM : Hid (∀ wx, Calls Tryd.prog 45 #[.string (cdS q)] wx fun e w' => e = .returned (.int .i64 (roW q : Nat)) ∧ w' = wx) := fun wx => wroom_any q wx
  have HW0 : Hid (Wst q s.data.toList 0 [] []) := Wst.start q _ (by rw [len_list]; exact hb)
  have hro : roW q ≤ 63 := by unfold roW; split <;> omega
  obtain ⟨cd, hcd⟩ : ∃ cd, cd = cdS q := ⟨_, rfl⟩
  have HCD : Hid (cd = cdS q) := hcd
  rw [← hcd] at HRM ⊢
  clear hcd tb hb
  have HIT : Hid ((w.iter s 0).heap[w.heap.size]? = some (.stringIter s 0)) := World.iter_heap w s 0
  have HBI : Hid (Below w.heap.size w (w.iter s 0)) := (Below.refl _ _).alloc (Nat.le_refl _) _
  go_enter Tryd.func23, Tryd.ntmps23
  go_wp2_with fail
  refine (HRM.out w).mono ?_
  rintro e w1 ⟨rfl, rfl⟩
  go_wp2_with fail
  go_loopw [5, 6, 7] (fun ov tv lv wr => ∃ (pos lf : Nat) (L : List (List UInt8)) (B : List UInt8), lv = .int .i64 (lf : Int) ∧ pos ≤ s.size ∧ L.length ≤ pos ∧ lf + coW q B = roW q ∧ Hid (Wst q s.data.toList pos L B) ∧
    Hid (wr.ownsRow (w1.heap.size + 1) 9 1 ov L.length (cellsS L)) ∧ Hid (wr.ownsRow (w1.heap.size + 1) 5 1 tv B.length (cellsB B)) ∧ Hid (wr.heap[w1.heap.size]? = some (.stringIter s pos)) ∧ Hid (Below w1.heap.size w1 wr)) (fun _ _ _ wr => s.size - wr.iterPos w1.heap.size)
  case atStart => exact ⟨0, roW q, [], [], rfl, Nat.zero_le _, Nat.le_refl _, by rw [coW_nil]; rfl, HW0.out, World.ownsRow_nil _ _ _ _, World.ownsRow_nil _ _ _ _, HIT.out, HBI.out⟩
  case round =>
    obtain ⟨pos, lf, L, B, rfl, hps, hLp, hlf, HW, HO, HT, HI, HB⟩ := hrel
    clear HIT HBI HW0
    have hib : w1.heap.size < wr.heap.size := (Array.getElem?_eq_some_iff.1 HI.out).1
    by_cases hp : pos < s.size
    · obtain ⟨aT, cpT, rfl, hbT, _, hnT, hcT, _⟩ := own_bts HT.out
      have hcT2 := own_cap HT.out
      obtain ⟨r, m, ho⟩ := oneN_all HW.out.whole (by rw [List.length_drop, len_list]; omega)
      have hdec := decode_one s pos r m ho
      have hr := (oneN_is ho).1
      have hr0 : (r.toNat : Int) = r := Int.toNat_of_nonneg hr.1
      have hm := (oneN_run _ r m ho)
      have hm1 := hm.1
      have hm2 := hm.2.1
      rw [List.length_drop, len_list] at hm1
      have hnx : ∀ ty, (Instr.next (.pointer (some ⟨w1.heap.size, 0, none⟩)) true ty).run Tryd.prog wr = .ok (.tuple #[.bool true, .int .i64 pos, .int .i32 r]) (wr.iterAt w1.heap.size s (pos + m)) := fun ty => by
        rw [Lib.run_next_any_at wr w1.heap.size s pos ty HI.out hp, hdec, hr0]
      obtain ⟨X, hX⟩ : ∃ X, X = Utf8.encode r := ⟨_, rfl⟩
      have hXl : X.data.toList = Lib.encodeRune r := by rw [hX, ← hr0, enc_list, hr0]
      have hXs : X.size = (Lib.encodeRune r).length := by rw [← len_list, hXl]
      have hel := encR_len r
      have hcr := coW_rune q r
      have hI2 : (wr.iterAt w1.heap.size s (pos + m)).heap[w1.heap.size]? = some (.stringIter s (pos + m)) := Lib.iterAt_heap _ _ s pos _ HI.out
      have hO2 : (wr.iterAt w1.heap.size s (pos + m)).ownsRow (w1.heap.size + 1) 9 1 u5 L.length (cellsS L) := ownN_keep HO.out (fun k hk => Lib.iterAt_other _ _ _ _ _ (fun e => own_iter HO.out HI.out (by rw [hk, e])))
      have hT2 : (wr.iterAt w1.heap.size s (pos + m)).ownsRow (w1.heap.size + 1) 5 1 (.slice aT B.length cpT) B.length (cellsB B) := ownN_keep HT.out (fun k hk => Lib.iterAt_other _ _ _ _ _ (fun e => own_iter HT.out HI.out (by rw [hk, e])))
      have hB2 : Below w1.heap.size w1 (wr.iterAt w1.heap.size s (pos + m)) := Lib.below_iterAt HB.out (Nat.le_refl _) _ _
      have hz2 : w1.heap.size < (wr.iterAt w1.heap.size s (pos + m)).heap.size := by rw [Lib.iterAt_size]; exact hib
      have HOLD : Hid (wr.iterPos w1.heap.size = pos) := by
        show _ = _
        simp only [World.iterPos, HI.out]
      generalize wr.iterAt w1.heap.size s (pos + m) = wi at *
      have HNB : Hid (∀ k, (u5 : Value).ownBlock = some k → k < wi.heap.size) := fun k hk => (hO2.lt k hk).2
      obtain ⟨c, w3, hcv, hrow, hc1, hc2, hb3, hz3, _⟩ := conv_bytes wi X
      have hcm : c ≤ 9223372036854775807 := by have := hc2 (by unfold maxLen; omega); unfold maxLen at this; omega
      have HBX : Hid (Bts (some ⟨wi.heap.size, 0, none⟩) (Lib.encodeRune r) w3) := .inr ⟨_, 0, rfl, hz3, by rw [← hXl]; exact hrow⟩
      have HB3 : Hid (Below w1.heap.size w1 w3) := hB2.trans (hb3.mono (by omega))
      have HCO := wcost_any q (some ⟨wi.heap.size, 0, none⟩) (Lib.encodeRune r) c X.size w3 hXs (HTB.out w3 HB3.out).cls HBX.out (by omega) hc1 hcm
      rw [← HCD.out] at HCO
      have HO3 : Hid (w3.ownsRow (w1.heap.size + 1) 9 1 u5 L.length (cellsS L)) := ownN_below hO2 hb3
      have HT3 : Hid (w3.ownsRow (w1.heap.size + 1) 5 1 (.slice aT B.length cpT) B.length (cellsB B)) := ownN_below hT2 hb3
      have HI3 : Hid (w3.heap[w1.heap.size]? = some (.stringIter s (pos + m))) := (hb3.block _ hz2).trans hI2
      have HXS : Hid (X.size = (Lib.encodeRune r).length) := hXs
      have hX4 : X.size ≤ 4 := by omega
      have hw3z : w1.heap.size < w3.heap.size := Nat.lt_of_lt_of_le hz2 hb3.size
      have hBl := (coW_le q B).2
      obtain ⟨co, hco⟩ : ∃ co, co = coW q (Lib.encodeRune r) := ⟨_, rfl⟩
      rw [← hco] at HCO hcr
      have HCC : Hid (co = coW q (Lib.encodeRune r)) := hco
      have HON : Hid (oneN (s.data.toList.drop pos) = some (r, m)) := ho
      have hwn : w1.heap.size < wi.heap.size := hz2
      clear hdec hr hr0 hm hXl hXs hel hI2 hO2 hT2 hB2 hz2 hrow hc1 hc2 hb3 hz3 hco ho HO HT HI HB
      subst hX
      have HBT3 : Hid (Bts aT B w3) := by
        obtain ⟨a9, c9, h9, hb9, _⟩ := own_bts HT3.out
        injection h9 with h9
        rw [← h9] at hb9
        exact hb9
      clear hbT
      by_cases hgt : lf < co
      · have hgi : ((co : Int) > (lf : Int)) := by omega
        have HWN : Hid (Wst q s.data.toList (pos + m) (L ++ [wrd q B]) (Lib.encodeRune r)) := HW.out.new HON.out (by rw [← HCC.out]; omega)
        go_wp2_with fail
        refine HCO.mono ?_
        rintro e w4 ⟨rfl, hb4⟩
        have HB4 : Hid (Below w1.heap.size w1 w4) := HB3.out.trans (hb4.mono (by omega))
        have HO4 : Hid (w4.ownsRow (w1.heap.size + 1) 9 1 u5 L.length (cellsS L)) := ownN_below HO3.out hb4
        have HT4 : Hid (w4.ownsRow (w1.heap.size + 1) 5 1 (.slice aT B.length cpT) B.length (cellsB B)) := ownN_below HT3.out hb4
        have HI4 : Hid (w4.heap[w1.heap.size]? = some (.stringIter s (pos + m))) := (hb4.block _ hw3z).trans HI3.out
        have HBX4 : Hid (Bts (some ⟨wi.heap.size, 0, none⟩) (Lib.encodeRune r) w4) := HBX.out.below hb4
        have HWD := wword_any q aT B cpT B.length w4 rfl (HTB.out w4 HB4.out).cls (HBT3.out.below hb4) (by omega) hcT hcT2
        rw [← HCD.out] at HWD
        have hz4 : w1.heap.size < w4.heap.size := Nat.lt_of_lt_of_le hw3z hb4.size
        clear hb4 HO3 HT3 HI3 HBX HCO HB3 HBT3
        go_wp2_with fail
        refine HWD.mono ?_
        rintro e w5 ⟨rfl, hb5⟩
        have HB5 : Hid (Below w1.heap.size w1 w5) := HB4.out.trans (hb5.mono (by omega))
        have HO5 : Hid (w5.ownsRow (w1.heap.size + 1) 9 1 u5 L.length (cellsS L)) := ownN_below HO4.out hb5
        have HT5 : Hid (w5.ownsRow (w1.heap.size + 1) 5 1 (.slice aT B.length cpT) B.length (cellsB B)) := ownN_below HT4.out hb5
        have HI5 : Hid (w5.heap[w1.heap.size]? = some (.stringIter s (pos + m))) := (hb5.block _ hz4).trans HI4.out
        have HBX5 : Hid (Bts (some ⟨wi.heap.size, 0, none⟩) (Lib.encodeRune r) w5) := HBX4.out.below hb5
        have hz5 : w1.heap.size < w5.heap.size := Nat.lt_of_lt_of_le hz4 hb5.size
        obtain ⟨Y, hY⟩ : ∃ Y : ByteArray, Y = ⟨(wrd q B).toArray⟩ := ⟨_, rfl⟩
        rw [← hY]
        have hYb : Y = bS (wrd q B) := hY
        have hcY : (w5.alloc (.cells #[.string Y] 9)).cell? ⟨w5.heap.size, 0, none⟩ = some (.string (bS (wrd q B))) := by rw [← hYb]; exact (Lies.new w5 #[.string Y] 9).cell 0
        have HCY : Hid ((w5.alloc (.cells #[.string Y] 9)).cell? ⟨w5.heap.size, 0, none⟩ = some (.string (bS (wrd q B)))) := hcY
        clear hb5 HO4 HT4 HI4 HBX4 HWD HB4 hY hYb hcY
        go_wp2_with (at_builtin; refine wpList_append_str rfl _ _ rfl (w1.heap.size + 1) _ L.length L rfl (ownN_below HO5.out ((Below.refl _ _).alloc (Nat.le_refl _) _)) w5.heap.size (wrd q B) 1 rfl HCY.out (by omega) (by simp; omega) ?_; intro v6 w6 ho6 hg6)
        have hg56 := grown_on (World.grownBy_alloc w5 (.cells #[.string Y] 9) (u5 : Value).ownBlock) hg6 (fun _ h => .inl h.symm)
        have HT6 : Hid (w6.ownsRow (w1.heap.size + 1) 5 1 (.slice aT B.length cpT) B.length (cellsB B)) := own_two HT5.out HO5.out (by decide) hg56
        have HO6 : Hid (w6.ownsRow (w1.heap.size + 1) 9 1 v6 (L ++ [wrd q B]).length (cellsS (L ++ [wrd q B]))) := by
          show World.ownsRow _ _ _ _ _ _ _
          rw [List.length_append]
          exact ho6
        have HI6 : Hid (w6.heap[w1.heap.size]? = some (.stringIter s (pos + m))) := (hg56.block _ hz5 (fun e => own_iter HO5.out HI5.out e.symm)).trans HI5.out
        have HB6 : Hid (Below w1.heap.size w1 w6) := HB5.out.grown hg56 (by omega) (fun k hk => Nat.le_trans (Nat.le_succ _) (HO5.out.lt k hk).1)
        have HBX6 : Hid (Bts (some ⟨wi.heap.size, 0, none⟩) (Lib.encodeRune r) w6) := by
          rcases HBX5.out with h | ⟨g, o, h, hg, hr⟩
          · exact .inl h
          · injection h with h
            injection h with h1 h2
            subst h1 h2
            refine .inr ⟨_, _, rfl, Nat.lt_of_lt_of_le hg hg56.size, fun j hj => ?_⟩
            exact (World.cell?_of_block (w := w5) (a := ⟨wi.heap.size, 0 + j, none⟩) (hg56.block _ hg (fun e => absurd (HNB.out _ e.symm) (Nat.lt_irrefl _)))).trans (hr j hj)
        have hT7 : w6.drew.ownsRow (w1.heap.size + 1) 5 1 (.slice aT 0 cpT) 0 (cellsB []) := own_empty (ownN_below HT6.out (Below.refl _ _).drew)
        have HT7 : Hid (w6.drew.ownsRow (w1.heap.size + 1) 5 1 (.slice aT 0 cpT) 0 (cellsB [])) := hT7
        have hz6 : w1.heap.size < w6.heap.size := Nat.lt_of_lt_of_le hz5 hg56.size
        clear hg6 ho6 hg56 hT7 HO5 HT5 HI5 HB5
        refine wp_region_late (fun wx => wx = w6.drew) 6 (by kernel_rfl) rfl (fun hHeld => ?_)
        refine wpAnyE_tk (i := 0) (d := some 34) (v := .slice aT B.length cpT) rfl (by kernel_rfl) (by kernel_rfl) (by kernel_rfl) rfl (fun _ _ _ h => h) rfl rfl ?hy (by first | assumption | exact hHeld) ?_
        case hy => (intro w' hSw; subst hSw; go_simp <;> (first | with_reducible rfl | omega | skip))
        simp only [Act.put, List.setIfInBounds_toArray, List.set_cons_zero, List.set_cons_succ]
        refine wpAnyE_tk (i := 2) (d := some 36) (v := .string cd) rfl (by kernel_rfl) (by kernel_rfl) (by kernel_rfl) rfl (fun _ _ _ h => h) rfl rfl ?hy (by first | assumption | exact hHeld) ?_
        case hy => (intro w' hSw; subst hSw; go_simp <;> (first | with_reducible rfl | omega | skip))
        simp only [Act.put, List.setIfInBounds_toArray, List.set_cons_zero, List.set_cons_succ]
        refine wpAnyE_tk (i := 1) (d := some 35) (v := .slice aT 0 cpT) rfl (by kernel_rfl) (by kernel_rfl) (by kernel_rfl) rfl (fun _ _ _ h => h) rfl rfl ?hy (by first | assumption | exact hHeld) ?_
        case hy => (intro w' hSw; subst hSw; go_simp <;> (first | with_reducible rfl | omega | skip))
        simp only [Act.put, List.setIfInBounds_toArray, List.set_cons_zero, List.set_cons_succ]
        refine wpAnyE_on (i := 3) (by kernel_rfl) rfl rfl ?_
        go_simp
        refine (HRM.out _).mono ?_
        rintro e wz ⟨rfl, rfl⟩
        refine ⟨rfl, ?_⟩
        refine wpAnyE_tk (i := 4) (d := some 6) (v := .slice aT 0 cpT) rfl (by kernel_rfl) (by kernel_rfl) (by kernel_rfl) rfl (fun _ _ _ h => h) rfl rfl ?hy (by first | assumption | exact hHeld) ?_
        case hy => (intro w' hSw; subst hSw; go_simp <;> (first | with_reducible rfl | omega | skip))
        simp only [Act.put, List.setIfInBounds_toArray, List.set_cons_zero, List.set_cons_succ]
        refine wpAnyE_tk (i := 5) (d := some 7) (v := .int .i64 (roW q : Nat)) rfl (by kernel_rfl) (by kernel_rfl) (by kernel_rfl) rfl (fun _ _ _ h => h) rfl rfl ?hy (by first | assumption | exact hHeld) ?_
        case hy => (intro w' hSw; subst hSw; go_simp <;> (first | with_reducible rfl | omega | skip))
        simp only [Act.put, List.setIfInBounds_toArray, List.set_cons_zero, List.set_cons_succ]
        refine wpAnyE_done (by kernel_rfl) ?_ _
        clear hHeld
        go_wp2_with (at_builtin; refine wpList_append_keep rfl _ _ rfl (w1.heap.size + 1) _ 0 [] rfl HT7.out (some ⟨wi.heap.size, 0, none⟩) (Lib.encodeRune r) _ c rfl HXS.out HBX6.out (fun e => by cases e) (by omega) (by show _ ≤ w6.heap.size; omega) ?_; intro v8 w8 ho8 hg8)
        have hO6d : w6.drew.ownsRow (w1.heap.size + 1) 9 1 v6 (L ++ [wrd q B]).length (cellsS (L ++ [wrd q B])) := ownN_below HO6.out (Below.refl _ _).drew
        have hO8 : w8.ownsRow (w1.heap.size + 1) 9 1 v6 (L ++ [wrd q B]).length (cellsS (L ++ [wrd q B])) := own_two hO6d HT7.out (by decide) hg8
        have hI8 : w8.heap[w1.heap.size]? = some (.stringIter s (pos + m)) := (hg8.block _ (by show _ < w6.heap.size; exact hz6) (fun e => own_iter HT7.out (show w6.drew.heap[w1.heap.size]? = some (.stringIter s (pos + m)) from HI6.out) e.symm)).trans HI6.out
        have hB8 : Below w1.heap.size w1 w8 := HB6.out.drew.grown hg8 (by show _ ≤ w6.heap.size; omega) (fun k hk => Nat.le_trans (Nat.le_succ _) (HT7.out.lt k hk).1)
        have hT8 : w8.ownsRow (w1.heap.size + 1) 5 1 v8 (Lib.encodeRune r).length (cellsB (Lib.encodeRune r)) := by
          have h := ho8
          rw [Nat.zero_add, HXS.out] at h
          exact h
        refine ⟨⟨pos + m, roW q - co, L ++ [wrd q B], Lib.encodeRune r, by congr 1; omega, by omega, by rw [List.length_append, List.length_singleton]; omega, by rw [← HCC.out]; omega, HWN.out, hO8, hT8, hI8, hB8⟩, ?_⟩
        rw [HOLD.out]
        simp only [World.iterPos, hI8]
        omega
      · have hgi : ¬ ((co : Int) > (lf : Int)) := by omega
        have HWN : Hid (Wst q s.data.toList (pos + m) L (B ++ Lib.encodeRune r)) := HW.out.on HON.out (by rw [← HCC.out]; omega)
        go_wp2_with fail
        refine HCO.mono ?_
        rintro e w4 ⟨rfl, hb4⟩
        have HB4 : Hid (Below w1.heap.size w1 w4) := HB3.out.trans (hb4.mono (by omega))
        have HO4 : Hid (w4.ownsRow (w1.heap.size + 1) 9 1 u5 L.length (cellsS L)) := ownN_below HO3.out hb4
        have HT4 : Hid (w4.ownsRow (w1.heap.size + 1) 5 1 (.slice aT B.length cpT) B.length (cellsB B)) := ownN_below HT3.out hb4
        have HI4 : Hid (w4.heap[w1.heap.size]? = some (.stringIter s (pos + m))) := (hb4.block _ hw3z).trans HI3.out
        have HBX4 : Hid (Bts (some ⟨wi.heap.size, 0, none⟩) (Lib.encodeRune r) w4) := HBX.out.below hb4
        have hz4 : w1.heap.size < w4.heap.size := Nat.lt_of_lt_of_le hw3z hb4.size
        clear hb4 HO3 HT3 HI3 HBX HCO HB3 HBT3
        go_wp2_with (at_builtin; refine wpList_append_keep rfl _ _ rfl (w1.heap.size + 1) _ B.length B rfl HT4.out (some ⟨wi.heap.size, 0, none⟩) (Lib.encodeRune r) _ c rfl HXS.out HBX4.out (fun e => by cases e) (by omega) (by omega) ?_; intro v6 w6 ho6 hg6)
        have hO6 : w6.ownsRow (w1.heap.size + 1) 9 1 u5 L.length (cellsS L) := own_two HO4.out HT4.out (by decide) hg6
        have hI6 : w6.heap[w1.heap.size]? = some (.stringIter s (pos + m)) := (hg6.block _ hz4 (fun e => own_iter HT4.out HI4.out e.symm)).trans HI4.out
        have hB6 : Below w1.heap.size w1 w6 := HB4.out.grown hg6 (by omega) (fun k hk => Nat.le_trans (Nat.le_succ _) (HT4.out.lt k hk).1)
        have hT6 : w6.ownsRow (w1.heap.size + 1) 5 1 v6 (B ++ Lib.encodeRune r).length (cellsB (B ++ Lib.encodeRune r)) := by
          rw [List.length_append, ← HXS.out]
          exact ho6
        refine ⟨⟨pos + m, lf - co, L, B ++ Lib.encodeRune r, by congr 1; omega, by omega, by omega, by rw [coW_app, ← HCC.out]; omega, HWN.out, hO6, hT6, hI6, hB6⟩, ?_⟩
        rw [HOLD.out]
        simp only [World.iterPos, hI6]
        omega
    · have hnx : ∀ ty, (Instr.next (.pointer (some ⟨w1.heap.size, 0, none⟩)) true ty).run Tryd.prog wr = .ok (.tuple #[.bool false]) wr := fun ty => Lib.run_next_end_at wr w1.heap.size s pos ty HI.out hp
      have hfin := HW.out.fin (by rw [len_list]; omega)
      have hsh := HW.out.sh
      have hrm := HW.out.room
      obtain ⟨aT, cpT, rfl, hbT, hlT, hnT, hcT, _⟩ := own_bts HT.out
      have hcT2 := own_cap HT.out
      have hBl := (coW_le q B).2
      by_cases hB0 : B = []
      · have hf2 : wrT q s.data.toList = jnW L := by unfold wrT; rw [hfin, if_pos hB0]
        have HF : Hid (wrT q s.data.toList = jnW L) := hf2
        have hJ := join_any HO.out hsh (by omega)
        have hBl0 : B.length = 0 := by rw [hB0]; rfl
        have hgt : ¬ (B.length : Int) > 0 := by omega
        clear hfin hsh hrm hlT hf2 hB0
        go_wp2_with fail
        refine hJ.mono ?_
        rintro e w2 ⟨rfl, hb2⟩
        go_wp2
        go_ret
        exact ⟨by rw [HF.out]; rfl, HB.out.trans (hb2.mono (by omega))⟩
      · have hf2 : wrT q s.data.toList = jnW (L ++ [wrd q B]) := by unfold wrT; rw [hfin, if_neg hB0]
        have HF : Hid (wrT q s.data.toList = jnW (L ++ [wrd q B])) := hf2
        have hBl0 : 0 < B.length := by
          rcases Nat.eq_zero_or_pos B.length with h | h
          · exact absurd (List.eq_nil_of_length_eq_zero h) hB0
          · exact h
        have hgt : (B.length : Int) > 0 := by omega
        have hsh2 : ∀ x ∈ L ++ [wrd q B], x.length ≤ 75 := fun x hx => by
          rcases List.mem_append.1 hx with hx | hx
          · exact hsh x hx
          · rw [List.mem_singleton] at hx
            rw [hx]
            exact wrd_len q B hrm
        have HSH : Hid (∀ x ∈ L ++ [wrd q B], x.length ≤ 75) := hsh2
        have HWD := wword_any q aT B cpT B.length wr rfl (HTB.out wr HB.out).cls hbT (by omega) hcT hcT2
        rw [← HCD.out] at HWD
        clear hfin hsh hrm hlT hf2 hB0 hsh2
        go_wp2_with fail
        refine HWD.mono ?_
        rintro e w5 ⟨rfl, hb5⟩
        have HB5 : Hid (Below w1.heap.size w1 w5) := HB.out.trans (hb5.mono (by omega))
        have HO5 : Hid (w5.ownsRow (w1.heap.size + 1) 9 1 u5 L.length (cellsS L)) := ownN_below HO.out hb5
        have hz5 : w1.heap.size < w5.heap.size := Nat.lt_of_lt_of_le hib hb5.size
        obtain ⟨Y, hY⟩ : ∃ Y : ByteArray, Y = ⟨(wrd q B).toArray⟩ := ⟨_, rfl⟩
        rw [← hY]
        have hYb : Y = bS (wrd q B) := hY
        have hcY : (w5.alloc (.cells #[.string Y] 9)).cell? ⟨w5.heap.size, 0, none⟩ = some (.string (bS (wrd q B))) := by rw [← hYb]; exact (Lies.new w5 #[.string Y] 9).cell 0
        have HCY : Hid ((w5.alloc (.cells #[.string Y] 9)).cell? ⟨w5.heap.size, 0, none⟩ = some (.string (bS (wrd q B)))) := hcY
        clear hb5 HWD hY hYb hcY hbT
        go_wp2_with (at_builtin; refine wpList_append_str rfl _ _ rfl (w1.heap.size + 1) _ L.length L rfl (ownN_below HO5.out ((Below.refl _ _).alloc (Nat.le_refl _) _)) w5.heap.size (wrd q B) 1 rfl HCY.out (by omega) (by simp; omega) ?_; intro v6 w6 ho6 hg6; apply Hid.out)
        unfold Hid
        have hg56 := grown_on (World.grownBy_alloc w5 (.cells #[.string Y] 9) (u5 : Value).ownBlock) hg6 (fun _ h => .inl h.symm)
        have hB6 : Below w1.heap.size w1 w6 := HB5.out.grown hg56 (by omega) (fun k hk => Nat.le_trans (Nat.le_succ _) (HO5.out.lt k hk).1)
        have hJ := join_any ho6 HSH.out (by omega)
        have HB6 : Hid (Below w1.heap.size w1 w6) := hB6
        clear hg56 hg6 ho6 hB6
        go_wp2_with fail
        refine hJ.mono ?_
        rintro e w7 ⟨rfl, hb7⟩
        go_wp2
        go_ret
        exact ⟨by rw [HF.out]; rfl, HB6.out.trans (hb7.mono HB6.out.size)⟩
end Go.Proofs.YtdgepnfgjgbkoaaDoor
