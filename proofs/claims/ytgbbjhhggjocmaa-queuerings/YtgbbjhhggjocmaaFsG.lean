/-
  Steps with a ring and the document's: second.
-/
import Derived.Test.YtgbbjhhggjocmaaPgG
import Derived.Test.YtgbbjhhggjocmaaLate8
namespace Go.Proofs.Ytgbbjhhggjocmaa
open Go.RowKit

theorem pgfinG {w wi wz : World} {p q y q' : Option Nat} {v v' : Value} {mo : Nat} {l' : List (Int × Int)} (hb : Below w.heap.size w wi) (hz : w.heap.size + 3 ≤ wi.heap.size) (hp : PgG wz p q' y v' mo l') (hc : Chg (Fp p q y v) wi wz) (hk : ∀ k, Fp p q' y v' k → Fp p q y v k ∨ wi.heap.size ≤ k) (hlt : ∀ k, Fp p q y v k → k < w.heap.size) (bv : Value) :
    ∃ q' v' l', PgG (wz.setCell ⟨w.heap.size + 2, 0, none⟩ bv) p q' y v' mo l' ∧ Chg (Fp p q y v) w (wz.setCell ⟨w.heap.size + 2, 0, none⟩ bv) ∧ ∀ k, Fp p q' y v' k → Fp p q y v k ∨ w.heap.size ≤ k := by
  refine ⟨q', v', l', hp.keep (fun k hf => Below.heap_setCell _ _ _ _ ?_), (((Chg.of_below hb).trans hc).set (p := ⟨w.heap.size + 2, 0, none⟩) (.inr (by show w.heap.size ≤ w.heap.size + 2; omega)) bv), fun k hf => (hk k hf).imp id (fun e => by omega)⟩
  show k ≠ w.heap.size + 2
  rcases hk k hf with e | e
  · have := hlt k e; omega
  · omega
set_option maxRecDepth 100000 in
set_option maxHeartbeats 4000000 in
theorem fsG_else (p q y : Option Nat) (v : Value) (mo : Nat) (l : List (Int × Int)) (who dd nn : Int) (id : Int) (w : World) (h : PgG w p q y v mo l) (h0 : dd ≠ 0) (h1 : dd ≠ 1) (h2 : dd ≠ 2) (h3 : dd ≠ 3) (h5 : dd ≠ 5) :
    Calls Try.prog 13 #[ptr p, ptr y, .agg #[.int .i64 who, .int .i64 dd, .int .i64 nn], .int .i64 id] w fun e w' => e = .returned (.bool true) ∧ ∃ q' v' l', PgG w' p q' y v' mo l' ∧ Chg (Fp p q y v) w w' ∧ ∀ k, Fp p q' y v' k → Fp p q y v k ∨ w.heap.size ≤ k := by
  obtain ⟨pa, hpa⟩ : ∃ pa, ptr p = .pointer pa := ⟨_, rfl⟩
  obtain ⟨ya, hya⟩ : ∃ ya, ptr y = .pointer ya := ⟨_, rfl⟩
  obtain ⟨wt, hwt⟩ : ∃ wt, wt = ((w.alloc (.cells #[.pointer ya] 32)).alloc (.cells #[.int .i64 who, .int .i64 dd, .int .i64 nn] 36)).alloc (.cells #[.bool true] 4) := ⟨_, rfl⟩
  have hb : Below w.heap.size w wt := by rw [hwt]; exact (((Below.refl _ w).alloc (Nat.le_refl _) _).alloc (by simp) _).alloc (by simp; omega) _
  have HF6 : Hid (Lies wt (w.heap.size + 2) #[.bool true] 4) := by
    rw [hwt]
    have e2 := Lies.new ((w.alloc (.cells #[.pointer ya] 32)).alloc (.cells #[.int .i64 who, .int .i64 dd, .int .i64 nn] 36)) #[.bool true] 4
    simp only [World.size_alloc] at e2
    exact e2
  have HFN : Hid (∃ q' v' l', PgG wt p q' y v' mo l' ∧ Chg (Fp p q y v) w wt ∧ ∀ k, Fp p q' y v' k → Fp p q y v k ∨ w.heap.size ≤ k) := ⟨q, v, l, h.below hb, Chg.of_below hb, fun k hk => .inl hk⟩
  have HWT : Hid (((w.alloc (.cells #[.pointer ya] 32)).alloc (.cells #[.int .i64 who, .int .i64 dd, .int .i64 nn] 36)).alloc (.cells #[.bool true] 4) = wt) := hwt.symm
  rw [hpa, hya]
  clear h hwt hpa hya hb
  go_enter Try.func13, Try.ntmps13
  go_wp2
  rw [HWT.out]
  have hc6 := HF6.out.cell 0
  simp only [List.getElem?_toArray, List.getElem?_cons_zero] at hc6
  refine bodyPost_ret (v := .bool true) ?_ rfl ⟨rfl, HFN.out⟩
  refine (?_ : ∀ wx : World, wx.cell? ⟨w.heap.size + 2, 0, none⟩ = some (.bool true) → (results Try.f13 _).run Try.prog wx = .ok (.bool true) wx) _ hc6
  intro wx h
  simp [results, Try.results13, go_sem, h]
set_option maxRecDepth 100000 in
set_option maxHeartbeats 4000000 in
theorem fsG_0 (p q y : Option Nat) (v : Value) (mo : Nat) (l : List (Int × Int)) (who nn : Int) (id : Int) (w : World) (h : PgG w p q y v mo l) :
    Calls Try.prog 13 #[ptr p, ptr y, .agg #[.int .i64 who, .int .i64 0, .int .i64 nn], .int .i64 id] w fun e w' => e = .returned (.bool true) ∧ ∃ q' v' l', PgG w' p q' y v' mo l' ∧ Chg (Fp p q y v) w w' ∧ ∀ k, Fp p q' y v' k → Fp p q y v k ∨ w.heap.size ≤ k := by
  obtain ⟨pa, hpa⟩ : ∃ pa, ptr p = .pointer pa := ⟨_, rfl⟩
  obtain ⟨ya, hya⟩ : ∃ ya, ptr y = .pointer ya := ⟨_, rfl⟩
  obtain ⟨wi, hwi⟩ : ∃ wi, wi = ((w.alloc (.cells #[.pointer ya] 32)).alloc (.cells #[.int .i64 who, .int .i64 0, .int .i64 nn] 36)).alloc (.cells #[.bool false] 4) := ⟨_, rfl⟩
  have HL : Hid (Lies wi w.heap.size #[.pointer ya] 32 ∧ Lies wi (w.heap.size + 1) #[.int .i64 who, .int .i64 0, .int .i64 nn] 36 ∧ Lies wi (w.heap.size + 2) #[.bool false] 4 ∧ Below w.heap.size w wi ∧ wi.heap.size = w.heap.size + 3) := by
    rw [hwi]
    have e1 := Lies.new (w.alloc (.cells #[.pointer ya] 32)) #[.int .i64 who, .int .i64 0, .int .i64 nn] 36
    have e2 := Lies.new ((w.alloc (.cells #[.pointer ya] 32)).alloc (.cells #[.int .i64 who, .int .i64 0, .int .i64 nn] 36)) #[.bool false] 4
    simp only [World.size_alloc] at e1 e2
    exact ⟨((Lies.new w _ _).alloc _).alloc _, e1.alloc _, e2, (((Below.refl _ w).alloc (Nat.le_refl _) _).alloc (by simp) _).alloc (by simp; omega) _, by simp [World.size_alloc]⟩
  have HP : Hid (PgG wi p q y v mo l) := h.below HL.out.2.2.2.1
  have HLT : Hid (∀ k, Fp p q y v k → k < w.heap.size) := h.lt
  have HWI : Hid (((w.alloc (.cells #[.pointer ya] 32)).alloc (.cells #[.int .i64 who, .int .i64 0, .int .i64 nn] 36)).alloc (.cells #[.bool false] 4) = wi) := hwi.symm
  rw [hpa, hya]
  have y0 : wi.cell? ⟨w.heap.size, 0, none⟩ = some (.pointer ya) := HL.out.1.cell 0
  have o1 : wi.cell? ⟨w.heap.size + 1, 1, none⟩ = some (.int .i64 0) := HL.out.2.1.cell 1
  have o2 : wi.cell? ⟨w.heap.size + 1, 2, none⟩ = some (.int .i64 nn) := HL.out.2.1.cell 2
  have r0 : wi.cell? ⟨w.heap.size + 2, 0, none⟩ = some (.bool false) := HL.out.2.2.1.cell 0
  have z0 := HL.out.2.2.1.frozen 0
  have HPU : Hid (∀ wx, PgG wx p q y v mo l → Calls Try.prog 45 #[.pointer pa, .agg #[.int .i64 nn, .int .i64 id]] wx fun e w' => e = .returned (.int .i64 (pushE mo l.length)) ∧ ∃ q', RgG w' p q' mo (pushLG mo l (nn, id)) ∧ Chg (Fq p q) wx w' ∧ (∀ k, q' = some k → q = some k ∨ wx.heap.size ≤ k)) := fun wx h => by rw [← hpa]; exact pushG_any p q mo l (nn, id) wx h.rg
  have HRU : Hid (∀ wx, Gr wx y mo (embG l) v → Calls Try.prog 33 #[.pointer ya, .agg #[.int .i64 nn, .int .i64 id]] wx fun e w' => e = .returned (.int .i64 (pushE mo l.length)) ∧ ∃ v', Gr w' y mo (embG (pushLG mo l (nn, id))) v' ∧ Chg (Fr y v) wx w' ∧ (∀ k, v'.ownBlock = some k → v.ownBlock = some k ∨ wx.heap.size ≤ k)) := fun wx h => by rw [← hya]; have := rpush_any y mo (embG l) v (tkG (nn, id)) wx h; rw [embG_push, embG_len] at this; exact this
  obtain ⟨wj, hwj⟩ : ∃ wj, wj = wi.alloc (.cells #[.int .i64 nn, .int .i64 id] 31) := ⟨_, rfl⟩
  have hbj : Below wi.heap.size wi wj := by rw [hwj]; exact (Below.refl _ _).alloc (Nat.le_refl _) _
  have HX : Hid (Lies wj (w.heap.size + 3) #[.int .i64 nn, .int .i64 id] 31) := by rw [hwj, ← HL.out.2.2.2.2]; exact Lies.new wi _ _
  have HWJ : Hid (wi.alloc (.cells #[.int .i64 nn, .int .i64 id] 31) = wj) := hwj.symm
  have HZI : Hid (wi.heap.size = w.heap.size + 3) := HL.out.2.2.2.2
  have HPJ : Hid (PgG wj p q y v mo l) := HP.out.below hbj
  have HLJ : Hid (Lies wj w.heap.size #[.pointer ya] 32 ∧ Lies wj (w.heap.size + 2) #[.bool false] 4 ∧ Below w.heap.size w wj ∧ w.heap.size + 3 ≤ wj.heap.size) := ⟨HL.out.1.below hbj HL.out.1.lt, HL.out.2.2.1.below hbj HL.out.2.2.1.lt, HL.out.2.2.2.1.trans (hbj.mono HL.out.2.2.2.1.size), by have := HX.out.lt; omega⟩
  clear hwj hbj
  clear h hwi hpa hya
  go_enter Try.func13, Try.ntmps13
  go_wp2_with fail
  rw [HWI.out, HWJ.out]
  refine wp_region_late (fun wx => wx.cell? ⟨w.heap.size + 3, 0, none⟩ = some (.int .i64 nn) ∧ wx.cell? ⟨w.heap.size + 3, 1, none⟩ = some (.int .i64 id) ∧ wx.cell? ⟨w.heap.size, 0, none⟩ = some (.pointer ya)) 8 (by kernel_rfl) ⟨HX.out.cell 0, HX.out.cell 1, HLJ.out.1.cell 0⟩ (fun hHeld => ?_)
  refine wpAnyE_tk (i := 0) (d := some 31) (v := ?_) rfl (by kernel_rfl) (by kernel_rfl) (by kernel_rfl) rfl (fun _ _ _ h => h) rfl rfl ?hy (by first | assumption | go_simp) ?_
  case hy => (intro w' hSw; (try dsimp only at hSw); go_simp <;> (first | with_reducible rfl | omega | skip))
  simp only [Act.put, List.setIfInBounds_toArray, List.set_cons_zero, List.set_cons_succ]
  refine wpAnyE_tk (i := 1) (d := some 32) (v := .agg #[.int .i64 nn, .int .i64 id]) rfl (by kernel_rfl) (by kernel_rfl) (by kernel_rfl) rfl (fun _ _ _ h => h) rfl rfl ?hy (by first | assumption | go_simp) ?_
  case hy => (intro w' hSw; (try dsimp only at hSw); go_simp <;> (first | with_reducible rfl | omega | skip))
  simp only [Act.put, List.setIfInBounds_toArray, List.set_cons_zero, List.set_cons_succ]
  refine wpAnyE_tk (i := 3) (d := some 34) (v := ?_) rfl (by kernel_rfl) (by kernel_rfl) (by kernel_rfl) rfl (fun _ _ _ h => h) rfl rfl ?hy (by first | assumption | go_simp) ?_
  case hy => (intro w' hSw; (try dsimp only at hSw); go_simp <;> (first | with_reducible rfl | omega | skip))
  simp only [Act.put, List.setIfInBounds_toArray, List.set_cons_zero, List.set_cons_succ]
  refine wpAnyE_tk (i := 4) (d := some 35) (v := .agg #[.int .i64 nn, .int .i64 id]) rfl (by kernel_rfl) (by kernel_rfl) (by kernel_rfl) rfl (fun _ _ _ h => h) rfl rfl ?hy (by first | assumption | go_simp) ?_
  case hy => (intro w' hSw; (try dsimp only at hSw); go_simp <;> (first | with_reducible rfl | omega | skip))
  simp only [Act.put, List.setIfInBounds_toArray, List.set_cons_zero, List.set_cons_succ]
  refine wpAnyE_on (i := 2) (by kernel_rfl) rfl rfl ?_
  go_simp
  refine Calls.mono (HPU.out _ (HPJ.out.below (below_drewN wj 1))) ?_
  rintro e w3 ⟨rfl, q3, r3, c3, n3⟩
  have l4a := c3.lies (HLJ.out.1.drewN 1) (fun hk => by have := HLT.out _ (.inl hk); omega)
  have l5a := c3.lies (HX.out.drewN 1) (fun hk => by have := HLT.out _ (.inl hk); omega)
  have l6a := c3.lies (HLJ.out.2.1.drewN 1) (fun hk => by have := HLT.out _ (.inl hk); omega)
  refine ⟨⟨l5a.cell 0, l5a.cell 1, l4a.cell 0⟩, ?_⟩
  refine wpAnyE_on (i := 5) (by kernel_rfl) rfl rfl ?_
  go_simp
  refine Calls.mono (HRU.out w3 (PgG.mid (HPJ.out.below (below_drewN wj 1)) c3 (Below.refl _ _))) ?_
  rintro e wz ⟨rfl, v4, r4, c4, n4⟩
  have l4b := c4.lies l4a (fun hk => by have := HLT.out _ (.inr hk); omega)
  have l5b := c4.lies l5a (fun hk => by have := HLT.out _ (.inr hk); omega)
  have l6b := c4.lies l6a (fun hk => by have := HLT.out _ (.inr hk); omega)
  obtain ⟨p1, p2, p3⟩ := PgG.both (HPJ.out.below (below_drewN wj 1)) r3 c3 n3 (Below.refl _ _) r4 c4 n4
  have HFN : Hid (∃ q' v' l', PgG (wz.setCell ⟨w.heap.size + 2, 0, none⟩ (.bool true)) p q' y v' mo l' ∧ Chg (Fp p q y v) w (wz.setCell ⟨w.heap.size + 2, 0, none⟩ (.bool true)) ∧ ∀ k, Fp p q' y v' k → Fp p q y v k ∨ w.heap.size ≤ k) := pgfinG (HLJ.out.2.2.1.trans (below_drewN wj 1 |>.mono HLJ.out.2.2.1.size)) (by have := HLJ.out.2.2.2; exact this) p1 p2 p3 HLT.out _
  have HF6 : Hid (Lies (wz.setCell ⟨w.heap.size + 2, 0, none⟩ (.bool true)) (w.heap.size + 2) #[.bool true] 4) := l6b.set 0 _
  have r0b : wz.cell? ⟨w.heap.size + 2, 0, none⟩ = some (.bool false) := l6b.cell 0
  have z0b := l6b.frozen 0
  have hSb : wz.cell? ⟨w.heap.size + 3, 0, none⟩ = some (.int .i64 nn) ∧ wz.cell? ⟨w.heap.size + 3, 1, none⟩ = some (.int .i64 id) ∧ wz.cell? ⟨w.heap.size, 0, none⟩ = some (.pointer ya) := ⟨l5b.cell 0, l5b.cell 1, l4b.cell 0⟩
  refine ⟨hSb, ?_⟩
  clear r3 c3 n3 r4 c4 n4 p1 p2 p3
  refine wpAnyE_on (i := 6) (by kernel_rfl) rfl rfl ?_
  go_simp
  refine wpAnyE_on (i := 7) (by kernel_rfl) rfl rfl ?_
  go_simp
  first | refine wpAnyE_done (by kernel_rfl) ?_ _ | refine ⟨SF, wpAnyE_done (by kernel_rfl) ?_ _⟩
  go_wp2
  have hc6 := HF6.out.cell 0
  simp only [List.getElem?_toArray, List.getElem?_cons_zero] at hc6
  refine bodyPost_ret (v := .bool true) ?_ rfl ⟨rfl, HFN.out⟩
  refine (?_ : ∀ wx : World, wx.cell? ⟨w.heap.size + 2, 0, none⟩ = some (.bool true) → (results Try.f13 _).run Try.prog wx = .ok (.bool true) wx) _ hc6
  intro wx h
  simp [results, Try.results13, go_sem, h]
set_option maxRecDepth 100000 in
set_option maxHeartbeats 4000000 in
theorem fsG_3 (p q y : Option Nat) (v : Value) (mo : Nat) (l : List (Int × Int)) (who nn : Int) (id : Int) (w : World) (h : PgG w p q y v mo l) :
    Calls Try.prog 13 #[ptr p, ptr y, .agg #[.int .i64 who, .int .i64 3, .int .i64 nn], .int .i64 id] w fun e w' => e = .returned (.bool true) ∧ ∃ q' v' l', PgG w' p q' y v' mo l' ∧ Chg (Fp p q y v) w w' ∧ ∀ k, Fp p q' y v' k → Fp p q y v k ∨ w.heap.size ≤ k := by
  obtain ⟨pa, hpa⟩ : ∃ pa, ptr p = .pointer pa := ⟨_, rfl⟩
  obtain ⟨ya, hya⟩ : ∃ ya, ptr y = .pointer ya := ⟨_, rfl⟩
  obtain ⟨wi, hwi⟩ : ∃ wi, wi = ((w.alloc (.cells #[.pointer ya] 32)).alloc (.cells #[.int .i64 who, .int .i64 3, .int .i64 nn] 36)).alloc (.cells #[.bool false] 4) := ⟨_, rfl⟩
  have HL : Hid (Lies wi w.heap.size #[.pointer ya] 32 ∧ Lies wi (w.heap.size + 1) #[.int .i64 who, .int .i64 3, .int .i64 nn] 36 ∧ Lies wi (w.heap.size + 2) #[.bool false] 4 ∧ Below w.heap.size w wi ∧ wi.heap.size = w.heap.size + 3) := by
    rw [hwi]
    have e1 := Lies.new (w.alloc (.cells #[.pointer ya] 32)) #[.int .i64 who, .int .i64 3, .int .i64 nn] 36
    have e2 := Lies.new ((w.alloc (.cells #[.pointer ya] 32)).alloc (.cells #[.int .i64 who, .int .i64 3, .int .i64 nn] 36)) #[.bool false] 4
    simp only [World.size_alloc] at e1 e2
    exact ⟨((Lies.new w _ _).alloc _).alloc _, e1.alloc _, e2, (((Below.refl _ w).alloc (Nat.le_refl _) _).alloc (by simp) _).alloc (by simp; omega) _, by simp [World.size_alloc]⟩
  have HP : Hid (PgG wi p q y v mo l) := h.below HL.out.2.2.2.1
  have HLT : Hid (∀ k, Fp p q y v k → k < w.heap.size) := h.lt
  have HWI : Hid (((w.alloc (.cells #[.pointer ya] 32)).alloc (.cells #[.int .i64 who, .int .i64 3, .int .i64 nn] 36)).alloc (.cells #[.bool false] 4) = wi) := hwi.symm
  rw [hpa, hya]
  have y0 : wi.cell? ⟨w.heap.size, 0, none⟩ = some (.pointer ya) := HL.out.1.cell 0
  have o1 : wi.cell? ⟨w.heap.size + 1, 1, none⟩ = some (.int .i64 3) := HL.out.2.1.cell 1
  have o2 : wi.cell? ⟨w.heap.size + 1, 2, none⟩ = some (.int .i64 nn) := HL.out.2.1.cell 2
  have r0 : wi.cell? ⟨w.heap.size + 2, 0, none⟩ = some (.bool false) := HL.out.2.2.1.cell 0
  have z0 := HL.out.2.2.1.frozen 0
  have HDU : Hid (∀ wx, PgG wx p q y v mo l → Calls Try.prog 48 #[.pointer pa, .int .i64 nn] wx fun e w' => e = .returned (.int .i64 (dropN l.length nn : Int)) ∧ RgG w' p q mo (l.drop (dropN l.length nn)) ∧ Chg (Fq p q) wx w') := fun wx h => by rw [← hpa]; exact dropG_any p q mo l nn wx h.rg _ rfl
  have HRD : Hid (∀ wx, Gr wx y mo (embG l) v → Calls Try.prog 35 #[.pointer ya, .int .i64 nn] wx fun e w' => e = .returned (.int .i64 (dropN l.length nn : Int)) ∧ ∃ v', Gr w' y mo (embG (l.drop (dropN l.length nn))) v' ∧ Chg (Fr y v) wx w' ∧ (∀ k, v'.ownBlock = some k → v.ownBlock = some k ∨ wx.heap.size ≤ k)) := fun wx h => by rw [← hya]; have := rdrop_any y mo (embG l) v nn wx h _ rfl; rw [embG_len, embG_drop] at this; exact this
  clear h hwi hpa hya
  go_enter Try.func13, Try.ntmps13
  go_wp2_with fail
  rw [HWI.out]
  refine wp_region_late (fun wx => wx.cell? ⟨w.heap.size + 1, 2, none⟩ = some (.int .i64 nn) ∧ wx.cell? ⟨w.heap.size, 0, none⟩ = some (.pointer ya)) 10 (by kernel_rfl) ⟨o2, y0⟩ (fun hHeld => ?_)
  refine wpAnyE_tk (i := 0) (d := some 84) (v := ?_) rfl (by kernel_rfl) (by kernel_rfl) (by kernel_rfl) rfl (fun _ _ _ h => h) rfl rfl ?hy (by first | assumption | go_simp) ?_
  case hy => (intro w' hSw; (try dsimp only at hSw); go_simp <;> (first | with_reducible rfl | omega | skip))
  simp only [Act.put, List.setIfInBounds_toArray, List.set_cons_zero, List.set_cons_succ]
  refine wpAnyE_tk (i := 1) (d := some 85) (v := ?_) rfl (by kernel_rfl) (by kernel_rfl) (by kernel_rfl) rfl (fun _ _ _ h => h) rfl rfl ?hy (by first | assumption | go_simp) ?_
  case hy => (intro w' hSw; (try dsimp only at hSw); go_simp <;> (first | with_reducible rfl | omega | skip))
  simp only [Act.put, List.setIfInBounds_toArray, List.set_cons_zero, List.set_cons_succ]
  refine wpAnyE_tk (i := 2) (d := some 86) (v := ?_) rfl (by kernel_rfl) (by kernel_rfl) (by kernel_rfl) rfl (fun _ _ _ h => h) rfl rfl ?hy (by first | assumption | go_simp) ?_
  case hy => (intro w' hSw; (try dsimp only at hSw); go_simp <;> (first | with_reducible rfl | omega | skip))
  simp only [Act.put, List.setIfInBounds_toArray, List.set_cons_zero, List.set_cons_succ]
  refine wpAnyE_tk (i := 4) (d := some 88) (v := ?_) rfl (by kernel_rfl) (by kernel_rfl) (by kernel_rfl) rfl (fun _ _ _ h => h) rfl rfl ?hy (by first | assumption | go_simp) ?_
  case hy => (intro w' hSw; (try dsimp only at hSw); go_simp <;> (first | with_reducible rfl | omega | skip))
  simp only [Act.put, List.setIfInBounds_toArray, List.set_cons_zero, List.set_cons_succ]
  refine wpAnyE_tk (i := 5) (d := some 89) (v := ?_) rfl (by kernel_rfl) (by kernel_rfl) (by kernel_rfl) rfl (fun _ _ _ h => h) rfl rfl ?hy (by first | assumption | go_simp) ?_
  case hy => (intro w' hSw; (try dsimp only at hSw); go_simp <;> (first | with_reducible rfl | omega | skip))
  simp only [Act.put, List.setIfInBounds_toArray, List.set_cons_zero, List.set_cons_succ]
  refine wpAnyE_tk (i := 6) (d := some 90) (v := ?_) rfl (by kernel_rfl) (by kernel_rfl) (by kernel_rfl) rfl (fun _ _ _ h => h) rfl rfl ?hy (by first | assumption | go_simp) ?_
  case hy => (intro w' hSw; (try dsimp only at hSw); go_simp <;> (first | with_reducible rfl | omega | skip))
  simp only [Act.put, List.setIfInBounds_toArray, List.set_cons_zero, List.set_cons_succ]
  refine wpAnyE_on (i := 3) (by kernel_rfl) rfl rfl ?_
  go_simp
  refine Calls.mono (HDU.out _ (HP.out.below (below_drewN wi 1))) ?_
  rintro e w3 ⟨rfl, r3, c3⟩
  have l4a := c3.lies (HL.out.1.drewN 1) (fun hk => by have := HLT.out _ (.inl hk); omega)
  have l5a := c3.lies (HL.out.2.1.drewN 1) (fun hk => by have := HLT.out _ (.inl hk); omega)
  have l6a := c3.lies (HL.out.2.2.1.drewN 1) (fun hk => by have := HLT.out _ (.inl hk); omega)
  refine ⟨⟨l5a.cell 2, l4a.cell 0⟩, ?_⟩
  refine wpAnyE_on (i := 7) (by kernel_rfl) rfl rfl ?_
  go_simp
  refine Calls.mono (HRD.out w3 (PgG.mid (HP.out.below (below_drewN wi 1)) c3 (Below.refl _ _))) ?_
  rintro e wz ⟨rfl, v4, r4, c4, n4⟩
  have l4b := c4.lies l4a (fun hk => by have := HLT.out _ (.inr hk); omega)
  have l5b := c4.lies l5a (fun hk => by have := HLT.out _ (.inr hk); omega)
  have l6b := c4.lies l6a (fun hk => by have := HLT.out _ (.inr hk); omega)
  obtain ⟨p1, p2, p3⟩ := PgG.both (HP.out.below (below_drewN wi 1)) r3 c3 (fun k hk => .inl hk) (Below.refl _ _) r4 c4 n4
  have HFN : Hid (∃ q' v' l', PgG (wz.setCell ⟨w.heap.size + 2, 0, none⟩ (.bool true)) p q' y v' mo l' ∧ Chg (Fp p q y v) w (wz.setCell ⟨w.heap.size + 2, 0, none⟩ (.bool true)) ∧ ∀ k, Fp p q' y v' k → Fp p q y v k ∨ w.heap.size ≤ k) := pgfinG (HL.out.2.2.2.1.trans (below_drewN wi 1 |>.mono HL.out.2.2.2.1.size)) (by have := HL.out.2.2.2.2; show _ ≤ wi.heap.size; omega) p1 p2 p3 HLT.out _
  have HF6 : Hid (Lies (wz.setCell ⟨w.heap.size + 2, 0, none⟩ (.bool true)) (w.heap.size + 2) #[.bool true] 4) := l6b.set 0 _
  have r0b : wz.cell? ⟨w.heap.size + 2, 0, none⟩ = some (.bool false) := l6b.cell 0
  have z0b := l6b.frozen 0
  have hSb : wz.cell? ⟨w.heap.size + 1, 2, none⟩ = some (.int .i64 nn) ∧ wz.cell? ⟨w.heap.size, 0, none⟩ = some (.pointer ya) := ⟨l5b.cell 2, l4b.cell 0⟩
  refine ⟨hSb, ?_⟩
  clear r3 c3 r4 c4 n4 p1 p2 p3
  refine wpAnyE_on (i := 8) (by kernel_rfl) rfl rfl ?_
  go_simp
  refine wpAnyE_on (i := 9) (by kernel_rfl) rfl rfl ?_
  go_simp
  first | refine wpAnyE_done (by kernel_rfl) ?_ _ | refine ⟨SF, wpAnyE_done (by kernel_rfl) ?_ _⟩
  go_wp2
  have hc6 := HF6.out.cell 0
  simp only [List.getElem?_toArray, List.getElem?_cons_zero] at hc6
  refine bodyPost_ret (v := .bool true) ?_ rfl ⟨rfl, HFN.out⟩
  refine (?_ : ∀ wx : World, wx.cell? ⟨w.heap.size + 2, 0, none⟩ = some (.bool true) → (results Try.f13 _).run Try.prog wx = .ok (.bool true) wx) _ hc6
  intro wx h
  simp [results, Try.results13, go_sem, h]
set_option maxRecDepth 100000 in
set_option maxHeartbeats 4000000 in
theorem fsG_1 (p q y : Option Nat) (v : Value) (mo : Nat) (l : List (Int × Int)) (who nn : Int) (id : Int) (w : World) (h : PgG w p q y v mo l) :
    Calls Try.prog 13 #[ptr p, ptr y, .agg #[.int .i64 who, .int .i64 1, .int .i64 nn], .int .i64 id] w fun e w' => e = .returned (.bool true) ∧ ∃ q' v' l', PgG w' p q' y v' mo l' ∧ Chg (Fp p q y v) w w' ∧ ∀ k, Fp p q' y v' k → Fp p q y v k ∨ w.heap.size ≤ k := by
  obtain ⟨pa, hpa⟩ : ∃ pa, ptr p = .pointer pa := ⟨_, rfl⟩
  obtain ⟨ya, hya⟩ : ∃ ya, ptr y = .pointer ya := ⟨_, rfl⟩
  obtain ⟨wi, hwi⟩ : ∃ wi, wi = ((w.alloc (.cells #[.pointer ya] 32)).alloc (.cells #[.int .i64 who, .int .i64 1, .int .i64 nn] 36)).alloc (.cells #[.bool false] 4) := ⟨_, rfl⟩
  have HL : Hid (Lies wi w.heap.size #[.pointer ya] 32 ∧ Lies wi (w.heap.size + 1) #[.int .i64 who, .int .i64 1, .int .i64 nn] 36 ∧ Lies wi (w.heap.size + 2) #[.bool false] 4 ∧ Below w.heap.size w wi ∧ wi.heap.size = w.heap.size + 3) := by
    rw [hwi]
    have e1 := Lies.new (w.alloc (.cells #[.pointer ya] 32)) #[.int .i64 who, .int .i64 1, .int .i64 nn] 36
    have e2 := Lies.new ((w.alloc (.cells #[.pointer ya] 32)).alloc (.cells #[.int .i64 who, .int .i64 1, .int .i64 nn] 36)) #[.bool false] 4
    simp only [World.size_alloc] at e1 e2
    exact ⟨((Lies.new w _ _).alloc _).alloc _, e1.alloc _, e2, (((Below.refl _ w).alloc (Nat.le_refl _) _).alloc (by simp) _).alloc (by simp; omega) _, by simp [World.size_alloc]⟩
  have HP : Hid (PgG wi p q y v mo l) := h.below HL.out.2.2.2.1
  have HLT : Hid (∀ k, Fp p q y v k → k < w.heap.size) := h.lt
  have HWI : Hid (((w.alloc (.cells #[.pointer ya] 32)).alloc (.cells #[.int .i64 who, .int .i64 1, .int .i64 nn] 36)).alloc (.cells #[.bool false] 4) = wi) := hwi.symm
  rw [hpa, hya]
  have y0 : wi.cell? ⟨w.heap.size, 0, none⟩ = some (.pointer ya) := HL.out.1.cell 0
  have o1 : wi.cell? ⟨w.heap.size + 1, 1, none⟩ = some (.int .i64 1) := HL.out.2.1.cell 1
  have o2 : wi.cell? ⟨w.heap.size + 1, 2, none⟩ = some (.int .i64 nn) := HL.out.2.1.cell 2
  have r0 : wi.cell? ⟨w.heap.size + 2, 0, none⟩ = some (.bool false) := HL.out.2.2.1.cell 0
  have z0 := HL.out.2.2.1.frozen 0
  obtain ⟨x, hx⟩ : ∃ x, x = tkG (l.headD (0, 0)) := ⟨_, rfl⟩
  obtain ⟨bb, hbb⟩ : ∃ bb, bb = (!l.isEmpty) := ⟨_, rfl⟩
  have H1 : Hid (∀ wx, PgG wx p q y v mo l → Calls Try.prog 46 #[.pointer pa] wx fun e w' => e = .returned (.tuple #[.agg #[.int .i64 x.1, .int .i64 x.2], .bool bb]) ∧ RgG w' p q mo l.tail ∧ Chg (Fq p q) wx w') := fun wx h => by rw [← hpa, hbb, hx]; exact popG_any p q mo l wx h.rg
  have H2 : Hid (∀ wx, Gr wx y mo (embG l) v → Calls Try.prog 43 #[.pointer ya] wx fun e w' => e = .returned (.tuple #[.agg #[.int .i64 x.1, .int .i64 x.2], .bool bb]) ∧ ∃ v', Gr w' y mo (embG l.tail) v' ∧ Chg (Fr y v) wx w' ∧ (∀ k, v'.ownBlock = some k → v.ownBlock = some k ∨ wx.heap.size ≤ k)) := fun wx h => by rw [← hya]; have := rpop_any y mo (embG l) v wx h; rw [show (embG l).headD (0, 0) = tkG (l.headD (0, 0)) by cases l <;> rfl, show (embG l).isEmpty = l.isEmpty by cases l <;> rfl, show (embG l).tail = embG l.tail by cases l <;> rfl, ← hx, ← hbb] at this; exact this
  clear h hwi hpa hya hx hbb
  go_enter Try.func13, Try.ntmps13
  go_wp2_with (first
    | (go_at_call 46; rw [HWI.out]; refine (H1.out _ HP.out).mono ?_; clear H1; rintro e w3 ⟨rfl, r3, c3⟩; have l4a := ((c3.lies HL.out.1 (fun hk => by have := HLT.out _ (.inl hk); omega)).alloc (.cells #[.int .i64 x.1, .int .i64 x.2] 31)); have l5a := ((c3.lies HL.out.2.1 (fun hk => by have := HLT.out _ (.inl hk); omega)).alloc (.cells #[.int .i64 x.1, .int .i64 x.2] 31)); have l6a := ((c3.lies HL.out.2.2.1 (fun hk => by have := HLT.out _ (.inl hk); omega)).alloc (.cells #[.int .i64 x.1, .int .i64 x.2] 31)); have y0a := l4a.cell 0; have o2a := l5a.cell 2; simp only [List.getElem?_toArray, List.getElem?_cons_zero, List.getElem?_cons_succ] at y0a o2a; have s1 := Lies.new w3 #[.int .i64 x.1, .int .i64 x.2] 31; have HT1 : Hid (Lies (w3.alloc (.cells #[.int .i64 x.1, .int .i64 x.2] 31)) w3.heap.size #[.int .i64 x.1, .int .i64 x.2] 31) := s1; have HZ1 : Hid (w.heap.size + 3 ≤ w3.heap.size) := (by have := HL.out.2.2.2.2; have := c3.size; unfold Hid; omega); clear s1; have HM : Hid (Gr (w3.alloc (.cells #[.int .i64 x.1, .int .i64 x.2] 31)) y mo (embG l) v) := PgG.mid HP.out c3 ((Below.refl _ _).alloc (Nat.le_refl _) _); have HL6 : Hid (Lies (w3.alloc (.cells #[.int .i64 x.1, .int .i64 x.2] 31)) (w.heap.size + 2) #[.bool false] 4) := l6a; have R3 : Hid _ := r3; have C3 : Hid _ := c3; clear r3 c3 l4a l5a l6a)
    | (go_at_call 43; refine (H2.out _ HM.out).mono ?_; clear H2; rintro e w4 ⟨rfl, v4, r4, c4, n4⟩; have l6b := (c4.lies (HL6.out) (fun hk => by have := HLT.out _ (.inr hk); omega)); have r0b := l6b.cell 0; have z0b := l6b.frozen 0; have hl6 := l6b.lt; simp only [List.getElem?_toArray, List.getElem?_cons_zero] at r0b; have t1 := c4.lies HT1.out (fun hk => by have := HLT.out _ (.inr hk); have := HZ1.out; omega); have t10 := t1.cell 0; have t11 := t1.cell 1; have tl := t1.lt; simp only [List.getElem?_toArray, List.getElem?_cons_zero, List.getElem?_cons_succ] at t10 t11; clear t1; have HF6 : Hid (Lies ((w4.setCell ⟨w.heap.size + 2, 0, none⟩ (.bool true)).alloc (.cells #[.int .i64 x.1, .int .i64 x.2] 31)) (w.heap.size + 2) #[.bool true] 4) := (l6b.set 0 _).alloc _; have HFN : Hid (∃ q' v' l', PgG ((w4.setCell ⟨w.heap.size + 2, 0, none⟩ (.bool true)).alloc (.cells #[.int .i64 x.1, .int .i64 x.2] 31)) p q' y v' mo l' ∧ Chg (Fp p q y v) w ((w4.setCell ⟨w.heap.size + 2, 0, none⟩ (.bool true)).alloc (.cells #[.int .i64 x.1, .int .i64 x.2] 31)) ∧ ∀ k, Fp p q' y v' k → Fp p q y v k ∨ w.heap.size ≤ k) := (by obtain ⟨q', v', l', f1, f2, f3⟩ := (by obtain ⟨p1, p2, p3⟩ := PgG.both HP.out R3.out C3.out (fun k hk => .inl hk) ((Below.refl _ _).alloc (Nat.le_refl _) _) r4 c4 n4; exact pgfinG HL.out.2.2.2.1 (by have := HL.out.2.2.2.2; omega) p1 p2 p3 HLT.out (.bool true)); have hb : Below (w4.setCell ⟨w.heap.size + 2, 0, none⟩ (.bool true)).heap.size (w4.setCell ⟨w.heap.size + 2, 0, none⟩ (.bool true)) ((w4.setCell ⟨w.heap.size + 2, 0, none⟩ (.bool true)).alloc (.cells #[.int .i64 x.1, .int .i64 x.2] 31)) := (Below.refl _ _).alloc (Nat.le_refl _) _; exact ⟨q', v', l', f1.below hb, f2.below hb, f3⟩); clear l6b r4 c4 n4))
  have hc6 := HF6.out.cell 0
  simp only [List.getElem?_toArray, List.getElem?_cons_zero] at hc6
  refine bodyPost_ret (v := .bool true) ?_ rfl ⟨rfl, HFN.out⟩
  refine (?_ : ∀ wx : World, wx.cell? ⟨w.heap.size + 2, 0, none⟩ = some (.bool true) → (results Try.f13 _).run Try.prog wx = .ok (.bool true) wx) _ hc6
  intro wx h
  simp [results, Try.results13, go_sem, h]
set_option maxRecDepth 100000 in
set_option maxHeartbeats 4000000 in
theorem fsG_2 (p q y : Option Nat) (v : Value) (mo : Nat) (l : List (Int × Int)) (who nn : Int) (id : Int) (w : World) (h : PgG w p q y v mo l) :
    Calls Try.prog 13 #[ptr p, ptr y, .agg #[.int .i64 who, .int .i64 2, .int .i64 nn], .int .i64 id] w fun e w' => e = .returned (.bool true) ∧ ∃ q' v' l', PgG w' p q' y v' mo l' ∧ Chg (Fp p q y v) w w' ∧ ∀ k, Fp p q' y v' k → Fp p q y v k ∨ w.heap.size ≤ k := by
  obtain ⟨pa, hpa⟩ : ∃ pa, ptr p = .pointer pa := ⟨_, rfl⟩
  obtain ⟨ya, hya⟩ : ∃ ya, ptr y = .pointer ya := ⟨_, rfl⟩
  obtain ⟨wi, hwi⟩ : ∃ wi, wi = ((w.alloc (.cells #[.pointer ya] 32)).alloc (.cells #[.int .i64 who, .int .i64 2, .int .i64 nn] 36)).alloc (.cells #[.bool false] 4) := ⟨_, rfl⟩
  have HL : Hid (Lies wi w.heap.size #[.pointer ya] 32 ∧ Lies wi (w.heap.size + 1) #[.int .i64 who, .int .i64 2, .int .i64 nn] 36 ∧ Lies wi (w.heap.size + 2) #[.bool false] 4 ∧ Below w.heap.size w wi ∧ wi.heap.size = w.heap.size + 3) := by
    rw [hwi]
    have e1 := Lies.new (w.alloc (.cells #[.pointer ya] 32)) #[.int .i64 who, .int .i64 2, .int .i64 nn] 36
    have e2 := Lies.new ((w.alloc (.cells #[.pointer ya] 32)).alloc (.cells #[.int .i64 who, .int .i64 2, .int .i64 nn] 36)) #[.bool false] 4
    simp only [World.size_alloc] at e1 e2
    exact ⟨((Lies.new w _ _).alloc _).alloc _, e1.alloc _, e2, (((Below.refl _ w).alloc (Nat.le_refl _) _).alloc (by simp) _).alloc (by simp; omega) _, by simp [World.size_alloc]⟩
  have HP : Hid (PgG wi p q y v mo l) := h.below HL.out.2.2.2.1
  have HLT : Hid (∀ k, Fp p q y v k → k < w.heap.size) := h.lt
  have HWI : Hid (((w.alloc (.cells #[.pointer ya] 32)).alloc (.cells #[.int .i64 who, .int .i64 2, .int .i64 nn] 36)).alloc (.cells #[.bool false] 4) = wi) := hwi.symm
  rw [hpa, hya]
  have y0 : wi.cell? ⟨w.heap.size, 0, none⟩ = some (.pointer ya) := HL.out.1.cell 0
  have o1 : wi.cell? ⟨w.heap.size + 1, 1, none⟩ = some (.int .i64 2) := HL.out.2.1.cell 1
  have o2 : wi.cell? ⟨w.heap.size + 1, 2, none⟩ = some (.int .i64 nn) := HL.out.2.1.cell 2
  have r0 : wi.cell? ⟨w.heap.size + 2, 0, none⟩ = some (.bool false) := HL.out.2.2.1.cell 0
  have z0 := HL.out.2.2.1.frozen 0
  obtain ⟨x, hx⟩ : ∃ x, x = tkG (atXG l nn) := ⟨_, rfl⟩
  obtain ⟨bb, hbb⟩ : ∃ bb, bb = atB l.length nn := ⟨_, rfl⟩
  have H1 : Hid (∀ wx, PgG wx p q y v mo l → Calls Try.prog 47 #[.pointer pa, .int .i64 nn] wx fun e w' => e = .returned (.tuple #[.agg #[.int .i64 x.1, .int .i64 x.2], .bool bb]) ∧ Below wx.heap.size wx w') := fun wx h => by rw [← hpa, hbb, hx]; exact atG_any p q mo l nn wx h.rg
  have H2 : Hid (∀ wx, Gr wx y mo (embG l) v → Calls Try.prog 44 #[.pointer ya, .int .i64 nn] wx fun e w' => e = .returned (.tuple #[.agg #[.int .i64 x.1, .int .i64 x.2], .bool bb]) ∧ Below wx.heap.size wx w') := fun wx h => by rw [← hya]; have := rat_any y mo (embG l) v nn wx h; rw [embG_at, embG_len, ← hx, ← hbb] at this; exact this
  clear h hwi hpa hya hx hbb
  go_enter Try.func13, Try.ntmps13
  go_wp2_with (first
    | (go_at_call 47; rw [HWI.out]; refine (H1.out _ HP.out).mono ?_; clear H1; rintro e w3 ⟨rfl, b3⟩; have l4a := ((HL.out.1.below b3 HL.out.1.lt).alloc (.cells #[.int .i64 x.1, .int .i64 x.2] 31)); have l5a := ((HL.out.2.1.below b3 HL.out.2.1.lt).alloc (.cells #[.int .i64 x.1, .int .i64 x.2] 31)); have l6a := ((HL.out.2.2.1.below b3 HL.out.2.2.1.lt).alloc (.cells #[.int .i64 x.1, .int .i64 x.2] 31)); have y0a := l4a.cell 0; have o2a := l5a.cell 2; simp only [List.getElem?_toArray, List.getElem?_cons_zero, List.getElem?_cons_succ] at y0a o2a; have s1 := Lies.new w3 #[.int .i64 x.1, .int .i64 x.2] 31; have HT1 : Hid (Lies (w3.alloc (.cells #[.int .i64 x.1, .int .i64 x.2] 31)) w3.heap.size #[.int .i64 x.1, .int .i64 x.2] 31) := s1; have HZ1 : Hid (w.heap.size + 3 ≤ w3.heap.size) := (by have := HL.out.2.2.2.2; have := b3.size; unfold Hid; omega); clear s1; have HM : Hid (Gr (w3.alloc (.cells #[.int .i64 x.1, .int .i64 x.2] 31)) y mo (embG l) v) := ((HP.out.gr.below b3).below ((Below.refl _ _).alloc (Nat.le_refl _) _)); have HL6 : Hid (Lies (w3.alloc (.cells #[.int .i64 x.1, .int .i64 x.2] 31)) (w.heap.size + 2) #[.bool false] 4) := l6a; have BB3 : Hid (Below wi.heap.size wi (w3.alloc (.cells #[.int .i64 x.1, .int .i64 x.2] 31))) := b3.alloc (Nat.le_trans (Nat.le_refl _) b3.size) _; clear b3 l4a l5a l6a)
    | (go_at_call 44; refine (H2.out _ HM.out).mono ?_; clear H2; rintro e w4 ⟨rfl, b4⟩; have l6b := ((HL6.out).below b4 (HL6.out).lt); have r0b := l6b.cell 0; have z0b := l6b.frozen 0; have hl6 := l6b.lt; simp only [List.getElem?_toArray, List.getElem?_cons_zero] at r0b; have t1 := HT1.out.below b4 HT1.out.lt; have t10 := t1.cell 0; have t11 := t1.cell 1; have tl := t1.lt; simp only [List.getElem?_toArray, List.getElem?_cons_zero, List.getElem?_cons_succ] at t10 t11; clear t1; have HF6 : Hid (Lies ((w4.setCell ⟨w.heap.size + 2, 0, none⟩ (.bool true)).alloc (.cells #[.int .i64 x.1, .int .i64 x.2] 31)) (w.heap.size + 2) #[.bool true] 4) := (l6b.set 0 _).alloc _; have HFN : Hid (∃ q' v' l', PgG ((w4.setCell ⟨w.heap.size + 2, 0, none⟩ (.bool true)).alloc (.cells #[.int .i64 x.1, .int .i64 x.2] 31)) p q' y v' mo l' ∧ Chg (Fp p q y v) w ((w4.setCell ⟨w.heap.size + 2, 0, none⟩ (.bool true)).alloc (.cells #[.int .i64 x.1, .int .i64 x.2] 31)) ∧ ∀ k, Fp p q' y v' k → Fp p q y v k ∨ w.heap.size ≤ k) := (by obtain ⟨q', v', l', f1, f2, f3⟩ := (by have hb : Below wi.heap.size wi w4 := BB3.out.trans (b4.mono BB3.out.size); exact pgfinG HL.out.2.2.2.1 (by have := HL.out.2.2.2.2; omega) (HP.out.below hb) (Chg.of_below hb) (fun k hk => .inl hk) HLT.out (.bool true)); have hb : Below (w4.setCell ⟨w.heap.size + 2, 0, none⟩ (.bool true)).heap.size (w4.setCell ⟨w.heap.size + 2, 0, none⟩ (.bool true)) ((w4.setCell ⟨w.heap.size + 2, 0, none⟩ (.bool true)).alloc (.cells #[.int .i64 x.1, .int .i64 x.2] 31)) := (Below.refl _ _).alloc (Nat.le_refl _) _; exact ⟨q', v', l', f1.below hb, f2.below hb, f3⟩); clear l6b b4))
  have hc6 := HF6.out.cell 0
  simp only [List.getElem?_toArray, List.getElem?_cons_zero] at hc6
  refine bodyPost_ret (v := .bool true) ?_ rfl ⟨rfl, HFN.out⟩
  refine (?_ : ∀ wx : World, wx.cell? ⟨w.heap.size + 2, 0, none⟩ = some (.bool true) → (results Try.f13 _).run Try.prog wx = .ok (.bool true) wx) _ hc6
  intro wx h
  simp [results, Try.results13, go_sem, h]
end Go.Proofs.Ytgbbjhhggjocmaa
