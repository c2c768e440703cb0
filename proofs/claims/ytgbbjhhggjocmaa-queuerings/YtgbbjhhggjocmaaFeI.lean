/-
  A ring gone through beside the document's: first.
-/
import Derived.Test.YtgbbjhhggjocmaaFsI
import Derived.Test.YtgbbjhhggjocmaaReI
import Derived.Test.YtgbbjhhggjocmaaRf8
namespace Go.Proofs.Ytgbbjhhggjocmaa
open Go.RowKit Go.Shelf

attribute [local go_sem] Oper.semAt_some

def bsFI (w : World) (pa ya : Option Addr) (rv : Bool) (n : Int) : List (Nat × Value × Nat) := [(w.heap.size + 4, .pointer pa, 23), (w.heap.size + 3, .int .i64 n, 3), (w.heap.size + 2, .bool rv, 4), (w.heap.size, .pointer ya, 32)]
set_option maxRecDepth 100000 in
set_option maxHeartbeats 8000000 in
theorem fsI_5b (p q y : Option Nat) (v : Value) (mo : Nat) (l : List Int) (who nn : Int) (w : World) (h : PgI w p q y v mo l) :
    Calls Try.prog 12 #[ptr p, ptr y, .agg #[.int .i64 who, .int .i64 5, .int .i64 nn]] w fun e w' => e = .returned (.bool true) ∧ Below w.heap.size w w' := by
  obtain ⟨pa, hpa⟩ : ∃ pa, ptr p = .pointer pa := ⟨_, rfl⟩
  obtain ⟨ya, hya⟩ : ∃ ya, ptr y = .pointer ya := ⟨_, rfl⟩
  have hlen := h.rg.len
  have HLD : Hid (l.length ≤ 1048576) := by unfold Hid; omega
  have HPG : Hid (PgI w p q y v mo l) := h
  have HPA : Hid (ptr p = .pointer pa) := hpa
  have HYA : Hid (ptr y = .pointer ya) := hya
  have HEA : Hid (∀ wx, Calls Try.prog 40 #[.pointer pa] wx fun e w' => e = .returned (.func (.func 59) #[] #[.pointer (some ⟨wx.heap.size, 0, none⟩)]) ∧ w' = wx.alloc (.cells #[.pointer pa] 23)) := fun wx => eachI_any _ wx rfl
  obtain ⟨wi, hwi⟩ : ∃ wi, wi = (((w.alloc (.cells #[.pointer ya] 32)).alloc (.cells #[.int .i64 who, .int .i64 5, .int .i64 nn] 36)).alloc (.cells #[.bool false] 4)).alloc (.cells #[.int .i64 0] 3) := ⟨_, rfl⟩
  have HSI : Hid ((Bx w (fun _ => False) wi (fun _ => False) [(w.heap.size + 3, .int .i64 0, 3), (w.heap.size + 2, .bool false, 4), (w.heap.size, .pointer ya, 32)] []) ∧ Lies wi (w.heap.size + 1) #[.int .i64 who, .int .i64 5, .int .i64 nn] 36 ∧ wi.heap.size = w.heap.size + 4) := by
    rw [hwi]
    have b1 := ((((Bx.start w (fun _ => False) (fun _ h => h.elim)).box (.pointer ya) 32).later ((Below.refl _ _).alloc (Nat.le_refl _) (.cells #[.int .i64 who, .int .i64 5, .int .i64 nn] 36))).box (.bool false) 4).box (.int .i64 0) 3
    have e1 := Lies.new (w.alloc (.cells #[.pointer ya] 32)) #[.int .i64 who, .int .i64 5, .int .i64 nn] 36
    simp only [World.size_alloc] at b1 e1
    exact ⟨b1, (e1.alloc _).alloc _, by simp [World.size_alloc]⟩
  have HWI : Hid ((((w.alloc (.cells #[.pointer ya] 32)).alloc (.cells #[.int .i64 who, .int .i64 5, .int .i64 nn] 36)).alloc (.cells #[.bool false] 4)).alloc (.cells #[.int .i64 0] 3) = wi) := hwi.symm
  rw [hpa, hya]
  clear h hwi hpa hya hlen
  refine (callsIn_wide (n := 9)).1 ?_
  refine callsIn_of_wp_marks Try.func12 rfl trivial ?_ rfl
  simp only [Try.ntmps12, List.size_toArray, List.length_cons, List.length_nil, Nat.reduceAdd, Nat.reduceSub, Array.replicate_succ, Array.replicate_zero, List.push_toArray, List.append_toArray, List.nil_append, List.cons_append]
  refine wpIn_wide.2 ?_
  go_wp2_with (go_at_call 40; rw [HWI.out]; refine (HEA.out _).mono ?_; clear HEA; rintro e Wl ⟨rfl, hwl⟩; rw [HSI.out.2.2]; have HSL : Hid (Bx w (fun _ => False) Wl (fun _ => False) (bsFI w pa ya false 0) [] ∧ Lies Wl (w.heap.size + 1) #[.int .i64 who, .int .i64 5, .int .i64 nn] 36) := (by rw [hwl]; have := HSI.out.1.box (.pointer pa) 23; rw [HSI.out.2.2] at this; exact ⟨this, HSI.out.2.1.alloc _⟩); clear hwl HSI HWI)
  have hz1 := HSL.out.1.chg.size
  obtain ⟨vl, hvl⟩ : ∃ vl : Nat → Int, vl = fun x => l.getD x 0 := ⟨_, rfl⟩
  have HAV : Hid (∀ k, k < l.length → atXG (embI l) (k : Int) = tkI (vl k)) := fun k h => by rw [embI_at, hvl]; unfold atXI; rw [if_pos (by omega), Int.toNat_natCast]
  have HSQ : Hid (SeqStopsK Fence.wide 8 Try.prog 59 #[.pointer (some ⟨w.heap.size + 4, 0, none⟩)] (fun x : Nat => #[.int .i64 (x : Int), .int .i64 (vl x)]) (Kr Wl.heap.size) (fun xs => xs = List.range l.length) (fun pre => ∃ k, k ≤ l.length ∧ pre = List.range k) l.length Wl) := by rw [hvl]; exact eachI_seq p q mo l (w.heap.size + 4) 8 (by decide) Wl (HPG.out.below (HSL.out.1.chg.to_below (Nat.le_refl _) (fun _ h => h.elim))).rg (by rw [HPA.out]; exact HSL.out.1.cell 0 rfl)
  have lt3 := (HSL.out.1.at 1 rfl).lt
  have lt2 := (HSL.out.1.at 2 rfl).lt
  clear hvl
  refine (wpIn_wide (n := 9)).1 ?_
  refine' rf_out (by decide) (gf := 59) (lb := #[.pointer (some ⟨w.heap.size + 4, 0, none⟩)]) rfl (Go.Proofs.enters_of Try.func59 (by kernel_rfl) rfl) HSQ.out (fun _ => rfl)
    (fun pre W => Hid (pre = List.range pre.length ∧ Bx w (fun _ => False) W (fun _ => False) (bsFI w pa ya false (pre.length : Int)) [] ∧ Lies W (w.heap.size + 1) #[.int .i64 who, .int .i64 5, .int .i64 nn] 36))
    (fun c pre W => Hid ((c = .ret ∧ ∀ k, pre ≠ List.range k) ∨ (c = .exit 1 ∧ ∃ m : Nat, nn + 1 = (m : Int) ∧ m ≤ l.length ∧ Bx w (fun _ => False) W (fun _ => False) (bsFI w pa ya false (m : Int)) [] ∧ Lies W (w.heap.size + 1) #[.int .i64 who, .int .i64 5, .int .i64 nn] 36))) ?hI ?hIx ?h0 _ ?assign ?body ?done ?stop
  case hI => exact fun s W W' row hs hg hr => ⟨hs.out.1, (hs.out.2.1.turn hz1 (fun D hD => by cases hD) hg hr).1, lies_turn hs.out.2.2 hg hr⟩
  case hIx =>
    intro c s W W' row hs hg hr
    rcases hs.out with h | ⟨h1, m, h2, h3, h4, h5⟩
    · exact .inl h
    · exact .inr ⟨h1, m, h2, h3, (h4.turn hz1 (fun D hD => by cases hD) hg hr).1, lies_turn h5 hg hr⟩
  case h0 => exact ⟨rfl, HSL.out.1, HSL.out.2⟩
  case assign =>
    intro lp x W K hK
    gi_wp2
    exact hK
  case body =>
    intro lp pre x W hlp hrec hi hlt
    have HI : Hid (Bx w (fun _ => False) W (fun _ => False) (bsFI w pa ya false (pre.length : Int)) [] ∧ Lies W (w.heap.size + 1) #[.int .i64 who, .int .i64 5, .int .i64 nn] 36) := hi.out.2
    have HPRE : Hid (pre = List.range pre.length) := hi.out.1
    have HLT : Hid (pre.length < l.length) := hlt
    have c3 := HI.out.1.cell 1 rfl
    have z3 := HI.out.1.frozen 1 rfl
    have cy := HI.out.1.cell 3 rfl
    have HAT : Hid (Calls Try.prog 44 #[.pointer ya, .int .i64 (pre.length : Int)] W fun e w' => e = .returned (.tuple #[valG (atXG (embI l) (pre.length : Int)), .bool (atB (embI l).length (pre.length : Int))]) ∧ Below W.heap.size W w') := by
      rw [← HYA.out]
      exact rat_any y mo (embI l) v _ W (HPG.out.below (HI.out.1.chg.to_below (Nat.le_refl _) (fun _ h => h.elim))).gr
    have hA2 : atB (embI l).length (pre.length : Int) = true := decide_eq_true (by have := HLT.out; rw [embI_len]; omega)
    have hA1 := HAV.out pre.length hlt
    rw [hA1, hA2] at HAT
    unfold valG at HAT
    obtain ⟨yv, hyv⟩ : ∃ yv, yv = tkI (vl pre.length) := ⟨_, rfl⟩
    rw [← hyv] at HAT
    have HYV : Hid (yv = tkI (vl pre.length)) := hyv
    clear hi hlt hA1 hA2 hyv
    by_cases hx : x = pre.length
    · subst hx
      have hv1 : yv.1 = vl pre.length := by rw [HYV.out]; rfl
      have hwk : IntKind.i64.wrap ((pre.length : Int) + 1) = (pre.length : Int) + 1 := by have := HLD.out; have := HLT.out; rw [IntKind.wrap_i64]; omega
      have HRG : Hid (pre ++ [pre.length] = List.range (pre ++ [pre.length]).length) := by unfold Hid; rw [List.length_append, List.length_singleton, List.range_succ, ← HPRE.out]
      rw [← hv1]
      clear hv1
      by_cases hnn : (pre.length : Int) = nn
      · have hnn2 : nn = (pre.length : Int) := hnn.symm
        clear hnn
        gi_wp2_with (refine ⟨trivial, ?_⟩; gi_at_call 44; refine (CallsIn.inRound lp (callsIn_wide.2 HAT.out)).mono ?_; clear HAT; rintro e wA ⟨rfl, hbA⟩; have hBA := HI.out.1.later hbA; have e3 := hBA.cell 1 rfl; have y3 := hBA.frozen 1 rfl; have e6 := hBA.cell 2 rfl; have y6 := hBA.frozen 2 rfl; have hOA := HI.out.2.below hbA HI.out.2.lt; have eo := hOA.cell 2; simp only [List.getElem?_toArray, List.getElem?_cons_zero, List.getElem?_cons_succ] at eo; have q3 := (hBA.at 1 rfl).lt; have q2 := (hBA.at 2 rfl).lt; have q1 := hOA.lt; have HBA : Hid _ := hBA; have HOA : Hid (Lies wA (w.heap.size + 1) #[.int .i64 who, .int .i64 5, .int .i64 nn] 36) := hOA; have HBL : Hid (Below W.heap.size W wA) := hbA; clear hBA hOA hbA)
        have hc := ((Chg.of_below (F := (· < Wl.heap.size)) HBL.out).set (p := ⟨w.heap.size + 3, 0, none⟩) (.inl lt3) (.int .i64 ((pre.length : Int) + 1))).alloc (.cells #[.int .i64 yv.1, .int .i64 yv.2] 31)
        have HX : Bx w (fun _ => False) ((wA.setCell ⟨w.heap.size + 3, 0, none⟩ (.int .i64 ((pre.length : Int) + 1))).alloc (.cells #[.int .i64 yv.1, .int .i64 yv.2] 31)) (fun _ => False) (bsFI w pa ya false ((pre.length : Int) + 1)) [] ∧ Lies ((wA.setCell ⟨w.heap.size + 3, 0, none⟩ (.int .i64 ((pre.length : Int) + 1))).alloc (.cells #[.int .i64 yv.1, .int .i64 yv.2] 31)) (w.heap.size + 1) #[.int .i64 who, .int .i64 5, .int .i64 nn] 36 := ⟨(HBA.out.set 1 rfl _).later ((Below.refl _ _).alloc (Nat.le_refl _) _), (HOA.out.set_other (a := ⟨w.heap.size + 3, 0, none⟩) (by show w.heap.size + 1 ≠ w.heap.size + 3; omega) _).alloc _⟩
        exact ⟨keeps_of_chg hc (fun _ h => h), .inr ⟨rfl, pre.length + 1, by omega, HLT.out, HX⟩⟩
      · gi_wp2_with (refine ⟨trivial, ?_⟩; gi_at_call 44; refine (CallsIn.inRound lp (callsIn_wide.2 HAT.out)).mono ?_; clear HAT; rintro e wA ⟨rfl, hbA⟩; have hBA := HI.out.1.later hbA; have e3 := hBA.cell 1 rfl; have y3 := hBA.frozen 1 rfl; have e6 := hBA.cell 2 rfl; have y6 := hBA.frozen 2 rfl; have hOA := HI.out.2.below hbA HI.out.2.lt; have eo := hOA.cell 2; simp only [List.getElem?_toArray, List.getElem?_cons_zero, List.getElem?_cons_succ] at eo; have q3 := (hBA.at 1 rfl).lt; have q2 := (hBA.at 2 rfl).lt; have q1 := hOA.lt; have HBA : Hid _ := hBA; have HOA : Hid (Lies wA (w.heap.size + 1) #[.int .i64 who, .int .i64 5, .int .i64 nn] 36) := hOA; have HBL : Hid (Below W.heap.size W wA) := hbA; clear hBA hOA hbA)
        have hc := ((Chg.of_below (F := (· < Wl.heap.size)) HBL.out).set (p := ⟨w.heap.size + 3, 0, none⟩) (.inl lt3) (.int .i64 ((pre.length : Int) + 1))).alloc (.cells #[.int .i64 yv.1, .int .i64 yv.2] 31)
        have HX : Bx w (fun _ => False) ((wA.setCell ⟨w.heap.size + 3, 0, none⟩ (.int .i64 ((pre.length : Int) + 1))).alloc (.cells #[.int .i64 yv.1, .int .i64 yv.2] 31)) (fun _ => False) (bsFI w pa ya false ((pre.length : Int) + 1)) [] ∧ Lies ((wA.setCell ⟨w.heap.size + 3, 0, none⟩ (.int .i64 ((pre.length : Int) + 1))).alloc (.cells #[.int .i64 yv.1, .int .i64 yv.2] 31)) (w.heap.size + 1) #[.int .i64 who, .int .i64 5, .int .i64 nn] 36 := ⟨(HBA.out.set 1 rfl _).later ((Below.refl _ _).alloc (Nat.le_refl _) _), (HOA.out.set_other (a := ⟨w.heap.size + 3, 0, none⟩) (by show w.heap.size + 1 ≠ w.heap.size + 3; omega) _).alloc _⟩
        refine ⟨keeps_of_chg hc (fun _ h => h), Kr.of_chg hc (fun _ h => h), HRG.out, ?_, HX.2⟩
        rw [List.length_append, List.length_singleton]
        exact HX.1
    · have hxi : ¬ (x : Int) = (pre.length : Int) := by omega
      have HNR : Hid (∀ k, pre ++ [x] ≠ List.range k) := fun k e => by
        have hk : k = pre.length + 1 := by have := congrArg List.length e; simp at this; omega
        rw [hk, List.range_succ, ← HPRE.out] at e
        exact hx (by simpa using e)
      clear hx
      gi_wp2_with (refine ⟨trivial, ?_⟩; gi_at_call 44; refine (CallsIn.inRound lp (callsIn_wide.2 HAT.out)).mono ?_; clear HAT; rintro e wA ⟨rfl, hbA⟩; have hBA := HI.out.1.later hbA; have e3 := hBA.cell 1 rfl; have y3 := hBA.frozen 1 rfl; have e6 := hBA.cell 2 rfl; have y6 := hBA.frozen 2 rfl; have hOA := HI.out.2.below hbA HI.out.2.lt; have eo := hOA.cell 2; simp only [List.getElem?_toArray, List.getElem?_cons_zero, List.getElem?_cons_succ] at eo; have q3 := (hBA.at 1 rfl).lt; have q2 := (hBA.at 2 rfl).lt; have q1 := hOA.lt; have HBA : Hid _ := hBA; have HOA : Hid (Lies wA (w.heap.size + 1) #[.int .i64 who, .int .i64 5, .int .i64 nn] 36) := hOA; have HBL : Hid (Below W.heap.size W wA) := hbA; clear hBA hOA hbA)
      have hc := ((Chg.of_below (F := (· < Wl.heap.size)) HBL.out).set (p := ⟨w.heap.size + 2, 0, none⟩) (.inl lt2) (.bool false)).alloc (.cells #[.int .i64 yv.1, .int .i64 yv.2] 31)
      exact ⟨keeps_of_chg hc (fun _ h => h), .inl ⟨rfl, HNR.out⟩⟩
  case done =>
    rintro D xs W hD rfl hi hkD
    obtain ⟨-, hE⟩ := hi.out
    rw [List.length_range] at hE
    have HE : Hid (Bx w (fun _ => False) W (fun _ => False) (bsFI w pa ya false (l.length : Int)) [D] ∧ Lies W (w.heap.size + 1) #[.int .i64 who, .int .i64 5, .int .i64 nn] 36) := ⟨hE.1.mark D (by omega) hkD (fun h => by cases h), hE.2⟩
    clear hE hi hkD
    go_wp2_with fail
    have d3 := HE.out.1.cell 1 rfl
    have dy := HE.out.1.cell 3 rfl
    have d2 : W.cell? ⟨w.heap.size + 1, 2, none⟩ = some (.int .i64 nn) := HE.out.2.cell 2
    have d6 := HE.out.1.cell 2 rfl
    have z6 := HE.out.1.frozen 2 rfl
    have HLN : Hid (Calls Try.prog 15 #[.pointer ya] W.drew fun e w' => e = .returned (.int .i64 (l.length : Int)) ∧ w' = W.drew) := by
      have hb : Below w.heap.size w W.drew := (HE.out.1.chg.to_below (Nat.le_refl _) (fun _ hk => hk.elim)).drew
      have := rlen_any y mo (embI l) v W.drew (HPG.out.below hb).gr
      rw [embI_len, HYA.out] at this
      exact this
    have HF : Hid (Bx w (fun _ => False) (W.drew.setCell ⟨w.heap.size + 2, 0, none⟩ (.bool true)) (fun _ => False) (bsFI w pa ya true (l.length : Int)) [D] ∧ Lies (W.drew.setCell ⟨w.heap.size + 2, 0, none⟩ (.bool true)) (w.heap.size + 1) #[.int .i64 who, .int .i64 5, .int .i64 nn] 36) := ⟨(HE.out.1.later (below_drewN W 1)).set 2 rfl _, (HE.out.2.drewN 1).set_other (a := ⟨w.heap.size + 2, 0, none⟩) (by show w.heap.size + 1 ≠ w.heap.size + 2; omega) _⟩
    have hSb : (W.drew.setCell ⟨w.heap.size + 2, 0, none⟩ (.bool true)).cell? ⟨w.heap.size + 3, 0, none⟩ = some (.int .i64 (l.length : Int)) ∧ (W.drew.setCell ⟨w.heap.size + 2, 0, none⟩ (.bool true)).cell? ⟨w.heap.size, 0, none⟩ = some (.pointer ya) ∧ (W.drew.setCell ⟨w.heap.size + 2, 0, none⟩ (.bool true)).cell? ⟨w.heap.size + 1, 2, none⟩ = some (.int .i64 nn) := ⟨HF.out.1.cell 1 rfl, HF.out.1.cell 3 rfl, HF.out.2.cell 2⟩
    refine wp_noP ?_
    refine wp_region_late (fun wx => wx.cell? ⟨w.heap.size + 3, 0, none⟩ = some (.int .i64 (l.length : Int)) ∧ wx.cell? ⟨w.heap.size, 0, none⟩ = some (.pointer ya) ∧ wx.cell? ⟨w.heap.size + 1, 2, none⟩ = some (.int .i64 nn)) 12 (by kernel_rfl) ⟨d3, dy, d2⟩ (fun hHeld => ?_)
    refine wpAnyE_tk (i := 0) (d := some 122) (v := ?_) rfl (by kernel_rfl) (by kernel_rfl) (by kernel_rfl) rfl (fun _ _ _ h => h) rfl rfl ?hy (by first | assumption | go_simp) ?_
    case hy => (intro w' hSw; (try dsimp only at hSw); go_simp <;> (first | with_reducible rfl | omega | skip))
    simp only [Act.put, List.setIfInBounds_toArray, List.set_cons_zero, List.set_cons_succ]
    refine wpAnyE_tk (i := 1) (d := some 123) (v := ?_) rfl (by kernel_rfl) (by kernel_rfl) (by kernel_rfl) rfl (fun _ _ _ h => h) rfl rfl ?hy (by first | assumption | go_simp) ?_
    case hy => (intro w' hSw; (try dsimp only at hSw); go_simp <;> (first | with_reducible rfl | omega | skip))
    simp only [Act.put, List.setIfInBounds_toArray, List.set_cons_zero, List.set_cons_succ]
    refine wpAnyE_on (i := 2) (by kernel_rfl) rfl rfl ?_
    go_simp
    refine Calls.mono HLN.out ?_
    rintro e wz ⟨rfl, hwz⟩
    subst hwz
    first | refine ⟨⟨d3, dy, d2⟩, ?_⟩ | skip
    refine wpAnyE_on (i := 3) (by kernel_rfl) rfl rfl ?_
    go_simp
    refine wpAnyE_on (i := 4) (by kernel_rfl) rfl rfl ?_
    go_simp
    refine wpAnyE_sk (i := 5) (d := some 127) rfl (by kernel_rfl) (by kernel_rfl) (by kernel_rfl) rfl (fun _ _ _ h => h) rfl rfl (by first | assumption | go_simp) ?_
    simp only [Act.put, List.setIfInBounds_toArray, List.set_cons_zero, List.set_cons_succ]
    refine wpAnyE_sk (i := 6) (d := some 128) rfl (by kernel_rfl) (by kernel_rfl) (by kernel_rfl) rfl (fun _ _ _ h => h) rfl rfl (by first | assumption | go_simp) ?_
    simp only [Act.put, List.setIfInBounds_toArray, List.set_cons_zero, List.set_cons_succ]
    refine wpAnyE_sk (i := 7) (d := some 129) rfl (by kernel_rfl) (by kernel_rfl) (by kernel_rfl) rfl (fun _ _ _ h => h) rfl rfl (by first | assumption | go_simp) ?_
    simp only [Act.put, List.setIfInBounds_toArray, List.set_cons_zero, List.set_cons_succ]
    refine wpAnyE_sk (i := 8) (d := some 130) rfl (by kernel_rfl) (by kernel_rfl) (by kernel_rfl) rfl (fun _ _ _ h => h) rfl rfl (by first | assumption | go_simp) ?_
    simp only [Act.put, List.setIfInBounds_toArray, List.set_cons_zero, List.set_cons_succ]
    refine wpAnyE_sk (i := 9) (d := some 131) rfl (by kernel_rfl) (by kernel_rfl) (by kernel_rfl) rfl (fun _ _ _ h => h) rfl rfl (by first | assumption | go_simp) ?_
    simp only [Act.put, List.setIfInBounds_toArray, List.set_cons_zero, List.set_cons_succ]
    refine wpAnyE_on (i := 10) (by kernel_rfl) rfl rfl ?_
    go_simp
    refine wpAnyE_on (i := 11) (by kernel_rfl) rfl rfl ?_
    go_simp
    first | refine wpAnyE_done (by kernel_rfl) ?_ _ | refine ⟨hSb, wpAnyE_done (by kernel_rfl) ?_ _⟩
    refine noP_normal ?_
    go_wp2
    obtain ⟨k1, hB1⟩ := HF.out.1.take
    have hc6 := hB1.cell 2 rfl
    have hbl := hB1.chg.to_below (Nat.le_refl _) (fun _ hk => hk.elim)
    refine ⟨by simp, .inl ⟨_, _, rfl, run_takeDeferred k1, ?_⟩⟩
    refine ⟨.bool true, ?_, rfl, hbl⟩
    refine (?_ : ∀ wx : World, wx.cell? ⟨w.heap.size + 2, 0, none⟩ = some (.bool true) → (results Try.f12 _).run Try.prog wx = .ok (.bool true) wx) _ hc6
    intro wx h
    simp [results, Try.results12, go_sem, h]
  case stop =>
    rintro D c pre W hD ⟨k, -, rfl⟩ hx hkD
    rcases hx.out with ⟨_, h⟩ | ⟨rfl, m, hm1, hm2, hE⟩
    · exact absurd rfl (h k)
    · have HE : Hid (Bx w (fun _ => False) W (fun _ => False) (bsFI w pa ya false (m : Int)) [D] ∧ Lies W (w.heap.size + 1) #[.int .i64 who, .int .i64 5, .int .i64 nn] 36) := ⟨hE.1.mark D (by omega) hkD (fun h => by cases h), hE.2⟩
      clear hE hx hkD
      refine wpIn_wide.2 ?_
      by_cases hml : m = l.length
      · subst hml
        go_wp2_with fail
        have d3 := HE.out.1.cell 1 rfl
        have dy := HE.out.1.cell 3 rfl
        have d2 : W.cell? ⟨w.heap.size + 1, 2, none⟩ = some (.int .i64 nn) := HE.out.2.cell 2
        have d6 := HE.out.1.cell 2 rfl
        have z6 := HE.out.1.frozen 2 rfl
        have HLN : Hid (Calls Try.prog 15 #[.pointer ya] W.drew fun e w' => e = .returned (.int .i64 (l.length : Int)) ∧ w' = W.drew) := by
          have hb : Below w.heap.size w W.drew := (HE.out.1.chg.to_below (Nat.le_refl _) (fun _ hk => hk.elim)).drew
          have := rlen_any y mo (embI l) v W.drew (HPG.out.below hb).gr
          rw [embI_len, HYA.out] at this
          exact this
        have HF : Hid (Bx w (fun _ => False) (W.drew.setCell ⟨w.heap.size + 2, 0, none⟩ (.bool true)) (fun _ => False) (bsFI w pa ya true (l.length : Int)) [D] ∧ Lies (W.drew.setCell ⟨w.heap.size + 2, 0, none⟩ (.bool true)) (w.heap.size + 1) #[.int .i64 who, .int .i64 5, .int .i64 nn] 36) := ⟨(HE.out.1.later (below_drewN W 1)).set 2 rfl _, (HE.out.2.drewN 1).set_other (a := ⟨w.heap.size + 2, 0, none⟩) (by show w.heap.size + 1 ≠ w.heap.size + 2; omega) _⟩
        have hSb : (W.drew.setCell ⟨w.heap.size + 2, 0, none⟩ (.bool true)).cell? ⟨w.heap.size + 3, 0, none⟩ = some (.int .i64 (l.length : Int)) ∧ (W.drew.setCell ⟨w.heap.size + 2, 0, none⟩ (.bool true)).cell? ⟨w.heap.size, 0, none⟩ = some (.pointer ya) ∧ (W.drew.setCell ⟨w.heap.size + 2, 0, none⟩ (.bool true)).cell? ⟨w.heap.size + 1, 2, none⟩ = some (.int .i64 nn) := ⟨HF.out.1.cell 1 rfl, HF.out.1.cell 3 rfl, HF.out.2.cell 2⟩
        refine wp_noP ?_
        refine wp_region_late (fun wx => wx.cell? ⟨w.heap.size + 3, 0, none⟩ = some (.int .i64 (l.length : Int)) ∧ wx.cell? ⟨w.heap.size, 0, none⟩ = some (.pointer ya) ∧ wx.cell? ⟨w.heap.size + 1, 2, none⟩ = some (.int .i64 nn)) 12 (by kernel_rfl) ⟨d3, dy, d2⟩ (fun hHeld => ?_)
        refine wpAnyE_tk (i := 0) (d := some 122) (v := ?_) rfl (by kernel_rfl) (by kernel_rfl) (by kernel_rfl) rfl (fun _ _ _ h => h) rfl rfl ?hy (by first | assumption | go_simp) ?_
        case hy => (intro w' hSw; (try dsimp only at hSw); go_simp <;> (first | with_reducible rfl | omega | skip))
        simp only [Act.put, List.setIfInBounds_toArray, List.set_cons_zero, List.set_cons_succ]
        refine wpAnyE_tk (i := 1) (d := some 123) (v := ?_) rfl (by kernel_rfl) (by kernel_rfl) (by kernel_rfl) rfl (fun _ _ _ h => h) rfl rfl ?hy (by first | assumption | go_simp) ?_
        case hy => (intro w' hSw; (try dsimp only at hSw); go_simp <;> (first | with_reducible rfl | omega | skip))
        simp only [Act.put, List.setIfInBounds_toArray, List.set_cons_zero, List.set_cons_succ]
        refine wpAnyE_on (i := 2) (by kernel_rfl) rfl rfl ?_
        go_simp
        refine Calls.mono HLN.out ?_
        rintro e wz ⟨rfl, hwz⟩
        subst hwz
        first | refine ⟨⟨d3, dy, d2⟩, ?_⟩ | skip
        refine wpAnyE_on (i := 3) (by kernel_rfl) rfl rfl ?_
        go_simp
        refine wpAnyE_on (i := 4) (by kernel_rfl) rfl rfl ?_
        go_simp
        refine wpAnyE_sk (i := 5) (d := some 127) rfl (by kernel_rfl) (by kernel_rfl) (by kernel_rfl) rfl (fun _ _ _ h => h) rfl rfl (by first | assumption | go_simp) ?_
        simp only [Act.put, List.setIfInBounds_toArray, List.set_cons_zero, List.set_cons_succ]
        refine wpAnyE_sk (i := 6) (d := some 128) rfl (by kernel_rfl) (by kernel_rfl) (by kernel_rfl) rfl (fun _ _ _ h => h) rfl rfl (by first | assumption | go_simp) ?_
        simp only [Act.put, List.setIfInBounds_toArray, List.set_cons_zero, List.set_cons_succ]
        refine wpAnyE_sk (i := 7) (d := some 129) rfl (by kernel_rfl) (by kernel_rfl) (by kernel_rfl) rfl (fun _ _ _ h => h) rfl rfl (by first | assumption | go_simp) ?_
        simp only [Act.put, List.setIfInBounds_toArray, List.set_cons_zero, List.set_cons_succ]
        refine wpAnyE_sk (i := 8) (d := some 130) rfl (by kernel_rfl) (by kernel_rfl) (by kernel_rfl) rfl (fun _ _ _ h => h) rfl rfl (by first | assumption | go_simp) ?_
        simp only [Act.put, List.setIfInBounds_toArray, List.set_cons_zero, List.set_cons_succ]
        refine wpAnyE_sk (i := 9) (d := some 131) rfl (by kernel_rfl) (by kernel_rfl) (by kernel_rfl) rfl (fun _ _ _ h => h) rfl rfl (by first | assumption | go_simp) ?_
        simp only [Act.put, List.setIfInBounds_toArray, List.set_cons_zero, List.set_cons_succ]
        refine wpAnyE_on (i := 10) (by kernel_rfl) rfl rfl ?_
        go_simp
        refine wpAnyE_on (i := 11) (by kernel_rfl) rfl rfl ?_
        go_simp
        first | refine wpAnyE_done (by kernel_rfl) ?_ _ | refine ⟨hSb, wpAnyE_done (by kernel_rfl) ?_ _⟩
        refine noP_normal ?_
        go_wp2
        obtain ⟨k1, hB1⟩ := HF.out.1.take
        have hc6 := hB1.cell 2 rfl
        have hbl := hB1.chg.to_below (Nat.le_refl _) (fun _ hk => hk.elim)
        refine ⟨by simp, .inl ⟨_, _, rfl, run_takeDeferred k1, ?_⟩⟩
        refine ⟨.bool true, ?_, rfl, hbl⟩
        refine (?_ : ∀ wx : World, wx.cell? ⟨w.heap.size + 2, 0, none⟩ = some (.bool true) → (results Try.f12 _).run Try.prog wx = .ok (.bool true) wx) _ hc6
        intro wx h
        simp [results, Try.results12, go_sem, h]
      · have hmi : ¬ (m : Int) = (l.length : Int) := by omega
        have hwn : IntKind.i64.wrap (nn + 1) = (m : Int) := by have := HLD.out; rw [IntKind.wrap_i64]; omega
        have hwn2 : wrap64 (nn + 1) = (m : Int) := by have := HLD.out; unfold wrap64; omega
        have hmd : decide (m = l.length) = false := decide_eq_false hml
        have hmd2 : ((m : Int) == (l.length : Int)) = false := by simpa using hmi
        have hmd3 : (m == l.length) = false := by simpa using hml
        clear hm1 hm2
        go_wp2_with fail
        have d3 := HE.out.1.cell 1 rfl
        have dy := HE.out.1.cell 3 rfl
        have d2 : W.cell? ⟨w.heap.size + 1, 2, none⟩ = some (.int .i64 nn) := HE.out.2.cell 2
        have d6 := HE.out.1.cell 2 rfl
        have z6 := HE.out.1.frozen 2 rfl
        have HLN : Hid (Calls Try.prog 15 #[.pointer ya] W.drew fun e w' => e = .returned (.int .i64 (l.length : Int)) ∧ w' = W.drew) := by
          have hb : Below w.heap.size w W.drew := (HE.out.1.chg.to_below (Nat.le_refl _) (fun _ hk => hk.elim)).drew
          have := rlen_any y mo (embI l) v W.drew (HPG.out.below hb).gr
          rw [embI_len, HYA.out] at this
          exact this
        have HF : Hid (Bx w (fun _ => False) (W.drew.setCell ⟨w.heap.size + 2, 0, none⟩ (.bool true)) (fun _ => False) (bsFI w pa ya true (m : Int)) [D] ∧ Lies (W.drew.setCell ⟨w.heap.size + 2, 0, none⟩ (.bool true)) (w.heap.size + 1) #[.int .i64 who, .int .i64 5, .int .i64 nn] 36) := ⟨(HE.out.1.later (below_drewN W 1)).set 2 rfl _, (HE.out.2.drewN 1).set_other (a := ⟨w.heap.size + 2, 0, none⟩) (by show w.heap.size + 1 ≠ w.heap.size + 2; omega) _⟩
        have hSb : (W.drew.setCell ⟨w.heap.size + 2, 0, none⟩ (.bool true)).cell? ⟨w.heap.size + 3, 0, none⟩ = some (.int .i64 (m : Int)) ∧ (W.drew.setCell ⟨w.heap.size + 2, 0, none⟩ (.bool true)).cell? ⟨w.heap.size, 0, none⟩ = some (.pointer ya) ∧ (W.drew.setCell ⟨w.heap.size + 2, 0, none⟩ (.bool true)).cell? ⟨w.heap.size + 1, 2, none⟩ = some (.int .i64 nn) := ⟨HF.out.1.cell 1 rfl, HF.out.1.cell 3 rfl, HF.out.2.cell 2⟩
        refine wp_noP ?_
        refine wp_region_late (fun wx => wx.cell? ⟨w.heap.size + 3, 0, none⟩ = some (.int .i64 (m : Int)) ∧ wx.cell? ⟨w.heap.size, 0, none⟩ = some (.pointer ya) ∧ wx.cell? ⟨w.heap.size + 1, 2, none⟩ = some (.int .i64 nn)) 12 (by kernel_rfl) ⟨d3, dy, d2⟩ (fun hHeld => ?_)
        refine wpAnyE_tk (i := 0) (d := some 122) (v := ?_) rfl (by kernel_rfl) (by kernel_rfl) (by kernel_rfl) rfl (fun _ _ _ h => h) rfl rfl ?hy (by first | assumption | go_simp) ?_
        case hy => (intro w' hSw; (try dsimp only at hSw); go_simp <;> (first | with_reducible rfl | omega | skip))
        simp only [Act.put, List.setIfInBounds_toArray, List.set_cons_zero, List.set_cons_succ]
        refine wpAnyE_tk (i := 1) (d := some 123) (v := ?_) rfl (by kernel_rfl) (by kernel_rfl) (by kernel_rfl) rfl (fun _ _ _ h => h) rfl rfl ?hy (by first | assumption | go_simp) ?_
        case hy => (intro w' hSw; (try dsimp only at hSw); go_simp <;> (first | with_reducible rfl | omega | skip))
        simp only [Act.put, List.setIfInBounds_toArray, List.set_cons_zero, List.set_cons_succ]
        refine wpAnyE_on (i := 2) (by kernel_rfl) rfl rfl ?_
        go_simp
        refine Calls.mono HLN.out ?_
        rintro e wz ⟨rfl, hwz⟩
        subst hwz
        first | refine ⟨⟨d3, dy, d2⟩, ?_⟩ | skip
        refine wpAnyE_on (i := 3) (by kernel_rfl) rfl rfl ?_
        go_simp
        refine wpAnyE_on (i := 4) (by kernel_rfl) rfl rfl ?_
        go_simp
        refine wpAnyE_tk (i := 5) (d := some 127) (v := ?_) rfl (by kernel_rfl) (by kernel_rfl) (by kernel_rfl) rfl (fun _ _ _ h => h) rfl rfl ?hy (by first | assumption | go_simp) ?_
        case hy => (intro w' hSw; (try dsimp only at hSw); go_simp <;> (first | with_reducible rfl | omega | skip))
        simp only [Act.put, List.setIfInBounds_toArray, List.set_cons_zero, List.set_cons_succ]
        refine wpAnyE_tk (i := 6) (d := some 128) (v := ?_) rfl (by kernel_rfl) (by kernel_rfl) (by kernel_rfl) rfl (fun _ _ _ h => h) rfl rfl ?hy (by first | assumption | go_simp) ?_
        case hy => (intro w' hSw; (try dsimp only at hSw); go_simp <;> (first | with_reducible rfl | omega | skip))
        simp only [Act.put, List.setIfInBounds_toArray, List.set_cons_zero, List.set_cons_succ]
        refine wpAnyE_tk (i := 7) (d := some 129) (v := ?_) rfl (by kernel_rfl) (by kernel_rfl) (by kernel_rfl) rfl (fun _ _ _ h => h) rfl rfl ?hy (by first | assumption | go_simp) ?_
        case hy => (intro w' hSw; (try dsimp only at hSw); go_simp <;> (first | with_reducible rfl | omega | skip))
        simp only [Act.put, List.setIfInBounds_toArray, List.set_cons_zero, List.set_cons_succ]
        refine wpAnyE_on (i := 8) (by kernel_rfl) rfl rfl ?_
        go_simp
        refine wpAnyE_on (i := 9) (by kernel_rfl) rfl rfl ?_
        go_simp
        refine wpAnyE_on (i := 10) (by kernel_rfl) rfl rfl ?_
        go_simp
        refine wpAnyE_on (i := 11) (by kernel_rfl) rfl rfl ?_
        go_simp
        first | refine wpAnyE_done (by kernel_rfl) ?_ _ | refine ⟨hSb, wpAnyE_done (by kernel_rfl) ?_ _⟩
        refine noP_normal ?_
        go_wp2
        obtain ⟨k1, hB1⟩ := HF.out.1.take
        have hc6 := hB1.cell 2 rfl
        have hbl := hB1.chg.to_below (Nat.le_refl _) (fun _ hk => hk.elim)
        refine ⟨by simp, .inl ⟨_, _, rfl, run_takeDeferred k1, ?_⟩⟩
        refine ⟨.bool true, ?_, rfl, hbl⟩
        refine (?_ : ∀ wx : World, wx.cell? ⟨w.heap.size + 2, 0, none⟩ = some (.bool true) → (results Try.f12 _).run Try.prog wx = .ok (.bool true) wx) _ hc6
        intro wx h
        simp [results, Try.results12, go_sem, h]
theorem fsI_5 (p q y : Option Nat) (v : Value) (mo : Nat) (l : List Int) (who nn : Int) (w : World) (h : PgI w p q y v mo l) :
    Calls Try.prog 12 #[ptr p, ptr y, .agg #[.int .i64 who, .int .i64 5, .int .i64 nn]] w fun e w' => e = .returned (.bool true) ∧ ∃ q' v' l', PgI w' p q' y v' mo l' ∧ Chg (Fp p q y v) w w' ∧ ∀ k, Fp p q' y v' k → Fp p q y v k ∨ w.heap.size ≤ k :=
  (fsI_5b p q y v mo l who nn w h).mono (fun _ _ hh => ⟨hh.1, q, v, l, h.below hh.2, Chg.of_below hh.2, fun _ hk => .inl hk⟩)
end Go.Proofs.Ytgbbjhhggjocmaa
