/-
  step: one byte.
-/
import Derived.Test.YthnjbnhmdjpfpaaSj14
namespace Go.Proofs.Ythnjbnhmdjpfpaa
open Go.RowKit

theorem u8v {c : UInt8} {k : UInt8} (h : c = k) : ((c.toNat : Int) == (k.toNat : Int)) = true := by rw [h]; simp
theorem u8w {c : UInt8} {k : UInt8} (h : ¬ c = k) : ((c.toNat : Int) == (k.toNat : Int)) = false := by
  simp only [beq_eq_false_iff_ne, ne_eq]
  exact fun e => h (UInt8.toNat_inj.1 (by omega))
set_option maxHeartbeats 4000000 in
set_option maxRecDepth 20000 in
theorem dstep_any (b t a : Nat) (s : Ds) (c : UInt8) (v : Value) (l : List UInt8) (w : World) (x : Tl w b t a s v l) (hp1 : 1 ≤ s.p) (hp2 : s.p ≤ 5) (hl : l.length + 2 ≤ 70368744177664) (hz : s.size + 2 ≤ 4611686018427387904) (hr : s.row ≤ 4611686018427387904) : Calls Try.prog 52 #[.pointer (some ⟨b, 0, none⟩), .int .u8 (c.toNat : Int), v] w fun e w' => ∃ v', e = .returned v' ∧ Tl w' b t a (s.stp t c) v' (l ++ s.out a c) ∧ Mvd w v v' ∧ Chg (Fb b v) w w' := by
  obtain ⟨S, hS⟩ : ∃ S, s.stp t c = S := ⟨_, rfl⟩
  obtain ⟨L, hL⟩ : ∃ L, l ++ s.out a c = L := ⟨_, rfl⟩
  rw [hS, hL]
  have HJ : Hid (∀ f, Jst b t a c v w S L 4 (stF (.pointer (some ⟨b, 0, none⟩)) (.int .u8 (c.toNat : Int)) v f) w) := fun f => ⟨f, s, v, l, rfl, by unfold rank; split <;> (try split) <;> omega, hp1, hp2, x, by unfold rank; split <;> (try split) <;> omega, by unfold rank; split <;> (try split) <;> omega, hr, hS, hL, Mvd.refl _ _, Chg.refl _ _⟩
  clear x hp1 hp2 hl hz hr hS hL
  go_enter Try.func52, Try.ntmps52
  go_wp2_with fail
  refine wp_scope_label 0 3 (Jst b t a c v w S L) (fun a w h => by obtain ⟨_, _, _, _, _, h, _⟩ := h; exact absurd h (Nat.not_lt_zero _)) ?_ ?_
  · exact HJ.out (fun i => if i = 6 then .slice none 0 0 else undef)
  · rintro m x wr ⟨f, s, v1, l, rfl, hrk, hp1, hp2, hX, hl, hz, hr, hS, hL, hM, hC⟩
    obtain ⟨p, row, size, bare, long, high⟩ := s
    dsimp only at *
    obtain ⟨g, cap, rfl, -⟩ := own_bts hX.ow
    obtain ⟨c0, c1, c2, c3, c4, c5, c6, c7⟩ := hX.rd.cells
    obtain ⟨f2, f3, f4, f5, f6, f7⟩ := hX.rd.frozen
    have HX : Hid (Tl wr b t a ⟨p, row, size, bare, long, high⟩ (.slice g l.length cap) l) := hX
    have HM : Hid (Mvd w v (.slice g l.length cap)) := hM
    have HC : Hid (Chg (Fb b v) w wr) := hC
    have HS : Hid (Ds.stp t ⟨p, row, size, bare, long, high⟩ c = S ∧ l ++ Ds.out a ⟨p, row, size, bare, long, high⟩ c = L) := ⟨hS, hL⟩
    have HR : Hid (rank p < m + 1 ∧ l.length + rank p ≤ 70368744177664 ∧ size + rank p ≤ 4611686018427387904 ∧ row ≤ 4611686018427387904) := ⟨hrk, hl, hz, hr⟩
    have hp : p = 1 ∨ p = 2 ∨ p = 3 ∨ p = 5 ∨ p = 4 := by omega
    clear hX hM hC hS hL HJ hrk hl hz hr hp1 hp2
    unfold stF
    dsimp only at *
    rcases hp with rfl | rfl | rfl | rfl | rfl
    · by_cases hc : c = 46
      · have hcv : ((c.toNat : Int) == 46) = true := u8v hc
        have HB : Hid (But b wr (wr.setCell ⟨b, 2, none⟩ (.int .i64 2))) := (But.refl _ _).set _ _
        have HT : Hid (Tl (wr.setCell ⟨b, 2, none⟩ (.int .i64 2)) b t a S (.slice g l.length cap) L) := by
          have h := HS.out
          simp [Ds.stp, Ds.out, hc] at h
          rw [← h.1, ← h.2]
          exact HX.out.but HB.out (HX.out.rd.set2 2)
        clear hc c0 c1 c3 c4 c5 c6 c7 f3 f4 f5 f6 f7
        go_wp2_with fail
        rw [jump_ret]
        go_ret
        exact ⟨_, rfl, HT.out, HM.out, HC.out.trans (HB.out.chg (F := Fb b v) (.inl rfl))⟩
      · have hcv : ((c.toNat : Int) == 46) = false := u8w hc
        have HB : Hid (But b wr (wr.setCell ⟨b, 2, none⟩ (.int .i64 4))) := (But.refl _ _).set _ _
        have HT : Hid (Tl (wr.setCell ⟨b, 2, none⟩ (.int .i64 4)) b t a ⟨4, row, size, bare, long, high⟩ (.slice g l.length cap) l) := HX.out.but HB.out (HX.out.rd.set2 4)
        have HE := stp_1 (t := t) (a := a) (row := row) (size := size) (bare := bare) (long := long) (high := high) hc
        rw [HE.1, HE.2] at HS
        clear HE hc c0 c1 c3 c4 c5 c6 c7 f3 f4 f5 f6 f7
        go_wp2_with fail
        go_step3
        show (0 : Nat) = 0 ∧ Jst b t a c v w S L m _ _
        refine ⟨rfl, ?_⟩
        have hR := HR.out
        simp only [rank] at hR
        exact jst_mk _ _ _ rfl ⟨by simp [rank] at hR ⊢; omega, by simp, by simp, HT.out, by simp [rank] at hR ⊢; omega, by simp [rank] at hR ⊢; omega, hR.2.2.2, HS.out.1, HS.out.2, HM.out, HC.out.trans (HB.out.chg (F := Fb b v) (.inl rfl))⟩
    · by_cases hc : c = 13
      · have hcv : ((c.toNat : Int) == 13) = true := u8v hc
        have HB : Hid (But b wr (wr.setCell ⟨b, 2, none⟩ (.int .i64 3))) := (But.refl _ _).set _ _
        have HT : Hid (Tl (wr.setCell ⟨b, 2, none⟩ (.int .i64 3)) b t a S (.slice g l.length cap) L) := by
          have h := HS.out
          simp [Ds.stp, Ds.out, hc] at h
          rw [← h.1, ← h.2]
          exact HX.out.but HB.out (HX.out.rd.set2 3)
        clear hc c0 c1 c3 c4 c5 c6 c7 f3 f4 f5 f6 f7
        go_wp2_with fail
        rw [jump_ret]
        go_ret
        exact ⟨_, rfl, HT.out, HM.out, HC.out.trans (HB.out.chg (F := Fb b v) (.inl rfl))⟩
      · have hcv : ((c.toNat : Int) == 13) = false := u8w hc
        have HB : Hid (But b wr (wr.setCell ⟨b, 2, none⟩ (.int .i64 4))) := (But.refl _ _).set _ _
        have HT : Hid (Tl (wr.setCell ⟨b, 2, none⟩ (.int .i64 4)) b t a ⟨4, row, size, bare, long, high⟩ (.slice g l.length cap) l) := HX.out.but HB.out (HX.out.rd.set2 4)
        have HE := stp_2 (t := t) (a := a) (row := row) (size := size) (bare := bare) (long := long) (high := high) hc
        rw [HE.1, HE.2] at HS
        clear HE hc c0 c1 c3 c4 c5 c6 c7 f3 f4 f5 f6 f7
        go_wp2_with fail
        go_step3
        show (0 : Nat) = 0 ∧ Jst b t a c v w S L m _ _
        refine ⟨rfl, ?_⟩
        have hR := HR.out
        simp only [rank] at hR
        exact jst_mk _ _ _ rfl ⟨by simp [rank] at hR ⊢; omega, by simp, by simp, HT.out, by simp [rank] at hR ⊢; omega, by simp [rank] at hR ⊢; omega, hR.2.2.2, HS.out.1, HS.out.2, HM.out, HC.out.trans (HB.out.chg (F := Fb b v) (.inl rfl))⟩
    · by_cases hc : c = 10
      · have hcv : ((c.toNat : Int) == 10) = true := u8v hc
        have HB : Hid (But b wr (wr.setCell ⟨b, 2, none⟩ (.int .i64 6))) := (But.refl _ _).set _ _
        have HT : Hid (Tl (wr.setCell ⟨b, 2, none⟩ (.int .i64 6)) b t a S (.slice g l.length cap) L) := by
          have h := HS.out
          simp [Ds.stp, Ds.out, hc] at h
          rw [← h.1, ← h.2]
          exact HX.out.but HB.out (HX.out.rd.set2 6)
        clear hc c0 c1 c3 c4 c5 c6 c7 f3 f4 f5 f6 f7
        go_wp2_with fail
        rw [jump_ret]
        go_ret
        exact ⟨_, rfl, HT.out, HM.out, HC.out.trans (HB.out.chg (F := Fb b v) (.inl rfl))⟩
      · have hcv : ((c.toNat : Int) == 10) = false := u8w hc
        have hR := HR.out
        simp only [rank] at hR
        have HTL := dtell_any b t a ⟨3, row, size, bare, long, high⟩ 13 (.slice g l.length cap) l wr HX.out (by simp at hR; omega) (by simp at hR ⊢; omega)
        have HE := stp_3 (t := t) (a := a) (row := row) (size := size) (bare := bare) (long := long) (high := high) hc
        rw [HE.1, HE.2, ← List.append_assoc] at HS
        have HLN : Hid ((Ds.ou a ⟨3, row, size, bare, long, high⟩ 13).length ≤ 1) := by unfold Hid Ds.ou; split <;> simp
        generalize Ds.ou a ⟨3, row, size, bare, long, high⟩ 13 = o at *
        clear hR HE hc c0 c1 c3 c4 c5 c6 c7 f3 f4 f5 f6 f7 f2
        go_wp2_with fail
        refine HTL.mono ?_
        rintro e w3 ⟨v3, rfl, hX3, hM3, hC3⟩
        obtain ⟨g3, cap3, rfl, -⟩ := own_bts hX3.ow
        have HX3 : Hid (Tl w3 b t a ⟨3, row, size + 1, bare, long, high⟩ (.slice g3 (l ++ o).length cap3) (l ++ o)) := by
          have := hX3
          simp [Ds.tl] at this ⊢
          exact this
        obtain ⟨d0, d1, d2, d3, d4, d5, d6, d7⟩ := hX3.rd.cells
        obtain ⟨f2, f3, f4, f5, f6, f7⟩ := hX3.rd.frozen
        have HM3 : Hid (Mvd w v (.slice g3 (l ++ o).length cap3)) := hM3.trans HM.out HC.out.size
        have HC3 : Hid (Chg (Fb b v) w w3) := HC.out.then hC3 (fb_then HM.out)
        have HB : Hid (But b w3 (w3.setCell ⟨b, 2, none⟩ (.int .i64 5))) := (But.refl _ _).set _ _
        have HT : Hid (Tl (w3.setCell ⟨b, 2, none⟩ (.int .i64 5)) b t a ⟨5, row, size + 1, bare, long, high⟩ (.slice g3 (l ++ o).length cap3) (l ++ o)) := HX3.out.but HB.out (HX3.out.rd.set2 5)
        rw [List.length_append] at HM3 HT
        clear hX3 hM3 hC3 HX3 d0 d1 d3 d4 d5 d6 d7 f3 f4 f5 f6 f7 HTL c2 HX
        go_wp2_with fail
        go_step3
        show (0 : Nat) = 0 ∧ Jst b t a c v w S L m _ _
        refine ⟨rfl, ?_⟩
        have hR := HR.out
        have hN := HLN.out
        simp only [rank] at hR
        exact jst_mk _ _ _ rfl ⟨by simp [rank] at hR ⊢; omega, by simp, by simp, HT.out, by simp [rank] at hR ⊢; omega, by simp [rank] at hR ⊢; omega, hR.2.2.2, HS.out.1, HS.out.2, HM3.out, HC3.out.trans (HB.out.chg (F := Fb b v) (.inl rfl))⟩
    · by_cases hc : c = 10
      · have hcv : ((c.toNat : Int) == 10) = true := u8v hc
        obtain ⟨W, hW⟩ : ∃ W, W = (wr.setCell ⟨b, 2, none⟩ (.int .i64 1)).setCell ⟨b, 3, none⟩ (.int .i64 0) := ⟨_, rfl⟩
        have HB : Hid (But b wr W) := by subst hW; exact ((But.refl _ _).set _ _).set _ _
        have hT : Tl W b t a ⟨1, 0, size, bare, long, high⟩ (.slice g l.length cap) l := HX.out.but HB.out (by subst hW; exact (HX.out.rd.set2 1).set3 0)
        have hR := HR.out
        simp only [rank] at hR
        have HTL := dtell_any b t a ⟨1, 0, size, bare, long, high⟩ c (.slice g l.length cap) l W hT (by simp at hR; omega) (by simp at hR ⊢; omega)
        have HF : Hid (S = Ds.tl ⟨1, 0, size, bare, long, high⟩ c ∧ L = l ++ Ds.ou a ⟨1, 0, size, bare, long, high⟩ c) := by
          have h := HS.out
          rw [hc] at h ⊢
          simp [Ds.stp, Ds.out] at h
          exact ⟨h.1.symm, h.2.symm⟩
        clear hT HS hR hc c0 c1 c4 c5 c6 c7 f4 f5 f6 f7
        go_wp2_with fail
        rw [← hW]
        clear hW
        go_wp2_with fail
        refine HTL.mono ?_
        rintro e w3 ⟨v3, rfl, hX3, hM3, hC3⟩
        rw [← HF.out.1, ← HF.out.2] at hX3
        obtain ⟨g3, cap3, rfl, -⟩ := own_bts hX3.ow
        have HX3 : Hid (Tl w3 b t a S (.slice g3 L.length cap3) L) := hX3
        have HM3 : Hid (Mvd w v (.slice g3 L.length cap3)) := hM3.trans HM.out (Nat.le_trans HC.out.size HB.out.size)
        have HC3 : Hid (Chg (Fb b v) w w3) := (HC.out.trans (HB.out.chg (F := Fb b v) (.inl rfl))).then hC3 (fb_then HM.out)
        clear hX3 hM3 hC3 HTL c2 c3 f2 f3
        go_wp2_with fail
        rw [jump_ret]
        go_ret
        exact ⟨_, rfl, HX3.out, HM3.out, HC3.out⟩
      · have hcv : ((c.toNat : Int) == 10) = false := u8w hc
        have HB : Hid (But b wr ((wr.setCell ⟨b, 5, none⟩ (.bool true)).setCell ⟨b, 2, none⟩ (.int .i64 4))) := ((But.refl _ _).set _ _).set _ _
        have HT : Hid (Tl ((wr.setCell ⟨b, 5, none⟩ (.bool true)).setCell ⟨b, 2, none⟩ (.int .i64 4)) b t a ⟨4, row, size, true, long, high⟩ (.slice g l.length cap) l) := HX.out.but HB.out ((HX.out.rd.set5 true).set2 4)
        have HE := stp_5 (t := t) (a := a) (row := row) (size := size) (bare := bare) (long := long) (high := high) hc
        rw [HE.1, HE.2] at HS
        clear HE hc c0 c1 c3 c4 c6 c7 f3 f4 f6 f7
        go_wp2_with fail
        go_step3
        show (0 : Nat) = 0 ∧ Jst b t a c v w S L m _ _
        refine ⟨rfl, ?_⟩
        have hR := HR.out
        simp only [rank] at hR
        exact jst_mk _ _ _ rfl ⟨by simp [rank] at hR ⊢; omega, by simp, by simp, HT.out, by simp [rank] at hR ⊢; omega, by simp [rank] at hR ⊢; omega, hR.2.2.2, HS.out.1, HS.out.2, HM.out, HC.out.trans (HB.out.chg (F := Fb b v) (.inl rfl))⟩
    · by_cases hc : c = 13
      · have hcv : ((c.toNat : Int) == 13) = true := u8v hc
        obtain ⟨W, hW⟩ : ∃ W, W = wr.setCell ⟨b, 2, none⟩ (.int .i64 5) := ⟨_, rfl⟩
        have HB : Hid (But b wr W) := by subst hW; exact (But.refl _ _).set _ _
        have hT : Tl W b t a ⟨5, row, size, bare, long, high⟩ (.slice g l.length cap) l := HX.out.but HB.out (by subst hW; exact HX.out.rd.set2 5)
        have hR := HR.out
        simp only [rank] at hR
        have HTL := dtell_any b t a ⟨5, row, size, bare, long, high⟩ c (.slice g l.length cap) l W hT (by simp at hR; omega) (by simp at hR ⊢; omega)
        have HF : Hid (S = Ds.tl ⟨5, row, size, bare, long, high⟩ c ∧ L = l ++ Ds.ou a ⟨5, row, size, bare, long, high⟩ c) := by
          have h := HS.out
          simp [Ds.stp, Ds.out, Ds.inn, Ds.mid, hc] at h
          rw [hc]
          exact ⟨h.1.symm, h.2.symm⟩
        have HRW : Hid (W = wr.setCell ⟨b, 2, none⟩ (.int .i64 5)) := hW
        clear hT HS hR hc hW c0 c1 c3 c4 c5 c6 c7 f3 f4 f5 f6 f7
        go_wp2_with fail
        rw [← HRW.out]
        clear HRW
        go_wp2_with fail
        refine HTL.mono ?_
        rintro e w3 ⟨v3, rfl, hX3, hM3, hC3⟩
        rw [← HF.out.1, ← HF.out.2] at hX3
        obtain ⟨g3, cap3, rfl, -⟩ := own_bts hX3.ow
        have HX3 : Hid (Tl w3 b t a S (.slice g3 L.length cap3) L) := hX3
        have HM3 : Hid (Mvd w v (.slice g3 L.length cap3)) := hM3.trans HM.out (Nat.le_trans HC.out.size HB.out.size)
        have HC3 : Hid (Chg (Fb b v) w w3) := (HC.out.trans (HB.out.chg (F := Fb b v) (.inl rfl))).then hC3 (fb_then HM.out)
        clear hX3 hM3 hC3 HTL
        go_wp2_with fail
        rw [jump_ret]
        go_ret
        exact ⟨_, rfl, HX3.out, HM3.out, HC3.out⟩
      · have hcv : ((c.toNat : Int) == 13) = false := u8w hc
        cases bare with
        | true =>
          cases long with
          | true =>
            have hwr : wrap64 ((row : Int) + 1) = (row : Int) + 1 := by have := HR.out.2.2.2; unfold wrap64; omega
            have hro : row ≤ 4611686018427387904 := HR.out.2.2.2
            obtain ⟨W, hW⟩ : ∃ W, W = ((wr.setCell ⟨b, 5, none⟩ (.bool true)).setCell ⟨b, 3, none⟩ (.int .i64 ((row : Int) + 1))).setCell ⟨b, 6, none⟩ (.bool true) := ⟨_, rfl⟩
            have HB : Hid (But b wr W) := by subst hW; exact (((But.refl _ _).set _ _).set _ _).set _ _
            have hT : Tl W.drew b t a ⟨4, row + 1, size, true, true, high⟩ (.slice g l.length cap) l := HX.out.but HB.out.drew (by subst hW; exact ((HX.out.rd.set5 _).set3 (row + 1)).set6 _)
            have hR := HR.out
            simp only [rank] at hR
            have HTL := dtell_any b t a ⟨4, row + 1, size, true, true, high⟩ c (.slice g l.length cap) l W.drew hT (by simp at hR; omega) (by simp at hR ⊢; omega)
            have HF : Hid (S = Ds.tl ⟨4, row + 1, size, true, true, high⟩ c ∧ L = l ++ Ds.ou a ⟨4, row + 1, size, true, true, high⟩ c) := by
              have h := HS.out
              rw [stp_in hc, out_in] at h
              exact ⟨h.1.symm.trans (by rfl), h.2.symm⟩
            have HRW : Hid (W = ((wr.setCell ⟨b, 5, none⟩ (.bool true)).setCell ⟨b, 3, none⟩ (.int .i64 ((row : Int) + 1))).setCell ⟨b, 6, none⟩ (.bool true)) := hW
            clear hT HS hR hc hW c4 c7 f2 f4 f7
            go_wp2_with fail
            go_region
            go_wp2_with fail
            rw [← HRW.out]
            clear HRW
            go_wp2_with fail
            refine HTL.mono ?_
            rintro e w3 ⟨v3, rfl, hX3, hM3, hC3⟩
            rw [← HF.out.1, ← HF.out.2] at hX3
            obtain ⟨g3, cap3, rfl, -⟩ := own_bts hX3.ow
            have HX3 : Hid (Tl w3 b t a S (.slice g3 L.length cap3) L) := hX3
            have HM3 : Hid (Mvd w v (.slice g3 L.length cap3)) := hM3.trans HM.out (Nat.le_trans HC.out.size HB.out.drew.size)
            have HC3 : Hid (Chg (Fb b v) w w3) := (HC.out.trans (HB.out.drew.chg (F := Fb b v) (.inl rfl))).then hC3 (fb_then HM.out)
            clear hX3 hM3 hC3 HTL
            go_wp2_with fail
            rw [jump_ret]
            go_ret
            exact ⟨_, rfl, HX3.out, HM3.out, HC3.out⟩
          | false =>
            have hwr : wrap64 ((row : Int) + 1) = (row : Int) + 1 := by have := HR.out.2.2.2; unfold wrap64; omega
            have hro : row ≤ 4611686018427387904 := HR.out.2.2.2
            obtain ⟨W, hW⟩ : ∃ W, W = ((wr.setCell ⟨b, 5, none⟩ (.bool true)).setCell ⟨b, 3, none⟩ (.int .i64 ((row : Int) + 1))).setCell ⟨b, 6, none⟩ (.bool (decide ((t : Int) < (row : Int) + 1))) := ⟨_, rfl⟩
            have HB : Hid (But b wr W) := by subst hW; exact (((But.refl _ _).set _ _).set _ _).set _ _
            have hT : Tl W.drew b t a ⟨4, row + 1, size, true, (decide ((t : Int) < (row : Int) + 1)), high⟩ (.slice g l.length cap) l := HX.out.but HB.out.drew (by subst hW; exact ((HX.out.rd.set5 _).set3 (row + 1)).set6 _)
            have hR := HR.out
            simp only [rank] at hR
            have HTL := dtell_any b t a ⟨4, row + 1, size, true, (decide ((t : Int) < (row : Int) + 1)), high⟩ c (.slice g l.length cap) l W.drew hT (by simp at hR; omega) (by simp at hR ⊢; omega)
            have HF : Hid (S = Ds.tl ⟨4, row + 1, size, true, (decide ((t : Int) < (row : Int) + 1)), high⟩ c ∧ L = l ++ Ds.ou a ⟨4, row + 1, size, true, (decide ((t : Int) < (row : Int) + 1)), high⟩ c) := by
              have h := HS.out
              rw [stp_in hc, out_in] at h
              exact ⟨h.1.symm.trans (by simp [u10, tlt]), h.2.symm⟩
            have HRW : Hid (W = ((wr.setCell ⟨b, 5, none⟩ (.bool true)).setCell ⟨b, 3, none⟩ (.int .i64 ((row : Int) + 1))).setCell ⟨b, 6, none⟩ (.bool (decide ((t : Int) < (row : Int) + 1)))) := hW
            clear hT HS hR hc hW c4 c7 f2 f4 f7
            go_wp2_with fail
            go_region
            go_wp2_with fail
            rw [← HRW.out]
            clear HRW
            go_wp2_with fail
            refine HTL.mono ?_
            rintro e w3 ⟨v3, rfl, hX3, hM3, hC3⟩
            rw [← HF.out.1, ← HF.out.2] at hX3
            obtain ⟨g3, cap3, rfl, -⟩ := own_bts hX3.ow
            have HX3 : Hid (Tl w3 b t a S (.slice g3 L.length cap3) L) := hX3
            have HM3 : Hid (Mvd w v (.slice g3 L.length cap3)) := hM3.trans HM.out (Nat.le_trans HC.out.size HB.out.drew.size)
            have HC3 : Hid (Chg (Fb b v) w w3) := (HC.out.trans (HB.out.drew.chg (F := Fb b v) (.inl rfl))).then hC3 (fb_then HM.out)
            clear hX3 hM3 hC3 HTL
            go_wp2_with fail
            rw [jump_ret]
            go_ret
            exact ⟨_, rfl, HX3.out, HM3.out, HC3.out⟩
        | false =>
          cases long with
          | true =>
            have hwr : wrap64 ((row : Int) + 1) = (row : Int) + 1 := by have := HR.out.2.2.2; unfold wrap64; omega
            have hro : row ≤ 4611686018427387904 := HR.out.2.2.2
            obtain ⟨W, hW⟩ : ∃ W, W = ((wr.setCell ⟨b, 5, none⟩ (.bool (((c.toNat : Int) == 10)))).setCell ⟨b, 3, none⟩ (.int .i64 ((row : Int) + 1))).setCell ⟨b, 6, none⟩ (.bool true) := ⟨_, rfl⟩
            have HB : Hid (But b wr W) := by subst hW; exact (((But.refl _ _).set _ _).set _ _).set _ _
            have hT : Tl W.drew b t a ⟨4, row + 1, size, (((c.toNat : Int) == 10)), true, high⟩ (.slice g l.length cap) l := HX.out.but HB.out.drew (by subst hW; exact ((HX.out.rd.set5 _).set3 (row + 1)).set6 _)
            have hR := HR.out
            simp only [rank] at hR
            have HTL := dtell_any b t a ⟨4, row + 1, size, (((c.toNat : Int) == 10)), true, high⟩ c (.slice g l.length cap) l W.drew hT (by simp at hR; omega) (by simp at hR ⊢; omega)
            have HF : Hid (S = Ds.tl ⟨4, row + 1, size, (((c.toNat : Int) == 10)), true, high⟩ c ∧ L = l ++ Ds.ou a ⟨4, row + 1, size, (((c.toNat : Int) == 10)), true, high⟩ c) := by
              have h := HS.out
              rw [stp_in hc, out_in] at h
              exact ⟨h.1.symm.trans (by simp [u10, tlt]), h.2.symm⟩
            have HRW : Hid (W = ((wr.setCell ⟨b, 5, none⟩ (.bool (((c.toNat : Int) == 10)))).setCell ⟨b, 3, none⟩ (.int .i64 ((row : Int) + 1))).setCell ⟨b, 6, none⟩ (.bool true)) := hW
            clear hT HS hR hc hW c4 c7 f2 f4 f7
            go_wp2_with fail
            go_region
            go_wp2_with fail
            rw [← HRW.out]
            clear HRW
            go_wp2_with fail
            refine HTL.mono ?_
            rintro e w3 ⟨v3, rfl, hX3, hM3, hC3⟩
            rw [← HF.out.1, ← HF.out.2] at hX3
            obtain ⟨g3, cap3, rfl, -⟩ := own_bts hX3.ow
            have HX3 : Hid (Tl w3 b t a S (.slice g3 L.length cap3) L) := hX3
            have HM3 : Hid (Mvd w v (.slice g3 L.length cap3)) := hM3.trans HM.out (Nat.le_trans HC.out.size HB.out.drew.size)
            have HC3 : Hid (Chg (Fb b v) w w3) := (HC.out.trans (HB.out.drew.chg (F := Fb b v) (.inl rfl))).then hC3 (fb_then HM.out)
            clear hX3 hM3 hC3 HTL
            go_wp2_with fail
            rw [jump_ret]
            go_ret
            exact ⟨_, rfl, HX3.out, HM3.out, HC3.out⟩
          | false =>
            have hwr : wrap64 ((row : Int) + 1) = (row : Int) + 1 := by have := HR.out.2.2.2; unfold wrap64; omega
            have hro : row ≤ 4611686018427387904 := HR.out.2.2.2
            obtain ⟨W, hW⟩ : ∃ W, W = ((wr.setCell ⟨b, 5, none⟩ (.bool (((c.toNat : Int) == 10)))).setCell ⟨b, 3, none⟩ (.int .i64 ((row : Int) + 1))).setCell ⟨b, 6, none⟩ (.bool (decide ((t : Int) < (row : Int) + 1))) := ⟨_, rfl⟩
            have HB : Hid (But b wr W) := by subst hW; exact (((But.refl _ _).set _ _).set _ _).set _ _
            have hT : Tl W.drew b t a ⟨4, row + 1, size, (((c.toNat : Int) == 10)), (decide ((t : Int) < (row : Int) + 1)), high⟩ (.slice g l.length cap) l := HX.out.but HB.out.drew (by subst hW; exact ((HX.out.rd.set5 _).set3 (row + 1)).set6 _)
            have hR := HR.out
            simp only [rank] at hR
            have HTL := dtell_any b t a ⟨4, row + 1, size, (((c.toNat : Int) == 10)), (decide ((t : Int) < (row : Int) + 1)), high⟩ c (.slice g l.length cap) l W.drew hT (by simp at hR; omega) (by simp at hR ⊢; omega)
            have HF : Hid (S = Ds.tl ⟨4, row + 1, size, (((c.toNat : Int) == 10)), (decide ((t : Int) < (row : Int) + 1)), high⟩ c ∧ L = l ++ Ds.ou a ⟨4, row + 1, size, (((c.toNat : Int) == 10)), (decide ((t : Int) < (row : Int) + 1)), high⟩ c) := by
              have h := HS.out
              rw [stp_in hc, out_in] at h
              exact ⟨h.1.symm.trans (by simp [u10, tlt]), h.2.symm⟩
            have HRW : Hid (W = ((wr.setCell ⟨b, 5, none⟩ (.bool (((c.toNat : Int) == 10)))).setCell ⟨b, 3, none⟩ (.int .i64 ((row : Int) + 1))).setCell ⟨b, 6, none⟩ (.bool (decide ((t : Int) < (row : Int) + 1)))) := hW
            clear hT HS hR hc hW c4 c7 f2 f4 f7
            go_wp2_with fail
            go_region
            go_wp2_with fail
            rw [← HRW.out]
            clear HRW
            go_wp2_with fail
            refine HTL.mono ?_
            rintro e w3 ⟨v3, rfl, hX3, hM3, hC3⟩
            rw [← HF.out.1, ← HF.out.2] at hX3
            obtain ⟨g3, cap3, rfl, -⟩ := own_bts hX3.ow
            have HX3 : Hid (Tl w3 b t a S (.slice g3 L.length cap3) L) := hX3
            have HM3 : Hid (Mvd w v (.slice g3 L.length cap3)) := hM3.trans HM.out (Nat.le_trans HC.out.size HB.out.drew.size)
            have HC3 : Hid (Chg (Fb b v) w w3) := (HC.out.trans (HB.out.drew.chg (F := Fb b v) (.inl rfl))).then hC3 (fb_then HM.out)
            clear hX3 hM3 hC3 HTL
            go_wp2_with fail
            rw [jump_ret]
            go_ret
            exact ⟨_, rfl, HX3.out, HM3.out, HC3.out⟩
end Go.Proofs.Ythnjbnhmdjpfpaa
