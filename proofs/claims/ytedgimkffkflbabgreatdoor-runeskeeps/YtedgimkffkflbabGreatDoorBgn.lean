/-
  The document's begun and Begins.
-/
import Derived.Test.YtedgimkffkflbabGreatDoorFedP
import Derived.Test.YtedgimkffkflbabGreatDoorROne
import Derived.Test.YtedgimkffkflbabGreatDoorLate5
namespace Go.Proofs.YtedgimkffkflbabGreatDoor
open Go.RowKit

/-- A yes where a thing is so, a no where it isn't. -/
def Tells (e : Ending) (P : Prop) : Prop := ∃ r : Bool, e = .returned (.bool r) ∧ (r = true ↔ P)
theorem tells_no {P : Prop} (h : ¬ P) : Tells (.returned (.bool false)) P := ⟨false, rfl, fun h => (by cases h), fun x => absurd x h⟩
theorem tells_yes {P : Prop} (h : P) : Tells (.returned (.bool true)) P := ⟨true, rfl, fun _ => h, fun _ => rfl⟩
theorem loB_in (b : List UInt8) (i : Nat) (h : i < b.length) : loB b i = (b[i].toNat : Int) - 128 ∧ hiB b i = (b[i].toNat : Int) - 128 := by
  unfold loB hiB
  rw [if_pos h, if_pos h]
  simp [List.getElem?_eq_getElem h]
theorem loB_out (b : List UInt8) (i : Nat) (h : ¬ i < b.length) : loB b i = 0 ∧ hiB b i = 63 := by
  unfold loB hiB
  rw [if_neg h, if_neg h]
  exact ⟨rfl, rfl⟩
theorem okB_succ (b : List UInt8) (k : Nat) (h : okB b k) (h1 : 0 ≤ loB b (k + 1)) (h2 : hiB b (k + 1) ≤ 63) : okB b (k + 1) := fun i h3 h4 => by
  by_cases e : i = k + 1
  · subst e; exact ⟨h1, h2⟩
  · exact h i h3 (by omega)

set_option maxHeartbeats 8000000 in
set_option maxRecDepth 100000 in
theorem dbegun_any (g o cap : Nat) (b : List UInt8) (n : Nat) (h0 : 0 < b.length) (hn : b.length < n) (h4 : n ≤ 4) (w : World) (hb : Bts (some ⟨g, o, none⟩) b w) :
    Calls Tryz.prog 57 #[.slice (some ⟨g, o, none⟩) b.length cap, .int .i64 n] w fun e w' => Tells e (bgP b n) ∧ Below w.heap.size w w' := by
  have HBT : Hid (Bts (some ⟨g, o, none⟩) b w) := hb
  obtain ⟨g', o', e', hg, hcell⟩ := hb.cell 0 h0
  injection e' with e'
  injection e' with e1 e2
  subst e1 e2
  rw [Nat.add_zero] at hcell
  have HBP : Hid (bgP b n ↔ okB b (n - 1) ∧ scanP n (accB (loB b) (bsB b n) (n - 1)) (accB (hiB b) (bsB b n) (n - 1))) := Iff.rfl
  have HBS : Hid (bsB b n = (b[0].toNat : Int) - leadN n) := by
    show bsB b n = _
    unfold bsB
    simp [List.getElem?_eq_getElem h0]
  have HL : Hid (∀ wx, Calls Tryz.prog 78 #[.int .i64 (n : Nat)] wx fun e w' => e = .returned (.int .i64 (leadN n)) ∧ w' = wx.alloc (.cells #[.int .i64 0, .int .i64 0, .int .i64 192, .int .i64 224, .int .i64 240] 3)) := fun wx => dlead_any n h4 wx
  have hcl := b[0].toNat_lt
  have hll : 0 ≤ leadN n ∧ leadN n ≤ 240 := by unfold leadN; omega
  obtain ⟨BL, hBL⟩ : ∃ BL, BL = b.length := ⟨_, rfl⟩
  have HBL : Hid (BL = b.length) := hBL
  rw [← hBL] at h0 hn ⊢
  generalize b[0] = c at *
  generalize leadN n = LD at *
  clear hBL hb
  have hBn : ((BL : Nat) : Int) < (n : Int) := by omega
  have hB0 : (0 : Int) < (BL : Int) := by omega
  go_enter Tryz.func57, Tryz.ntmps57
  go_wp2_with fail
  have hcw : IntKind.i64.wrap (c.toNat : Int) = (c.toNat : Int) := by rw [IntKind.wrap_i64]; omega
  have hcw2 : IntKind.i64.wrap ((c.toNat : Int) - LD) = (c.toNat : Int) - LD := by rw [IntKind.wrap_i64]; omega
  refine wp_region_late (fun wx => wx.cell? ⟨g, o, none⟩ = some (.int .u8 (c.toNat : Int))) 8 (by kernel_rfl) hcell (fun hHeld => ?_)
  refine wpAnyE_tk (i := 0) (d := some 11) (v := ?_) rfl (by kernel_rfl) (by kernel_rfl) (by kernel_rfl) rfl (fun _ _ _ h => h) rfl rfl ?hy (by assumption) ?_
  case hy => (intro w' hSw; (try dsimp only at hSw); go_simp <;> (try with_reducible rfl))
  simp only [Act.put, List.setIfInBounds_toArray, List.set_cons_zero, List.set_cons_succ]
  refine wpAnyE_tk (i := 1) (d := some 12) (v := ?_) rfl (by kernel_rfl) (by kernel_rfl) (by kernel_rfl) rfl (fun _ _ _ h => h) rfl rfl ?hy (by assumption) ?_
  case hy => (intro w' hSw; (try dsimp only at hSw); go_simp <;> (try with_reducible rfl))
  simp only [Act.put, List.setIfInBounds_toArray, List.set_cons_zero, List.set_cons_succ]
  refine wpAnyE_tk (i := 2) (d := some 13) (v := .int .u8 (c.toNat : Int)) rfl (by kernel_rfl) (by kernel_rfl) (by kernel_rfl) rfl (fun _ _ _ h => h) rfl rfl ?hy (by assumption) ?_
  case hy => (intro w' hSw; (try dsimp only at hSw); go_simp <;> (try with_reducible rfl))
  simp only [Act.put, List.setIfInBounds_toArray, List.set_cons_zero, List.set_cons_succ]
  refine wpAnyE_tk (i := 3) (d := some 14) (v := .int .i64 (c.toNat : Int)) rfl (by kernel_rfl) (by kernel_rfl) (by kernel_rfl) rfl (fun _ _ _ h => h) rfl rfl ?hy (by assumption) ?_
  case hy => (intro w' hSw; (try dsimp only at hSw); go_simp <;> (try with_reducible rfl))
  simp only [Act.put, List.setIfInBounds_toArray, List.set_cons_zero, List.set_cons_succ]
  refine wpAnyE_tk (i := 4) (d := some 15) (v := ?_) rfl (by kernel_rfl) (by kernel_rfl) (by kernel_rfl) rfl (fun _ _ _ h => h) rfl rfl ?hy (by assumption) ?_
  case hy => (intro w' hSw; (try dsimp only at hSw); go_simp <;> (try with_reducible rfl))
  simp only [Act.put, List.setIfInBounds_toArray, List.set_cons_zero, List.set_cons_succ]
  refine wpAnyE_on (i := 5) (by kernel_rfl) rfl rfl ?_
  go_simp
  clear hHeld
  refine (HL.out _).mono ?_
  rintro e w1 ⟨rfl, rfl⟩
  refine ⟨(((Below.refl w.heap.size w).drew.alloc (Nat.le_refl _) _).cell (p := ⟨g, o, none⟩) hg |>.trans hcell), ?_⟩
  refine wpAnyE_on (i := 6) (by kernel_rfl) rfl rfl ?_
  go_simp
  refine wpAnyE_on (i := 7) (by kernel_rfl) rfl rfl ?_
  go_simp
  refine wpAnyE_done (by kernel_rfl) ?_ _
  have HB1 : Hid (Below w.heap.size w (w.alloc (.cells #[.int .i64 0, .int .i64 0, .int .i64 192, .int .i64 224, .int .i64 240] 3)).drew) := ((Below.refl w.heap.size w).alloc (Nat.le_refl _) _).drew
  generalize (w.alloc (.cells #[.int .i64 0, .int .i64 0, .int .i64 192, .int .i64 224, .int .i64 240] 3)).drew = W1 at *
  rw [← HBS.out]
  have hb1 : -300 ≤ bsB b n ∧ bsB b n ≤ 300 := by rw [HBS.out]; omega
  generalize bsB b n = bs at *
  clear HL hcw hcw2 hcell hcl hll HBS
  go_wp2_with fail
  go_loopw [5, 6, 7, 8, 9] (fun lv mv iv _ _ wr => ∃ k : Nat, iv = .int .i64 ((k + 1 : Nat) : Int) ∧ k + 1 ≤ n ∧ lv = .int .i64 (accB (loB b) bs k) ∧ mv = .int .i64 (accB (hiB b) bs k) ∧ Hid (okB b k) ∧ Hid (Below w.heap.size w wr)) (fun _ _ iv _ _ _ => n - (intOf iv).toNat)
  case atStart => exact ⟨0, rfl, by omega, rfl, rfl, fun i h1 h2 => by omega, HB1⟩
  case round =>
    clear HB1
    obtain ⟨k, rfl, hk, rfl, rfl, HOK, HB1⟩ := hrel
    have har := acc_range b bs hb1.1 hb1.2 k (by omega) HOK.out
    by_cases hkn : k + 1 < n
    · have HA : Hid (accB (loB b) bs (k + 1) = 64 * accB (loB b) bs k + loB b (k + 1) ∧ accB (hiB b) bs (k + 1) = 64 * accB (hiB b) bs k + hiB b (k + 1)) := ⟨rfl, rfl⟩
      have hlh := lo_le_hi b (k + 1)
      have HOKN : Hid (0 ≤ loB b (k + 1) → hiB b (k + 1) ≤ 63 → okB b (k + 1)) := fun h1 h2 => okB_succ b k HOK.out h1 h2
      have HNOT : Hid (¬ (0 ≤ loB b (k + 1) ∧ hiB b (k + 1) ≤ 63) → ¬ bgP b n) := fun h1 h2 => h1 ((HBP.out.1 h2).1 (k + 1) (by omega) (by omega))
      obtain ⟨LO, hLO⟩ : ∃ LO, LO = accB (loB b) bs k := ⟨_, rfl⟩
      obtain ⟨HI, hHI⟩ : ∃ HI, HI = accB (hiB b) bs k := ⟨_, rfl⟩
      rw [← hLO, ← hHI] at HA har ⊢
      clear hLO hHI
      have hki : (k : Int) + 1 < (n : Int) := by omega
      have hk0 : ¬ (k : Int) + 1 < 0 := by omega
      by_cases hkb : k + 1 < BL
      · have hkb' : k + 1 < b.length := by have := HBL.out; omega
        obtain ⟨g2, o2, e2, hg2, hc2⟩ := (HBT.out.below HB1.out).cell (k + 1) hkb'
        injection e2 with e2
        injection e2 with e3 e4
        subst e3 e4
        obtain ⟨f1, f2⟩ := loB_in b (k + 1) hkb'
        have hyl := b[k + 1].toNat_lt
        generalize b[k + 1] = y at *
        rw [f1] at HA HOKN HNOT
        rw [f2] at HA HOKN HNOT
        have hkbi : (k : Int) + 1 < (BL : Int) := by omega
        have hw2 : IntKind.i64.wrap (y.toNat : Int) = (y.toNat : Int) := by rw [IntKind.wrap_i64]; omega
        have hw3 : IntKind.i64.wrap ((y.toNat : Int) - 128) = (y.toNat : Int) - 128 := by rw [IntKind.wrap_i64]; omega
        have hof : o + (k + 1) = o + (k + 1) := rfl
        clear f1 f2 hlh hkb'
        go_wp2_with fail
        refine wp_region_late (fun wx => wx.cell? ⟨g, o + (k + 1), none⟩ = some (.int .u8 (y.toNat : Int))) 14 (by kernel_rfl) hc2 (fun hHeld => ?_)
        refine wpAnyE_tk (i := 0) (d := some 28) (v := ?_) rfl (by kernel_rfl) (by kernel_rfl) (by kernel_rfl) rfl (fun _ _ _ h => h) rfl rfl ?hy (by assumption) ?_
        case hy => (intro w' hSw; (try dsimp only at hSw); go_simp <;> (try with_reducible rfl))
        simp only [Act.put, List.setIfInBounds_toArray, List.set_cons_zero, List.set_cons_succ]
        refine wpAnyE_tk (i := 1) (d := some 29) (v := ?_) rfl (by kernel_rfl) (by kernel_rfl) (by kernel_rfl) rfl (fun _ _ _ h => h) rfl rfl ?hy (by assumption) ?_
        case hy => (intro w' hSw; (try dsimp only at hSw); go_simp <;> (try with_reducible rfl))
        simp only [Act.put, List.setIfInBounds_toArray, List.set_cons_zero, List.set_cons_succ]
        refine wpAnyE_tk (i := 2) (d := some 30) (v := .pointer (some ⟨g, o + (k + 1), none⟩)) rfl (by kernel_rfl) (by kernel_rfl) (by kernel_rfl) rfl (fun _ _ _ h => h) rfl rfl ?hy (by assumption) ?_
        case hy => (intro w' hSw; (try dsimp only at hSw); go_simp <;> (try with_reducible rfl))
        simp only [Act.put, List.setIfInBounds_toArray, List.set_cons_zero, List.set_cons_succ]
        refine wpAnyE_tk (i := 3) (d := some 31) (v := .int .u8 (y.toNat : Int)) rfl (by kernel_rfl) (by kernel_rfl) (by kernel_rfl) rfl (fun _ _ _ h => h) rfl rfl ?hy (by assumption) ?_
        case hy => (intro w' hSw; (try dsimp only at hSw); go_simp <;> (try with_reducible rfl))
        simp only [Act.put, List.setIfInBounds_toArray, List.set_cons_zero, List.set_cons_succ]
        refine wpAnyE_tk (i := 4) (d := some 32) (v := .int .i64 (y.toNat : Int)) rfl (by kernel_rfl) (by kernel_rfl) (by kernel_rfl) rfl (fun _ _ _ h => h) rfl rfl ?hy (by assumption) ?_
        case hy => (intro w' hSw; (try dsimp only at hSw); go_simp <;> (try with_reducible rfl))
        simp only [Act.put, List.setIfInBounds_toArray, List.set_cons_zero, List.set_cons_succ]
        refine wpAnyE_tk (i := 5) (d := some 33) (v := .int .i64 ((y.toNat : Int) - 128)) rfl (by kernel_rfl) (by kernel_rfl) (by kernel_rfl) rfl (fun _ _ _ h => h) rfl rfl ?hy (by assumption) ?_
        case hy => (intro w' hSw; (try dsimp only at hSw); go_simp <;> (try with_reducible rfl))
        simp only [Act.put, List.setIfInBounds_toArray, List.set_cons_zero, List.set_cons_succ]
        refine wpAnyE_tk (i := 6) (d := some 34) (v := ?_) rfl (by kernel_rfl) (by kernel_rfl) (by kernel_rfl) rfl (fun _ _ _ h => h) rfl rfl ?hy (by assumption) ?_
        case hy => (intro w' hSw; (try dsimp only at hSw); go_simp <;> (try with_reducible rfl))
        simp only [Act.put, List.setIfInBounds_toArray, List.set_cons_zero, List.set_cons_succ]
        refine wpAnyE_tk (i := 7) (d := some 35) (v := ?_) rfl (by kernel_rfl) (by kernel_rfl) (by kernel_rfl) rfl (fun _ _ _ h => h) rfl rfl ?hy (by assumption) ?_
        case hy => (intro w' hSw; (try dsimp only at hSw); go_simp <;> (try with_reducible rfl))
        simp only [Act.put, List.setIfInBounds_toArray, List.set_cons_zero, List.set_cons_succ]
        refine wpAnyE_tk (i := 8) (d := some 36) (v := .pointer (some ⟨g, o + (k + 1), none⟩)) rfl (by kernel_rfl) (by kernel_rfl) (by kernel_rfl) rfl (fun _ _ _ h => h) rfl rfl ?hy (by assumption) ?_
        case hy => (intro w' hSw; (try dsimp only at hSw); go_simp <;> (try with_reducible rfl))
        simp only [Act.put, List.setIfInBounds_toArray, List.set_cons_zero, List.set_cons_succ]
        refine wpAnyE_tk (i := 9) (d := some 37) (v := .int .u8 (y.toNat : Int)) rfl (by kernel_rfl) (by kernel_rfl) (by kernel_rfl) rfl (fun _ _ _ h => h) rfl rfl ?hy (by assumption) ?_
        case hy => (intro w' hSw; (try dsimp only at hSw); go_simp <;> (try with_reducible rfl))
        simp only [Act.put, List.setIfInBounds_toArray, List.set_cons_zero, List.set_cons_succ]
        refine wpAnyE_tk (i := 10) (d := some 38) (v := .int .i64 (y.toNat : Int)) rfl (by kernel_rfl) (by kernel_rfl) (by kernel_rfl) rfl (fun _ _ _ h => h) rfl rfl ?hy (by assumption) ?_
        case hy => (intro w' hSw; (try dsimp only at hSw); go_simp <;> (try with_reducible rfl))
        simp only [Act.put, List.setIfInBounds_toArray, List.set_cons_zero, List.set_cons_succ]
        refine wpAnyE_tk (i := 11) (d := some 39) (v := .int .i64 ((y.toNat : Int) - 128)) rfl (by kernel_rfl) (by kernel_rfl) (by kernel_rfl) rfl (fun _ _ _ h => h) rfl rfl ?hy (by assumption) ?_
        case hy => (intro w' hSw; (try dsimp only at hSw); go_simp <;> (try with_reducible rfl))
        simp only [Act.put, List.setIfInBounds_toArray, List.set_cons_zero, List.set_cons_succ]
        refine wpAnyE_tk (i := 12) (d := some 8) (v := .int .i64 ((y.toNat : Int) - 128)) rfl (by kernel_rfl) (by kernel_rfl) (by kernel_rfl) rfl (fun _ _ _ h => h) rfl rfl ?hy (by assumption) ?_
        case hy => (intro w' hSw; (try dsimp only at hSw); go_simp <;> (try with_reducible rfl))
        simp only [Act.put, List.setIfInBounds_toArray, List.set_cons_zero, List.set_cons_succ]
        refine wpAnyE_tk (i := 13) (d := some 9) (v := .int .i64 ((y.toNat : Int) - 128)) rfl (by kernel_rfl) (by kernel_rfl) (by kernel_rfl) rfl (fun _ _ _ h => h) rfl rfl ?hy (by assumption) ?_
        case hy => (intro w' hSw; (try dsimp only at hSw); go_simp <;> (try with_reducible rfl))
        simp only [Act.put, List.setIfInBounds_toArray, List.set_cons_zero, List.set_cons_succ]
        refine wpAnyE_done (by kernel_rfl) ?_ _
        have HB1 : Hid (Below w.heap.size w wr.drew) := HB1.out.drew
        by_cases hneg : (y.toNat : Int) - 128 < 0
        · have HF : Hid (¬ bgP b n) := HNOT.out (fun h => by omega)
          go_wp2
          go_ret
          exact ⟨tells_no HF.out, HB1.out⟩
        · by_cases hbig : 63 < (y.toNat : Int) - 128
          · have HF : Hid (¬ bgP b n) := HNOT.out (fun h => by omega)
            go_wp2
            go_ret
            exact ⟨tells_no HF.out, HB1.out⟩
          · have HOK2 : Hid (okB b (k + 1)) := HOKN.out (by omega) (by omega)
            have hw4 : IntKind.i64.wrap (64 * LO) = 64 * LO := by rw [IntKind.wrap_i64]; omega
            have hw5 : IntKind.i64.wrap (64 * LO + ((y.toNat : Int) - 128)) = 64 * LO + ((y.toNat : Int) - 128) := by rw [IntKind.wrap_i64]; omega
            have hw6 : IntKind.i64.wrap (64 * HI) = 64 * HI := by rw [IntKind.wrap_i64]; omega
            have hw7 : IntKind.i64.wrap (64 * HI + ((y.toNat : Int) - 128)) = 64 * HI + ((y.toNat : Int) - 128) := by rw [IntKind.wrap_i64]; omega
            go_wp2
            go_roundw
            case rel => exact ⟨k + 1, by go_num, by omega, by rw [HA.out.1], by rw [HA.out.2], HOK2, HB1⟩
            case measure => simp [intOf]; omega
      · have hkb' : ¬ k + 1 < b.length := by have := HBL.out; omega
        obtain ⟨f1, f2⟩ := loB_out b (k + 1) hkb'
        rw [f1] at HA HOKN HNOT
        rw [f2] at HA HOKN HNOT
        rw [Int.add_zero] at HA
        have hkbi : ¬ (k : Int) + 1 < (BL : Int) := by omega
        have HOK2 : Hid (okB b (k + 1)) := HOKN.out (by omega) (by omega)
        have hw4 : IntKind.i64.wrap (64 * LO) = 64 * LO := by rw [IntKind.wrap_i64]; omega
        have hw6 : IntKind.i64.wrap (64 * HI) = 64 * HI := by rw [IntKind.wrap_i64]; omega
        have hw7 : IntKind.i64.wrap (64 * HI + 63) = 64 * HI + 63 := by rw [IntKind.wrap_i64]; omega
        clear f1 f2 hlh
        go_wp2
        go_roundw
        case rel => exact ⟨k + 1, by go_num, by omega, by rw [HA.out.1], by rw [HA.out.2], HOK2, HB1⟩
        case measure => simp [intOf]; omega
    · have hne : n - 1 = k := by omega
      rw [hne] at HBP
      have HNEG : Hid (accB (loB b) bs k < 0 → accB (hiB b) bs k < 0) := fun h => by
        by_cases hbs : bs < 0
        · exact accB_neg b bs hbs k HOK.out
        · have := accB_pos b bs (by omega) k HOK.out
          omega
      have HOKK : Hid (okB b k) := HOK.out
      obtain ⟨LO, hLO⟩ : ∃ LO, LO = accB (loB b) bs k := ⟨_, rfl⟩
      obtain ⟨HI, hHI⟩ : ∃ HI, HI = accB (hiB b) bs k := ⟨_, rfl⟩
      rw [← hLO, ← hHI] at HBP har HNEG ⊢
      have HS : Hid (bgP b n ↔ scanP n LO HI) := by
        show _ ↔ _
        rw [HBP.out]
        exact ⟨fun h => h.2, fun h => ⟨HOKK.out, h⟩⟩
      have hki : ¬ (k : Int) + 1 < (n : Int) := by omega
      have HTAB : Hid (∀ wx : World, (wx.alloc (.cells #[.int .i64 0, .int .i64 0, .int .i64 128, .int .i64 2048, .int .i64 65536] 2)).cell? ⟨wx.heap.size, n, none⟩ = some (.int .i64 (stN n))) := fun wx => by
        rw [(Lies.new wx _ 2).cell n]
        have : n = 2 ∨ n = 3 ∨ n = 4 := by omega
        rcases this with e | e | e <;> subst e <;> rfl
      have hst : 128 ≤ stN n ∧ stN n ≤ 65536 := by
        unfold stN
        have : n = 2 ∨ n = 3 ∨ n = 4 := by omega
        rcases this with e | e | e <;> subst e <;> decide
      have HN2 : Hid (2 ≤ n) := by show _ ≤ _; omega
      have hn5 : (n : Int) < 5 := by omega
      clear hLO hHI HBP HOK HOKK hkn hk hne
      go_wp2_with fail
      go_loopw [10] (fun xv wr => ∃ x : Int, xv = .int .i64 x ∧ LO ≤ x ∧ x ≤ 100000001 ∧ Hid (scanP n LO HI ↔ scanP n x HI) ∧ Hid (Below w.heap.size w wr)) (fun xv _ => (HI + 1 - intOf xv).toNat)
      case atStart => exact ⟨LO, rfl, by omega, by omega, Iff.rfl, HB1⟩
      case round =>
        clear HB1
        obtain ⟨x, rfl, hx0, hx1, HSX, HB1⟩ := hrel
        by_cases hx : x ≤ HI
        · have HI1 := dis_any x wr
          have hsz := HB1.out.size
          by_cases hR : isR x
          · rw [decide_eq_true hR] at HI1
            have HRR : Hid (isR x) := hR
            have HWR : Hid (∀ wx, Calls Tryz.prog 40 #[.int .i32 x] wx fun e w' => e = .returned (.slice (some ⟨wx.heap.size, 0, none⟩) (Lib.encodeRune x).length (Lib.encodeRune x).length) ∧ w' = wx.alloc (.cells (rowV (Lib.encodeRune x)) 5)) := fun wx => dwr_any x hR wx
            have hw1 : IntKind.i32.wrap x = x := by rw [IntKind.wrap_i32]; omega
            obtain ⟨E, hE⟩ : ∃ E, E = Lib.encodeRune x := ⟨_, rfl⟩
            have HEE : Hid (E = Lib.encodeRune x) := hE
            rw [← hE] at HWR
            clear hE hR
            go_wp2_with fail
            refine HI1.mono ?_
            rintro e w4 ⟨rfl, rfl⟩
            clear HI1
            go_wp2_with fail
            refine (HWR.out _).mono ?_
            rintro e w5 ⟨rfl, rfl⟩
            have HB5 : Hid (Below w.heap.size w (w4.alloc (.cells (rowV E) 5))) := HB1.out.alloc hsz _
            by_cases hEn : E.length = n
            · have HF : Hid (bgP b n) := HS.out.2 (HSX.out.2 ⟨x, Int.le_refl _, hx, HRR.out, by rw [← HEE.out]; exact hEn⟩)
              have hEi : (E.length : Int) = (n : Int) := by omega
              clear hEn
              go_wp2
              go_ret
              exact ⟨tells_yes HF.out, HB5.out⟩
            · have hEi : ¬ (E.length : Int) = (n : Int) := by omega
              go_wp2_with fail
              refine (HWR.out _).mono ?_
              rintro e w6 ⟨rfl, rfl⟩
              have HB6 : Hid (Below w.heap.size w ((w4.alloc (.cells (rowV E) 5)).alloc (.cells (rowV E) 5))) := HB5.out.alloc HB5.out.size _
              by_cases hlt : E.length < n
              · obtain ⟨hxs, hsc⟩ := scan_less (M := HI) HN2.out h4 HRR.out (by rw [← HEE.out]; exact hlt)
                have HSC : Hid (scanP n LO HI ↔ scanP n (stN n) HI) := HSX.out.trans hsc
                have hlti : (E.length : Int) < (n : Int) := by omega
                have htab := HTAB.out ((w4.alloc (.cells (rowV E) 5)).alloc (.cells (rowV E) 5))
                have hmx : max x (stN n - 1) = stN n - 1 := by omega
                have hws : IntKind.i64.wrap (stN n - 1) = stN n - 1 := by rw [IntKind.wrap_i64]; omega
                have hws2 : IntKind.i64.wrap (stN n - 1 + 1) = stN n := by rw [IntKind.wrap_i64]; omega
                have HB7 : Hid (Below w.heap.size w (((w4.alloc (.cells (rowV E) 5)).alloc (.cells (rowV E) 5)).alloc (.cells #[.int .i64 0, .int .i64 0, .int .i64 128, .int .i64 2048, .int .i64 65536] 2))) := HB6.out.alloc HB6.out.size _
                generalize stN n = ST at *
                simp only [World.size_alloc] at htab
                clear hsc hlt
                go_wp2
                go_roundw
                case rel => exact ⟨ST, rfl, by omega, by omega, HSC, HB7⟩
                case measure => simp [intOf]; omega
              · have hlti : ¬ (E.length : Int) < (n : Int) := by omega
                have HF : Hid (¬ bgP b n) := fun h => scan_more HRR.out (by rw [← HEE.out]; omega) (HSX.out.1 (HS.out.1 h))
                go_wp2
                go_ret
                exact ⟨tells_no HF.out, HB6.out⟩
          · rw [decide_eq_false hR] at HI1
            have HRR : Hid (¬ isR x) := hR
            clear hR
            go_wp2_with fail
            refine HI1.mono ?_
            rintro e w4 ⟨rfl, rfl⟩
            clear HI1
            by_cases hxn : x < 0
            · have HF : Hid (¬ bgP b n) := fun h => by
                obtain ⟨y, y1, y2, y3, _⟩ := HSX.out.1 (HS.out.1 h)
                have := HNEG.out (by omega)
                have := y3.1
                omega
              go_wp2
              go_ret
              exact ⟨tells_no HF.out, HB1.out⟩
            · by_cases hxb : 1114111 < x
              · have HF : Hid (¬ bgP b n) := fun h => scan_out hxb (HSX.out.1 (HS.out.1 h))
                go_wp2
                go_ret
                exact ⟨tells_no HF.out, HB1.out⟩
              · have hgap : 55296 ≤ x ∧ x ≤ 57343 := by
                  have := HRR.out
                  unfold isR at this
                  omega
                have HSC : Hid (scanP n LO HI ↔ scanP n 57344 HI) := HSX.out.trans (scan_gap hgap.1 hgap.2)
                go_wp2
                go_roundw
                case rel => exact ⟨57344, by go_num, by omega, by omega, HSC, HB1⟩
                case measure => simp [intOf]; omega
        · have HF : Hid (¬ bgP b n) := fun h => scan_end (by omega) (HSX.out.1 (HS.out.1 h))
          go_wp2
          go_ret
          exact ⟨tells_no HF.out, HB1.out⟩

set_option maxHeartbeats 4000000 in
set_option maxRecDepth 100000 in
/-- The document's Begins: are bytes a beginning? -/
theorem dbegins_any (a : Option Addr) (l : List UInt8) (cap n : Nat) (hn : n = l.length) (w : World) (hb : Bts a l w) (hc : n ≤ cap) (hs : n ≤ 9223372036854775000) :
    Calls Tryz.prog 21 #[.slice a n cap] w fun e w' => e = .returned (.bool (okM (runM (some q0) l))) ∧ Below w.heap.size w w' := by
  have HBT : Hid (Bts a l w) := hb
  have HN : Hid (n = l.length) := hn
  have hbd := badU_le l
  have hB := dbad_any a l cap w hb (by omega) (by omega)
  have HOK : Hid (okM (runM (some q0) l) = true ↔ (l.drop (badU l) = [] ∨ bgA (l.drop (badU l)))) := begins_ok l
  rw [← hn] at hB hbd
  generalize badU l = B at *
  clear hb hn
  go_enter Tryz.func21, Tryz.ntmps21
  go_wp2_with fail
  refine hB.mono ?_
  rintro e w1 ⟨rfl, b1⟩
  have HB1 : Hid (Below w.heap.size w w1) := b1
  clear b1 hB
  have hBc : (B : Int) ≤ (cap : Int) := by omega
  have hBn : (B : Int) ≤ (n : Int) := by omega
  by_cases hend : B = n
  · subst hend
    have HY : Hid (okM (runM (some q0) l) = true) := HOK.out.2 (.inl (List.drop_eq_nil_of_le (by rw [← HN.out]; omega)))
    obtain ⟨AD, hAD⟩ : ∃ AD : Option Addr, (if cap = B then a else a.map fun x => x.add B) = AD := ⟨_, rfl⟩
    go_wp2
    go_ret
    exact ⟨ret_b HY.out.symm, HB1.out⟩
  · have hlt : B < n := by omega
    have hlt' : B < l.length := by rw [← HN.out]; exact hlt
    obtain ⟨g, o, rfl, hg, -⟩ := (HBT.out.below HB1.out).cell B hlt'
    have hcB : ¬ cap = B := by omega
    have HR : Hid (Bts (some ⟨g, o + B, none⟩) (l.drop B) w1) := bts_drop (HBT.out.below HB1.out) B
    have HRL : Hid ((l.drop B).length = n - B) := by
      show _ = _
      rw [List.length_drop, ← HN.out]
    have hne : l.drop B ≠ [] := fun e => by
      have := HRL.out
      rw [e] at this
      simp at this
      omega
    have HOK2 : Hid (okM (runM (some q0) l) = true ↔ bgA (l.drop B)) := by
      show _ ↔ _
      rw [HOK.out]
      exact ⟨fun h => h.resolve_left hne, fun h => .inr h⟩
    have HBG : Hid (bgA (l.drop B) ↔ ∃ m, n - B + 1 ≤ m ∧ m ≤ 4 ∧ bgP (l.drop B) m) := by
      show _ ↔ _
      unfold bgA
      rw [HRL.out]
    obtain ⟨OK, hOKE⟩ : ∃ OK, OK = okM (runM (some q0) l) := ⟨_, rfl⟩
    have HOKE : Hid (OK = okM (runM (some q0) l)) := hOKE
    rw [← hOKE] at HOK2
    generalize l.drop B = R at *
    obtain ⟨RL, hRL⟩ : ∃ RL, n - B = RL := ⟨_, rfl⟩
    rw [hRL] at HRL HBG
    have hRL0 : 0 < RL := by omega
    have hRLi : ((RL : Int) == 0) = false := by simp; omega
    have hRLs : RL ≤ 9223372036854775000 := by omega
    clear hne HOK hend hlt' hOKE
    go_wp2_with fail
    clear hRL
    go_loopw [4] (fun mv wr => ∃ m : Nat, mv = .int .i64 m ∧ RL + 1 ≤ m ∧ m ≤ max 5 (RL + 1) ∧ Hid (∀ j, RL + 1 ≤ j → j < m → ¬ bgP R j) ∧ Hid (Below w.heap.size w wr) ∧ Hid (Below w1.heap.size w1 wr)) (fun mv _ => 5 - (intOf mv).toNat)
    case atStart => exact ⟨RL + 1, by go_num, by omega, by omega, fun j h1 h2 => by omega, HB1, Below.refl _ _⟩
    case round =>
      clear HB1
      obtain ⟨m, rfl, hm, hm5, HNO, HB, HB2⟩ := hrel
      by_cases hm4 : m ≤ 4
      · have hm4i : (m : Int) ≤ 4 := by omega
        have hC := dbegun_any g (o + B) (cap - B) R m (by rw [HRL.out]; exact hRL0) (by rw [HRL.out]; omega) hm4 wr (HR.out.below HB2.out)
        rw [HRL.out] at hC
        go_wp2_with fail
        refine hC.mono ?_
        rintro e w4 ⟨⟨r, rfl, hr⟩, b4⟩
        have HRT : Hid (r = true ↔ bgP R m) := hr
        have HB4 : Hid (Below w.heap.size w w4) := HB.out.trans (b4.mono HB.out.size)
        have HB5 : Hid (Below w1.heap.size w1 w4) := HB2.out.trans (b4.mono HB2.out.size)
        clear hr b4 hC HB HB2
        cases r
        · have HNO2 : Hid (∀ j, RL + 1 ≤ j → j < m + 1 → ¬ bgP R j) := fun j h1 h2 h3 => by
            by_cases e : j = m
            · subst e
              have := HRT.out.2 h3
              cases this
            · exact HNO.out j h1 (by omega) h3
          go_wp2
          go_roundw
          case rel => exact ⟨m + 1, by go_num, by omega, by omega, HNO2, HB4, HB5⟩
          case measure => simp [intOf]; omega
        · have HY : Hid (OK = true) := HOK2.out.2 (HBG.out.2 ⟨m, by omega, hm4, HRT.out.1 rfl⟩)
          go_wp2
          go_ret
          exact ⟨ret_b (by rw [← HOKE.out]; exact HY.out.symm), HB4.out⟩
      · have hm4i : ¬ (m : Int) ≤ 4 := by omega
        have HY : Hid (OK = false) := by
          cases hOK : OK with
          | false => rfl
          | true =>
            obtain ⟨j, h1, h2, h3⟩ := HBG.out.1 (HOK2.out.1 hOK)
            exact absurd h3 (HNO.out j (by omega) (by omega))
        go_wp2
        go_ret
        exact ⟨ret_b (by rw [← HOKE.out]; exact HY.out.symm), HB.out⟩
end Go.Proofs.YtedgimkffkflbabGreatDoor
