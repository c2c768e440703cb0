/-
  Take: bytes are taken.
-/
import Derived.Test.YthnjbnhmdjpfpaaTi14
namespace Go.Proofs.Ythnjbnhmdjpfpaa
open Go.RowKit

set_option maxHeartbeats 4000000 in
set_option maxRecDepth 20000 in
theorem dtake_any (b t a : Nat) (s : Ds) (ad : Option Addr) (l : List UInt8) (n cap : Nat) (hn : n = l.length) (hl : l.length ≤ 17592186044416) (w : World) (x : Rd w b t a s) (hp1 : 1 ≤ s.p) (hp2 : s.p ≤ 7) (hz : s.size ≤ 2305843009213693952) (hr : s.row ≤ 2305843009213693952) (hb : Bts ad l w) :
    Calls Try.prog 39 #[.pointer (some ⟨b, 0, none⟩), .slice ad n cap] w fun e w' => ∃ v, e = .returned (.tuple #[.int .i64 ((s.run t a l).1 : Int), imV (imOf a (s.run t a l).2.1 (s.run t a l).2.2) v]) ∧ Tkn w b t a (imOf a (s.run t a l).2.1 (s.run t a l).2.2) (stOf (s.run t a l).2.1 (s.run t a l).2.2) v w' := by
  subst hn
  obtain ⟨R, hR⟩ : ∃ R, s.run t a l = R := ⟨_, rfl⟩
  rw [hR]
  obtain ⟨W, hW⟩ : ∃ W, W = w.alloc (.cells zit 50) := ⟨_, rfl⟩
  have hB : Below w.heap.size w W := by subst hW; exact (Below.refl _ _).alloc (Nat.le_refl _) _
  have hWs : W.heap.size = w.heap.size + 1 := by subst hW; simp
  have HL0 : Hid (Lies W w.heap.size zit 50) := by subst hW; exact Lies.new w _ _
  have HLT : Hid (b < w.heap.size) := x.lt
  have HX : Hid (Rd W b t a s) := x.below hB x.lt
  have HB : Hid (Bts ad l W) := hb.chg (F := fun _ => False) (Chg.of_below hB) (fun _ _ h => h)
  have HBN : Hid (∀ g o, ad = some ⟨g, o, none⟩ → 0 < l.length → g ≠ b ∧ g < w.heap.size) := fun g o e h0 => by
    subst e
    refine ⟨bts_rd hb h0 x, ?_⟩
    rcases hb with e | ⟨_, _, e, h, _⟩
    · rw [e] at h0; cases h0
    · cases e; exact h
  have HC : Hid (Chg (fun k => k = b) w W) := Chg.of_below hB
  have HWS : Hid (W.heap.size = w.heap.size + 1) := hWs
  have HWW : Hid (w.alloc (.cells #[.int .i64 0, .string ⟨#[]⟩, .slice none 0 0, .int .i64 0, .bool false] 50) = W) := hW.symm
  have c2 : W.cell? ⟨b, 2, none⟩ = some (.int .i64 (s.p : Int)) := HX.out.cells.2.2.1
  have hp0 : ((s.p : Int) == 0) = false := by simp; omega
  have HP : Hid (1 ≤ s.p ∧ s.p ≤ 7 ∧ s.size ≤ 2305843009213693952 ∧ s.row ≤ 2305843009213693952) := ⟨hp1, hp2, hz, hr⟩
  have HR : Hid (s.run t a l = R) := hR
  clear hW hB hWs x hb hp1 hp2 hz hr hR
  go_enter Try.func39, Try.ntmps39
  go_wp2_with (rw [HWW.out])
  clear HWW c2 hp0
  go_loopw [6, 7] (fun tv lv wr => ∃ (k : Nat) (o : List UInt8) (y : Ds), k ≤ l.length ∧ tv = .int .i64 k ∧ Hid (Tl wr b t a y lv o) ∧ Hid (∀ i, lv.ownBlock = some i → w.heap.size < i) ∧ Hid (Chg (fun i => i = b) w wr) ∧ Hid (Lies wr w.heap.size zit 50) ∧ Hid (Bts ad l wr) ∧ Hid (1 ≤ y.p ∧ y.p ≤ 7 ∧ y.size ≤ 2305843009213693952 + 2 * k ∧ y.row ≤ 2305843009213693952 + k ∧ o.length ≤ 2 * k) ∧ Hid (s.run t a l = ((y.run t a (l.drop k)).1 + k, o ++ (y.run t a (l.drop k)).2.1, (y.run t a (l.drop k)).2.2))) (fun tv _ _ => l.length - (intOf tv).toNat)
  case atStart => exact ⟨0, [], s, Nat.zero_le _, rfl, ⟨HX.out, own_none _⟩, (fun i e => by cases e), HC.out, HL0.out, HB.out, ⟨HP.out.1, HP.out.2.1, by simpa using HP.out.2.2.1, by simpa using HP.out.2.2.2, by simp⟩, by show _ = _; simp⟩
  case round =>
    obtain ⟨k, o, y, hk, rfl, HT, HV, HCR, HL, HBR, HY, HE⟩ := hrel
    clear HX HB HC HL0 HP
    obtain ⟨g1, cap1, rfl, -⟩ := own_bts HT.out.ow
    obtain ⟨c0, c1, c2, c3, c4, c5, c6, c7⟩ := HT.out.rd.cells
    obtain ⟨f2, f3, f4, f5, f6, f7⟩ := HT.out.rd.frozen
    by_cases hlt : k < l.length
    · by_cases hp : y.p < 6
      · have hp' : (y.p : Int) < 6 := by omega
        obtain ⟨g, q, rfl, hg, hrow⟩ := HBR.out.resolve_left (fun e => by rw [e] at hlt; cases hlt)
        have hce := hrow k hlt
        have HE2 := (Ds.run_at hlt HE.out).1 hp
        have hy := HY.out
        have HST := fun wx hx => dstep_any b t a y l[k] (.slice g1 o.length cap1) o wx hx hy.1 (by omega) (by omega) (by omega) (by omega)
        have HNX : Hid (1 ≤ (y.stp t l[k]).p ∧ (y.stp t l[k]).p ≤ 7 ∧ (y.stp t l[k]).size ≤ 2305843009213693952 + 2 * (k + 1) ∧ (y.stp t l[k]).row ≤ 2305843009213693952 + (k + 1) ∧ (o ++ y.out a l[k]).length ≤ 2 * (k + 1)) := by
          have h1 := Ds.stp_p t y l[k]
          have h2 := Ds.stp_size t y l[k]
          have h3 := Ds.out_len a y l[k]
          refine ⟨h1.1, by omega, by omega, by omega, by rw [List.length_append]; omega⟩
        have HE3 : Hid (s.run t a l = _) := HE2
        clear hrow HE HE2 hy HY hp c0 c1 c3 c4 c5 c6 c7 f2 f3 f4 f5 f6 f7
        generalize l[k] = d at *
        go_wp2_with fail
        refine (HST _ HT.out).mono ?_
        rintro e w3 ⟨v3, rfl, hX3, hM3, hC3⟩
        obtain ⟨g3, cap3, rfl, -⟩ := own_bts hX3.ow
        have HV3 : Hid (∀ i, (Value.slice g3 (o ++ y.out a d).length cap3).ownBlock = some i → w.heap.size < i) := fun i e => by
          rcases hM3 i e with h | h
          · exact HV.out i h
          · have := HL.out.lt; omega
        have HC3 : Hid (Chg (fun i => i = b) w w3) := HCR.out.then hC3 (fun i h => by
          rcases h with h | h
          · exact .inl h
          · exact .inr (Nat.le_of_lt (HV.out i h)))
        have HL3 : Hid (Lies w3 w.heap.size zit 50) := hC3.lies HL.out (fun h => by
          rcases h with h | h
          · have := HLT.out; omega
          · exact absurd (HV.out _ h) (Nat.lt_irrefl _))
        have HB3 : Hid (Bts (some ⟨g, q, none⟩) l w3) := HBR.out.chg hC3 (fun ad e h => by
          cases e
          have hb := HBN.out g q rfl (Nat.lt_of_le_of_lt (Nat.zero_le _) hlt)
          rcases h with h | h
          · exact hb.1 h
          · have := HV.out _ h
            exact absurd hb.2 (by show ¬ g < _; have : w.heap.size < g := this; omega))
        have HT3 : Hid (Tl w3 b t a (y.stp t d) (.slice g3 (o ++ y.out a d).length cap3) (o ++ y.out a d)) := hX3
        rw [List.length_append] at HT3 HV3
        clear hX3 hM3 hC3 HST c2 hce
        go_wp2_with fail
        go_round
        case rel => exact ⟨k + 1, o ++ y.out a d, y.stp t d, hlt, by go_num, HT3.out, HV3.out, HC3.out, HL3.out, HB3.out, HNX.out, HE3.out⟩
        case measure => simp [intOf]; omega
      · have hp' : ¬ (y.p : Int) < 6 := by omega
        have HE2 : Hid (s.run t a l = (k, o, y)) := (Ds.run_at hlt HE.out).2 hp
        clear HE hp
        by_cases ho : 0 < o.length
        · have ho' : (0 : Int) < (o.length : Int) := by omega
          have hon : ¬ o = [] := fun e => by rw [e] at ho; cases ho
          obtain ⟨⟨a0, a1, a2, a3, a4⟩, b0, b1, b2, b3, b4⟩ := it_cells HL.out
          have HON : Hid (¬ o = []) := hon
          clear ho hon
          go_wp2_with fail
          refine dtake_fin b t a k (.body o) y (.slice g1 o.length cap1) R (by rw [← HR.out, HE2.out]; exact if_neg HON.out) (by rw [← HR.out, HE2.out]; exact if_neg HON.out) (by rw [← HR.out, HE2.out]) w wr _ _ rfl HL.out HT.out.ow HV.out HT.out.rd HLT.out HCR.out ?_ ?_
          · rfl
          · rfl
        · have ho' : ¬ (0 : Int) < (o.length : Int) := by omega
          obtain rfl : o = [] := List.eq_nil_of_length_eq_zero (by omega)
          obtain ⟨⟨a0, a1, a2, a3, a4⟩, b0, b1, b2, b3, b4⟩ := it_cells HL.out
          by_cases h6 : y.p = 6
          · have h6' : ((y.p : Int) == 6) = true := by simp; omega
            have HP6 : Hid (y.p = 6) := h6
            obtain ⟨W2, hW2⟩ : ∃ W2, W2 = wr.setCell ⟨b, 2, none⟩ (.int .i64 7) := ⟨_, rfl⟩
            have HB2 : Hid (But b wr W2) := by subst hW2; exact (But.refl _ _).set _ _
            have HR2 : Hid (Rd W2 b t a y.over) := by subst hW2; exact HT.out.rd.set2 7
            have HRW : Hid (W2 = wr.setCell ⟨b, 2, none⟩ (.int .i64 7)) := hW2
            have HL2 : Hid (Lies W2 w.heap.size zit 50) := HB2.out.lies HL.out (by have := HLT.out; omega)
            have HC2 : Hid (Chg (fun i => i = b) w W2) := HCR.out.trans (HB2.out.chg rfl)
            have d7 : W2.cell? ⟨b, 7, none⟩ = some (.bool y.high) := HR2.out.cells.2.2.2.2.2.2.2
            clear h6 hW2 ho a0 a1 a2 a3 a4 b0 b1 b2 b3 b4
            obtain ⟨⟨a0, a1, a2, a3, a4⟩, b0, b1, b2, b3, b4⟩ := it_cells HL2.out
            go_wp2_with fail
            rw [← HRW.out]
            have HWY := fun m => dwhy_any b t a y.over (W2.drewN m) (show Rd (W2.drewN m) b t a y.over from HR2.out)
            clear HRW c0 c1 c2 c3 c4 c5 c6 c7 f2 f3 f4 f5 f6 f7
            generalize hyy : y.over.why a = yy at *
            have HYY : Hid (y.over.why a = yy) := hyy
            clear hyy
            go_region_with (go_at_call 53; refine (HWY 1).mono ?_; rintro e w4 ⟨rfl, n4, rfl⟩)
            all_goals go_wp2_with fail
            all_goals
              refine dtake_fin b t a k (.fin yy y.high) y.over (.slice none 0 0) R (by rw [← HR.out, HE2.out]; rw [← HYY.out]; simp only [imOf, if_pos, HP6.out]; rfl) (by rw [← HR.out, HE2.out]; simp [stOf, HP6.out]) (by rw [← HR.out, HE2.out]) w _ _ _ rfl HL2.out (own_none _) (fun i e => by cases e) HR2.out HLT.out (HC2.out.drewN _) ?_ ?_
              · rfl
              · rfl

          · have h6' : ((y.p : Int) == 6) = false := by simp; omega
            have HP6 : Hid (¬ y.p = 6) := h6
            clear h6 ho
            go_wp2_with fail
            refine dtake_fin b t a k .no y (.slice none 0 0) R (by rw [← HR.out, HE2.out]; simp [imOf, HP6.out]) (by rw [← HR.out, HE2.out]; simp [stOf, HP6.out]) (by rw [← HR.out, HE2.out]) w wr _ _ rfl HL.out (own_none _) (fun i e => by cases e) HT.out.rd HLT.out HCR.out ?_ ?_
            · rfl
            · rfl
    · have hlt' : ¬ (k : Int) < (l.length : Int) := by omega
      have hkl : k = l.length := by omega
      have HE2 : Hid (s.run t a l = (k, o, y)) := Ds.run_end hkl HE.out
      clear HE hkl
      by_cases ho : 0 < o.length
      · have ho' : (0 : Int) < (o.length : Int) := by omega
        have hon : ¬ o = [] := fun e => by rw [e] at ho; cases ho
        obtain ⟨⟨a0, a1, a2, a3, a4⟩, b0, b1, b2, b3, b4⟩ := it_cells HL.out
        have HON : Hid (¬ o = []) := hon
        clear ho hon
        go_wp2_with fail
        refine dtake_fin b t a k (.body o) y (.slice g1 o.length cap1) R (by rw [← HR.out, HE2.out]; exact if_neg HON.out) (by rw [← HR.out, HE2.out]; exact if_neg HON.out) (by rw [← HR.out, HE2.out]) w wr _ _ rfl HL.out HT.out.ow HV.out HT.out.rd HLT.out HCR.out ?_ ?_
        · rfl
        · rfl
      · have ho' : ¬ (0 : Int) < (o.length : Int) := by omega
        obtain rfl : o = [] := List.eq_nil_of_length_eq_zero (by omega)
        obtain ⟨⟨a0, a1, a2, a3, a4⟩, b0, b1, b2, b3, b4⟩ := it_cells HL.out
        by_cases h6 : y.p = 6
        · have h6' : ((y.p : Int) == 6) = true := by simp; omega
          have HP6 : Hid (y.p = 6) := h6
          obtain ⟨W2, hW2⟩ : ∃ W2, W2 = wr.setCell ⟨b, 2, none⟩ (.int .i64 7) := ⟨_, rfl⟩
          have HB2 : Hid (But b wr W2) := by subst hW2; exact (But.refl _ _).set _ _
          have HR2 : Hid (Rd W2 b t a y.over) := by subst hW2; exact HT.out.rd.set2 7
          have HRW : Hid (W2 = wr.setCell ⟨b, 2, none⟩ (.int .i64 7)) := hW2
          have HL2 : Hid (Lies W2 w.heap.size zit 50) := HB2.out.lies HL.out (by have := HLT.out; omega)
          have HC2 : Hid (Chg (fun i => i = b) w W2) := HCR.out.trans (HB2.out.chg rfl)
          have d7 : W2.cell? ⟨b, 7, none⟩ = some (.bool y.high) := HR2.out.cells.2.2.2.2.2.2.2
          clear h6 hW2 ho a0 a1 a2 a3 a4 b0 b1 b2 b3 b4
          obtain ⟨⟨a0, a1, a2, a3, a4⟩, b0, b1, b2, b3, b4⟩ := it_cells HL2.out
          go_wp2_with fail
          rw [← HRW.out]
          have HWY := fun m => dwhy_any b t a y.over (W2.drewN m) (show Rd (W2.drewN m) b t a y.over from HR2.out)
          clear HRW c0 c1 c2 c3 c4 c5 c6 c7 f2 f3 f4 f5 f6 f7
          generalize hyy : y.over.why a = yy at *
          have HYY : Hid (y.over.why a = yy) := hyy
          clear hyy
          go_region_with (go_at_call 53; refine (HWY 1).mono ?_; rintro e w4 ⟨rfl, n4, rfl⟩)
          all_goals go_wp2_with fail
          all_goals
            refine dtake_fin b t a k (.fin yy y.high) y.over (.slice none 0 0) R (by rw [← HR.out, HE2.out]; rw [← HYY.out]; simp only [imOf, if_pos, HP6.out]; rfl) (by rw [← HR.out, HE2.out]; simp [stOf, HP6.out]) (by rw [← HR.out, HE2.out]) w _ _ _ rfl HL2.out (own_none _) (fun i e => by cases e) HR2.out HLT.out (HC2.out.drewN _) ?_ ?_
            · rfl
            · rfl

        · have h6' : ((y.p : Int) == 6) = false := by simp; omega
          have HP6 : Hid (¬ y.p = 6) := h6
          clear h6 ho
          go_wp2_with fail
          refine dtake_fin b t a k .no y (.slice none 0 0) R (by rw [← HR.out, HE2.out]; simp [imOf, HP6.out]) (by rw [← HR.out, HE2.out]; simp [stOf, HP6.out]) (by rw [← HR.out, HE2.out]) w wr _ _ rfl HL.out (own_none _) (fun i e => by cases e) HT.out.rd HLT.out HCR.out ?_ ?_
          · rfl
          · rfl
end Go.Proofs.Ythnjbnhmdjpfpaa
