/-
  Taking of bytes.
-/
import Derived.Test.YthnjbnhmdjpfpaaLe13
import Derived.WalkMore
namespace Go.Proofs.Ythnjbnhmdjpfpaa
open Go.RowKit

theorem LnC.on {w w' : World} {F : Nat → Prop} {b m B : Nat} {t : List UInt8} {h : Bool} {y : Int} (x : LnC w' (fun k => (F k ∨ B ≤ k) ∨ w.heap.size ≤ k) b m t h y) (hB : B ≤ w.heap.size) : LnC w' (fun k => F k ∨ B ≤ k) b m t h y := x.mono (fun k hk _ => by
  rcases hk with hk | hk
  · exact hk
  · exact .inr (Nat.le_trans hB hk))
theorem itV_shape (i : It) : ∃ kd tx y, itV i = .agg #[.int .i64 kd, .string tx, .slice none 0 0, .int .i64 y, .bool false] := by
  cases i with
  | no => exact ⟨_, _, _, rfl⟩
  | line l => exact ⟨_, _, _, rfl⟩
  | bad y => exact ⟨_, _, _, rfl⟩
theorem LnC.half {w : World} {F : Nat → Prop} {b m : Nat} {t : List UInt8} {h : Bool} {y : Int} (x : LnC w F b m t h y) (h2 : Bool) : LnC (w.setCell ⟨b, 2, none⟩ (.bool h2)) F b m t h2 y := by
  obtain ⟨v, h1, k2, k3⟩ := x.ex
  have hap := own_apart k2 h1 (by decide)
  exact lnC_set _ (h1.set 2 _) ((But.refl _ _).set _ _) k2 (fun k e => ⟨k3 k e, hap k e⟩) x.fb x.lo x.hi x.le
theorem ztake_fin (F : Nat → Prop) (b m n : Nat) (s : List UInt8) (it : It) (T : Nat × It × List UInt8) (hT : T = (n, it, s)) (w wr : World) (kd y : Int) (tx : ByteArray) (tmps : Array Value) (hF : ∀ k, F k → k < w.heap.size) (h0 : Lies wr w.heap.size zit 50) (hx : Ln wr (fun j => F j ∨ w.heap.size + 2 ≤ j) b m s) (hc : Chg F w wr) (hit : itV it = .agg #[.int .i64 kd, .string tx, .slice none 0 0, .int .i64 y, .bool false]) (hp : tmps.getD 4 undef = .int .i64 (n : Int)) (hr : tmps.getD 5 undef = .pointer (some ⟨w.heap.size, 0, none⟩)) :
    bodyPost Try.prog Try.f48 (fun e w' => e = .returned (.tuple #[.int .i64 (T.1 : Nat), itV T.2.1]) ∧ Ln w' (fun k => F k ∨ w.heap.size ≤ k) b m T.2.2 ∧ Chg F w w') .ret { tmps := tmps, defers := [] } (((((wr.setCell ⟨w.heap.size, 0, none⟩ (.int .i64 kd)).setCell ⟨w.heap.size, 1, none⟩ (.string tx)).setCell ⟨w.heap.size, 2, none⟩ (.slice none 0 0)).setCell ⟨w.heap.size, 3, none⟩ (.int .i64 y)).setCell ⟨w.heap.size, 4, none⟩ (.bool false)).drew := by
  subst hT
  obtain ⟨V, hV⟩ : ∃ V, V = ((((wr.setCell ⟨w.heap.size, 0, none⟩ (.int .i64 kd)).setCell ⟨w.heap.size, 1, none⟩ (.string tx)).setCell ⟨w.heap.size, 2, none⟩ (.slice none 0 0)).setCell ⟨w.heap.size, 3, none⟩ (.int .i64 y)).setCell ⟨w.heap.size, 4, none⟩ (.bool false) := ⟨_, rfl⟩
  have hl : Lies V w.heap.size #[.int .i64 kd, .string tx, .slice none 0 0, .int .i64 y, .bool false] 50 := by subst hV; exact ((((h0.set 0 _).set 1 _).set 2 _).set 3 _).set 4 _
  have hB : But w.heap.size wr V := by subst hV; exact (((((But.refl _ _).set _ _).set _ _).set _ _).set _ _).set _ _
  rw [← hV]
  clear hV
  refine res_vc rfl w.heap.size 50 _ _ _ hp hr (show Lies V.drew _ _ _ from hl) Try.underlying50 rfl (by rw [infoIT]; rfl) ⟨by rw [hit], ?_, ?_⟩
  · refine (LnC.keep hx (w' := V.drew) (fun k hk hl => hB.block k hl (fun e => ?_))).mono (fun k hk _ => ?_)
    · rcases hk with hk | hk
      · have := hF k hk; omega
      · omega
    · rcases hk with hk | hk
      · exact .inl hk
      · exact .inr (by omega)
  · refine ((hc.then (G := fun k => k = w.heap.size) (hB.chg rfl) (fun i e => .inr (by omega)))).drew
set_option maxHeartbeats 4000000 in
set_option maxRecDepth 20000 in
theorem ztake_any (F : Nat → Prop) (b m : Nat) (s : List UInt8) (a : Option Addr) (l : List UInt8) (n cap : Nat) (hn : n = l.length) (hl : l.length ≤ 140737488355328) (w : World) (x : Ln w F b m s) (hF : ∀ k, F k → k < w.heap.size) (hb : Bts a l w) (hne : ∀ ad, a = some ad → ¬ F ad.block) :
    Calls Try.prog 48 #[.pointer (some ⟨b, 0, none⟩), .slice a n cap] w fun e w' => e = .returned (.tuple #[.int .i64 ((tk m s l).1 : Nat), itV (tk m s l).2.1]) ∧ Ln w' (fun k => F k ∨ w.heap.size ≤ k) b m (tk m s l).2.2 ∧ Chg F w w' := by
  subst hn
  obtain ⟨W, hW⟩ : ∃ W, W = (w.alloc (.cells zit 50)).alloc (.cells zit 50) := ⟨_, rfl⟩
  have hB : Below w.heap.size w W := by subst hW; exact ((Below.refl _ _).alloc (Nat.le_refl _) _).alloc (by simp) _
  have hWs : W.heap.size = w.heap.size + 2 := by subst hW; simp
  have hL0 : Lies W w.heap.size zit 50 := by subst hW; exact (Lies.new w _ _).alloc _
  have hL1 : Lies W (w.heap.size + 1) zit 50 := by subst hW; exact new_one w _ _ _
  have HT : ∀ w', w'.cell? ⟨b, 0, none⟩ = some (.int .i64 (m : Int)) → Calls Try.prog 57 #[.pointer (some ⟨b, 0, none⟩)] w' fun e w'' => e = .returned (.bool true) ∧ w'' = w' := fun w' h => zthere_any b w' m x.lo h
  obtain ⟨v, h1, h2, h3⟩ := x.ex
  obtain ⟨c0, -, -, -⟩ := lnC_cells h1
  have HT1 := HT (w.alloc (.cells zit 50)) (((h1.alloc _).cell 0).trans rfl)
  have HWW : Hid ((w.alloc (.cells #[.int .i64 0, .string ⟨#[]⟩, .slice none 0 0, .int .i64 0, .bool false] 50)).alloc (.cells #[.int .i64 0, .string ⟨#[]⟩, .slice none 0 0, .int .i64 0, .bool false] 50) = W) := hW.symm
  have HL0 : Hid (Lies W w.heap.size zit 50) := hL0
  have HL1 : Hid (Lies W (w.heap.size + 1) zit 50) := hL1
  have HX : Hid (Ln W F b m s) := LnC.below x hB
  have HBW : Hid (Below w.heap.size w W) := hB
  have HWS : Hid (W.heap.size = w.heap.size + 2) := hWs
  have HF : Hid (∀ k, F k → k < w.heap.size) := hF
  have HB : Hid (Bts a l w) := hb
  have HNA : Hid (∀ ad, a = some ad → ¬ F ad.block) := hne
  clear HT hW x hb hne h1 h2 h3 c0 hL0 hL1 hF hB hWs
  unfold zit at HT1
  go_enter Try.func48, Try.ntmps48
  go_wp2_with fail
  go_step3
  go_wp2_with fail
  refine HT1.mono ?_
  rintro e w2 ⟨rfl, rfl⟩
  clear HT1
  go_wp2_with fail
  go_step3
  go_wp2_with fail
  rw [HWW.out]
  clear HWW
  have HX0 : Hid (Ln W (fun j => F j ∨ w.heap.size + 2 ≤ j) b m (s ++ l.take 0)) := by
    rw [List.take_zero, List.append_nil]
    exact LnC.wide HX.out
  have HTK0 : Hid (tk m s l = ((tk m (s ++ l.take 0) (l.drop 0)).1 + 0, (tk m (s ++ l.take 0) (l.drop 0)).2)) := by
    show _ = _
    simp
  clear HX
  go_loopw [6, 9, 17] (fun tv _ iv wr => ∃ k : Nat, k ≤ l.length ∧ tv = .int .i64 k ∧ iv = .int .i64 k ∧ Hid (Ln wr (fun j => F j ∨ w.heap.size + 2 ≤ j) b m (s ++ l.take k)) ∧ Hid (Chg F W wr) ∧ Hid (tk m s l = ((tk m (s ++ l.take k) (l.drop k)).1 + k, (tk m (s ++ l.take k) (l.drop k)).2))) (fun _ _ iv _ => l.length - (intOf iv).toNat)
  case atStart => exact ⟨0, Nat.zero_le _, rfl, rfl, HX0.out, Chg.refl _ _, HTK0.out⟩
  case round =>
    obtain ⟨k, hk, rfl, rfl, HR, HC, HTK⟩ := hrel
    clear HX0 HTK0
    have HG0 : Hid (Lies wr w.heap.size zit 50) := HC.out.lies HL0.out (fun h => by have := HF.out _ h; omega)
    have HG1 : Hid (Lies wr (w.heap.size + 1) zit 50) := HC.out.lies HL1.out (fun h => by have := HF.out _ h; omega)
    have HB2 : Hid (Bts a l wr) := (HB.out.below HBW.out).chg HC.out HNA.out
    have HS : Hid (w.heap.size + 2 ≤ wr.heap.size) := by have := HC.out.size; have := HWS.out; show _ ≤ _; omega
    have HCW : Hid (Chg F w wr) := (Chg.of_below HBW.out).trans HC.out
    by_cases hlt : k < l.length
    · have hlt' : (k : Int) < (l.length : Int) := by omega
      obtain ⟨g, o, rfl, hgs, hce⟩ := HB2.out.cell k hlt
      obtain ⟨hA1, hA2⟩ := tk_at hlt HTK.out
      have HA1 : Hid ((hfB (s ++ l.take k) && l[k] == 10) = true → tk m s l = (k + 1, lineOf m (bdy (s ++ l.take k)), [])) := hA1
      have HA2 : Hid ((hfB (s ++ l.take k) && l[k] == 10) = false → tk m s l = ((tk m (s ++ l.take (k + 1)) (l.drop (k + 1))).1 + (k + 1), (tk m (s ++ l.take (k + 1)) (l.drop (k + 1))).2)) := hA2
      have HSN : Hid (s ++ l.take (k + 1) = (s ++ l.take k) ++ [l[k]]) := by
        show _ = _
        rw [List.take_succ_eq_append_getElem hlt, List.append_assoc]
      have HNF : Hid (¬ (F (w.heap.size + 1) ∨ w.heap.size + 2 ≤ w.heap.size + 1) ∧ ¬ (F w.heap.size ∨ w.heap.size + 2 ≤ w.heap.size)) := ⟨fun h => by
        rcases h with h | h
        · have := HF.out _ h; omega
        · omega, fun h => by
        rcases h with h | h
        · have := HF.out _ h; omega
        · omega⟩
      have HCF : Hid (∀ w', Chg (fun j => F j ∨ w.heap.size + 2 ≤ j) wr w' → Chg F W w' ∧ Chg F w w') := fun w' h => ⟨HC.out.then h (fun i hi => by
        rcases hi with hi | hi
        · exact .inl hi
        · exact .inr (by rw [HWS.out]; exact hi)), HCW.out.then h (fun i hi => by
        rcases hi with hi | hi
        · exact .inl hi
        · exact .inr (by omega))⟩
      clear hA1 hA2 HB2 HTK HL0 HL1 HB HNA HBW HWS HC HCW
      generalize s ++ l.take k = T at *
      generalize l[k] = c at *
      have hX : LnC wr (fun j => F j ∨ w.heap.size + 2 ≤ j) b m (txt m (bdy T)) (hfB T) (whyI m (bdy T)) := HR.out
      obtain ⟨v, h1, h2, h3⟩ := hX.ex
      obtain ⟨c0, c1, c2, c3⟩ := lnC_cells h1
      obtain ⟨f1, f2, f3⟩ := lnC_frozen h1
      have hcv : (c.toNat : Int) = 10 ↔ c = 10 := ⟨fun h => UInt8.toNat_inj.1 (by simpa using (by omega : c.toNat = 10)), fun h => by rw [h]; rfl⟩
      have hcw : (c.toNat : Int) = 13 ↔ c = 13 := ⟨fun h => UInt8.toNat_inj.1 (by simpa using (by omega : c.toNat = 13)), fun h => by rw [h]; rfl⟩
      cases hh : hfB T with
      | true =>
        by_cases h10 : c = 10
        · have e10 : ((c.toNat : Int) == 10) = true := by simpa using hcv.2 h10
          have HTE : Hid (tk m s l = (k + 1, lineOf m (bdy T), [])) := HA1.out (by rw [hh, h10]; rfl)
          rw [hh] at hX c2
          have HE := zend_any _ b m _ _ _ wr hX
          obtain ⟨kd, tx, y, hit⟩ := itV_shape (lineOf m (bdy T))
          have hle : endIt (txt m (bdy T)) (whyI m (bdy T)) = lineOf m (bdy T) := by
            unfold endIt lineOf
            split
            · rename_i h0; rw [txt_ok h0]
            · rfl
          rw [hle, hit] at HE
          have HIT : Hid (itV (lineOf m (bdy T)) = .agg #[.int .i64 kd, .string tx, .slice none 0 0, .int .i64 y, .bool false]) := hit
          clear hX h1 h2 h3 hcv hcw h10 hit hle HA1 HA2 HSN HR
          go_wp2_with fail
          refine HE.mono ?_
          rintro e w3 ⟨rfl, hX3, hC3⟩
          have HX3 : Hid (LnC w3 (fun j => F j ∨ w.heap.size + 2 ≤ j) b m [] false 0) := hX3
          have HC3 : Hid (Chg F w w3) := (HCF.out w3 hC3).2
          have HG2 : Hid (Lies w3 w.heap.size zit 50) := hC3.lies HG0.out HNF.out.2
          have HG3 : Hid (Lies w3 (w.heap.size + 1) zit 50) := hC3.lies HG1.out HNF.out.1
          obtain ⟨⟨a0, a1, a2, a3, a4⟩, b0, b1, b2, b3, b4⟩ := it_cells HG2.out
          obtain ⟨⟨d0, d1, d2, d3, d4⟩, q0, q1, q2, q3, q4⟩ := it_cells HG3.out
          clear hX3 hC3 HE c0 c1 c2 c3 f1 f2 f3 hce
          go_wp2_with fail
          obtain ⟨W5, hW5⟩ : ∃ W5, W5 = ((((w3.setCell ⟨w.heap.size + 1, 0, none⟩ (.int .i64 kd)).setCell ⟨w.heap.size + 1, 1, none⟩ (.string tx)).setCell ⟨w.heap.size + 1, 2, none⟩ (.slice none 0 0)).setCell ⟨w.heap.size + 1, 3, none⟩ (.int .i64 y)).setCell ⟨w.heap.size + 1, 4, none⟩ (.bool false) := ⟨_, rfl⟩
          have hB5 : But (w.heap.size + 1) w3 W5 := by subst hW5; exact (((((But.refl _ _).set _ _).set _ _).set _ _).set _ _).set _ _
          have HG4 : Hid (Lies W5 (w.heap.size + 1) #[.int .i64 kd, .string tx, .slice none 0 0, .int .i64 y, .bool false] 50) := by subst hW5; exact ((((HG3.out.set 0 _).set 1 _).set 2 _).set 3 _).set 4 _
          have HG5 : Hid (Lies W5 w.heap.size zit 50) := hB5.lies HG2.out (by omega)
          have HX5 : Hid (Ln W5 (fun j => F j ∨ w.heap.size + 2 ≤ j) b m []) := HX3.out.chg (hB5.chg (F := fun j => j = w.heap.size + 1) rfl) (fun k hk e => by subst e; exact HNF.out.1 hk)
          have HC5 : Hid (Chg F w W5) := HC3.out.then (hB5.chg (F := fun j => j = w.heap.size + 1) rfl) (fun i e => .inr (by omega))
          rw [← hW5]
          clear hB5 hW5 a0 a1 a2 a3 a4 b0 b1 b2 b3 b4 d0 d1 d2 d3 d4 q0 q1 q2 q3 q4
          obtain ⟨⟨a0, a1, a2, a3, a4⟩, b0, b1, b2, b3, b4⟩ := it_cells HG5.out
          obtain ⟨⟨d0, d1, d2, d3, d4⟩, -⟩ := it_cells HG4.out
          go_region
          go_wp2_with fail
          rw [Exit.noGoto_ret]
          refine ztake_fin F b m (k + 1) [] (lineOf m (bdy T)) _ HTE.out w W5 kd y tx _ HF.out HG5.out HX5.out HC5.out HIT.out ?_ ?_
          · rfl
          · rfl
        · have e10 : ((c.toNat : Int) == 10) = false := by simpa using (fun h => h10 (hcv.1 h))
          by_cases h13 : c = 13
          · have e13 : ((c.toNat : Int) == 13) = true := by simpa using hcw.2 h13
            have HTE : Hid (tk m s l = ((tk m (s ++ l.take (k + 1)) (l.drop (k + 1))).1 + (k + 1), (tk m (s ++ l.take (k + 1)) (l.drop (k + 1))).2)) := HA2.out (by rw [hh]; simpa using h10)
            have HST : Hid (∀ w', LnC w' (fun j => F j ∨ w.heap.size + 2 ≤ j) b m [] true 130 → Ln w' (fun j => F j ∨ w.heap.size + 2 ≤ j) b m (s ++ l.take (k + 1))) := fun w' hx => by
              have e1 : whyI m (bdy (T ++ [c])) = 130 := step_bare (by rw [hh]; rfl) (by rw [hh]; simpa using h10)
              have e2 : hfB (T ++ [c]) = true := by rw [hfB_snoc]; simp [h13]
              rw [HSN.out]
              unfold Ln
              rw [e1, e2, txt_bad (by rw [e1]; decide)]
              exact hx
            rw [hh] at hX c2
            have HD := zdrop_any _ b m _ _ _ 130 wr hX
            clear hX h1 h2 h3 hcv hcw h10 h13 hh HA1 HA2 HSN HR c1 c3 f1 f3 HG0 HG1
            go_wp2_with fail
            refine HD.mono ?_
            rintro e w3 ⟨rfl, hX3, hB3⟩
            obtain ⟨v3, k1, -, -⟩ := hX3.ex
            obtain ⟨k0, -, k2, k3⟩ := lnC_cells k1
            obtain ⟨-, g2, -⟩ := lnC_frozen k1
            have HX4 := hX3.half true
            have HC4 : Hid (Chg (fun j => F j ∨ w.heap.size + 2 ≤ j) wr (w3.setCell ⟨b, 2, none⟩ (.bool true))) := (hB3.chg hX3.fb).trans (((But.refl b w3).set 2 _).chg hX3.fb)
            have HK := zkeep_any _ b m _ _ _ c _ HX4
            clear hX3 hB3 HD k1 HX4
            unfold kpT kpY at HK
            simp only [if_neg (show ¬ (130 : Int) = 0 by decide)] at HK
            go_wp2_with fail
            refine HK.mono ?_
            rintro e w5 ⟨rfl, hX5, hC5⟩
            have HX5 : Hid (LnC w5 (fun j => F j ∨ w.heap.size + 2 ≤ j) b m [] true 130) := LnC.on hX5 (Nat.le_trans HS.out HC4.out.size)
            have HC5 : Hid (Chg (fun j => F j ∨ w.heap.size + 2 ≤ j) wr w5) := HC4.out.trans hC5
            clear hX5 hC5 HK k0 k2 k3 g2 c0 c2 f2 hce
            go_wp2_with fail
            go_round
            case rel => exact ⟨k + 1, hlt, by go_num, by go_num, HST.out _ HX5.out, (HCF.out _ HC5.out).1, HTE.out⟩
            case measure => simp [intOf]; omega
          · have e13 : ((c.toNat : Int) == 13) = false := by simpa using (fun h => h13 (hcw.1 h))
            have HTE : Hid (tk m s l = ((tk m (s ++ l.take (k + 1)) (l.drop (k + 1))).1 + (k + 1), (tk m (s ++ l.take (k + 1)) (l.drop (k + 1))).2)) := HA2.out (by rw [hh]; simpa using h10)
            have HST : Hid (∀ w', LnC w' (fun j => F j ∨ w.heap.size + 2 ≤ j) b m [] false 130 → Ln w' (fun j => F j ∨ w.heap.size + 2 ≤ j) b m (s ++ l.take (k + 1))) := fun w' hx => by
              have e1 : whyI m (bdy (T ++ [c])) = 130 := step_bare (by rw [hh]; rfl) (by rw [hh]; simpa using h10)
              have e2 : hfB (T ++ [c]) = false := by rw [hfB_snoc]; simp [h13]
              rw [HSN.out]
              unfold Ln
              rw [e1, e2, txt_bad (by rw [e1]; decide)]
              exact hx
            rw [hh] at hX c2
            have HD := zdrop_any _ b m _ _ _ 130 wr hX
            clear hX h1 h2 h3 hcv hcw h10 h13 hh HA1 HA2 HSN HR c1 c3 f1 f3 HG0 HG1
            go_wp2_with fail
            refine HD.mono ?_
            rintro e w3 ⟨rfl, hX3, hB3⟩
            obtain ⟨v3, k1, -, -⟩ := hX3.ex
            obtain ⟨k0, -, k2, k3⟩ := lnC_cells k1
            obtain ⟨-, g2, -⟩ := lnC_frozen k1
            have HX4 := hX3.half false
            have HC4 : Hid (Chg (fun j => F j ∨ w.heap.size + 2 ≤ j) wr (w3.setCell ⟨b, 2, none⟩ (.bool false))) := (hB3.chg hX3.fb).trans (((But.refl b w3).set 2 _).chg hX3.fb)
            have HK := zkeep_any _ b m _ _ _ c _ HX4
            clear hX3 hB3 HD k1 HX4
            unfold kpT kpY at HK
            simp only [if_neg (show ¬ (130 : Int) = 0 by decide)] at HK
            go_wp2_with fail
            refine HK.mono ?_
            rintro e w5 ⟨rfl, hX5, hC5⟩
            have HX5 : Hid (LnC w5 (fun j => F j ∨ w.heap.size + 2 ≤ j) b m [] false 130) := LnC.on hX5 (Nat.le_trans HS.out HC4.out.size)
            have HC5 : Hid (Chg (fun j => F j ∨ w.heap.size + 2 ≤ j) wr w5) := HC4.out.trans hC5
            clear hX5 hC5 HK k0 k2 k3 g2 c0 c2 f2 hce
            go_wp2_with fail
            go_round
            case rel => exact ⟨k + 1, hlt, by go_num, by go_num, HST.out _ HX5.out, (HCF.out _ HC5.out).1, HTE.out⟩
            case measure => simp [intOf]; omega
      | false =>
        by_cases h10 : c = 10
        · have e10 : ((c.toNat : Int) == 10) = true := by simpa using hcv.2 h10
          have h13 : ¬ c = 13 := by rw [h10]; decide
          have e13 : ((c.toNat : Int) == 13) = false := by simpa using (fun h => h13 (hcw.1 h))
          have HTE : Hid (tk m s l = ((tk m (s ++ l.take (k + 1)) (l.drop (k + 1))).1 + (k + 1), (tk m (s ++ l.take (k + 1)) (l.drop (k + 1))).2)) := HA2.out (by rw [hh]; rfl)
          have HST : Hid (∀ w', LnC w' (fun j => F j ∨ w.heap.size + 2 ≤ j) b m [] false 130 → Ln w' (fun j => F j ∨ w.heap.size + 2 ≤ j) b m (s ++ l.take (k + 1))) := fun w' hx => by
            have e1 : whyI m (bdy (T ++ [c])) = 130 := step_bare (by rw [hh, h10]; rfl) (by rw [hh]; rfl)
            have e2 : hfB (T ++ [c]) = false := by rw [hfB_snoc]; simp [h13]
            rw [HSN.out]
            unfold Ln
            rw [e1, e2, txt_bad (by rw [e1]; decide)]
            exact hx
          rw [hh] at hX c2
          have HD := zdrop_any _ b m _ _ _ 130 wr hX
          clear hX h1 h2 h3 hcv hcw h10 h13 hh HA1 HA2 HSN HR c1 c3 f1 f3 HG0 HG1
          go_wp2_with fail
          refine HD.mono ?_
          rintro e w3 ⟨rfl, hX3, hB3⟩
          obtain ⟨v3, k1, -, -⟩ := hX3.ex
          obtain ⟨k0, -, k2, k3⟩ := lnC_cells k1
          obtain ⟨-, g2, -⟩ := lnC_frozen k1
          have HX4 := hX3.half false
          have HC4 : Hid (Chg (fun j => F j ∨ w.heap.size + 2 ≤ j) wr (w3.setCell ⟨b, 2, none⟩ (.bool false))) := (hB3.chg hX3.fb).trans (((But.refl b w3).set 2 _).chg hX3.fb)
          have HK := zkeep_any _ b m _ _ _ c _ HX4
          clear hX3 hB3 HD k1 HX4
          unfold kpT kpY at HK
          simp only [if_neg (show ¬ (130 : Int) = 0 by decide)] at HK
          go_wp2_with fail
          refine HK.mono ?_
          rintro e w5 ⟨rfl, hX5, hC5⟩
          have HX5 : Hid (LnC w5 (fun j => F j ∨ w.heap.size + 2 ≤ j) b m [] false 130) := LnC.on hX5 (Nat.le_trans HS.out HC4.out.size)
          have HC5 : Hid (Chg (fun j => F j ∨ w.heap.size + 2 ≤ j) wr w5) := HC4.out.trans hC5
          clear hX5 hC5 HK k0 k2 k3 g2 c0 c2 f2 hce
          go_wp2_with fail
          go_round
          case rel => exact ⟨k + 1, hlt, by go_num, by go_num, HST.out _ HX5.out, (HCF.out _ HC5.out).1, HTE.out⟩
          case measure => simp [intOf]; omega
        · have e10 : ((c.toNat : Int) == 10) = false := by simpa using (fun h => h10 (hcv.1 h))
          by_cases h13 : c = 13
          · have e13 : ((c.toNat : Int) == 13) = true := by simpa using hcw.2 h13
            have HTE : Hid (tk m s l = ((tk m (s ++ l.take (k + 1)) (l.drop (k + 1))).1 + (k + 1), (tk m (s ++ l.take (k + 1)) (l.drop (k + 1))).2)) := HA2.out (by rw [hh]; rfl)
            have HST : Hid (Ln (wr.setCell ⟨b, 2, none⟩ (.bool true)) (fun j => F j ∨ w.heap.size + 2 ≤ j) b m (s ++ l.take (k + 1))) := by
              rw [HSN.out, h13]
              unfold Ln
              rw [step_cr hh, hfB_snoc]
              exact hX.half true
            have HC4 : Hid (Chg (fun j => F j ∨ w.heap.size + 2 ≤ j) wr (wr.setCell ⟨b, 2, none⟩ (.bool true))) := ((But.refl b wr).set 2 _).chg hX.fb
            rw [hh] at c2
            clear hX h1 h2 h3 hcv hcw h10 h13 hh HA1 HA2 HSN HR c1 c3 f1 f3 HG0 HG1
            go_wp2_with fail
            go_round
            case rel => exact ⟨k + 1, hlt, by go_num, by go_num, HST.out, (HCF.out _ HC4.out).1, HTE.out⟩
            case measure => simp [intOf]; omega
          · have e13 : ((c.toNat : Int) == 13) = false := by simpa using (fun h => h13 (hcw.1 h))
            have HTE : Hid (tk m s l = ((tk m (s ++ l.take (k + 1)) (l.drop (k + 1))).1 + (k + 1), (tk m (s ++ l.take (k + 1)) (l.drop (k + 1))).2)) := HA2.out (by rw [hh]; rfl)
            have HST : Hid (∀ w', LnC w' (fun j => F j ∨ w.heap.size + 2 ≤ j) b m (kpT m (txt m (bdy T)) (whyI m (bdy T)) c) false (kpY m (txt m (bdy T)) (whyI m (bdy T))) → Ln w' (fun j => F j ∨ w.heap.size + 2 ≤ j) b m (s ++ l.take (k + 1))) := fun w' hx => by
              have e1 := step_keep (m := m) hh (c := c) (by simpa using h10) (by simpa using h13)
              have e2 : hfB (T ++ [c]) = false := by rw [hfB_snoc]; simpa using h13
              rw [HSN.out]
              unfold Ln
              rw [e1.1, e1.2, e2]
              exact hx
            rw [hh] at hX c2
            have HX4 := hX.half false
            have HC4 : Hid (Chg (fun j => F j ∨ w.heap.size + 2 ≤ j) wr (wr.setCell ⟨b, 2, none⟩ (.bool false))) := ((But.refl b wr).set 2 _).chg hX.fb
            have HK := zkeep_any _ b m _ _ _ c _ HX4
            clear hX h1 h2 h3 hcv hcw h10 h13 hh HA1 HA2 HSN HR c1 c3 f1 f3 HG0 HG1 HX4
            generalize kpT m (txt m (bdy T)) (whyI m (bdy T)) c = t5 at *
            generalize kpY m (txt m (bdy T)) (whyI m (bdy T)) = y5 at *
            go_wp2_with fail
            refine HK.mono ?_
            rintro e w5 ⟨rfl, hX5, hC5⟩
            have HX5 : Hid (LnC w5 (fun j => F j ∨ w.heap.size + 2 ≤ j) b m t5 false y5) := LnC.on hX5 (Nat.le_trans HS.out HC4.out.size)
            have HC5 : Hid (Chg (fun j => F j ∨ w.heap.size + 2 ≤ j) wr w5) := HC4.out.trans hC5
            clear hX5 hC5 HK c0 c2 f2 hce
            go_wp2_with fail
            go_round
            case rel => exact ⟨k + 1, hlt, by go_num, by go_num, HST.out _ HX5.out, (HCF.out _ HC5.out).1, HTE.out⟩
            case measure => simp [intOf]; omega
    · obtain rfl : k = l.length := by omega
      have HR2 := HR.out
      have HTK2 := HTK.out
      rw [List.take_length, List.drop_length] at HTK2
      rw [List.take_length] at HR2
      simp only [tk, Nat.zero_add] at HTK2
      have HTE : Hid (tk m s l = (l.length, .no, s ++ l)) := HTK2
      have HR3 : Hid (Ln wr (fun j => F j ∨ w.heap.size + 2 ≤ j) b m (s ++ l)) := HR2
      clear HR HTK HTK2 HR2 HC
      obtain ⟨⟨a0, a1, a2, a3, a4⟩, b0, b1, b2, b3, b4⟩ := it_cells HG0.out
      obtain ⟨⟨d0, d1, d2, d3, d4⟩, -⟩ := it_cells HG1.out
      go_wp2_with fail
      go_region
      go_wp2_with fail
      rw [Exit.noGoto_ret]
      refine ztake_fin F b m l.length (s ++ l) .no _ HTE.out w wr 0 0 ⟨#[]⟩ _ HF.out HG0.out HR3.out HCW.out rfl ?_ ?_
      · rfl
      · rfl
end Go.Proofs.Ythnjbnhmdjpfpaa
