/-
  The statements' own hear: what a reader tells of pieces.
-/
import Derived.Test.YtfifpepcmpaipaaHq14
namespace Go.Proofs.Ytfifpepcmpaipaa
open Go.RowKit

set_option maxHeartbeats 8000000 in
set_option maxRecDepth 20000 in
theorem lhear_any (b t a : Nat) (w : World) (pv : Value) (xs : List Pe) (hx : Rd w b t a Ds.new) (ho : Ow celP 27 1 w pv xs) (hp : ∀ x ∈ xs, PeIn w b pv x) (hl : (cat xs).length ≤ 1099511627776) (hxl : xs.length ≤ 1099511627776) (T : Nat × List UInt8 × Ds) (hT : Ds.new.run t a (cat xs) = T) :
    Calls Try.prog 23 #[.pointer (some ⟨b, 0, none⟩), pv] w fun e w' => ∃ tv va vc, e = .returned (.agg (hC tv T.1 T.2.2.ended (T.2.2.im a) (.slice va 0 vc) true).toArray) ∧ w'.ownsRow 0 5 1 tv T.2.1.length (cellsB T.2.1) ∧ (∀ k, tv.ownBlock = some k → w.heap.size ≤ k) ∧ Chg (fun k => k = b ∨ pv.ownBlock = some k) w w' := by
  obtain ⟨W, hW⟩ : ∃ W, W = (w.alloc (.cells zhC.toArray 61)).alloc (.cells zhC.toArray 61) := ⟨_, rfl⟩
  have hB : Below w.heap.size w W := by subst hW; exact ((Below.refl _ _).alloc (Nat.le_refl _) _).alloc (by simp) _
  have hWs : W.heap.size = w.heap.size + 2 := by subst hW; simp
  have HWS : Hid (W.heap.size = w.heap.size + 2) := hWs
  have HL0 : Hid (Lies W w.heap.size zhC.toArray 61) := by subst hW; exact (Lies.new w _ _).alloc _
  have HL1 : Hid (Lies W (w.heap.size + 1) zhC.toArray 61) := by subst hW; exact new_one w _ _ _
  have HLT : Hid (b < w.heap.size) := hx.lt
  have HX : Hid (Rd W b t a Ds.new) := hx.below hB hx.lt
  have HO : Hid (Ow celP 27 1 W pv xs) := ho.below hB
  have HPB : Hid (∀ k, pv.ownBlock = some k → k ≠ b) := ho.ne hx (by decide)
  have HPL : Hid (∀ k, pv.ownBlock = some k → k < w.heap.size) := fun k e => ho.lt k e
  have HBW : Hid (Below w.heap.size w W) := hB
  have HP : Hid (∀ x ∈ xs, PeIn w b pv x) := hp
  have HT : Hid (Ds.new.run t a (cat xs) = T) := hT
  have HLL : Hid ((cat xs).length ≤ 1099511627776) := hl
  have HXL : Hid (xs.length ≤ 1099511627776) := hxl
  have HWW : Hid ((w.alloc (.cells #[.slice none 0 0, .int .i64 0, .bool false, .int .i64 0, .string ⟨#[]⟩, .slice none 0 0, .int .i64 0, .bool false, .bool false] 61)).alloc (.cells #[.slice none 0 0, .int .i64 0, .bool false, .int .i64 0, .string ⟨#[]⟩, .slice none 0 0, .int .i64 0, .bool false, .bool false] 61) = W) := hW.symm
  obtain ⟨pa, pc, hpv, -⟩ := ho.shape
  subst hpv
  clear hW hB hWs hx ho hp hT hl hxl
  go_enter Try.func23, Try.ntmps23
  go_wp2_with (first | rw [HWW.out] | (at_builtin; refine wpList_append_ow celP_length (by decide) oneP rfl _ _ 63 rfl Try.underlying63 (.slice none 0 0) 24 infoTB rfl _ xs rfl (HO.out.below ((Below.refl _ _).alloc (Nat.le_refl _) _)) W.heap.size 1 ⟨none, [], 0⟩ rfl (fun j u h => new_cells [.slice none 0 0] j u h) (by have := HXL.out; omega) (by have := HXL.out; omega) ?_; intro g8 cap8 w8 HO8 HC8 HG8; apply Hid.out))
  unfold Hid
  have HST0 : Hid (Hst w b t a (.slice pa xs.length pc) (.slice (some ⟨g8, 0, none⟩) (xs.length + 1) cap8) (xs ++ [⟨none, [], 0⟩]) w8 (.slice none 0 0) (.slice none 0 0) 0 [] Ds.new false .no) := by
    have hs : W.heap.size < (W.alloc (.cells #[.slice none 0 0] 27)).heap.size := by simp
    have hB9 : Below W.heap.size W (W.alloc (.cells #[.slice none 0 0] 27)) := (Below.refl _ _).alloc (Nat.le_refl _) _
    have hn1 : ∀ g, g ≤ w.heap.size + 1 → w.heap.size ≤ g → ¬ (Value.slice pa xs.length pc).ownBlock = some g := fun g h1 h2 e => absurd (HPL.out g e) (by omega)
    have hnb : ¬ (Value.slice pa xs.length pc).ownBlock = some b := fun e => HPB.out b e rfl
    have hws := HWS.out
    have hlt := HLT.out
    refine ⟨HC8.lies (HL1.out.below hB9 HL1.out.lt) (hn1 _ (Nat.le_refl _) (by omega)), own_none _, (fun k e => by cases e), HC8.lies (HL0.out.below hB9 HL0.out.lt) (hn1 _ (by omega) (Nat.le_refl _)), (HX.out.below hB9 (by omega)).chg HC8 hnb, HO8, ?_, ⟨none, 0, rfl⟩⟩
    exact ((Chg.of_below HBW.out).below hB9).trans (HC8.mono (fun k e => .inr e))
  have HPY : Hid (∀ x ∈ xs ++ [⟨none, [], 0⟩], PeIn w b (.slice pa xs.length pc) x ∧ x.l.length ≤ 1099511627776) := fun x hx => by
    rcases List.mem_append.1 hx with h | h
    · exact ⟨HP.out x h, Nat.le_trans (cat_mem h) HLL.out⟩
    · rw [List.mem_singleton.1 h]; exact ⟨PeIn.nil _ _ _, by simp⟩
  have HCY : Hid (cat (xs ++ [⟨none, [], 0⟩]) = cat xs) := by rw [cat_append, cat_one]; exact List.append_nil _
  have HYL : Hid ((xs ++ [(⟨none, [], 0⟩ : Pe)]).length = xs.length + 1) := by show _ = _; simp
  clear HO8 HC8 HG8 HL0 HL1 HX HO HPB HPL HBW HP HWS HWW
  generalize hys : xs ++ [(⟨none, [], 0⟩ : Pe)] = ys at *
  clear hys
  have hxl : xs.length ≤ 1099511627776 := HXL.out
  go_wp2_with fail
  go_loopw [7, 8, 9, 10, 15] (fun _ _ _ _ iv wr => ∃ (i n : Nat) (o : List UInt8) (x y : Ds) (tv vb : Value) (en : Bool) (im : Im), i ≤ xs.length + 1 ∧ iv = .int .i64 i ∧ Hid (Hst w b t a (.slice pa xs.length pc) (.slice (some ⟨g8, 0, none⟩) (xs.length + 1) cap8) ys wr tv vb n o y en im) ∧ Hid (Rest t a T n o x (cat (ys.drop i))) ∧ Hid (Bnd n o x) ∧ Hid (Hrd a x y [] false en im)) (fun _ _ _ _ iv _ => xs.length + 1 - (intOf iv).toNat)
  case atStart => exact ⟨0, 0, [], Ds.new, Ds.new, _, _, false, .no, Nat.zero_le _, rfl, HST0.out, by rw [List.drop_zero, HCY.out, ← HT.out]; exact Rest.start _ _ _ _, ⟨by decide, by decide, by decide, by decide, by decide⟩, .inl ⟨rfl, rfl, rfl, fun _ => ⟨by decide, rfl⟩⟩⟩
  case round =>
    obtain ⟨i, n, o, x, y, tv, vb, en, im, hi, rfl, HS, HR, HBD, HH⟩ := hrel
    clear HST0
    by_cases hlt : i < xs.length + 1
    · have hly : i < ys.length := by rw [HYL.out]; exact hlt
      have hltd : decide ((i : Int) < (xs.length : Int) + 1) = true := by simp; omega
      have hlti : (i : Int) < (xs.length : Int) + 1 := by omega
      have hcell := pe_cell HS.out.pc i hly
      have HPE : Hid (PeIn w b (.slice pa xs.length pc) ys[i] ∧ ys[i].l.length ≤ 1099511627776) := HPY.out _ (List.getElem_mem hly)
      have HCD : Hid (cat (ys.drop i) = ys[i].l ++ cat (ys.drop (i + 1))) := by rw [List.drop_eq_getElem_cons hly]; unfold cat; rw [List.flatMap_cons]; exact rfl
      have hr := HR.out
      rw [HCD.out] at hr
      have HR2 : Hid (Rest t a T n o x (ys[i].l ++ cat (ys.drop (i + 1)))) := hr
      clear hr HR HCD
      generalize ys[i] = P at *
      obtain ⟨qa, q, qc⟩ := P
      dsimp only at *
      obtain ⟨D, hD⟩ : ∃ D, D = cat (ys.drop (i + 1)) := ⟨_, rfl⟩
      have HD : Hid (D = cat (ys.drop (i + 1))) := hD
      rw [← hD] at HR2
      clear hD
      obtain ⟨⟨c0, c1, c2, c3, c4, c5, c6, c7, c8⟩, hfz⟩ := hC_cells HS.out.hh
      cases en with
      | true =>
        have HNX : Hid (Rest t a T n o x (cat (ys.drop (i + 1)))) := by
          rcases HH.out with h | h
          · cases h.1
          · exact HR2.out.fin h.2.2.1
        clear HR2 c0 c1 c3 c4 c5 c6 c7 c8 hfz
        go_wp2_with fail
        refine wp_loop_rounds 1 ?_
        rw [rounds_succ]
        go_wp2_with fail
        go_round
        case rel => exact ⟨i + 1, n, o, x, y, tv, vb, true, im, hlt, by go_num, HS.out, HNX.out, HBD.out, HH.out⟩
        case measure => simp [intOf]; omega
      | false =>
        have HH2 : Hid (Hrd a x y q true false im) := by
          rcases HH.out with h | h
          · exact .inl ⟨rfl, h.2.1, h.2.2.1, fun e => by cases e⟩
          · cases h.1
        clear c0 c1 c2 c3 c4 c5 c6 c7 c8 hfz HH
        go_wp2_with fail
        go_loopw [7, 8, 9, 10] (fun p7 p8 _ _ wq => ∃ (q : List UInt8) (qa : Option Addr) (qc n : Nat) (o : List UInt8) (x y : Ds) (tv vb : Value) (ag en : Bool) (im : Im), p7 = .slice qa q.length qc ∧ p8 = .bool ag ∧ Hid (Hst w b t a (.slice pa xs.length pc) (.slice (some ⟨g8, 0, none⟩) (xs.length + 1) cap8) ys wq tv vb n o y en im) ∧ Hid (PeIn w b (.slice pa xs.length pc) ⟨qa, q, qc⟩ ∧ q.length ≤ 1099511627776) ∧ Hid (Rest t a T n o x (q ++ D)) ∧ Hid (Bnd n o x) ∧ Hid (Hrd a x y q ag en im)) (fun p7 p8 _ _ _ => msr p7 p8)
        case atStart => exact ⟨q, qa, qc, n, o, x, y, tv, vb, true, false, im, rfl, rfl, HS.out, HPE.out, HR2.out, HBD.out, HH2.out⟩
        case round =>
          clear HS HPE HR2 HBD HH2 hcell
          obtain ⟨q, qa, qc, n, o, x, y, tv, vb, ag, en, im, rfl, rfl, HS, HPE, HR, HBD, HH⟩ := hrel
          obtain ⟨⟨c0, c1, c2, c3, c4, c5, c6, c7, c8⟩, hfz⟩ := hC_cells HS.out.hh
          cases ag with
          | false =>
            have HNX : Hid (Rest t a T n o x (cat (ys.drop (i + 1))) ∧ Hrd a x y [] false en im) := by
              rw [← HD.out]
              rcases HH.out with h | h
              · have hr := HR.out
                rw [(h.2.2.2 rfl).2] at hr
                exact ⟨hr, .inl ⟨h.1, h.2.1, h.2.2.1, fun _ => ⟨(h.2.2.2 rfl).1, rfl⟩⟩⟩
              · exact ⟨HR.out.fin h.2.2.1, .inr ⟨h.1, rfl, h.2.2.1, h.2.2.2⟩⟩
            clear c0 c1 c3 c4 c5 c6 c7 c8 hfz HH HR
            go_wp2_with fail
            go_round
            case rel => exact ⟨i + 1, n, o, x, y, tv, vb, en, im, hlt, by go_num, HS.out, HNX.out.1, HBD.out, HNX.out.2⟩
            case measure => simp [intOf]; omega
          | true =>
            obtain ⟨rfl, rfl, rfl, -⟩ : en = false ∧ im = .no ∧ y = x ∧ True := by
              rcases HH.out with h | h
              · exact ⟨h.1, h.2.1, h.2.2.1, trivial⟩
              · cases h.2.1
            have hbd : 1 ≤ y.p ∧ y.p ≤ 6 ∧ y.size ≤ 2 * n ∧ y.row ≤ n ∧ o.length ≤ 2 * n := HBD.out
            have hle : n + (y.run t a q).1 ≤ (cat xs).length := by
              have h1 := HR.out
              rw [← HT.out] at h1
              have h2 := h1.le
              rw [Ds.run_append] at h2
              dsimp only at h2
              omega
            have hql : (y.run t a q).1 ≤ q.length := Ds.run_len t a q y
            have hpo := HPE.out.1.at HS.out.ch
            have hqc : q.length ≤ qc := hpo.lc
            have HTK := dtake_any b t a y qa q q.length qc rfl (by have := HPE.out.2; omega) wr HS.out.rd hbd.1 (by omega) (by have := HLL.out; omega) (by have := HLL.out; omega) hpo.bt
            have HNB : Hid (Bnd (n + (y.run t a q).1) (o ++ (y.run t a q).2.1) (y.run t a q).2.2) := HBD.out.on
            have HNR : Hid (Rest t a T (n + (y.run t a q).1) (o ++ (y.run t a q).2.1) (y.run t a q).2.2 (q.drop (y.run t a q).1 ++ D)) := HR.out.on
            have HNP : Hid (PeIn w b (.slice pa xs.length pc) ⟨sla qa (y.run t a q).1 qc, q.drop (y.run t a q).1, qc - (y.run t a q).1⟩ ∧ (q.drop (y.run t a q).1).length ≤ 1099511627776) := ⟨HPE.out.1.cut (y.run t a q).1 hql, by have := HPE.out.2; rw [List.length_drop]; omega⟩
            have hdl : (q.drop (y.run t a q).1).length = q.length - (y.run t a q).1 := List.length_drop
            have HALL : Hid ((y.run t a q).2.2.p < 6 → (y.run t a q).1 = q.length) := Ds.run_all t a q y
            have HPOS : Hid (0 < (y.run t a q).2.1.length → 1 ≤ (y.run t a q).1) := fun h => Ds.run_pos t a q y (fun e => by rw [e] at h; cases h)
            have hsl := run_sll qa q.length qc (y.run t a q).1 hql
            clear hpo HBD HR HH hbd HPE
            generalize y.run t a q = R at *
            obtain ⟨n5, o5, x5⟩ := R
            dsimp only at *
            have hn5 : n + n5 ≤ 1099511627776 := Nat.le_trans hle HLL.out
            have hn0 : ¬ (n5 : Int) < 0 := by omega
            have hn1 : ¬ (q.length : Int) < (n5 : Int) := by omega
            have hww : wrap64 ((n : Int) + (n5 : Int)) = (n : Int) + (n5 : Int) := by unfold wrap64; omega
            have HDL : Hid ((q.drop n5).length = q.length - n5) := hdl
            have HLE : Hid (n5 ≤ q.length) := hql
            clear hle hql hdl
            generalize sla qa n5 qc = sa at *
            by_cases ho5 : 0 < o5.length
            · rw [(imOf_body (a := a) (s := x5) ho5).1, (imOf_body (a := a) (s := x5) ho5).2] at HTK
              unfold imV imC at HTK
              dsimp only [imK, imY, imH] at HTK
              go_wp2_with fail
              refine HTK.mono ?_
              rintro e w5 ⟨v5, rfl, hT5⟩
              obtain ⟨va5, vc5, rfl, hb5, -⟩ := own_bts hT5.ow
              have HS5 : Hid (Hst w b t a (.slice pa xs.length pc) (.slice (some ⟨g8, 0, none⟩) (xs.length + 1) cap8) ys w5 tv vb n o x5 false .no) := HS.out.chg HLT.out hT5.ch hT5.rd
              have HB5 : Hid (Bts va5 o5 w5) := hb5
              have HV5 : Hid (∀ ad, va5 = some ad → ad.block ≠ w.heap.size + 1) := fun ad e => by
                have h1 := hT5.nw ad.block (by rw [e]; rfl)
                have h2 := HS.out.hh.lt
                omega
              clear hT5 hb5 HTK HS c0 c1 c2 c3 c4 c5 c6 c7 c8 hfz
              try dsimp only [imB]
              try rw [List.length_nil]
              obtain ⟨W6, hW6⟩ : ∃ W6, W6 = w5.alloc (.cells #[.int .i64 3, .string ⟨#[]⟩, .slice va5 o5.length vc5, .int .i64 0, .bool false] 34) := ⟨_, rfl⟩
              have hB6 : Below w5.heap.size w5 W6 := by subst hW6; exact (Below.refl _ _).alloc (Nat.le_refl _) _
              have HI6 : Hid (Lies W6 w5.heap.size #[.int .i64 3, .string ⟨#[]⟩, .slice va5 o5.length vc5, .int .i64 0, .bool false] 34) := by subst hW6; exact Lies.new w5 _ _
              have HS6 : Hid (Hst w b t a (.slice pa xs.length pc) (.slice (some ⟨g8, 0, none⟩) (xs.length + 1) cap8) ys W6 tv vb n o x5 false .no) := HS5.out.below HLT.out hB6
              have HB6 : Hid (Bts va5 o5 W6) := HB5.out.below hB6
              have HW6 : Hid (w5.alloc (.cells #[.int .i64 3, .string ⟨#[]⟩, .slice va5 o5.length vc5, .int .i64 0, .bool false] 34) = W6) := hW6.symm
              have HN6 : Hid (w5.heap.size ≠ w.heap.size + 1) := Nat.ne_of_gt (by have := HS5.out.hh.lt; exact this)
              clear hW6 hB6 HB5 HS5
              obtain ⟨⟨c0, c1, c2, c3, c4, c5, c6, c7, c8⟩, hfz⟩ := hC_cells HS6.out.hh
              obtain ⟨⟨a0, a1, a2, a3, a4⟩, -⟩ := it_cells HI6.out
              have f1 := hfz 1
              have m1 : w5.heap.size ≠ w.heap.size + 1 := HN6.out
              have m2 : w.heap.size + 1 ≠ w5.heap.size := HN6.out.symm
              have m3 : ¬ w5.heap.size = w.heap.size + 1 := HN6.out
              have m4 : ¬ w.heap.size + 1 = w5.heap.size := HN6.out.symm
              obtain ⟨W7, hW7⟩ : ∃ W7, W7 = W6.setCell ⟨w.heap.size + 1, 1, none⟩ (.int .i64 ((n : Int) + (n5 : Int))) := ⟨_, rfl⟩
              have hB7 : But (w.heap.size + 1) W6 W7 := by subst hW7; exact (But.refl _ _).set _ _
              have HS7 : Hid (Hst w b t a (.slice pa xs.length pc) (.slice (some ⟨g8, 0, none⟩) (xs.length + 1) cap8) ys W7 tv vb (n + n5) o x5 false .no) := HS6.out.but HLT.out hB7 (by subst hW7; exact HS6.out.hh.set 1 _) HS6.out.vl
              have HI7 : Hid (Lies W7 w5.heap.size #[.int .i64 3, .string ⟨#[]⟩, .slice va5 o5.length vc5, .int .i64 0, .bool false] 34) := hB7.lies HI6.out HN6.out
              have HB7 : Hid (Bts va5 o5 W7) := hB7.bts HB6.out HV5.out
              have HW7 : Hid (W6.setCell ⟨w.heap.size + 1, 1, none⟩ (.int .i64 ((n : Int) + (n5 : Int))) = W7) := hW7.symm
              clear hW7 hB7 HI6 HB6 c0 c2 c3 c4 c5 c6 c7 c8 hfz
              have ho6 : ((o5.length : Int) == 0) = false := by simp; exact fun e => by rw [e] at ho5; cases ho5
              have ho7 : ¬ o5 = [] := fun e => by rw [e] at ho5; cases ho5
              have HOP : Hid (0 < o5.length) := ho5
              have HOL : Hid (o.length + o5.length ≤ 70368744177664) := by have h1 := HNB.out.2.2.2.2; rw [List.length_append] at h1; show _ ≤ _; omega
              obtain ⟨ta, tc, hta, -⟩ := own_bts HS7.out.ow
              subst hta
              obtain ⟨⟨d0, d1, d2, d3, d4, d5, d6, d7, d8⟩, hfz7⟩ := hC_cells HS7.out.hh
              obtain ⟨⟨e0, e1, e2, e3, e4⟩, -⟩ := it_cells HI7.out
              have g0 := hfz7 0
              clear d1 d2 d3 d4 d5 d6 d7 d8 hfz7
              go_wp2_with (first | rw [HW7.out] | rw [HW6.out] | (at_builtin; refine wpList_append_chg rfl _ _ rfl _ o.length o rfl HS7.out.ow va5 o5 o5.length vc5 rfl rfl HB7.out HOP.out HOL.out ?_; intro g9 cap9 w9 HO9 HC9 HG9; apply Hid.out))
              unfold Hid
              have hl9 : Lies w9 (w.heap.size + 1) (hC (.slice ta o.length tc) (n + n5) false .no vb false).toArray 61 := HC9.lies HS7.out.hh (fun e => absurd (HS7.out.nw _ e) (by omega))
              have d9 := hl9.cell 0
              have g9f := hl9.frozen 0
              have HS9 : Hid (Hst w b t a (.slice pa xs.length pc) (.slice (some ⟨g8, 0, none⟩) (xs.length + 1) cap8) ys (w9.setCell ⟨w.heap.size + 1, 0, none⟩ (.slice (some ⟨g9, 0, none⟩) (o.length + o5.length) cap9)) (.slice (some ⟨g9, 0, none⟩) (o.length + o5.length) cap9) vb (n + n5) (o ++ o5) x5 false .no) := HS7.out.grow HLT.out HC9 (by rw [List.length_append]; exact HO9) (fun k e => by cases e; exact HG9) rfl
              have d9' : w9.cell? ⟨w.heap.size + 1, 0, none⟩ = some (.slice ta o.length tc) := d9
              have HP1 : Hid (1 ≤ n5 ∧ n5 ≤ q.length) := ⟨HPOS.out HOP.out, HLE.out⟩
              clear hl9 d9 HO9 HC9 HG9 HS7 HI7 HB7 d0 e0 e1 e2 e3 e4 g0 a0 a1 a2 a3 a4 c1 f1 ho5
              go_wp2_with fail
              go_round
              case rel => exact ⟨q.drop n5, sa, qc - n5, n + n5, o ++ o5, x5, x5, _, vb, true, false, .no, by rw [HDL.out], rfl, HS9.out, HNP.out, HNR.out, HNB.out, .inl ⟨rfl, rfl, rfl, fun e => by cases e⟩⟩
              case measure => have := HP1.out; simp [msr, lenOf]; omega
            · obtain rfl : o5 = [] := List.eq_nil_of_length_eq_zero (by omega)
              rw [List.append_nil] at HNB HNR
              by_cases h6 : x5.p = 6
              · rw [(imOf_fin (a := a) (s := x5) h6).1, (imOf_fin (a := a) (s := x5) h6).2] at HTK
                unfold imV imC at HTK
                dsimp only [imK, imY, imH] at HTK
                go_wp2_with fail
                refine HTK.mono ?_
                rintro e w5 ⟨v5, rfl, hT5⟩
                obtain ⟨va5, vc5, rfl, hb5, -⟩ := own_bts hT5.ow
                have HS5 : Hid (Hst w b t a (.slice pa xs.length pc) (.slice (some ⟨g8, 0, none⟩) (xs.length + 1) cap8) ys w5 tv vb n o x5.over false .no) := HS.out.chg HLT.out hT5.ch hT5.rd
                have HB5 : Hid (Bts va5 [] w5) := hb5
                have HV5 : Hid (∀ ad, va5 = some ad → ad.block ≠ w.heap.size + 1) := fun ad e => by
                  have h1 := hT5.nw ad.block (by rw [e]; rfl)
                  have h2 := HS.out.hh.lt
                  omega
                clear hT5 hb5 HTK HS c0 c1 c2 c3 c4 c5 c6 c7 c8 hfz
                try dsimp only [imB]
                try rw [List.length_nil]
                obtain ⟨W6, hW6⟩ : ∃ W6, W6 = w5.alloc (.cells #[.int .i64 4, .string ⟨#[]⟩, .slice va5 0 vc5, .int .i64 (x5.why a), .bool x5.high] 34) := ⟨_, rfl⟩
                have hB6 : Below w5.heap.size w5 W6 := by subst hW6; exact (Below.refl _ _).alloc (Nat.le_refl _) _
                have HI6 : Hid (Lies W6 w5.heap.size #[.int .i64 4, .string ⟨#[]⟩, .slice va5 0 vc5, .int .i64 (x5.why a), .bool x5.high] 34) := by subst hW6; exact Lies.new w5 _ _
                have HS6 : Hid (Hst w b t a (.slice pa xs.length pc) (.slice (some ⟨g8, 0, none⟩) (xs.length + 1) cap8) ys W6 tv vb n o x5.over false .no) := HS5.out.below HLT.out hB6
                have HB6 : Hid (Bts va5 [] W6) := HB5.out.below hB6
                have HW6 : Hid (w5.alloc (.cells #[.int .i64 4, .string ⟨#[]⟩, .slice va5 0 vc5, .int .i64 (x5.why a), .bool x5.high] 34) = W6) := hW6.symm
                have HN6 : Hid (w5.heap.size ≠ w.heap.size + 1) := Nat.ne_of_gt (by have := HS5.out.hh.lt; exact this)
                clear hW6 hB6 HB5 HS5
                obtain ⟨⟨c0, c1, c2, c3, c4, c5, c6, c7, c8⟩, hfz⟩ := hC_cells HS6.out.hh
                obtain ⟨⟨a0, a1, a2, a3, a4⟩, -⟩ := it_cells HI6.out
                have f1 := hfz 1
                have m1 : w5.heap.size ≠ w.heap.size + 1 := HN6.out
                have m2 : w.heap.size + 1 ≠ w5.heap.size := HN6.out.symm
                have m3 : ¬ w5.heap.size = w.heap.size + 1 := HN6.out
                have m4 : ¬ w.heap.size + 1 = w5.heap.size := HN6.out.symm
                obtain ⟨W7, hW7⟩ : ∃ W7, W7 = W6.setCell ⟨w.heap.size + 1, 1, none⟩ (.int .i64 ((n : Int) + (n5 : Int))) := ⟨_, rfl⟩
                have hB7 : But (w.heap.size + 1) W6 W7 := by subst hW7; exact (But.refl _ _).set _ _
                have HS7 : Hid (Hst w b t a (.slice pa xs.length pc) (.slice (some ⟨g8, 0, none⟩) (xs.length + 1) cap8) ys W7 tv vb (n + n5) o x5.over false .no) := HS6.out.but HLT.out hB7 (by subst hW7; exact HS6.out.hh.set 1 _) HS6.out.vl
                have HI7 : Hid (Lies W7 w5.heap.size #[.int .i64 4, .string ⟨#[]⟩, .slice va5 0 vc5, .int .i64 (x5.why a), .bool x5.high] 34) := hB7.lies HI6.out HN6.out
                have HB7 : Hid (Bts va5 [] W7) := hB7.bts HB6.out HV5.out
                have HW7 : Hid (W6.setCell ⟨w.heap.size + 1, 1, none⟩ (.int .i64 ((n : Int) + (n5 : Int))) = W7) := hW7.symm
                clear hW7 hB7 HI6 HB6 c0 c2 c3 c4 c5 c6 c7 c8 hfz
                have HP6 : Hid (x5.p = 6) := h6
                clear h6
                obtain ⟨⟨d0, d1, d2, d3, d4, d5, d6, d7, d8⟩, hfz7⟩ := hC_cells HS7.out.hh
                obtain ⟨⟨e0, e1, e2, e3, e4⟩, -⟩ := it_cells HI7.out
                have g2 := hfz7 2
                have g3 := hfz7 3
                have g4 := hfz7 4
                have g5 := hfz7 5
                have g6 := hfz7 6
                have g7 := hfz7 7
                obtain ⟨ua, uc, hub⟩ := HS7.out.vl
                subst hub
                dsimp only [imK, imY, imH] at d3 d6 d7
                generalize hyy : x5.why a = yy at *
                have HYY : Hid (x5.why a = yy) := hyy
                clear hyy d0 d1 d8 hfz7
                go_wp2_with (first | rw [HW7.out] | rw [HW6.out])
                go_region
                obtain ⟨V8, hV8⟩ : ∃ V8, V8 = (((((W7.setCell ⟨w.heap.size + 1, 2, none⟩ (.bool true)).setCell ⟨w.heap.size + 1, 3, none⟩ (.int .i64 4)).setCell ⟨w.heap.size + 1, 4, none⟩ (.string ⟨#[]⟩)).setCell ⟨w.heap.size + 1, 5, none⟩ (.slice va5 0 vc5)).setCell ⟨w.heap.size + 1, 6, none⟩ (.int .i64 yy)).setCell ⟨w.heap.size + 1, 7, none⟩ (.bool x5.high) := ⟨_, rfl⟩
                have hB8 : But (w.heap.size + 1) W7 V8 := by subst hV8; exact ((((((But.refl _ _).set _ _).set _ _).set _ _).set _ _).set _ _).set _ _
                have hl8 : Lies V8 (w.heap.size + 1) (hC tv (n + n5) true (.fin yy x5.high) (.slice va5 0 vc5) false).toArray 61 := by subst hV8; exact hC_end HS7.out.hh
                have HS8 : Hid (Hst w b t a (.slice pa xs.length pc) (.slice (some ⟨g8, 0, none⟩) (xs.length + 1) cap8) ys V8.drew tv (.slice va5 0 vc5) (n + n5) o x5.over true (.fin yy x5.high)) := HS7.out.but HLT.out hB8.drew (show Lies V8.drew _ _ _ from hl8) ⟨_, _, rfl⟩
                rw [← hV8]
                clear hl8 hV8 hB8 HS7 HI7 HB7 d2 d3 d4 d5 d6 d7 e0 e1 e2 e3 e4 g2 g3 g4 g5 g6 g7 a0 a1 a2 a3 a4 c1 f1
                go_wp2_with fail
                go_round
                case rel => exact ⟨q.drop n5, sa, qc - n5, n + n5, o, x5, x5.over, tv, _, false, true, .fin yy x5.high, by rw [HDL.out], rfl, HS8.out, HNP.out, HNR.out, HNB.out, .inr ⟨rfl, rfl, HP6.out, by rw [im_fin HP6.out, HYY.out]⟩⟩
                case measure => simp [msr, lenOf]; omega
              · have hne : q.length - n5 = 0 := by have := HALL.out (by have := HNB.out.2.1; omega); omega
                have HDN : Hid (q.drop n5 = []) := List.eq_nil_of_length_eq_zero (by rw [List.length_drop]; exact hne)
                rw [(imOf_no (a := a) h6).1, (imOf_no (a := a) h6).2] at HTK
                unfold imV imC at HTK
                dsimp only [imK, imY, imH] at HTK
                go_wp2_with fail
                refine HTK.mono ?_
                rintro e w5 ⟨v5, rfl, hT5⟩
                obtain ⟨va5, vc5, rfl, hb5, -⟩ := own_bts hT5.ow
                have HS5 : Hid (Hst w b t a (.slice pa xs.length pc) (.slice (some ⟨g8, 0, none⟩) (xs.length + 1) cap8) ys w5 tv vb n o x5 false .no) := HS.out.chg HLT.out hT5.ch hT5.rd
                have HB5 : Hid (Bts va5 [] w5) := hb5
                have HV5 : Hid (∀ ad, va5 = some ad → ad.block ≠ w.heap.size + 1) := fun ad e => by
                  have h1 := hT5.nw ad.block (by rw [e]; rfl)
                  have h2 := HS.out.hh.lt
                  omega
                clear hT5 hb5 HTK HS c0 c1 c2 c3 c4 c5 c6 c7 c8 hfz
                try dsimp only [imB]
                try rw [List.length_nil]
                obtain ⟨W6, hW6⟩ : ∃ W6, W6 = w5.alloc (.cells #[.int .i64 0, .string ⟨#[]⟩, .slice va5 0 vc5, .int .i64 0, .bool false] 34) := ⟨_, rfl⟩
                have hB6 : Below w5.heap.size w5 W6 := by subst hW6; exact (Below.refl _ _).alloc (Nat.le_refl _) _
                have HI6 : Hid (Lies W6 w5.heap.size #[.int .i64 0, .string ⟨#[]⟩, .slice va5 0 vc5, .int .i64 0, .bool false] 34) := by subst hW6; exact Lies.new w5 _ _
                have HS6 : Hid (Hst w b t a (.slice pa xs.length pc) (.slice (some ⟨g8, 0, none⟩) (xs.length + 1) cap8) ys W6 tv vb n o x5 false .no) := HS5.out.below HLT.out hB6
                have HB6 : Hid (Bts va5 [] W6) := HB5.out.below hB6
                have HW6 : Hid (w5.alloc (.cells #[.int .i64 0, .string ⟨#[]⟩, .slice va5 0 vc5, .int .i64 0, .bool false] 34) = W6) := hW6.symm
                have HN6 : Hid (w5.heap.size ≠ w.heap.size + 1) := Nat.ne_of_gt (by have := HS5.out.hh.lt; exact this)
                clear hW6 hB6 HB5 HS5
                obtain ⟨⟨c0, c1, c2, c3, c4, c5, c6, c7, c8⟩, hfz⟩ := hC_cells HS6.out.hh
                obtain ⟨⟨a0, a1, a2, a3, a4⟩, -⟩ := it_cells HI6.out
                have f1 := hfz 1
                have m1 : w5.heap.size ≠ w.heap.size + 1 := HN6.out
                have m2 : w.heap.size + 1 ≠ w5.heap.size := HN6.out.symm
                have m3 : ¬ w5.heap.size = w.heap.size + 1 := HN6.out
                have m4 : ¬ w.heap.size + 1 = w5.heap.size := HN6.out.symm
                obtain ⟨W7, hW7⟩ : ∃ W7, W7 = W6.setCell ⟨w.heap.size + 1, 1, none⟩ (.int .i64 ((n : Int) + (n5 : Int))) := ⟨_, rfl⟩
                have hB7 : But (w.heap.size + 1) W6 W7 := by subst hW7; exact (But.refl _ _).set _ _
                have HS7 : Hid (Hst w b t a (.slice pa xs.length pc) (.slice (some ⟨g8, 0, none⟩) (xs.length + 1) cap8) ys W7 tv vb (n + n5) o x5 false .no) := HS6.out.but HLT.out hB7 (by subst hW7; exact HS6.out.hh.set 1 _) HS6.out.vl
                have HI7 : Hid (Lies W7 w5.heap.size #[.int .i64 0, .string ⟨#[]⟩, .slice va5 0 vc5, .int .i64 0, .bool false] 34) := hB7.lies HI6.out HN6.out
                have HB7 : Hid (Bts va5 [] W7) := hB7.bts HB6.out HV5.out
                have HW7 : Hid (W6.setCell ⟨w.heap.size + 1, 1, none⟩ (.int .i64 ((n : Int) + (n5 : Int))) = W7) := hW7.symm
                clear hW7 hB7 HI6 HB6 c0 c2 c3 c4 c5 c6 c7 c8 hfz
                go_wp2_with (rw [HW6.out])
                rw [HW7.out]
                go_round
                case rel => exact ⟨[], sa, qc - n5, n + n5, o, x5, x5, tv, vb, false, false, .no, rfl, rfl, HS7.out, by have := HNP.out; rw [HDN.out] at this; exact this, by have := HNR.out; rw [HDN.out] at this; exact this, HNB.out, .inl ⟨rfl, rfl, rfl, fun _ => ⟨by have := HNB.out.2.1; omega, rfl⟩⟩⟩
                case measure => simp [msr, lenOf]
    · have HNX : Hid (T = (n, o, x) ∧ en = x.ended ∧ im = x.im a) := by
        have hr := HR.out
        rw [List.drop_eq_nil_of_le (by rw [HYL.out]; omega)] at hr
        refine ⟨hr.nil, ?_⟩
        rcases HH.out with h | h
        · have h6 : ¬ x.p = 6 := by have := (h.2.2.2 rfl).1; omega
          exact ⟨by rw [h.1]; unfold Ds.ended; rw [decide_eq_false h6], by rw [h.2.1]; unfold Ds.im; rw [if_neg h6]⟩
        · exact ⟨by rw [h.1]; unfold Ds.ended; rw [decide_eq_true h.2.2.1], h.2.2.2⟩
      have c8 := (hC_cells HS.out.hh).1.2.2.2.2.2.2.2.2
      have f8 := (hC_cells HS.out.hh).2 8
      obtain ⟨ua, uc, rfl⟩ := HS.out.vl
      obtain ⟨ta, tc, rfl, -⟩ := own_bts HS.out.ow
      obtain ⟨V, hV⟩ : ∃ V, V = (hC (.slice ta o.length tc) n en im (.slice ua 0 uc) true).toArray := ⟨_, rfl⟩
      obtain ⟨W9, hW9⟩ : ∃ W9, W9 = wr.setCell ⟨w.heap.size + 1, 8, none⟩ (.bool true) := ⟨_, rfl⟩
      have hB9 : But (w.heap.size + 1) wr W9 := by subst hW9; exact (But.refl _ _).set _ _
      have HL9 : Hid (Lies W9 (w.heap.size + 1) V 61) := by subst hW9 hV; exact HS.out.hh.set 8 _
      have HR9 : Hid (Lies W9 w.heap.size zhC.toArray 61) := hB9.lies HS.out.rs (by omega)
      have HO9 : Hid (W9.ownsRow 0 5 1 (.slice ta o.length tc) o.length (cellsB o)) := own_keep HS.out.ow (fun k e => hB9.block k (HS.out.ow.lt k e).2 (fun e2 => by have := HS.out.nw k e; omega))
      have HNW : Hid (∀ k, (Value.slice ta o.length tc).ownBlock = some k → w.heap.size + 1 < k) := HS.out.nw
      have HCH : Hid (Chg (fun k => k = b ∨ (Value.slice pa xs.length pc).ownBlock = some k) w W9) := HS.out.ch.then (hB9.chg (F := fun k => k = w.heap.size + 1) rfl) (fun i e => .inr (by omega))
      have HVS : Hid (V.size = 9) := by subst hV; rfl
      have HV1 : Hid (V.all (·.oneCell') = true) := by subst hV; exact (by simp [hC, Value.oneCell'] : (hC (.slice ta o.length tc) n en im (.slice ua 0 uc) true).toArray.all (·.oneCell') = true)
      have HIN : Hid ((Try.prog.info? 61).map (·.size) = some V.size) := by rw [HVS.out]; exact infoHE
      have HVV : Hid (V = (hC (.slice ta o.length tc) n en im (.slice ua 0 uc) true).toArray) := hV
      have HW9 : Hid (wr.setCell ⟨w.heap.size + 1, 8, none⟩ (.bool true) = W9) := hW9.symm
      clear hV hW9 hB9 HS HR HBD HH
      go_wp2_with (first | (refine wpList_load_row rfl 61 _ rfl (w.heap.size + 1) rfl V 61 _ HL9.out Try.underlying61 rfl HIN.out ?_) | (refine wpList_store_row rfl 61 _ _ rfl w.heap.size rfl zhC.toArray V rfl 61 HR9.out HIN.out (by rw [HVS.out]; rfl) HV1.out rfl ?_) | rw [HW9.out])
      refine hear_fin w W9 b (.slice pa xs.length pc) T n o x en im (.slice ta o.length tc) ua uc V HNX.out.1 HNX.out.2.1 HNX.out.2.2 HVV.out HR9.out HO9.out HNW.out HCH.out HIN.out _ ?_
      rfl
end Go.Proofs.Ytfifpepcmpaipaa
