/-
  The statements' played, where no turns are asked: lines alone.
-/
import Derived.Test.YthnjbnhmdjpfpaaPq15
import Derived.Test.YthnjbnhmdjpfpaaFlP
import Derived.Deep.CutRange
import Derived.BigQuiet
namespace Go.Proofs.Ythnjbnhmdjpfpaa
open Go.RowKit

theorem zt_nil (i : Nat) : zt [] i = 0 := by
  unfold zt rk
  rw [dif_neg]
  rintro ⟨d, h⟩
  exact h rfl
theorem zt_any {cl : List UInt8} (h : cl = [] ∨ cl.all (· == 0) = false) (i : Nat) : zt cl i ≤ cl.length := by
  rcases h with rfl | h
  · rw [zt_nil]; exact Nat.le_refl _
  · exact zt_le h i
theorem own_capm {w : World} {B n g : Nat} {a : Option Addr} {c : Nat} {xs : List Value} (h : w.ownsRow B 5 1 (.slice a n c) g xs) : c ≤ 9223372036854775807 := by
  obtain ⟨_, ⟨e, _⟩ | ⟨g', cap, cur, e, _, _, _, h4, _⟩⟩ := h
  · cases e; omega
  · cases e; unfold maxLen at h4; omega
set_option maxHeartbeats 16000000 in
set_option maxRecDepth 100000 in
theorem lplayed_lines (m t a : Nat) (r e h : Int) (hm : okL m) (ht : okL t) (ha : okL a) (hr : okL r) (he : okL e) (hh : okL h) (ba : Option Addr) (l : List UInt8) (bc : Nat) (ca : Option Addr) (cl : List UInt8) (cc : Nat) (w : World) (hb : Bts ba l w) (hl : l.length ≤ 16777216) (hbc : l.length ≤ bc) (hbn : ba = none → bc = 0) (hbm : bc ≤ 9223372036854775807) (hc : Bts ca cl w) (hcl : cl.length ≤ 16777216) (hz : cl = [] ∨ cl.all (· == 0) = false) :
    Calls Try.prog 23 #[.agg #[.int .i64 (m : Int), .int .i64 (t : Int), .int .i64 (a : Int), .int .i64 r, .int .i64 e, .int .i64 h], .slice ba l.length bc, .slice ca cl.length cc, .slice none 0 0] w fun z w' => ∃ v xs, z = .returned (.tuple #[v, .int .i64 1, .bool true]) ∧ Ow celI 50 5 w' v xs ∧ xs.map Ie.i = (Pg.all m t a [] 1 ⟨.ln [], [], 0⟩ l).o ∧ (∀ x ∈ xs, Bts x.a (fiB x.i) w') ∧ Below w.heap.size w w' := by
  obtain ⟨W, hW⟩ : ∃ W, W = w.alloc (.cells #[.int .i64 (m : Int), .int .i64 (t : Int), .int .i64 (a : Int), .int .i64 r, .int .i64 e, .int .i64 h] 23) := ⟨_, rfl⟩
  have hBW : Below w.heap.size w W := by subst hW; exact (Below.refl _ _).alloc (Nat.le_refl _) _
  have hLW : Lies W w.heap.size #[.int .i64 (m : Int), .int .i64 (t : Int), .int .i64 (a : Int), .int .i64 r, .int .i64 e, .int .i64 h] 23 := by subst hW; exact Lies.new w _ _
  have HLW : Hid (Lies W w.heap.size #[.int .i64 (m : Int), .int .i64 (t : Int), .int .i64 (a : Int), .int .i64 r, .int .i64 e, .int .i64 h] 23) := hLW
  have HBW : Hid (Below w.heap.size w W) := hBW
  have HWS : Hid (W.heap.size = w.heap.size + 1) := by subst hW; show _ = _; simp
  have HWW : Hid (w.alloc (.cells #[.int .i64 (m : Int), .int .i64 (t : Int), .int .i64 (a : Int), .int .i64 r, .int .i64 e, .int .i64 h] 23) = W) := hW.symm
  have HN := xnew_ok m t a r e h hm ht ha hr he hh W
  unfold limC at HN
  obtain ⟨c0, c1, c2, c3, c4, c5⟩ : W.cell? ⟨w.heap.size, 0, none⟩ = some (.int .i64 (m : Int)) ∧ W.cell? ⟨w.heap.size, 1, none⟩ = some (.int .i64 (t : Int)) ∧ W.cell? ⟨w.heap.size, 2, none⟩ = some (.int .i64 (a : Int)) ∧ W.cell? ⟨w.heap.size, 3, none⟩ = some (.int .i64 r) ∧ W.cell? ⟨w.heap.size, 4, none⟩ = some (.int .i64 e) ∧ W.cell? ⟨w.heap.size, 5, none⟩ = some (.int .i64 h) := ⟨hLW.cell 0, hLW.cell 1, hLW.cell 2, hLW.cell 3, hLW.cell 4, hLW.cell 5⟩
  have HBT : Hid (Bts ba l w) := hb
  have HCT : Hid (Bts ca cl w) := hc
  have HZ : Hid (cl = [] ∨ cl.all (· == 0) = false) := hz
  have HK : Hid (Calm a ([] : List Tu) 1) := calm_of a (.inl rfl)
  have HM : Hid (m ≤ 16777216) := by unfold okL at hm; show m ≤ _; omega
  have HBN : Hid (ba = none → bc = 0) := hbn
  obtain ⟨TG, hTG⟩ : ∃ TG, Pg.all m t a [] 1 ⟨.ln [], [], 0⟩ l = TG := ⟨_, rfl⟩
  rw [hTG]
  have HTG : Hid (Pg.all m t a [] 1 ⟨.ln [], [], 0⟩ l = TG) := hTG
  clear hW hBW hLW hb hc hz hm ht ha hr he hh hTG hbn
  go_enter Try.func23, Try.ntmps23
  go_wp2_with (rw [HWW.out])
  refine HN.mono ?_
  rintro z w1 ⟨b, rfl, hX, hB1⟩
  have HPS : Hid (Ps w1 (w.heap.size + 1) (fun k => W.heap.size ≤ k ∧ k < w1.heap.size) b m t a (.ln []) (.slice none 0 0) []) := ⟨hX, (fun q hq => by have := HWS.out; omega), Ow.nil _ _ _ _, (fun q e => by cases e), (fun x hx => by cases hx)⟩
  have HB1 : Hid (Below w.heap.size w w1) := HBW.out.trans (hB1.mono HBW.out.size)
  have HL1 : Hid (Lies w1 w.heap.size #[.int .i64 (m : Int), .int .i64 (t : Int), .int .i64 (a : Int), .int .i64 r, .int .i64 e, .int .i64 h] 23) := HLW.out.below hB1 HLW.out.lt
  have HPB : Hid (PeOk w ⟨ba, l, bc⟩) := ⟨HBT.out, hbc, hbm, HBN.out⟩
  obtain ⟨B, hB⟩ : ∃ B, B = w.heap.size + 1 := ⟨_, rfl⟩
  rw [← hB] at HPS
  have HBB : Hid (B = w.heap.size + 1) := hB
  clear hX hB1 HN HWW HLW c0 c1 c2 c3 c4 c5 hB hbc hbm HBN
  go_wp2_with fail
  go_loopw [1, 13, 14, 15] (fun bv ov iv tv wr => ∃ (F : Nat → Prop) (k i : Nat) (s : List UInt8) (xs : List Ie) (BA : Option Addr) (BC : Nat), k ≤ l.length ∧ bv = .slice BA (l.length - k) BC ∧ iv = .int .i64 (i : Int) ∧ tv = .int .i64 0 ∧ i + ((l.length - k) * (cl.length + 1) + zt cl i) ≤ l.length * (cl.length + 1) + cl.length + 1 ∧ xs.length ≤ k ∧ Hid (PeOk w ⟨BA, l.drop k, BC⟩) ∧ Hid (Ps wr B F b m t a (.ln s) ov xs) ∧ Hid (Pg.all m t a [] 1 ⟨.ln s, xs.map Ie.i, 0⟩ (l.drop k) = TG) ∧ Hid (Lies wr w.heap.size #[.int .i64 (m : Int), .int .i64 (t : Int), .int .i64 (a : Int), .int .i64 r, .int .i64 e, .int .i64 h] 23) ∧ Hid (Below w.heap.size w wr)) (fun bv _ iv _ _ => (lenOf bv) * (cl.length + 1) + zt cl (intOf iv).toNat)
  case atStart =>
    refine ⟨_, 0, 0, [], [], ba, bc, Nat.zero_le _, rfl, rfl, rfl, ?_, Nat.zero_le _, HPB.out, HPS.out, HTG.out, HL1.out, HB1.out⟩
    have h1 := zt_any HZ.out 0
    rw [Nat.sub_zero]
    omega
  case round =>
    obtain ⟨F, k, i, s, xs, BA, BC, hk, rfl, rfl, rfl, hM, hxk, HBA, HP, HE, HL, HB⟩ := hrel
    clear HPS HB1 HL1 HPB
    have hMM : l.length * (cl.length + 1) ≤ 16777216 * 16777217 := Nat.mul_le_mul hl (by omega)
    have hib : i ≤ 300000000000000 := by omega
    obtain ⟨R, hR⟩ : ∃ R, l.length - k = R := ⟨_, rfl⟩
    rw [hR] at hM ⊢
    have HR : Hid (l.length - k = R) := hR
    have hRb : R ≤ 16777216 := by omega
    clear hR hMM
    go_upto_if 38 with fail
    go_cut [16] from 36 to 49 (fun v wc => wc = wr ∧ ∃ n : Nat, n ≤ R ∧ v = .int .i64 (n : Int) ∧ Hid (cl = [] → n = R) ∧ Hid (∀ _ : 0 < cl.length, n = min R (cl.getD (i % cl.length) 0).toNat))
    case first =>
      by_cases hc0 : cl = []
      · subst hc0
        go_wp2_with fail
        go_meet
        exact ⟨rfl, R, Nat.le_refl _, rfl, fun _ => rfl, fun h => by cases h⟩
      · have hcp : 0 < cl.length := List.length_pos_iff.2 hc0
        have hcp' : (0 : Int) < (cl.length : Int) := by omega
        obtain ⟨j, hj⟩ : ∃ j, i % cl.length = j := ⟨_, rfl⟩
        have hjl : j < cl.length := by rw [← hj]; exact Nat.mod_lt _ hcp
        have hrem : (i : Int).tmod (cl.length : Int) = (j : Int) := by rw [← hj]; rfl
        obtain ⟨g, o, rfl, hgc, hrow⟩ := HCT.out.resolve_left hc0
        have hcell : wr.cell? ⟨g, o + j, none⟩ = some (.int .u8 (cl[j].toNat : Int)) := (HB.out.cell (p := ⟨g, o + j, none⟩) hgc).trans (hrow j hjl)
        have hgd : cl.getD j 0 = cl[j] := by rw [List.getD_eq_getElem?_getD, List.getElem?_eq_getElem hjl]; rfl
        have HGD : Hid (cl.getD (i % cl.length) 0 = cl[j]) := by show _ = _; rw [hj]; exact hgd
        have hne0 : ¬ (cl.length : Int) = 0 := by omega
        have hjl' : 0 ≤ (j : Int) ∧ (j : Int) < (cl.length : Int) := by omega
        have HCP : Hid (¬ cl = []) := hc0
        clear hrow hgd hj hc0
        obtain ⟨c, hcc⟩ : ∃ c, cl[j].toNat = c := ⟨_, rfl⟩
        rw [hcc] at hcell
        have HCC : Hid (cl[j].toNat = c) := hcc
        have HC2 : Hid (c < 256) := by rw [← hcc]; exact UInt8.toNat_lt _
        clear hcc
        have hw64 : wrap64 (c : Int) = (c : Int) := by have := HC2.out; unfold wrap64; omega
        by_cases hmin : c < R
        · have hmin' : (c : Int) < (R : Int) := by omega
          go_wp2_with fail
          go_meet
          exact ⟨rfl, c, by omega, by first | rfl | (congr 1; have := HC2.out; unfold wrap64; omega), (fun h => absurd h HCP.out), fun _ => by rw [HGD.out, HCC.out]; omega⟩
        · have hmin' : ¬ (c : Int) < (R : Int) := by omega
          go_wp2_with fail
          all_goals go_meet
          all_goals exact ⟨rfl, R, by omega, by first | rfl | (congr 1; have := HC2.out; unfold wrap64; omega), (fun h => absurd h HCP.out), fun _ => by rw [HGD.out, HCC.out]; omega⟩
    case rest =>
      obtain ⟨rfl, n, hnR, rfl, HN1, HN2⟩ := hcut
      obtain ⟨lb, hlb⟩ : ∃ lb, l.drop k = lb := ⟨_, rfl⟩
      have hlR : lb.length = R := by rw [← hlb, List.length_drop]; exact HR.out
      rw [hlb] at HBA HE
      subst hlR
      have HPN := HBA.out
      have hbtn : Bts BA (lb.take n) w := HPN.bt.take n
      have hlc : lb.length ≤ BC := HPN.lc
      have hsl1 := fun wx => run_slH BA lb.length BC n (by omega) wx
      have hsl2 := fun wx => run_sll BA lb.length BC n hnR wx
      have HTN : Hid (n = (lb.take n).length) := by show n = _; rw [List.length_take]; omega
      have HBN : Hid (BA = none → BC = 0) := HPN.nn
      have HBT2 : Hid (Bts BA (lb.take n) wc) := hbtn.below HB.out
      have HBTW : Hid (PeOk w ⟨BA, lb, BC⟩) := HBA.out
      have HQ0 : Hid ((wc.alloc (.cells #[] 5)).ownsRow wc.heap.size 5 1 (.slice (some ⟨wc.heap.size, 0, none⟩) 0 0) 0 (cellsB [])) := World.ownsRow_made wc #[] 0 (Nat.le_refl _) (by unfold maxLen; omega) rfl
      have HBA0 : Hid (Below wc.heap.size wc (wc.alloc (.cells #[] 5))) := (Below.refl _ _).alloc (Nat.le_refl _) _
      have HLB : Hid (l.drop k = lb) := hlb
      clear HPN hbtn HBA hlb
      go_wp2_with (at_builtin; refine wpList_append_keep rfl _ _ rfl wc.heap.size _ 0 [] rfl HQ0.out BA (lb.take n) n BC rfl HTN.out (HBT2.out.below HBA0.out) HBN.out (by omega) HBA0.out.size ?_)
      intro pv wp hown hgrow
      have HBP : Hid (Below wc.heap.size wc wp) := HBA0.out.grown hgrow HBA0.out.size (fun q hq => (HQ0.out.lt q hq).1)
      have hown' : wp.ownsRow wc.heap.size 5 1 pv n (cellsB (lb.take n)) := by simpa using hown
      obtain ⟨pa, pc, rfl, hbp, -, hpn, hpc, hpm⟩ := own_bts hown'
      have HS0 : Hid (Sd wp F u13 pa (lb.take n)) := ⟨hbp, fun ad e => by
        have h1 := hpm ad e
        refine ⟨fun hf => by have := HP.out.fm.fl _ hf; omega, h1.2.1, fun ho => by have := HP.out.ow.lt _ ho; omega⟩⟩
      have HPE0 : Hid (PeOk wp ⟨pa, lb.take n, pc⟩) := ⟨hbp, by rw [← HTN.out]; exact hpc, own_capm hown', hpn⟩
      have HP0 : Hid (Ps wp B F b m t a (.ln s) u13 xs) := HP.out.below HBP.out
      have HB0 : Hid (Below w.heap.size w wp) := HB.out.trans (HBP.out.mono HB.out.size)
      have HLL0 : Hid (Lies wp w.heap.size #[.int .i64 (m : Int), .int .i64 (t : Int), .int .i64 (a : Int), .int .i64 r, .int .i64 e, .int .i64 h] 23) := HL.out.below HBP.out HL.out.lt
      have HE0 : Hid (Pg.all m t a [] 1 ⟨.ln s, xs.map Ie.i, 0⟩ ((lb.take n).drop 0 ++ lb.drop n) = TG) := by
        show _ = _
        rw [List.drop_zero, List.take_append_drop]
        exact HE.out
      have HLZ : Hid (w.heap.size < B) := by rw [HBB.out]; exact Nat.lt_succ_self _
      clear hown hown' hgrow hbp hpn hpc hpm HQ0 HBA0 HBT2 HP HB HL HE HBP hsl1
      go_wp2_with fail
      go_loopw [13, 15, 17, 18] (fun ov tv pv sv wr => ∃ (F : Nat → Prop) (q st : Nat) (s : List UInt8) (xs : List Ie) (PA : Option Addr) (PC : Nat), q ≤ n ∧ tv = .int .i64 0 ∧ pv = .slice PA (n - q) PC ∧ sv = .int .i64 (st : Int) ∧ st ≤ q ∧ xs.length ≤ k + q ∧ Hid (PeOk wr ⟨PA, (lb.take n).drop q, PC⟩) ∧ Hid (Sd wr F ov PA ((lb.take n).drop q)) ∧ Hid (Ps wr B F b m t a (.ln s) ov xs) ∧ Hid (Pg.all m t a [] 1 ⟨.ln s, xs.map Ie.i, 0⟩ ((lb.take n).drop q ++ lb.drop n) = TG) ∧ Hid (Lies wr w.heap.size #[.int .i64 (m : Int), .int .i64 (t : Int), .int .i64 (a : Int), .int .i64 r, .int .i64 e, .int .i64 h] 23) ∧ Hid (Below w.heap.size w wr)) (fun _ _ pv _ _ => lenOf pv)
      case atStart => exact ⟨F, 0, 0, s, xs, pa, pc, Nat.zero_le _, rfl, rfl, rfl, Nat.le_refl _, by omega, HPE0.out, HS0.out, HP0.out, HE0.out, HLL0.out, HB0.out⟩
      case round =>
        obtain ⟨F, q, st, s, xs, PA, PC, hqn, rfl, rfl, rfl, hst, hxq, HPE, HSD, HP, HE, HL, HB⟩ := hrel
        clear HPE0 HS0 HP0 HE0 HLL0 HB0
        obtain ⟨lp, hlp⟩ : ∃ lp, (lb.take n).drop q = lp := ⟨_, rfl⟩
        rw [hlp] at HPE HSD HE
        have HLP : Hid ((lb.take n).drop q = lp) := hlp
        have hll : n - q = lp.length := by rw [← hlp, List.length_drop, ← HTN.out]
        rw [hll]
        have HLQ : Hid (n - q = lp.length) := hll
        have hlm : lp.length ≤ 16777216 := by omega
        have HT := xtake_any F b m t a (.ln s) PA lp lp.length PC rfl (by omega) HPE.out.lc HPE.out.nn trivial wr HP.out.fm HSD.out.bt (fun a' e => (HSD.out.ap a' e).1)
        have HTE : ftk m t a (.ln s) lp = ((tk m s lp).1, .ofIt (tk m s lp).2.1, .ln (tk m s lp).2.2) := rfl
        have HT1 : Hid ((tk m s lp).1 ≤ lp.length) := tk_len m lp s
        have HT2 : Hid ((tk m s lp).2.1 = .no → (tk m s lp).1 = lp.length) := fun h => (tk_no m lp s h).1
        have HT3 : Hid (¬ (tk m s lp).2.1 = .no → 1 ≤ (tk m s lp).1) := fun h => tk_pos m lp s (fun e => by subst e; exact h rfl)
        have HSA := said_any (m := m) (t := t) HK.out ⟨.ln s, xs.map Ie.i, 0⟩ lp trivial
        rw [HTE] at HT HSA
        obtain ⟨⟨K, it, s2⟩, hR⟩ : ∃ R, tk m s lp = R := ⟨_, rfl⟩
        rw [hR] at HT HT1 HT2 HT3 HSA
        dsimp only at HT HT1 HT2 HT3 HSA
        unfold fiV fiC at HT
        have HSA2 : Hid _ := HSA
        clear hlp hll HTE hR HSA
        go_wp2_with fail
        refine HT.mono ?_
        rintro z w3 ⟨v, G, rfl, hK⟩
        obtain ⟨ga, gc, rfl, -⟩ := own_bts hK.ow
        obtain ⟨V, hV⟩ : ∃ V, V = w3.alloc (.cells #[.int .i64 (fiK (.ofIt it)), .string ⟨(fiT (.ofIt it)).toArray⟩, .slice ga (fiB (.ofIt it)).length gc, .int .i64 (fiY (.ofIt it)), .bool (fiH (.ofIt it))] 50) := ⟨_, rfl⟩
        have hVB : Below w3.heap.size w3 V := by subst hV; exact (Below.refl _ _).alloc (Nat.le_refl _) _
        have hVL : Lies V w3.heap.size #[.int .i64 (fiK (.ofIt it)), .string ⟨(fiT (.ofIt it)).toArray⟩, .slice ga (fiB (.ofIt it)).length gc, .int .i64 (fiY (.ofIt it)), .bool (fiH (.ofIt it))] 50 := by subst hV; exact Lies.new w3 _ _
        have HVV : Hid (w3.alloc (.cells #[.int .i64 (fiK (.ofIt it)), .string ⟨(fiT (.ofIt it)).toArray⟩, .slice ga (fiB (.ofIt it)).length gc, .int .i64 (fiY (.ofIt it)), .bool (fiH (.ofIt it))] 50) = V) := hV.symm
        have hBW3 : B ≤ wr.heap.size := by have h1 := HB.out.size; have h2 := HL.out.lt; have h3 := HBB.out; omega
        have HPV : Hid (Ps V B G b m t a (.ln s2) u13 xs) := (HP.out.take hK hBW3).below hVB
        have HSV : Hid (Sd V G u13 PA lp) := (HSD.out.take hK).below hVB
        have HSN : Hid (Sd V G u13 ga (fiB (.ofIt it))) := (sd_new hK (fun q e => HP.out.ow.lt q e)).below hVB
        have hLZ : Lies V w.heap.size #[.int .i64 (m : Int), .int .i64 (t : Int), .int .i64 (a : Int), .int .i64 r, .int .i64 e, .int .i64 h] 23 := (hK.ch.lies HL.out (fun h => by have := HP.out.lo _ h; have := HLZ.out; omega)).below hVB (Nat.lt_of_lt_of_le HL.out.lt hK.ch.size)
        have HBV : Hid (Below w.heap.size w V) := (HB.out.trans (hK.ch.to_below HB.out.size (fun q h => by have := HP.out.lo q h; have := HLZ.out; omega))).trans (hVB.mono (Nat.le_trans HB.out.size hK.ch.size))
        have HLV : Hid (Lies V w.heap.size #[.int .i64 (m : Int), .int .i64 (t : Int), .int .i64 (a : Int), .int .i64 r, .int .i64 e, .int .i64 h] 23) := hLZ
        have HPEV : Hid (PeOk V ⟨PA, lp, PC⟩) := ⟨HSV.out.bt, HPE.out.lc, HPE.out.cm, HPE.out.nn⟩
        have HVL : Hid (Lies V w3.heap.size #[.int .i64 (fiK (.ofIt it)), .string ⟨(fiT (.ofIt it)).toArray⟩, .slice ga (fiB (.ofIt it)).length gc, .int .i64 (fiY (.ofIt it)), .bool (fiH (.ofIt it))] 50) := hVL
        have z0 : V.cell? ⟨w.heap.size, 0, none⟩ = some (.int .i64 (m : Int)) := hLZ.cell 0
        obtain ⟨⟨v0, v1, v2, v3, v4⟩, -⟩ := it_cells hVL
        have HHD : Hid (∀ wx : World, wx.heap = V.heap → Calls Try.prog 35 #[.pointer (some ⟨b, 0, none⟩)] wx fun e w' => e = .returned (.int .i64 ((heldN m s2 : Nat) : Int)) ∧ w' = wx) := fun wx hx => xheld_fm G b m t a (.ln s2) wx (HPV.out.fm.keep (by rw [hx]; exact Nat.le_refl _) (fun _ _ => by rw [hx]))
        have hhd := held_le m s2
        have HO3 : Hid (∀ _ : u13.ownBlock = some w3.heap.size, False) := fun e => by have h1 := HP.out.ow.lt _ e; have h2 := hK.ch.size; omega
        clear hV hVB hVL hK HT HP HSD HL HB HPE hBW3 hLZ
        go_upto_region 15 with (rw [HVV.out])
        obtain ⟨HN, hHN⟩ : ∃ HN, heldN m s2 = HN := ⟨_, rfl⟩
        rw [hHN] at HHD hhd
        clear hHN HVV
        have hm24 := HM.out
        have g1 : decide ((K : Int) < 0) = false := decide_eq_false (by omega)
        have g2 : decide ((lp.length : Int) < (K : Int)) = false := decide_eq_false (by have := HT1.out; omega)
        have g3 : decide ((n : Int) + 2 < (st : Int)) = false := decide_eq_false (by omega)
        have g4 : decide ((HN : Int) < 0) = false := decide_eq_false (by omega)
        have g5 : decide ((m : Int) + 8 < (HN : Int)) = false := decide_eq_false (by omega)
        have hsp := fun wx => run_sll PA lp.length PC K HT1.out wx
        by_cases hi : it = .no
        · subst hi
          obtain rfl : K = lp.length := HT2.out rfl
          have hk0 : fiK (.ofIt .no) = 0 := rfl
          rw [hk0] at v0
          have hne : ((lp.length : Int) != (lp.length : Int)) = false := by simp
          have HEN : Hid (Pg.all m t a [] 1 ⟨.ln s2, xs.map Ie.i, 0⟩ (lb.drop n) = TG) := by
            have h1 := (HSA2.out).1 rfl
            have h2 := HE.out
            rw [Pg.all_append HK.out, h1.2.1] at h2
            exact h2
          have HPR : Hid (PeOk w ⟨sla BA n BC, lb.drop n, BC - n⟩) := HBTW.out.rest n hnR
          have HMD : Hid (∀ wx : World, wx.heap = V.heap → Calls Try.prog 14 #[.pointer (some ⟨b, 0, none⟩)] wx fun e w' => e = .returned (.int .i64 1) ∧ w' = wx) := fun wx hx => xmode_fm G b m t a (.ln s2) wx (HPV.out.fm.keep (by rw [hx]; exact Nat.le_refl _) (fun _ _ => by rw [hx]))
          by_cases hz : lb.length = n
          · have hz1 : (((lb.length - n : Nat) : Int) == 0) = true := by simp; omega
            have HZN : Hid (lb.drop n = []) := List.drop_eq_nil_of_le (by omega)
            clear hz
            go_quiet ((go_at_call 35; exact Calls.quiet_of_same (HHD.out _ rfl)))
            go_wp2_with fail
            refine (HMD.out (V.drewN nq) rfl).mono ?_
            rintro z w5 ⟨rfl, hw5⟩
            have HPF : Hid (Ps w5 B G b m t a (.ln s2) u13 xs ∧ Below w.heap.size w w5) := by
              rw [hw5]
              have hb5 : Below V.heap.size V (V.drewN nq) := ⟨rfl, rfl, rfl, Nat.le_refl _, fun _ _ => rfl⟩
              exact ⟨HPV.out.below hb5, HBV.out.trans (hb5.mono HBV.out.size)⟩
            clear hw5
            go_wp2_with fail
            go_ret3
            have hTGe : (⟨.ln s2, xs.map Ie.i, 0⟩ : Pg) = TG := by
              have h1 := HEN.out
              rw [HZN.out, Pg.all_nil rfl] at h1
              exact h1
            exact ⟨u13, xs, rfl, HPF.out.1.ow, by rw [← hTGe], fun x hx => (HPF.out.1.it x hx).bt, HPF.out.2⟩
          · have hz1 : (((lb.length - n : Nat) : Int) == 0) = false := by simp; omega
            have hnl : n < lb.length := by omega
            have hc0 : ¬ cl = [] := fun h => hz (HN1.out h).symm
            have hcp : 0 < cl.length := List.length_pos_iff.2 hc0
            have hcp' : (0 : Int) < (cl.length : Int) := by omega
            have hza : cl.all (· == 0) = false := HZ.out.resolve_left hc0
            have HNM : Hid (n = min lb.length (cl.getD (i % cl.length) 0).toNat) := HN2.out hcp
            have HZC : Hid (∀ wx : World, wx.heap = V.heap → Calls Try.prog 22 #[.slice ca cl.length cc] wx fun e w' => e = .returned (.bool false) ∧ w' = wx) := fun wx hx => by
              have h1 := lzeros_any ca cl cl.length cc rfl (by omega) wx (by
                have hb1 := HCT.out.below HBV.out
                have hb2 : Below V.heap.size V wx → True := fun _ => trivial
                rcases hb1 with e | ⟨g, o, e, h1, h2⟩
                · exact .inl e
                · exact .inr ⟨g, o, e, by rw [hx]; exact h1, fun j hj => (World.cell?_of_block (w := V) (a := ⟨g, o + j, none⟩) (by rw [hx])).trans (h2 j hj)⟩)
              rw [hza] at h1
              exact h1
            have HZL : Hid (zt cl (i + 1) ≤ cl.length) := zt_le hza (i + 1)
            have HZX : Hid (n = 0 → zt cl (i + 1) < zt cl i) := fun h => zt_next hza i (by
              have h2 := HNM.out
              rw [h] at h2
              have h3 : (cl.getD (i % cl.length) 0).toNat = 0 := by omega
              exact UInt8.toNat_inj.1 (by simpa using h3))
            have HMS : Hid (zt cl (i + 1) + (lb.length - n) * (cl.length + 1) < zt cl i + lb.length * (cl.length + 1)) := by
              show _ < _
              have h1 := HZL.out
              by_cases h0 : n = 0
              · have := HZX.out h0
                rw [h0, Nat.sub_zero]
                omega
              · have h3 : (lb.length - n) * (cl.length + 1) + (cl.length + 1) ≤ lb.length * (cl.length + 1) := by
                  have h4 : (lb.length - n) * (cl.length + 1) + (cl.length + 1) = (lb.length - n + 1) * (cl.length + 1) := by rw [Nat.add_mul, Nat.one_mul]
                  rw [h4]
                  exact Nat.mul_le_mul_right _ (by omega)
                omega
            have HHM : Hid (i + (lb.length * (cl.length + 1) + zt cl i) ≤ l.length * (cl.length + 1) + cl.length + 1) := hM
            have HFIN : Hid (∀ d, ∃ (F : Nat → Prop) (k' i' : Nat) (s' : List UInt8) (xs' : List Ie) (BA' : Option Addr) (BC' : Nat), k' ≤ l.length ∧ Value.slice (sla BA n BC) (lb.length - n) (BC - n) = .slice BA' (l.length - k') BC' ∧ Value.int .i64 ((i : Int) + 1) = .int .i64 (i' : Int) ∧ i' + ((l.length - k') * (cl.length + 1) + zt cl i') ≤ l.length * (cl.length + 1) + cl.length + 1 ∧ xs'.length ≤ k' ∧ Hid (PeOk w ⟨BA', l.drop k', BC'⟩) ∧ Hid (Ps (V.drewN d) B F b m t a (.ln s') u13 xs') ∧ Hid (Pg.all m t a [] 1 ⟨.ln s', xs'.map Ie.i, 0⟩ (l.drop k') = TG) ∧ Hid (Lies (V.drewN d) w.heap.size #[.int .i64 (m : Int), .int .i64 (t : Int), .int .i64 (a : Int), .int .i64 r, .int .i64 e, .int .i64 h] 23) ∧ Hid (Below w.heap.size w (V.drewN d))) := fun d => by
              have hb5 : Below V.heap.size V (V.drewN d) := ⟨rfl, rfl, rfl, Nat.le_refl _, fun _ _ => rfl⟩
              have hR := HR.out
              have hd : l.drop (k + n) = lb.drop n := by rw [← HLB.out, List.drop_drop]
              have hq : l.length - (k + n) = lb.length - n := by omega
              refine ⟨G, k + n, i + 1, s2, xs, sla BA n BC, BC - n, by omega, by rw [hq], by rfl, ?_, by omega, ?_, HPV.out.below hb5, ?_, HLV.out.below hb5 HLV.out.lt, HBV.out.trans (hb5.mono HBV.out.size)⟩
              · have h1 := HMS.out
                have h2 := HHM.out
                rw [hq]
                omega
              · rw [hd]; exact HPR.out
              · rw [hd]; exact HEN.out
            clear hM hz hc0 hza
            by_cases hbig : 8 * cl.length < i + 1
            · have hb8 : 8 * (cl.length : Int) < (i : Int) + 1 := by omega
              by_cases hn0 : n = 0
              · have hn1 : ((n : Int) == 0) = true := by simp [hn0]
                clear hn0
                go_quiet ((go_at_call 35; exact Calls.quiet_of_same (HHD.out _ rfl)))
                go_wp2_with fail
                refine (HZC.out (V.drewN nq) rfl).mono ?_
                rintro z w5 ⟨rfl, rfl⟩
                go_wp2_with fail
                go_roundw
                case rel =>
                  obtain ⟨F', k', i', s', xs', BA', BC', e1, e2, e3, e5, e6, e7, e8, e9, e10, e11⟩ := HFIN.out nq
                  exact ⟨F', k', i', s', xs', BA', BC', e1, e2, e3, rfl, e5, e6, e7, e8, e9, e10, e11⟩
                case measure => simp [lenOf, intOf]; have := HMS.out; omega
              · have hn1 : ((n : Int) == 0) = false := by simp [hn0]
                clear hn0
                go_quiet ((go_at_call 35; exact Calls.quiet_of_same (HHD.out _ rfl)))
                go_wp2_with fail
                go_roundw
                case rel =>
                  obtain ⟨F', k', i', s', xs', BA', BC', e1, e2, e3, e5, e6, e7, e8, e9, e10, e11⟩ := HFIN.out nq
                  exact ⟨F', k', i', s', xs', BA', BC', e1, e2, e3, rfl, e5, e6, e7, e8, e9, e10, e11⟩
                case measure => simp [lenOf, intOf]; have := HMS.out; omega
            · have hb8 : ¬ 8 * (cl.length : Int) < (i : Int) + 1 := by omega
              go_quiet ((go_at_call 35; exact Calls.quiet_of_same (HHD.out _ rfl)))
              go_wp2_with fail
              go_roundw
              case rel =>
                obtain ⟨F', k', i', s', xs', BA', BC', e1, e2, e3, e5, e6, e7, e8, e9, e10, e11⟩ := HFIN.out nq
                exact ⟨F', k', i', s', xs', BA', BC', e1, e2, e3, rfl, e5, e6, e7, e8, e9, e10, e11⟩
              case measure => simp [lenOf, intOf]; have := HMS.out; omega

        · have hk0 := ofIt_no hi
          have hk3 : (fiK (.ofIt it) == 3) = false := by cases it <;> rfl
          have hK1 := HT3.out hi
          have g2n : decide (lp.length < K) = false := decide_eq_false (by have := HT1.out; omega)
          have g2m : ¬ lp.length < K := of_decide_eq_false g2n
          have hk0d : decide (fiK (.ofIt it) = 0) = false := by cases it <;> first | exact absurd rfl hi | rfl
          have hk0n : ¬ fiK (.ofIt it) = 0 := of_decide_eq_false hk0d
          obtain ⟨KD, hKD⟩ : ∃ KD, fiK (.ofIt it) = KD := ⟨_, rfl⟩
          rw [hKD] at hk0 hk0d hk0n hk3 v0
          have HKD : Hid (fiK (.ofIt it) = KD) := hKD
          clear hKD
          have HPU : Hid (∀ o : List Fi, pu o (.ofIt it) = o ++ [.ofIt it] ∧ (Fi.ofIt it).stop = true ∧ Fi.ofIt it ≠ .no) := fun o => by
            cases it with
            | no => exact absurd rfl hi
            | line x => exact ⟨rfl, rfl, by simp [Fi.ofIt]⟩
            | bad y => exact ⟨rfl, rfl, by simp [Fi.ofIt]⟩
          go_quiet ((go_at_call 35; exact Calls.quiet_of_same (HHD.out _ rfl)))
          obtain ⟨V2, hV2⟩ : ∃ V2, V2 = V.drewN nq := ⟨_, rfl⟩
          have hb5 : Below V.heap.size V V2 := by subst hV2; exact ⟨rfl, rfl, rfl, Nat.le_refl _, fun _ _ => rfl⟩
          have HV2S : Hid (V2.heap.size = V.heap.size) := by subst hV2; rfl
          have hLi2 := HVL.out.below hb5 HVL.out.lt
          obtain ⟨⟨x0, x1, x2, x3, x4⟩, -⟩ := it_cells hLi2
          rw [HKD.out] at x0
          obtain ⟨W4, hW4⟩ : ∃ W4, W4 = V2.alloc (.cells #[.int .i64 (fiK (.ofIt it)), .string ⟨(fiT (.ofIt it)).toArray⟩, .slice ga (fiB (.ofIt it)).length gc, .int .i64 (fiY (.ofIt it)), .bool (fiH (.ofIt it))] 50) := ⟨_, rfl⟩
          have hb6 : Below V2.heap.size V2 W4 := by subst hW4; exact (Below.refl _ _).alloc (Nat.le_refl _) _
          have hb56 : Below V.heap.size V W4 := hb5.trans (hb6.mono (Nat.le_of_eq HV2S.out.symm))
          have hLi : Lies W4 V2.heap.size #[.int .i64 (fiK (.ofIt it)), .string ⟨(fiT (.ofIt it)).toArray⟩, .slice ga (fiB (.ofIt it)).length gc, .int .i64 (fiY (.ofIt it)), .bool (fiH (.ofIt it))] 50 := by subst hW4; exact Lies.new V2 _ _
          have HNW : Hid (∀ j u, (celI ⟨.ofIt it, ga, gc⟩)[j]? = some u → W4.cell? ⟨V2.heap.size, j, none⟩ = some u) := fun j u hu => by rw [hLi.cell j]; simpa [celI] using hu
          have HP4 : Hid (Ps W4 B G b m t a (.ln s2) u13 xs) := HPV.out.below hb56
          have HS4 : Hid (Sd W4 G u13 PA lp) := HSV.out.below hb56
          have HN4 : Hid (Sd W4 G u13 ga (fiB (.ofIt it))) := HSN.out.below hb56
          have HL4 : Hid (Lies W4 w.heap.size #[.int .i64 (m : Int), .int .i64 (t : Int), .int .i64 (a : Int), .int .i64 r, .int .i64 e, .int .i64 h] 23) := HLV.out.below hb56 HLV.out.lt
          have HI4 : Hid (Lies W4 w3.heap.size #[.int .i64 (fiK (.ofIt it)), .string ⟨(fiT (.ofIt it)).toArray⟩, .slice ga (fiB (.ofIt it)).length gc, .int .i64 (fiY (.ofIt it)), .bool (fiH (.ofIt it))] 50) := hLi2.below hb6 hLi2.lt
          have HB4 : Hid (Below w.heap.size w W4) := HBV.out.trans (hb56.mono HBV.out.size)
          have HW4 : Hid (V2.alloc (.cells #[.int .i64 KD, .string ⟨(fiT (.ofIt it)).toArray⟩, .slice ga (fiB (.ofIt it)).length gc, .int .i64 (fiY (.ofIt it)), .bool (fiH (.ofIt it))] 50) = W4) := by rw [← HKD.out]; exact hW4.symm
          rw [← hV2]
          clear hW4 hb5 hb6 hb56 hLi hLi2 hV2 v0 v1 v2 v3 v4 z0
          go_wp2_with (first | (rw [HW4.out]; refine wpList_append_ow celI_length (by decide) oneI rfl _ _ 59 rfl Try.underlying59 _ 64 infoIE rfl u13 xs rfl HP4.out.ow V2.heap.size 1 ⟨.ofIt it, ga, gc⟩ rfl HNW.out (by omega) (by omega) ?_; intro g8 cap8 w8 HO8 HC8 HG8; apply Hid.out))
          unfold Hid
          have ho8 : ∀ q, (Value.slice (some ⟨g8, 0, none⟩) (xs.length + 1) cap8).ownBlock = some q → u13.ownBlock = some q ∨ W4.heap.size ≤ q := fun q e => by
            cases e
            exact HG8
          have hBW : B ≤ W4.heap.size := by have h1 := HB4.out.size; have h2 := HL4.out.lt; have h3 := HBB.out; omega
          have HP8 : Hid (Ps w8 B G b m t a (.ln s2) (.slice (some ⟨g8, 0, none⟩) (xs.length + 1) cap8) (xs ++ [⟨.ofIt it, ga, gc⟩])) := HP4.out.push HN4.out hBW HC8 ho8 HO8
          have HS8 : Hid (Sd w8 G (.slice (some ⟨g8, 0, none⟩) (xs.length + 1) cap8) PA lp) := HS4.out.push HC8 ho8
          have HPE8 : Hid (PeOk w8 ⟨PA, lp, PC⟩) := ⟨HS8.out.bt, HPEV.out.lc, HPEV.out.cm, HPEV.out.nn⟩
          have HL8 : Hid (Lies w8 w.heap.size #[.int .i64 (m : Int), .int .i64 (t : Int), .int .i64 (a : Int), .int .i64 r, .int .i64 e, .int .i64 h] 23) := HC8.lies HL4.out (fun e => by have := (HP4.out.on _ e).1; have := HLZ.out; omega)
          have hI8 : Lies w8 w3.heap.size #[.int .i64 (fiK (.ofIt it)), .string ⟨(fiT (.ofIt it)).toArray⟩, .slice ga (fiB (.ofIt it)).length gc, .int .i64 (fiY (.ofIt it)), .bool (fiH (.ofIt it))] 50 := HC8.lies HI4.out (fun e => HO3.out e)
          have HB8 : Hid (Below w.heap.size w w8) := HB4.out.trans (HC8.to_below HB4.out.size (fun q e => by have := (HP4.out.on q e).1; have := HLZ.out; omega))
          obtain ⟨⟨y0, y1, y2, y3, y4⟩, -⟩ := it_cells hI8
          rw [HKD.out] at y0
          have HE8 : Hid (Pg.all m t a [] 1 ⟨.ln s2, (xs ++ [(⟨.ofIt it, ga, gc⟩ : Ie)]).map Ie.i, 0⟩ (lp.drop K ++ lb.drop n) = TG) := by
            have h1 := HSA2.out.2 (HPU.out []).2.2
            have h2 := HE.out
            rw [Pg.all_append HK.out, h1, ← Pg.all_append HK.out, on_plain _ _ _ (HPU.out []).2.1, (HPU.out _).1] at h2
            rw [List.map_append]
            exact h2
          clear HG8 HC8 HO8 ho8 hI8 HP4 HS4 HN4 HL4 HI4 HB4 HW4 HNW x0 x1 x2 x3 x4
          go_wp2_with fail
          go_roundw
          case rel =>
            refine ⟨G, q + K, st + 1, s2, xs ++ [(⟨.ofIt it, ga, gc⟩ : Ie)], sla PA K PC, PC - K, ?_, rfl, ?_, by go_num, by omega, by simp; omega, ?_, ?_, HP8, ?_, HL8.out, HB8.out⟩
            · have := HT1.out; have := HLQ.out; omega
            · rw [show n - (q + K) = lp.length - K by have := HLQ.out; omega]
            · rw [← List.drop_drop, HLP.out]; exact HPE8.out.rest K HT1.out
            · rw [← List.drop_drop, HLP.out]; exact HS8.out.rest HPE8.out K HT1.out
            · rw [← List.drop_drop, HLP.out]; exact HE8.out
          case measure => simp [lenOf]; have := HT1.out; omega


end Go.Proofs.Ythnjbnhmdjpfpaa
