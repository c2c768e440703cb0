/-
  A framer's Take of a body and of a chunk.
-/
import Derived.Test.YthnjbnhmdjpfpaaFt15
import Derived.Test.YthnjbnhmdjpfpaaHrP
namespace Go.Proofs.Ythnjbnhmdjpfpaa
open Go.RowKit

/-- What an item of a body leaves. -/
theorem im_cases (a : Nat) (o : List UInt8) (y : Ds) (h1 : 1 ≤ y.p) (h2 : y.p ≤ 6) : (∃ c h, imOf a o y = .fin c h) ∨ ((fiK (.ofIm (imOf a o y)) == 4) = false ∧ Fs.ofIm (stOf o y) (imOf a o y) = .dt (stOf o y) ∧ 1 ≤ (stOf o y).p ∧ (stOf o y).p ≤ 6) := by
  unfold imOf stOf
  by_cases ho : o = []
  · rw [if_pos ho, if_pos ho]
    by_cases h6 : y.p = 6
    · rw [if_pos h6]
      exact .inl ⟨_, _, rfl⟩
    · rw [if_neg h6, if_neg h6]
      exact .inr ⟨rfl, rfl, h1, h2⟩
  · rw [if_neg ho, if_neg ho]
    exact .inr ⟨rfl, rfl, h1, h2⟩
theorem ch_cases (n r : Nat) (l : List UInt8) : (chI n r l = .fin 0 false ∧ chS n r l = .ln []) ∨ ((fiK (chI n r l) == 4) = false ∧ chS n r l = .ch (n - min l.length n) (r - min (min l.length n) r)) := by
  unfold chI chS
  by_cases h : 0 < min (min l.length n) r
  · rw [if_pos h, if_pos h]
    exact .inr ⟨rfl, rfl⟩
  · rw [if_neg h, if_neg h]
    by_cases h0 : n - min l.length n = 0
    · rw [if_pos h0, if_pos h0]
      exact .inl ⟨rfl, rfl⟩
    · rw [if_neg h0, if_neg h0]
      exact .inr ⟨rfl, rfl⟩
set_option maxHeartbeats 8000000 in
set_option maxRecDepth 20000 in
theorem xtake_dt (F : Nat → Prop) (b m t a : Nat) (d : Ds) (ad : Option Addr) (l : List UInt8) (n cap : Nat) (hn : n = l.length) (hl : l.length ≤ 17592186044416) (hz : d.size ≤ 1152921504606846976) (hr : d.row ≤ 1152921504606846976) (w : World) (x : Fm w F b m t a (.dt d)) (hb : Bts ad l w) (_hne : ∀ a', ad = some a' → ¬ F a'.block) :
    Calls Try.prog 19 #[.pointer (some ⟨b, 0, none⟩), .slice ad n cap] w fun e w' => ∃ v G, e = .returned (.tuple #[.int .i64 ((ftk m t a (.dt d) l).1 : Int), fiV (ftk m t a (.dt d) l).2.1 v]) ∧ Tkd w F b m t a (ftk m t a (.dt d) l).2.1 (ftk m t a (.dt d) l).2.2 v G w' := by
  subst hn
  obtain ⟨lb, rb, wn, rm, h1, h2, h3⟩ := x.ex
  obtain ⟨hFr, hRd, hp1, hp2⟩ := h3
  obtain ⟨W, hW⟩ : ∃ W, W = w.alloc (.cells zit 50) := ⟨_, rfl⟩
  have hB : Below w.heap.size w W := by subst hW; exact (Below.refl _ _).alloc (Nat.le_refl _) _
  have hWs : W.heap.size = w.heap.size + 1 := by subst hW; simp
  have HL0 : Hid (Lies W w.heap.size zit 50) := by subst hW; exact Lies.new w _ _
  have hLW : Lies W b (fmC t a b lb rb wn rm (.dt d)).toArray 41 := h1.below hB x.lt
  have HBW : Hid (Below w.heap.size w W ∧ W.heap.size = w.heap.size + 1) := ⟨hB, hWs⟩
  have HX : Hid (Fm w F b m t a (.dt d)) := x
  have HWW : Hid (w.alloc (.cells #[.int .i64 0, .string ⟨#[]⟩, .slice none 0 0, .int .i64 0, .bool false] 50) = W) := hW.symm
  obtain ⟨c0, c1, c2, c3, c4, c5, c6, c7, c8⟩ := fmC_cells hLW
  have c3' : W.cell? ⟨b, 3, none⟩ = some (.func (.func 39) #[.pointer (some ⟨rb, 0, none⟩)] #[]) := c3
  have HT := xthere_any b 39 #[.pointer (some ⟨rb, 0, none⟩)] W c3'
  have hRW : Rd W rb t a d := hRd.below hB hRd.lt
  have HTK := dtake_any rb t a d ad l l.length cap rfl hl W hRW hp1 (by omega) (by omega) (by omega) (hb.below hB)
  have HLW : Hid (Lies W b (fmC t a b lb rb wn rm (.dt d)).toArray 41) := hLW
  have HLN : Hid (Ln W F lb m []) := LnC.below h2 hB
  have HRW : Hid (Rd W rb t a d ∧ F rb ∧ rb ≠ b) := ⟨hRW, hFr, fun e => by subst e; exact absurd (lies_kind hRW hLW) (by decide)⟩
  have HRP := Ds.run_p t a l d hp1 hp2
  clear x hb _hne hW h1 h2 hB hWs hLW c0 c1 c2 c3 c4 c5 c6 c7 c8 hz hr hRd hRW hp1 hp2 hFr
  show Calls Try.prog 19 #[.pointer (some ⟨b, 0, none⟩), .slice ad l.length cap] w fun e w' => ∃ v G, e = .returned (.tuple #[.int .i64 ((d.run t a l).1 : Int), fiV (.ofIm (imOf a (d.run t a l).2.1 (d.run t a l).2.2)) v]) ∧ Tkd w F b m t a (.ofIm (imOf a (d.run t a l).2.1 (d.run t a l).2.2)) (Fs.ofIm (stOf (d.run t a l).2.1 (d.run t a l).2.2) (imOf a (d.run t a l).2.1 (d.run t a l).2.2)) v G w'
  obtain ⟨⟨k, o, y⟩, hT⟩ : ∃ T, d.run t a l = T := ⟨_, rfl⟩
  rw [hT] at HTK HRP ⊢
  dsimp only at HTK HRP ⊢
  have HIC : Hid _ := im_cases a o y HRP.1 HRP.2
  simp only [imV_fi] at HTK
  unfold fiV fiC at HTK
  obtain ⟨i, hi⟩ : ∃ i, imOf a o y = i := ⟨_, rfl⟩
  obtain ⟨y2, hy2⟩ : ∃ y2, stOf o y = y2 := ⟨_, rfl⟩
  rw [hi, hy2] at HTK HIC ⊢
  clear hT hi hy2 HRP
  go_enter Try.func19, Try.ntmps19
  go_wp2_with (rw [HWW.out])
  refine HT.mono ?_
  rintro e w2 ⟨rfl, rfl⟩
  clear HT HWW
  go_wp2_with fail
  refine HTK.mono ?_
  rintro e w3 ⟨v, rfl, hK⟩
  obtain ⟨ga, gc, rfl, -⟩ := own_bts hK.ow
  have hC := hK.ch
  have HL3 : Hid (Lies w3 b (fmC t a b lb rb wn rm (.dt d)).toArray 41) := hC.lies HLW.out (fun h => HRW.out.2.2 h.symm)
  have HN : Hid (Ln w3 F lb m []) := LnC.away HLN.out HRW.out.1 (by decide) (by decide) (fun q h1 h2 => hC.block q h1 h2)
  have HS3 : Hid (w.heap.size + 1 ≤ w3.heap.size) := by have := hC.size; have := HBW.out.2; show _ ≤ _; omega
  have HL30 : Hid (Lies w3 w.heap.size zit 50) := hC.lies HL0.out (fun h => by have := HX.out.fl _ HRW.out.2.1; omega)
  have HC3 : Hid (Chg F w w3) := (Chg.of_below HBW.out.1).trans (hC.mono (fun q hq => by rw [hq]; exact HRW.out.2.1))
  have HR3 : Hid (Rd w3 rb t a y2) := hK.rd
  have HO3 : Hid (w3.ownsRow 0 5 1 (.slice ga (imB i).length gc) (imB i).length (cellsB (imB i))) := hK.ow
  have HN3 : Hid (∀ q, (Value.slice ga (imB i).length gc).ownBlock = some q → w2.heap.size ≤ q) := hK.nw
  clear hC hK HTK c3' HL0 HLW HLN
  obtain ⟨V, hV⟩ : ∃ V, V = w3.alloc (.cells #[.int .i64 (fiK (.ofIm i)), .string ⟨(fiT (.ofIm i)).toArray⟩, .slice ga (imB i).length gc, .int .i64 (fiY (.ofIm i)), .bool (fiH (.ofIm i))] 50) := ⟨_, rfl⟩
  have hVB : Below w3.heap.size w3 V := by subst hV; exact (Below.refl _ _).alloc (Nat.le_refl _) _
  have HVB : Hid (Below w3.heap.size w3 V) := hVB
  have hVL : Lies V w3.heap.size #[.int .i64 (fiK (.ofIm i)), .string ⟨(fiT (.ofIm i)).toArray⟩, .slice ga (imB i).length gc, .int .i64 (fiY (.ofIm i)), .bool (fiH (.ofIm i))] 50 := by subst hV; exact Lies.new w3 _ _
  have HVL : Hid (Lies V w3.heap.size #[.int .i64 (fiK (.ofIm i)), .string ⟨(fiT (.ofIm i)).toArray⟩, .slice ga (imB i).length gc, .int .i64 (fiY (.ofIm i)), .bool (fiH (.ofIm i))] 50) := hVL
  have hz3 := hVB.size
  have HSZ : Hid (w.heap.size < w3.heap.size ∧ w3.heap.size < V.heap.size) := ⟨by have := HS3.out; omega, hVL.lt⟩
  have hL0V : Lies V w.heap.size zit 50 := HL30.out.below hVB HSZ.out.1
  have HL0V : Hid (Lies V w.heap.size zit 50) := hL0V
  have hLV : Lies V b (fmC t a b lb rb wn rm (.dt d)).toArray 41 := HL3.out.below hVB HL3.out.lt
  have HLV : Hid (Lies V b (fmC t a b lb rb wn rm (.dt d)).toArray 41) := hLV
  have HCV : Hid (Chg F w V) := HC3.out.below hVB
  have d2 : V.cell? ⟨b, 2, none⟩ = some (.int .i64 2) := hLV.cell 2
  have d5 : V.cell? ⟨b, 5, none⟩ = some (.bool false) := hLV.cell 5
  have f5 := hLV.frozen 5
  obtain ⟨⟨v0, v1, v2, v3, v4⟩, -⟩ := it_cells hVL
  obtain ⟨⟨i0, i1, i2, i3, i4⟩, j0, j1, j2, j3, j4⟩ := it_cells (show Lies V w.heap.size #[.int .i64 0, .string ⟨#[]⟩, .slice none 0 0, .int .i64 0, .bool false] 50 from hL0V)
  have HVV : Hid (w3.alloc (.cells #[.int .i64 (fiK (.ofIm i)), .string ⟨(fiT (.ofIm i)).toArray⟩, .slice ga (imB i).length gc, .int .i64 (fiY (.ofIm i)), .bool (fiH (.ofIm i))] 50) = V) := hV.symm
  have n1 : w3.heap.size ≠ b := Nat.ne_of_gt HL3.out.lt
  have n2 : w.heap.size ≠ b := Nat.ne_of_gt HX.out.lt
  have HLB : Hid (b < w.heap.size) := HX.out.lt
  clear hV hVB hVL hL0V hLV hz3
  have HLNV : Hid (Ln V F lb m []) := LnC.below HN.out HVB.out
  have HRV : Hid (Rd V rb t a y2) := HR3.out.below HVB.out HR3.out.lt
  have HOV : Hid (V.ownsRow 0 5 1 (.slice ga (imB i).length gc) (fiB (.ofIm i)).length (cellsB (fiB (.ofIm i)))) := by
    rw [fiB_im]
    exact own_keep HO3.out (fun q e => HVB.out.block q (HO3.out.lt q e).2)
  have HNV : Hid (∀ q, (Value.slice ga (imB i).length gc).ownBlock = some q → w.heap.size < q ∧ ¬ F q) := fun q e => by
    have h1 := HN3.out q e
    have h2 := HBW.out.2
    exact ⟨by omega, fun h => by have := HX.out.fl q h; omega⟩
  rcases HIC.out with ⟨c, h, rfl⟩ | ⟨k4, e4, hq1, hq2⟩
  · obtain ⟨V2, hV2⟩ : ∃ V2, V2 = ((V.setCell ⟨b, 2, none⟩ (.int .i64 1)).setCell ⟨b, 3, none⟩ (.func (.func 48) #[.pointer (some ⟨lb, 0, none⟩)] #[])).setCell ⟨b, 6, none⟩ (.pointer none) := ⟨_, rfl⟩
    have hB2 : But b V V2 := by subst hV2; exact (((But.refl _ _).set _ _).set _ _).set _ _
    have hL2 : Lies V2 b (fmC t a b lb rb wn rm (.ln [])).toArray 41 := by subst hV2; exact ((HLV.out.set 2 _).set 3 _).set 6 _
    have HTL := xtol_any b lb _ V HLV.out rfl (HLV.out.cell 4)
    rw [← hV2] at HTL
    have HF2 : Hid (Fm V2 F b m t a (.ln [])) := ⟨⟨lb, rb, wn, rm, hL2, LnC.away HLNV.out HLV.out (by decide) (by decide) (fun q h1 h2 => hB2.block q h1 h2), trivial⟩, HX.out.fb, (fun q hq => by have := HX.out.fl q hq; have := hB2.size; have := HSZ.out; omega), HX.out.t1, HX.out.t2, HX.out.a1, HX.out.a2⟩
    have HC2 : Hid (Chg F w V2) := HCV.out.trans (hB2.chg HX.out.fb)
    have HL02 : Hid (Lies V2 w.heap.size zit 50) := (hB2.block _ (Nat.lt_trans HSZ.out.1 HSZ.out.2) n2).trans HL0V.out
    have hVL2 := (hB2.block _ HSZ.out.2 n1).trans HVL.out
    have HO2 : Hid (V2.ownsRow 0 5 1 (.slice ga (imB (.fin c h)).length gc) (fiB (.ofIm (.fin c h))).length (cellsB (fiB (.ofIm (.fin c h))))) := own_keep HOV.out (fun q e => hB2.block q (HOV.out.lt q e).2 (fun h => by have := (HNV.out q e).1; have := HLB.out; omega))
    obtain ⟨⟨u0, u1, u2, u3, u4⟩, -⟩ := it_cells hVL2
    obtain ⟨⟨p0, p1, p2, p3, p4⟩, q0, q1, q2, q3, q4⟩ := it_cells (show Lies V2 w.heap.size #[.int .i64 0, .string ⟨#[]⟩, .slice none 0 0, .int .i64 0, .bool false] 50 from HL02.out)
    clear hV2 hVL2 hB2 hL2 v1 v2 v3 v4 i0 i1 i2 i3 i4 j0 j1 j2 j3 j4
    go_wp2_with (rw [HVV.out])
    refine HTL.mono ?_
    rintro e w5 ⟨rfl, rfl⟩
    clear HTL
    go_wp2_with fail
    go_region
    go_wp2_with fail
    exact xtake_fin F F b m t a k (.ofIm (.fin c h)) (.ln []) (.slice ga (imB (.fin c h)).length gc) w w5 _ HL02.out HO2.out (fun q e => HNV.out q e) HF2.out (fun q hq => .inl hq) HX.out.fl HC2.out rfl rfl
  · have HFV : Hid (Fm V F b m t a (Fs.ofIm y2 i)) := by
      rw [e4]
      exact ⟨⟨lb, rb, wn, rm, HLV.out, HLNV.out, HRW.out.2.1, HRV.out, hq1, hq2⟩, HX.out.fb, (fun q hq => by have := HX.out.fl q hq; have := HSZ.out; omega), HX.out.t1, HX.out.t2, HX.out.a1, HX.out.a2⟩
    clear e4 hq1 hq2
    go_wp2_with (rw [HVV.out])
    go_region
    go_wp2_with fail
    exact xtake_fin F F b m t a k (.ofIm i) (Fs.ofIm y2 i) (.slice ga (imB i).length gc) w V _ HL0V.out HOV.out (fun q e => HNV.out q e) HFV.out (fun q hq => .inl hq) HX.out.fl HCV.out rfl rfl
set_option maxHeartbeats 8000000 in
set_option maxRecDepth 20000 in
theorem xtake_ch (F : Nat → Prop) (b m t a : Nat) (cn cr : Nat) (ad : Option Addr) (l : List UInt8) (n cap : Nat) (hn : n = l.length) (hl : l.length ≤ 17592186044416) (hc : l.length ≤ cap) (hca : ad = none → cap = 0) (w : World) (x : Fm w F b m t a (.ch cn cr)) (hb : Bts ad l w) (hne : ∀ a', ad = some a' → ¬ F a'.block) :
    Calls Try.prog 19 #[.pointer (some ⟨b, 0, none⟩), .slice ad n cap] w fun e w' => ∃ v G, e = .returned (.tuple #[.int .i64 ((ftk m t a (.ch cn cr) l).1 : Int), fiV (ftk m t a (.ch cn cr) l).2.1 v]) ∧ Tkd w F b m t a (ftk m t a (.ch cn cr) l).2.1 (ftk m t a (.ch cn cr) l).2.2 v G w' := by
  subst hn
  obtain ⟨lb, rb, wn, rm, h1, h2, h3⟩ := x.ex
  obtain ⟨rfl, rfl, hn0, hr0⟩ := h3
  obtain ⟨W, hW⟩ : ∃ W, W = w.alloc (.cells zit 50) := ⟨_, rfl⟩
  have hB : Below w.heap.size w W := by subst hW; exact (Below.refl _ _).alloc (Nat.le_refl _) _
  have hWs : W.heap.size = w.heap.size + 1 := by subst hW; simp
  have HL0 : Hid (Lies W w.heap.size zit 50) := by subst hW; exact Lies.new w _ _
  have hLW : Lies W b (fmC t a b lb rb (cn : Int) (cr : Int) (.ch cn cr)).toArray 41 := h1.below hB x.lt
  have HBW : Hid (Below w.heap.size w W ∧ W.heap.size = w.heap.size + 1) := ⟨hB, hWs⟩
  have HX : Hid (Fm w F b m t a (.ch cn cr)) := x
  have HWW : Hid (w.alloc (.cells #[.int .i64 0, .string ⟨#[]⟩, .slice none 0 0, .int .i64 0, .bool false] 50) = W) := hW.symm
  obtain ⟨c0, c1, c2, c3, c4, c5, c6, c7, c8⟩ := fmC_cells hLW
  have c3' : W.cell? ⟨b, 3, none⟩ = some (.func (.func 49) #[.pointer (some ⟨b, 0, none⟩)] #[]) := c3
  have HT := xthere_any b 49 #[.pointer (some ⟨b, 0, none⟩)] W c3'
  obtain ⟨K, hK⟩ : ∃ K, min l.length cn = K := ⟨_, rfl⟩
  obtain ⟨Q, hQ⟩ : ∃ Q, min K cr = Q := ⟨_, rfl⟩
  have HTK := xoct_cells b cn cr K Q ad l l.length cap rfl hl hc hca hn0 hr0 hK hQ W _ _ _ _ _ _ _ hLW (hb.below hB) (fun a' e h => hne a' e (by rw [h]; exact x.fb))
  have HLN : Hid (Ln W F lb m []) := LnC.below h2 hB
  have HLW : Hid (Lies W b (fmC t a b lb rb cn cr (.ch cn cr)).toArray 41) := hLW
  have HNR : Hid (cn ≤ 9223372036854775807 ∧ cr ≤ 9223372036854775807) := ⟨hn0, hr0⟩
  have HIC : Hid _ := ch_cases cn cr l
  rw [hK, hQ] at HIC
  clear x hb hne hW h1 h2 hB hWs hLW c0 c1 c2 c3 c4 c5 c6 c7 c8 hn0 hr0 hc hca
  show Calls Try.prog 19 #[.pointer (some ⟨b, 0, none⟩), .slice ad l.length cap] w fun e w' => ∃ v G, e = .returned (.tuple #[.int .i64 ((min l.length cn : Nat) : Int), fiV (chI cn cr l) v]) ∧ Tkd w F b m t a (chI cn cr l) (chS cn cr l) v G w'
  rw [hK]
  unfold fiV fiC at HTK
  obtain ⟨i, hi⟩ : ∃ i, chI cn cr l = i := ⟨_, rfl⟩
  obtain ⟨s2, hs2⟩ : ∃ s2, chS cn cr l = s2 := ⟨_, rfl⟩
  rw [hi] at HTK
  rw [hi, hs2] at HIC ⊢
  clear hi hs2 hK hQ
  generalize K = k at *
  go_enter Try.func19, Try.ntmps19
  go_wp2_with (rw [HWW.out])
  refine HT.mono ?_
  rintro e w2 ⟨rfl, rfl⟩
  clear HT HWW
  go_wp2_with fail
  refine HTK.mono ?_
  rintro e w3 ⟨v, rfl, hK⟩
  obtain ⟨ga, gc, rfl, -⟩ := own_bts hK.ow
  have hC := hK.ch
  have HL3 : Hid (Lies w3 b (fmC t a b lb rb ((cn - k : Nat) : Int) ((cr - Q : Nat) : Int) (.ch (cn - k) (cr - Q))).toArray 41) := hK.li
  have HN : Hid (Ln w3 F lb m []) := LnC.away HLN.out HLW.out (by decide) (by decide) (fun q h1 h2 => hC.block q h1 h2)
  have HS3 : Hid (w.heap.size + 1 ≤ w3.heap.size) := by have := hC.size; have := HBW.out.2; show _ ≤ _; omega
  have HL30 : Hid (Lies w3 w.heap.size zit 50) := hC.lies HL0.out (fun h => by have := HX.out.lt; omega)
  have HC3 : Hid (Chg F w w3) := (Chg.of_below HBW.out.1).trans (hC.mono (fun q hq => by rw [hq]; exact HX.out.fb))
  have HO3 : Hid (w3.ownsRow 0 5 1 (.slice ga (fiB i).length gc) (fiB i).length (cellsB (fiB i))) := hK.ow
  have HN3 : Hid (∀ q, (Value.slice ga (fiB i).length gc).ownBlock = some q → w2.heap.size ≤ q) := hK.nw
  clear hC hK HTK c3' HL0 HLW HLN
  obtain ⟨V, hV⟩ : ∃ V, V = w3.alloc (.cells #[.int .i64 (fiK i), .string ⟨(fiT i).toArray⟩, .slice ga (fiB i).length gc, .int .i64 (fiY i), .bool (fiH i)] 50) := ⟨_, rfl⟩
  have hVB : Below w3.heap.size w3 V := by subst hV; exact (Below.refl _ _).alloc (Nat.le_refl _) _
  have HVB : Hid (Below w3.heap.size w3 V) := hVB
  have hVL : Lies V w3.heap.size #[.int .i64 (fiK i), .string ⟨(fiT i).toArray⟩, .slice ga (fiB i).length gc, .int .i64 (fiY i), .bool (fiH i)] 50 := by subst hV; exact Lies.new w3 _ _
  have HVL : Hid (Lies V w3.heap.size #[.int .i64 (fiK i), .string ⟨(fiT i).toArray⟩, .slice ga (fiB i).length gc, .int .i64 (fiY i), .bool (fiH i)] 50) := hVL
  have hz3 := hVB.size
  have HSZ : Hid (w.heap.size < w3.heap.size ∧ w3.heap.size < V.heap.size) := ⟨by have := HS3.out; omega, hVL.lt⟩
  have hL0V : Lies V w.heap.size zit 50 := HL30.out.below hVB HSZ.out.1
  have HL0V : Hid (Lies V w.heap.size zit 50) := hL0V
  have hLV : Lies V b (fmC t a b lb rb ((cn - k : Nat) : Int) ((cr - Q : Nat) : Int) (.ch (cn - k) (cr - Q))).toArray 41 := HL3.out.below hVB HL3.out.lt
  have HLV : Hid (Lies V b (fmC t a b lb rb ((cn - k : Nat) : Int) ((cr - Q : Nat) : Int) (.ch (cn - k) (cr - Q))).toArray 41) := hLV
  have HCV : Hid (Chg F w V) := HC3.out.below hVB
  have d2 : V.cell? ⟨b, 2, none⟩ = some (.int .i64 3) := hLV.cell 2
  have d5 : V.cell? ⟨b, 5, none⟩ = some (.bool false) := hLV.cell 5
  have f5 := hLV.frozen 5
  obtain ⟨⟨v0, v1, v2, v3, v4⟩, -⟩ := it_cells hVL
  obtain ⟨⟨i0, i1, i2, i3, i4⟩, j0, j1, j2, j3, j4⟩ := it_cells (show Lies V w.heap.size #[.int .i64 0, .string ⟨#[]⟩, .slice none 0 0, .int .i64 0, .bool false] 50 from hL0V)
  have HVV : Hid (w3.alloc (.cells #[.int .i64 (fiK i), .string ⟨(fiT i).toArray⟩, .slice ga (fiB i).length gc, .int .i64 (fiY i), .bool (fiH i)] 50) = V) := hV.symm
  have n1 : w3.heap.size ≠ b := Nat.ne_of_gt HL3.out.lt
  have n2 : w.heap.size ≠ b := Nat.ne_of_gt HX.out.lt
  have HLB : Hid (b < w.heap.size) := HX.out.lt
  clear hV hVB hVL hL0V hLV hz3
  have HLNV : Hid (Ln V F lb m []) := LnC.below HN.out HVB.out
  have HOV : Hid (V.ownsRow 0 5 1 (.slice ga (fiB i).length gc) (fiB i).length (cellsB (fiB i))) := own_keep HO3.out (fun q e => HVB.out.block q (HO3.out.lt q e).2)
  have HNV : Hid (∀ q, (Value.slice ga (fiB i).length gc).ownBlock = some q → w.heap.size < q ∧ ¬ F q) := fun q e => by
    have h1 := HN3.out q e
    have h2 := HBW.out.2
    exact ⟨by omega, fun h => by have := HX.out.fl q h; omega⟩
  rcases HIC.out with ⟨rfl, rfl⟩ | ⟨k4, rfl⟩
  · obtain ⟨V2, hV2⟩ : ∃ V2, V2 = ((V.setCell ⟨b, 2, none⟩ (.int .i64 1)).setCell ⟨b, 3, none⟩ (.func (.func 48) #[.pointer (some ⟨lb, 0, none⟩)] #[])).setCell ⟨b, 6, none⟩ (.pointer none) := ⟨_, rfl⟩
    have hB2 : But b V V2 := by subst hV2; exact (((But.refl _ _).set _ _).set _ _).set _ _
    have hL2 : Lies V2 b (fmC t a b lb rb ((cn - k : Nat) : Int) ((cr - Q : Nat) : Int) (.ln [])).toArray 41 := by subst hV2; exact ((HLV.out.set 2 _).set 3 _).set 6 _
    have HTL := xtol_any b lb _ V HLV.out rfl (HLV.out.cell 4)
    rw [← hV2] at HTL
    have HF2 : Hid (Fm V2 F b m t a (.ln [])) := ⟨⟨lb, rb, ((cn - k : Nat) : Int), ((cr - Q : Nat) : Int), hL2, LnC.away HLNV.out HLV.out (by decide) (by decide) (fun q h1 h2 => hB2.block q h1 h2), trivial⟩, HX.out.fb, (fun q hq => by have := HX.out.fl q hq; have := hB2.size; have := HSZ.out; omega), HX.out.t1, HX.out.t2, HX.out.a1, HX.out.a2⟩
    have HC2 : Hid (Chg F w V2) := HCV.out.trans (hB2.chg HX.out.fb)
    have HL02 : Hid (Lies V2 w.heap.size zit 50) := (hB2.block _ (Nat.lt_trans HSZ.out.1 HSZ.out.2) n2).trans HL0V.out
    have hVL2 := (hB2.block _ HSZ.out.2 n1).trans HVL.out
    have HO2 : Hid (V2.ownsRow 0 5 1 (.slice ga (fiB (.fin 0 false)).length gc) (fiB (.fin 0 false)).length (cellsB (fiB (.fin 0 false)))) := own_keep HOV.out (fun q e => hB2.block q (HOV.out.lt q e).2 (fun h => by have := (HNV.out q e).1; have := HLB.out; omega))
    obtain ⟨⟨u0, u1, u2, u3, u4⟩, -⟩ := it_cells hVL2
    obtain ⟨⟨p0, p1, p2, p3, p4⟩, q0, q1, q2, q3, q4⟩ := it_cells (show Lies V2 w.heap.size #[.int .i64 0, .string ⟨#[]⟩, .slice none 0 0, .int .i64 0, .bool false] 50 from HL02.out)
    clear hV2 hVL2 hB2 hL2 v1 v2 v3 v4 i0 i1 i2 i3 i4 j0 j1 j2 j3 j4
    go_wp2_with (rw [HVV.out])
    refine HTL.mono ?_
    rintro e w5 ⟨rfl, rfl⟩
    clear HTL
    go_wp2_with fail
    go_region
    go_wp2_with fail
    exact xtake_fin F F b m t a k (.fin 0 false) (.ln []) (.slice ga (fiB (.fin 0 false)).length gc) w w5 _ HL02.out HO2.out (fun q e => HNV.out q e) HF2.out (fun q hq => .inl hq) HX.out.fl HC2.out rfl rfl
  · have HFV : Hid (Fm V F b m t a (.ch (cn - k) (cr - Q))) := ⟨⟨lb, rb, _, _, HLV.out, HLNV.out, rfl, rfl, by have := HNR.out; omega, by have := HNR.out; omega⟩, HX.out.fb, (fun q hq => by have := HX.out.fl q hq; have := HSZ.out; omega), HX.out.t1, HX.out.t2, HX.out.a1, HX.out.a2⟩
    go_wp2_with (rw [HVV.out])
    go_region
    go_wp2_with fail
    exact xtake_fin F F b m t a k i (.ch (cn - k) (cr - Q)) (.slice ga (fiB i).length gc) w V _ HL0V.out HOV.out (fun q e => HNV.out q e) HFV.out (fun q hq => .inl hq) HX.out.fl HCV.out rfl rfl
end Go.Proofs.Ythnjbnhmdjpfpaa
