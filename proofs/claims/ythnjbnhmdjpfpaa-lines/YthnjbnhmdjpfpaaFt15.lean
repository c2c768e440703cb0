/-
  A framer's Take.
-/
import Derived.Test.YthnjbnhmdjpfpaaFe15
import Derived.Test.YthnjbnhmdjpfpaaFc15
namespace Go.Proofs.Ythnjbnhmdjpfpaa
open Go.RowKit

theorem LnC.tight {w : World} {F : Nat → Prop} {b m : Nat} {t : List UInt8} {h : Bool} {y : Int} (x : LnC w F b m t h y) : ∃ G : Nat → Prop, LnC w G b m t h y ∧ (∀ k, G k → F k ∧ k < w.heap.size) ∧ ∀ k, G k → ∀ cs u, Lies w k cs u → u = 93 ∨ u = 5 := by
  obtain ⟨v, h1, h2, h3⟩ := x.ex
  refine ⟨fun k => k = b ∨ v.ownBlock = some k, ⟨⟨v, h1, h2, fun k e => .inr e⟩, .inl rfl, x.lo, x.hi, x.le⟩, fun k hk => ?_, fun k hk cs u hl => ?_⟩
  · rcases hk with rfl | hk
    · exact ⟨x.fb, h1.lt⟩
    · exact ⟨h3 k hk, (h2.lt k hk).2⟩
  · rcases hk with rfl | hk
    · exact .inl (lies_kind hl h1)
    · obtain ⟨_, ⟨rfl, _⟩ | ⟨g, cap, cur, rfl, _, hh, _⟩⟩ := h2
      · cases hk
      · cases hk
        exact .inr (lies_kind hl hh)
theorem tk_bg {m : Nat} {s l : List UInt8} (h : 0 < (tk m s l).1) : (!(tk m s l).2.2.isEmpty) = (kdI (tk m s l).2.1 == 0) := by
  have hl : l ≠ [] := fun e => by subst e; cases h
  by_cases hi : (tk m s l).2.1 = .no
  · rw [(tk_no m l s hi).2, hi]
    cases l with
    | nil => exact absurd rfl hl
    | cons c r => simp [kdI]
  · rw [tk_yes m l s hi, (kdI_no hi).1]
    rfl
theorem tk_zero {m : Nat} {s l : List UInt8} (h : (tk m s l).1 = 0) : (tk m s l).2 = (.no, s) := by
  cases l with
  | nil => rfl
  | cons c r =>
    have := tk_pos m (c :: r) s (by simp)
    omega
theorem kdI_lt (i : It) : (kdI i == 4) = false := by cases i <;> rfl
theorem xtake_fin (F G : Nat → Prop) (b m t a k : Nat) (i : Fi) (st : Fs) (v : Value) (w wr : World) (tmps : Array Value) (h0 : Lies wr w.heap.size zit 50) (ho : wr.ownsRow 0 5 1 v (fiB i).length (cellsB (fiB i))) (hv : ∀ q, v.ownBlock = some q → w.heap.size < q ∧ ¬ G q) (hx : Fm wr G b m t a st) (hg : ∀ q, G q → F q ∨ w.heap.size < q) (hF : ∀ q, F q → q < w.heap.size) (hc : Chg F w wr) (hp : tmps.getD 4 undef = .int .i64 (k : Int)) (hr : tmps.getD 5 undef = .pointer (some ⟨w.heap.size, 0, none⟩)) :
    bodyPost Try.prog Try.f19 (fun e w' => ∃ v G, e = .returned (.tuple #[.int .i64 (k : Int), fiV i v]) ∧ Tkd w F b m t a i st v G w') .ret { tmps := tmps, defers := [] } (((((wr.setCell ⟨w.heap.size, 0, none⟩ (.int .i64 (fiK i))).setCell ⟨w.heap.size, 1, none⟩ (.string ⟨(fiT i).toArray⟩)).setCell ⟨w.heap.size, 2, none⟩ v).setCell ⟨w.heap.size, 3, none⟩ (.int .i64 (fiY i))).setCell ⟨w.heap.size, 4, none⟩ (.bool (fiH i))).drew := by
  obtain ⟨V, hV⟩ : ∃ V, V = ((((wr.setCell ⟨w.heap.size, 0, none⟩ (.int .i64 (fiK i))).setCell ⟨w.heap.size, 1, none⟩ (.string ⟨(fiT i).toArray⟩)).setCell ⟨w.heap.size, 2, none⟩ v).setCell ⟨w.heap.size, 3, none⟩ (.int .i64 (fiY i))).setCell ⟨w.heap.size, 4, none⟩ (.bool (fiH i)) := ⟨_, rfl⟩
  have hl : Lies V w.heap.size (fiC i v) 50 := by subst hV; exact ((((h0.set 0 _).set 1 _).set 2 _).set 3 _).set 4 _
  have hB : But w.heap.size wr V := by subst hV; exact (((((But.refl _ _).set _ _).set _ _).set _ _).set _ _).set _ _
  rw [← hV]
  clear hV
  have hB2 : But w.heap.size wr V.drew := hB.drew
  refine res_vc rfl w.heap.size 50 (fiC i v) _ _ hp hr (show Lies V.drew _ _ _ from hl) Try.underlying50 rfl (by rw [infoIT]; rfl) ⟨v, G, rfl, ?_, ?_, ?_, ?_, ?_⟩
  · exact own_keep ho (fun q e => hB2.block q (ho.lt q e).2 (fun h => by have := (hv q e).1; omega))
  · exact fun q e => ⟨Nat.le_of_lt (hv q e).1, (hv q e).2⟩
  · exact hx.keep hB2.size (fun q hq => hB2.block q (hx.fl q hq) (fun h => by
      rcases hg q hq with h2 | h2
      · have := hF q h2; omega
      · omega))
  · exact fun q hq => (hg q hq).imp id Nat.le_of_lt
  · exact hc.then (hB2.chg (F := fun q => q = w.heap.size) rfl) (fun q e => .inr (by omega))
theorem ofIt_no {it : It} (h : ¬ it = .no) : (fiK (.ofIt it) == 0) = false := by cases it <;> first | exact absurd rfl h | rfl
theorem ofIt_fi (it : It) : (fiK (.ofIt it) == 4) = false := by cases it <;> rfl
theorem ofIt_bg {m : Nat} {s l : List UInt8} (h : 0 < (tk m s l).1) : (!(tk m s l).2.2.isEmpty) = (fiK (.ofIt (tk m s l).2.1) == 0) := by
  rw [tk_bg h]
  cases (tk m s l).2.1 <;> rfl
set_option maxHeartbeats 8000000 in
set_option maxRecDepth 20000 in
theorem xtake_ln (F : Nat → Prop) (b m t a : Nat) (s : List UInt8) (ad : Option Addr) (l : List UInt8) (n cap : Nat) (hn : n = l.length) (hl : l.length ≤ 17592186044416) (w : World) (x : Fm w F b m t a (.ln s)) (hb : Bts ad l w) (hne : ∀ a', ad = some a' → ¬ F a'.block) :
    Calls Try.prog 19 #[.pointer (some ⟨b, 0, none⟩), .slice ad n cap] w fun e w' => ∃ v G, e = .returned (.tuple #[.int .i64 ((ftk m t a (.ln s) l).1 : Int), fiV (ftk m t a (.ln s) l).2.1 v]) ∧ Tkd w F b m t a (ftk m t a (.ln s) l).2.1 (ftk m t a (.ln s) l).2.2 v G w' := by
  subst hn
  obtain ⟨lb, rb, wn, rm, h1, h2, h3⟩ := x.ex
  obtain ⟨W, hW⟩ : ∃ W, W = w.alloc (.cells zit 50) := ⟨_, rfl⟩
  have hB : Below w.heap.size w W := by subst hW; exact (Below.refl _ _).alloc (Nat.le_refl _) _
  have hWs : W.heap.size = w.heap.size + 1 := by subst hW; simp
  have HL0 : Hid (Lies W w.heap.size zit 50) := by subst hW; exact Lies.new w _ _
  have hLW : Lies W b (fmC t a b lb rb wn rm (.ln s)).toArray 41 := h1.below hB x.lt
  have HBW : Hid (Below w.heap.size w W ∧ W.heap.size = w.heap.size + 1) := ⟨hB, hWs⟩
  have HX : Hid (Fm w F b m t a (.ln s)) := x
  have HWW : Hid (w.alloc (.cells #[.int .i64 0, .string ⟨#[]⟩, .slice none 0 0, .int .i64 0, .bool false] 50) = W) := hW.symm
  obtain ⟨c0, c1, c2, c3, c4, c5, c6, c7, c8⟩ := fmC_cells hLW
  have c3' : W.cell? ⟨b, 3, none⟩ = some (.func (.func 48) #[.pointer (some ⟨lb, 0, none⟩)] #[]) := c3
  have HT := xthere_any b 48 #[.pointer (some ⟨lb, 0, none⟩)] W c3'
  obtain ⟨G, hG, hG1, hG2⟩ := LnC.tight h2
  have HTK := ztake_any G lb m s ad l l.length cap rfl (by omega) W (LnC.below hG hB) (fun k hk => by have := (hG1 k hk).2; omega) (hb.below hB) (fun a' e h => hne a' e (hG1 _ h).1)
  have hGb : ¬ G b := fun h => by rcases hG2 b h _ _ h1 with e | e <;> cases e
  have HG : Hid ((∀ k, G k → F k ∧ k < w.heap.size) ∧ ¬ G b) := ⟨hG1, hGb⟩
  have HLW : Hid (Lies W b (fmC t a b lb rb wn rm (.ln s)).toArray 41) := hLW
  have HBG : Hid (0 < (tk m s l).1 → (!(tk m s l).2.2.isEmpty) = (fiK (.ofIt (tk m s l).2.1) == 0)) := ofIt_bg
  have HZR : Hid ((tk m s l).1 = 0 → (tk m s l).2 = (.no, s)) := tk_zero
  clear x hb hne hW h1 h2 h3 hG hG1 hG2 hB hWs hLW hGb c0 c1 c2 c3 c4 c5 c6 c7 c8
  show Calls Try.prog 19 #[.pointer (some ⟨b, 0, none⟩), .slice ad l.length cap] w fun e w' => ∃ v G, e = .returned (.tuple #[.int .i64 ((tk m s l).1 : Int), fiV (.ofIt (tk m s l).2.1) v]) ∧ Tkd w F b m t a (.ofIt (tk m s l).2.1) (.ln (tk m s l).2.2) v G w'
  obtain ⟨⟨k, it, s2⟩, hT⟩ : ∃ T, tk m s l = T := ⟨_, rfl⟩
  rw [hT] at HTK HBG HZR ⊢
  rw [itV_fi] at HTK
  unfold fiV fiC at HTK
  dsimp only at HTK HBG HZR ⊢
  have k4 := ofIt_fi it
  clear hT
  go_enter Try.func19, Try.ntmps19
  go_wp2_with (rw [HWW.out])
  refine HT.mono ?_
  rintro e w2 ⟨rfl, rfl⟩
  clear HT HWW
  go_wp2_with fail
  refine HTK.mono ?_
  rintro e w3 ⟨rfl, hN, hC⟩
  have HL3 : Hid (Lies w3 b (fmC t a b lb rb wn rm (.ln s)).toArray 41) := hC.lies HLW.out HG.out.2
  have HN : Hid (Ln w3 (fun k => G k ∨ w2.heap.size ≤ k) lb m s2) := hN
  have HS3 : Hid (w.heap.size + 1 ≤ w3.heap.size) := by have := hC.size; have := HBW.out.2; show _ ≤ _; omega
  have HL30 : Hid (Lies w3 w.heap.size zit 50) := hC.lies HL0.out (fun h => by have := (HG.out.1 _ h).2; omega)
  have HC3 : Hid (Chg F w w3) := (Chg.of_below HBW.out.1).trans (hC.mono (fun q hq => (HG.out.1 q hq).1))
  clear hN hC HTK c3' HL0 HLW
  obtain ⟨V, hV⟩ : ∃ V, V = w3.alloc (.cells #[.int .i64 (fiK (.ofIt it)), .string ⟨(fiT (.ofIt it)).toArray⟩, .slice none 0 0, .int .i64 (fiY (.ofIt it)), .bool (fiH (.ofIt it))] 50) := ⟨_, rfl⟩
  have hVB : Below w3.heap.size w3 V := by subst hV; exact (Below.refl _ _).alloc (Nat.le_refl _) _
  have HVB : Hid (Below w3.heap.size w3 V) := hVB
  have hVL : Lies V w3.heap.size #[.int .i64 (fiK (.ofIt it)), .string ⟨(fiT (.ofIt it)).toArray⟩, .slice none 0 0, .int .i64 (fiY (.ofIt it)), .bool (fiH (.ofIt it))] 50 := by subst hV; exact Lies.new w3 _ _
  have HVL : Hid (Lies V w3.heap.size #[.int .i64 (fiK (.ofIt it)), .string ⟨(fiT (.ofIt it)).toArray⟩, .slice none 0 0, .int .i64 (fiY (.ofIt it)), .bool (fiH (.ofIt it))] 50) := hVL
  have hz3 := hVB.size
  have HSZ : Hid (w.heap.size < w3.heap.size ∧ w3.heap.size < V.heap.size) := ⟨by have := HS3.out; omega, hVL.lt⟩
  have hL0V : Lies V w.heap.size zit 50 := HL30.out.below hVB HSZ.out.1
  have HL0V : Hid (Lies V w.heap.size zit 50) := hL0V
  have hLV : Lies V b (fmC t a b lb rb wn rm (.ln s)).toArray 41 := HL3.out.below hVB HL3.out.lt
  have HLV : Hid (Lies V b (fmC t a b lb rb wn rm (.ln s)).toArray 41) := hLV
  have HCV : Hid (Chg F w V) := HC3.out.below hVB
  have d2 : V.cell? ⟨b, 2, none⟩ = some (.int .i64 1) := hLV.cell 2
  have d5 : V.cell? ⟨b, 5, none⟩ = some (.bool (Fs.ln s).bg) := hLV.cell 5
  have f5 := hLV.frozen 5
  obtain ⟨⟨v0, v1, v2, v3, v4⟩, -⟩ := it_cells hVL
  obtain ⟨⟨i0, i1, i2, i3, i4⟩, j0, j1, j2, j3, j4⟩ := it_cells (show Lies V w.heap.size #[.int .i64 0, .string ⟨#[]⟩, .slice none 0 0, .int .i64 0, .bool false] 50 from hL0V)
  have HVV : Hid (w3.alloc (.cells #[.int .i64 (fiK (.ofIt it)), .string ⟨(fiT (.ofIt it)).toArray⟩, .slice none 0 0, .int .i64 (fiY (.ofIt it)), .bool (fiH (.ofIt it))] 50) = V) := hV.symm
  have n1 : w3.heap.size ≠ b := Nat.ne_of_gt HL3.out.lt
  have n2 : w.heap.size ≠ b := Nat.ne_of_gt HX.out.lt
  have HLB : Hid (b < w.heap.size) := HX.out.lt
  clear hV hVB hVL hL0V hLV hz3
  have HLNV : Hid (Ln V (fun q => F q ∨ (w.heap.size < q ∧ q < V.heap.size)) lb m s2) := LnC.mono (LnC.below HN.out HVB.out) (fun q hq hl => by
    rcases hq with hq | hq
    · exact .inl (HG.out.1 q hq).1
    · exact .inr ⟨by have := HBW.out.2; omega, hl⟩)
  have HFM : Hid (∀ (V' : World), But b V V' → Lies V' b (fmC t a b lb rb wn rm (.ln s2)).toArray 41 → Fm V' (fun q => F q ∨ (w.heap.size < q ∧ q < V.heap.size)) b m t a (.ln s2)) := fun V' hb' hl' => ⟨⟨lb, rb, wn, rm, hl', LnC.away HLNV.out HLV.out (by decide) (by decide) (fun q h1 h2 => hb'.block q h1 h2), trivial⟩, .inl HX.out.fb, (fun q hq => by
      rcases hq with hq | hq
      · have := HX.out.fl q hq; have := hb'.size; have := HSZ.out; omega
      · exact Nat.lt_of_lt_of_le hq.2 hb'.size), HX.out.t1, HX.out.t2, HX.out.a1, HX.out.a2⟩
  have HBI : Hid (fiB (.ofIt it) = []) := fiB_it it
  by_cases hk : k = 0
  · obtain ⟨rfl, rfl⟩ : it = .no ∧ s2 = s := by
      have := HZR.out hk
      exact ⟨(Prod.mk.inj this).1, (Prod.mk.inj this).2⟩
    subst hk
    go_wp2_with (rw [HVV.out])
    go_region
    go_wp2_with fail
    exact xtake_fin F (fun q => F q ∨ (w.heap.size < q ∧ q < V.heap.size)) b m t a 0 (.ofIt .no) (.ln s2) (.slice none 0 0) w V _ HL0V.out (own_none _) (fun q e => by cases e) (HFM.out V (But.refl _ _) HLV.out) (fun q hq => hq.imp id (fun h => h.1)) HX.out.fl HCV.out rfl rfl
  · have hk' : (0 : Int) < (k : Int) := by omega
    have HE : Hid ((!s2.isEmpty) = (fiK (.ofIt it) == 0)) := HBG.out (by show 0 < k; omega)
    obtain ⟨g, hg⟩ : ∃ g, (fiK (.ofIt it) == 0) = g := ⟨_, rfl⟩
    have HGG : Hid (g = (Fs.ln s2).bg) := by show g = !s2.isEmpty; rw [HE.out, hg]
    have HL5 : Hid (Lies (V.setCell ⟨b, 5, none⟩ (.bool g)) b (fmC t a b lb rb wn rm (.ln s2)).toArray 41) := by
      have := HLV.out.set 5 (.bool g)
      rw [HGG.out] at this ⊢
      exact this
    have hB5 : But b V (V.setCell ⟨b, 5, none⟩ (.bool g)) := (But.refl _ _).set _ _
    have HCW : Hid (Chg F w (V.setCell ⟨b, 5, none⟩ (.bool g))) := HCV.out.trans (hB5.chg HX.out.fb)
    have HF5 : Hid (Fm (V.setCell ⟨b, 5, none⟩ (.bool g)) (fun q => F q ∨ (w.heap.size < q ∧ q < V.heap.size)) b m t a (.ln s2)) := HFM.out _ hB5 HL5.out
    have HL05 : Hid (Lies (V.setCell ⟨b, 5, none⟩ (.bool g)) w.heap.size zit 50) := (hB5.block _ (Nat.lt_trans HSZ.out.1 HSZ.out.2) n2).trans HL0V.out
    have HOW : Hid ((V.setCell ⟨b, 5, none⟩ (.bool g)).ownsRow 0 5 1 (.slice none 0 0) (fiB (.ofIt it)).length (cellsB (fiB (.ofIt it)))) := by
      rw [HBI.out]
      exact own_none _
    obtain ⟨V5, hV5⟩ : ∃ V5, V5 = V.setCell ⟨b, 5, none⟩ (.bool g) := ⟨_, rfl⟩
    have hVL5 := (hB5.block _ HSZ.out.2 n1).trans HVL.out
    rw [← hV5] at HL5 HCW HF5 HL05 HOW hVL5
    have HV5 : Hid (V.setCell ⟨b, 5, none⟩ (.bool g) = V5) := hV5.symm
    obtain ⟨⟨u0, u1, u2, u3, u4⟩, -⟩ := it_cells hVL5
    obtain ⟨⟨p0, p1, p2, p3, p4⟩, q0, q1, q2, q3, q4⟩ := it_cells (show Lies V5 w.heap.size #[.int .i64 0, .string ⟨#[]⟩, .slice none 0 0, .int .i64 0, .bool false] 50 from HL05.out)
    clear hV5 hVL5 hB5 HE HGG v1 v2 v3 v4 i0 i1 i2 i3 i4 j0 j1 j2 j3 j4 HFM
    cases g with
    | true =>
      go_wp2_with (first | rw [HVV.out] | rw [HV5.out])
      go_region
      go_wp2_with fail
      exact xtake_fin F (fun q => F q ∨ (w.heap.size < q ∧ q < V.heap.size)) b m t a k (.ofIt it) (.ln s2) (.slice none 0 0) w V5 _ HL05.out HOW.out (fun q e => by cases e) HF5.out (fun q hq => hq.imp id (fun h => h.1)) HX.out.fl HCW.out rfl rfl
    | false =>
      go_wp2_with (first | rw [HVV.out] | rw [HV5.out])
      go_region
      go_wp2_with fail
      exact xtake_fin F (fun q => F q ∨ (w.heap.size < q ∧ q < V.heap.size)) b m t a k (.ofIt it) (.ln s2) (.slice none 0 0) w V5 _ HL05.out HOW.out (fun q e => by cases e) HF5.out (fun q hq => hq.imp id (fun h => h.1)) HX.out.fl HCW.out rfl rfl
end Go.Proofs.Ythnjbnhmdjpfpaa
