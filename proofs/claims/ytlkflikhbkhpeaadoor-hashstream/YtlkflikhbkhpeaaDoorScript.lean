/-
  A script of calls that came in: its steps and their bytes.
-/
import Derived.Test.YtlkflikhbkhpeaaDoorOpenL
import Derived.Test.YtlkflikhbkhpeaaDoorKeep
namespace Go.Proofs.YtlkflikhbkhpeaaDoor
open Go.ChangeShapes Go.WideShapes Go.ChangeAt Go.RowKit

/-- One call. -/
structure Cl where
  kind : Int
  who : Int
  to : Int
  p : Pc
/-- Calls that lie behind an address. -/
structure Scr (st : List Cl) (a : Option Addr) (w : World) : Prop where
  lies : st = [] ∨ ∃ g o, a = some ⟨g, o, none⟩ ∧ g < w.heap.size ∧ ∀ j, (h : j < st.length) → w.cell? ⟨g, o + j * 4, none⟩ = some (.int .i64 st[j].kind) ∧ w.cell? ⟨g, o + j * 4 + 1, none⟩ = some (.int .i64 st[j].who) ∧
    w.cell? ⟨g, o + j * 4 + 2, none⟩ = some (.int .i64 st[j].to) ∧ w.cell? ⟨g, o + j * 4 + 3, none⟩ = some (.slice st[j].p.at_ st[j].p.bs.length st[j].p.cap)
  bts : ∀ j, (h : j < st.length) → Bts st[j].p.at_ st[j].p.bs w
  nn : ∀ j, (h : j < st.length) → st[j].p.at_ = none → st[j].p.cap = 0
  small : ∀ j, (h : j < st.length) → st[j].p.bs.length ≤ 140737488351232
theorem Scr.cell {st : List Cl} {a : Option Addr} {w : World} (h : Scr st a w) (k : Nat) (hk : k < st.length) : ∃ g o, a = some ⟨g, o, none⟩ ∧ g < w.heap.size ∧ w.cell? ⟨g, o + k * 4, none⟩ = some (.int .i64 st[k].kind) ∧ w.cell? ⟨g, o + k * 4 + 1, none⟩ = some (.int .i64 st[k].who) ∧
    w.cell? ⟨g, o + k * 4 + 2, none⟩ = some (.int .i64 st[k].to) ∧ w.cell? ⟨g, o + k * 4 + 3, none⟩ = some (.slice st[k].p.at_ st[k].p.bs.length st[k].p.cap) := by
  rcases h.lies with e | ⟨g, o, e, hg, hc⟩
  · rw [e] at hk
    simp at hk
  · exact ⟨g, o, e, hg, hc k hk⟩

theorem open_op {H : Type} {enc : TypeId × Value → H} {W : World} {fuel : Nat} {cs : List Value} {x : DataW H × List MemPlace}
    (h : DataW.trod enc Tryd.prog W 0 (fun _ => true) true fuel 46 cs = some x) (hw : ∀ y ∈ x.1.weights Tryd.prog 46, y ≤ reachBytes) :
    ∃ t : Cl, cs = [.int .i64 t.kind, .int .i64 t.who, .int .i64 t.to, .slice t.p.at_ t.p.bs.length t.p.cap] ∧ Bts t.p.at_ t.p.bs W ∧ (t.p.at_ = none → t.p.cap = 0) ∧ t.p.bs.length ≤ 140737488351232 := by
  obtain ⟨y0, y1, y2, y3, n, rfl, hl, h0, h1, h2, h3⟩ := Go.Joins.trod_struct4 Tryd.underlying46 h
  have c4 : Tryd.prog.cellsOf 46 = 4 := by kernel_rfl
  have c1 : Tryd.prog.cellsOf 3 = 1 := by kernel_rfl
  have cb : Tryd.prog.cellsOf 22 = 1 := by kernel_rfl
  rw [c4] at hl
  match cs, hl with
  | [k0, k1, k2, k3], _ =>
    simp only [c1, cb, List.drop_zero, List.drop_succ_cons, List.take_succ_cons, List.take_zero] at h0 h1 h2 h3
    obtain ⟨n0, e0, _, _⟩ := DataW.trod_int Tryd.underlying3 h0
    obtain ⟨n1, e1, _, _⟩ := DataW.trod_int Tryd.underlying3 h1
    obtain ⟨n2, e2, _, _⟩ := DataW.trod_int Tryd.underlying3 h2
    obtain ⟨p, e3, hb, hn, hs⟩ := open_pc h3 (fun y hy => hw y (by
      simp only [DataW.weights, Tryd.underlying46]
      simp [DataW.weightsEach, hy]))
    injection e0 with e0 _
    injection e1 with e1 _
    injection e2 with e2 _
    injection e3 with e3 _
    exact ⟨⟨n0, n1, n2, p⟩, by rw [e0, e1, e2, e3]; rfl, hb, hn, hs⟩

theorem bytesOp : Tryd.prog.bytesOf 46 = 48 := by kernel_rfl
theorem open_ops {H : Type} {enc : TypeId × Value → H} {W : World} {ts : List TypeId} {ds : List (DataW H)} {a : Option Addr} {len cap : Nat} {d : DataW H} {p : List MemPlace}
    (hsz : (DataW.weightsEach Tryd.prog (32 :: ts) (d :: ds)).all (· ≤ reachBytes) = true)
    (h : DataW.Trod enc Tryd.prog W 0 (fun _ => true) true 32 (.slice a len cap) d p) :
    ∃ st : List Cl, st.length = len ∧ Scr st a W ∧ st.length ≤ 4000000000000 := by
  have hmem : ∀ x ∈ d.weights Tryd.prog 32, x ≤ reachBytes := fun x hx => by
    have := List.all_eq_true.1 hsz x (DataW.weights_mem_each (j := 0) rfl rfl x hx)
    simpa using this
  have c4 : Tryd.prog.cellsOf 46 = 4 := by kernel_rfl
  obtain ⟨fuel, hf⟩ := h
  rcases DataW.trod_slice Tryd.underlying32 hf with ⟨e, _⟩ | ⟨ad, l, c, elems, rest, n, _, e, hx, hb, hl, hm, hlen, hel, _⟩
  · simp [Value.cells] at e
    obtain ⟨rfl, rfl, rfl⟩ := e
    exact ⟨[], rfl, ⟨.inl rfl, fun j hj => by simp at hj, fun j hj => by simp at hj, fun j hj => by simp at hj⟩, by simp⟩
  · simp [Value.cells] at e
    obtain ⟨rfl, rfl, rfl⟩ := e
    simp only [Prod.mk.injEq] at hx
    obtain ⟨rfl, _⟩ := hx
    have hw0 : len ≤ 4000000000000 := by
      have h1 := hmem (((elems.map (·.1)).length + _) * Tryd.prog.bytesOf 46) (by simp only [DataW.weights, Tryd.underlying32]; exact List.mem_cons_self)
      rw [bytesOp, List.length_map, hlen] at h1
      simp only [reachBytes] at h1
      omega
    have hwe : ∀ y ∈ elems, ∀ x ∈ y.1.weights Tryd.prog 46, x ≤ reachBytes := fun y hy x hx => by
      refine hmem x ?_
      simp only [DataW.weights, Tryd.underlying32]
      exact List.mem_cons_of_mem _ (List.mem_append_left _ (weights_all _ y.1 (List.mem_map_of_mem hy) x hx))
    have each : ∀ i : Fin len, ∃ t : Cl, (∀ j, j < 4 → W.cell? ((ad.add (i.val * 4)).add j) = [Value.int .i64 t.kind, .int .i64 t.who, .int .i64 t.to, .slice t.p.at_ t.p.bs.length t.p.cap][j]?) ∧ Bts t.p.at_ t.p.bs W ∧ (t.p.at_ = none → t.p.cap = 0) ∧ t.p.bs.length ≤ 140737488351232 := fun i => by
      have h1 := hel i.val i.isLt
      rw [c4] at h1
      have hi : i.val < elems.length := by rw [hlen]; exact i.isLt
      rw [List.getElem?_eq_getElem hi, Option.bind_eq_some_iff] at h1
      obtain ⟨cs, hc, ht⟩ := h1
      obtain ⟨t, rfl, h2, h3, h4⟩ := open_op ht (hwe _ (List.getElem_mem hi))
      exact ⟨t, fun j hj => cells_at' hc j hj, h2, h3, h4⟩
    obtain ⟨f, hfs⟩ : ∃ f : Fin len → Cl, ∀ i, (∀ j, j < 4 → W.cell? ((ad.add (i.val * 4)).add j) = [Value.int .i64 (f i).kind, .int .i64 (f i).who, .int .i64 (f i).to, .slice (f i).p.at_ (f i).p.bs.length (f i).p.cap][j]?) ∧ Bts (f i).p.at_ (f i).p.bs W ∧ ((f i).p.at_ = none → (f i).p.cap = 0) ∧ (f i).p.bs.length ≤ 140737488351232 := ⟨fun i => (each i).choose, fun i => (each i).choose_spec⟩
    clear each
    refine ⟨List.ofFn f, List.length_ofFn, ⟨?_, fun j hj => ?_, fun j hj => ?_, fun j hj => ?_⟩, by rw [List.length_ofFn]; exact hw0⟩
    · by_cases h0 : len = 0
      · left
        exact List.eq_nil_of_length_eq_zero (by rw [List.length_ofFn]; exact h0)
      · right
        obtain ⟨b, off, spot⟩ := ad
        have hc := (hfs ⟨0, by omega⟩).1 0 (by omega)
        have hspot : spot = none := by simpa [Addr.add] using World.cell?_spot hc
        subst hspot
        have hcell : ∀ (i : Fin len) j, j < 4 → W.cell? ⟨b, off + i.val * 4 + j, none⟩ = [Value.int .i64 (f i).kind, .int .i64 (f i).who, .int .i64 (f i).to, .slice (f i).p.at_ (f i).p.bs.length (f i).p.cap][j]? := fun i j hj => by
          have := (hfs i).1 j hj
          rw [Addr.add_lit, Addr.add_lit] at this
          exact this
        refine ⟨b, off, rfl, ?_, fun j hj => ?_⟩
        · exact World.block_lt_of_cell? W _ (hcell ⟨0, by omega⟩ 0 (by omega))
        · have hj' : j < len := by rw [List.length_ofFn] at hj; exact hj
          rw [List.getElem_ofFn]
          exact ⟨hcell ⟨j, hj'⟩ 0 (by omega), hcell ⟨j, hj'⟩ 1 (by omega), hcell ⟨j, hj'⟩ 2 (by omega), hcell ⟨j, hj'⟩ 3 (by omega)⟩
    · rw [List.getElem_ofFn]
      exact (hfs _).2.1
    · rw [List.getElem_ofFn]
      exact (hfs _).2.2.1
    · rw [List.getElem_ofFn]
      exact (hfs _).2.2.2

/-- The pieces of a script. -/
def pcs (st : List Cl) : List Pc := st.map (·.p)
theorem pcs_length (st : List Cl) : (pcs st).length = st.length := List.length_map _
theorem infoTB : (Tryd.prog.info? 22).map (fun i => (i.zero, i.size, i.bytes)) = some (some (.slice none 0 0), 1, 24) := by kernel_rfl
/-- One piece more. -/
theorem wpList_append_pc {ops : Array Oper} {rest : List Oper} {o : Oper} {a : Act} {w : World} {Q : Exit → Act → World → Prop} (hgd : o.guard = none) (s x : Operand)
    (ho : o.op = .call { callee := .builtin .append, args := #[s, x], argTypes := #[53, 53] }) (base : Nat) (v : Value) (n : Nat) (xs : List Value) (hs : a.eval s = v) (hown : w.ownsRow base 22 1 v n xs)
    (w0 : World) (sp : Option Addr) (m k : Nat) (hw : w = w0.alloc (.cells #[.slice sp m k] 22)) (c gb : Nat) (hgb : gb = w0.heap.size) (hx : a.eval x = .slice (some ⟨gb, 0, none⟩) 1 c) (hbytes : n + 1 ≤ 5000000000000) (hbase : base ≤ w0.heap.size)
    (h : ∀ v' w', w'.ownsRow base 22 1 v' (n + 1) (xs ++ [.slice sp m k]) → (∀ B w1, Below B w1 w0 → B ≤ base → Below B w1 w') → wpList Tryd.prog ops Q rest (a.put o.dst v') w') : wpList Tryd.prog ops Q (o :: rest) a w := by
  subst hw hgb
  obtain ⟨i0, hi, hz0, hz1, hz2⟩ := info_parts infoTB
  refine wpList_append_own _ hgd s x 53 ho base 22 i0 (.slice none 0 0) 1 24 Tryd.underlying53 hi hz0 hz1 hz2 rfl (by decide) v n _ hs hown ⟨w0.heap.size, 0, none⟩ 1 c [.slice sp m k] hx rfl ?_ (by simp [Value.oneCell']) (by unfold maxLen; omega) (by omega) (by simp; omega) ?_
  · intro j u hu
    match j with
    | 0 =>
      simp at hu
      subst hu
      simp [Addr.add]
    | j + 1 => simp at hu
  · intro v' w' hown' hgrow _
    exact h v' w' hown' (fun B w1 hb hB => (hb.alloc (by omega) _).grown hgrow (by simp; omega) (fun q hq => Nat.le_trans hB (hown.lt q hq).1))

/-- A row of pieces of the call's own. -/
theorem own_pl {w : World} {B n : Nat} {v : Value} {ps : List Pc} (h : w.ownsRow B 22 1 v n (ps.map Pc.val)) (h1 : ∀ j, (h : j < ps.length) → Bts ps[j].at_ ps[j].bs w) (h2 : ∀ j, (h : j < ps.length) → ps[j].at_ = none → ps[j].cap = 0) (h3 : ∀ j, (h : j < ps.length) → ps[j].bs.length ≤ 140737488351232) :
    ∃ a cap, v = .slice a ps.length cap ∧ Pl ps a w := by
  obtain ⟨hl, h4⟩ := id h
  have hn : ps.length = n := by rw [List.length_map] at hl; omega
  rcases h4 with ⟨rfl, h0⟩ | ⟨g, cap, cur, rfl, hb, hg, hcap, _⟩
  · have e : ps = [] := List.eq_nil_of_length_eq_zero (hn.trans h0)
    exact ⟨none, 0, by rw [e]; rfl, .inl e, h1, h2, h3⟩
  · refine ⟨_, cap, by rw [hn], .inr ⟨g, 0, rfl, (Array.getElem?_eq_some_iff.1 hg).1, fun j hj => ?_⟩, h1, h2, h3⟩
    have := h.cellAt j (by omega)
    rw [Nat.zero_add, this, List.getElem?_map, List.getElem?_eq_getElem hj]
    rfl

set_option maxRecDepth 100000 in
theorem written_any (a : Option Addr) (st : List Cl) (cap : Nat) (w : World) (h : Scr st a w) (hn : st.length ≤ 4000000000000) :
    Calls Tryd.prog 17 #[.slice a st.length cap] w fun e w' => e = .returned (.bool (decide (1073741824 < gsum (pcs st)))) ∧ Below w.heap.size w w' := by
  have HP : Hid (Scr st a w) := h
  clear h
  obtain ⟨K, hK⟩ : ∃ K, K = st.length := ⟨_, rfl⟩
  have HK : Hid (K = st.length) := hK
  rw [← hK] at hn
  rw [← hK]
  clear hK
  go_enter Tryd.func17, Tryd.ntmps17
  go_wp2_with fail
  go_loopw [3, 8] (fun x i wr => ∃ k : Nat, k ≤ K ∧ i = .int .i64 k ∧ Hid (wr.ownsRow w.heap.size 22 1 x k ((pcs (st.take k)).map Pc.val)) ∧ Hid (Below w.heap.size w wr)) (fun _ i _ => K - (intOf i).toNat)
  case atStart => exact ⟨0, by omega, rfl, World.ownsRow_nil _ _ _ _, Below.refl _ _⟩
  case round =>
    obtain ⟨k, hk, rfl, HO, HB⟩ := hrel
    by_cases hlt : k < K
    · have hkp : k < st.length := by rw [← HK.out]; exact hlt
      obtain ⟨g, o, rfl, hg, hc0, hc1, hc2, hc3⟩ := HP.out.cell k hkp
      have HS : Hid ((pcs (st.take (k + 1))).map Pc.val = (pcs (st.take k)).map Pc.val ++ [.slice st[k].p.at_ st[k].p.bs.length st[k].p.cap]) := by
        show _ = _
        unfold pcs
        rw [List.take_succ_eq_append_getElem hkp, List.map_append, List.map_append]
        rfl
      obtain ⟨x, hx⟩ : ∃ x, x = st[k] := ⟨_, rfl⟩
      rw [← hx] at hc0 hc1 hc2 hc3 HS
      clear hx
      obtain ⟨kind, who, to, pa, pl, pc⟩ := x
      dsimp only at hc0 hc1 hc2 hc3 HS
      generalize pl.length = pn at hc3 HS
      have c0 := (HB.out.cell (p := ⟨g, o + k * 4, none⟩) hg).trans hc0
      have c1 := (HB.out.cell (p := ⟨g, o + k * 4 + 1, none⟩) hg).trans hc1
      have c2 := (HB.out.cell (p := ⟨g, o + k * 4 + 2, none⟩) hg).trans hc2
      have c3 := (HB.out.cell (p := ⟨g, o + k * 4 + 3, none⟩) hg).trans hc3
      clear hc0 hc1 hc2 hc3 hg
      go_wp2_with (at_builtin; refine wpList_append_pc rfl _ _ rfl w.heap.size _ k _ rfl ((HO.out.alloc _).alloc _) (wr.alloc (.cells #[.int .i64 kind, .int .i64 who, .int .i64 to, .slice pa pn pc] 46)) pa pn pc rfl 1 (wr.heap.size + 1) (by simp) rfl (by omega) (by have := HB.out.size; simp; omega) ?_; intro v3 w3 hown3 hbel3; have HO3 : Hid (w3.ownsRow w.heap.size 22 1 v3 (k + 1) ((pcs (st.take (k + 1))).map Pc.val)) := (by rw [HS.out]; exact hown3); have HB3 : Hid (Below w.heap.size w w3) := hbel3 _ _ (HB.out.alloc HB.out.size _) (Nat.le_refl _); clear hown3 hbel3 HO HB c0 c1 c2 c3)
      go_round
      case rel => exact ⟨k + 1, by omega, by go_num, HO3, HB3⟩
      case measure => simp [intOf]; omega
    · have ek : k = st.length := by rw [← HK.out]; omega
      have hb : ∀ j, (h : j < (pcs st).length) → Bts (pcs st)[j].at_ (pcs st)[j].bs wr := fun j hj => by
        have := HP.out.bts j (by rw [pcs_length] at hj; exact hj)
        simpa [pcs] using this.below HB.out
      obtain ⟨a2, c2, e2, hpl⟩ := own_pl (ps := pcs st) (n := k) (by have := HO.out; rw [List.take_of_length_le (by omega)] at this; exact this) hb (fun j hj => by simpa [pcs] using HP.out.nn j (by rw [pcs_length] at hj; exact hj)) (fun j hj => by simpa [pcs] using HP.out.small j (by rw [pcs_length] at hj; exact hj))
      have hgr := great_any a2 (pcs st) c2 wr hpl (by rw [pcs_length, ← ek]; omega)
      rw [← e2] at hgr
      have HGR : Hid _ := hgr
      clear hgr hpl e2 ek HO
      go_wp2_with fail
      refine Calls.mono HGR.out ?_
      rintro e w2 ⟨rfl, hw⟩
      rw [hw]
      clear hw
      go_wp2
      go_ret
      exact ⟨rfl, HB.out⟩
end Go.Proofs.YtlkflikhbkhpeaaDoor
