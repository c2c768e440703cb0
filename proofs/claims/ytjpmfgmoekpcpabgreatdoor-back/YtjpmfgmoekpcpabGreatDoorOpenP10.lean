/-
  Parameters that came in: how they lie, and how many bytes they are.
-/
import Derived.Test.YtjpmfgmoekpcpabGreatDoorSm10
import Derived.Test.YtjpmfgmoekpcpabGreatDoorCardP10
import Derived.Test.YtjpmfgmoekpcpabGreatDoorRow
import Derived.Lib.SmallJoins
import Derived.Deep.Strs
namespace Go.Proofs.YtjpmfgmoekpcpabGreatDoor
open Go.ChangeShapes Go.WideShapes Go.ChangeAt Go.RowKit

theorem cellsP_at10 {w : World} {base n : Nat} {a : Addr} {cs : List Value} (h : w.cells? base a n = some cs) (i : Nat) (hi : i < n) : w.cell? (a.add i) = cs[i]? := by
  unfold World.cells? at h
  split at h
  · exact mapM_some_get h i i (by simp [hi])
  · cases h
theorem bulk_pos {H : Type} (d : DataW H) : 0 < Rows.uptoBulk d := by
  cases d <;> first | (rename_i l; cases l <;> simp [Rows.uptoBulk]) | simp [Rows.uptoBulk]
theorem bulk_len {H : Type} : ∀ l : List (DataW H), l.length ≤ Rows.uptoBulkAll l
  | [] => Nat.zero_le _
  | d :: r => by
    have h1 := bulk_pos d
    have h2 := bulk_len r
    simp only [Rows.uptoBulkAll, List.length_cons]
    omega
/-- How many bytes a parameter's datum holds. -/
def plen {H : Type} : DataW H → Nat
  | .agg [.lit (.string a), .lit (.string b), _] => a.length + b.length
  | _ => 0
theorem plen_le {H : Type} (d : DataW H) : plen d ≤ Rows.uptoBulk d := by
  unfold plen
  split
  · simp only [Rows.uptoBulk, Rows.uptoBulkAll]
    omega
  · exact Nat.zero_le _
theorem plens_le {H : Type} : ∀ l : List (DataW H), (l.map plen).sum ≤ Rows.uptoBulkAll l
  | [] => Nat.zero_le _
  | d :: r => by
    have h1 := plen_le d
    have h2 := plens_le r
    simp only [List.map_cons, List.sum_cons, Rows.uptoBulkAll]
    omega
/-- How many bytes parameters hold. -/
def totP (l : List Pm) : Nat := (l.map fun p => p.name.length + p.val.length).sum
theorem totP_mem : ∀ (l : List Pm) (p : Pm), p ∈ l → p.name.length + p.val.length ≤ totP l
  | q :: r, p, h => by
    have e : totP (q :: r) = q.name.length + q.val.length + totP r := by simp [totP]
    rcases List.mem_cons.1 h with rfl | h
    · omega
    · have := totP_mem r p h
      omega
theorem wrA_tot : ∀ l : List Pm, (wrA l).length ≤ totP l + 2 * l.length
  | [] => Nat.zero_le _
  | q :: r => by
    have e : totP (q :: r) = q.name.length + q.val.length + totP r := by simp [totP]
    have ih := wrA_tot r
    have h1 : (wr1 q).length ≤ q.name.length + q.val.length + 2 := by
      unfold wr1
      cases q.has <;> simp <;> omega
    have e2 : wrA (q :: r) = wr1 q ++ wrA r := rfl
    rw [e2, List.length_append, e, List.length_cons]
    omega
set_option maxRecDepth 100000 in
theorem open_pm {H : Type} {enc : TypeId × Value → H} {W : World} {fuel : Nat} {cs : List Value} {x : DataW H × List MemPlace}
    (h : DataW.trod enc Tryz.prog W 0 (fun _ => true) true fuel 54 cs = some x) :
    ∃ t : Pm, cs = [.string (tx t.name), .string (tx t.val), .bool t.has] ∧ t.name.length + t.val.length = plen x.1 := by
  obtain ⟨y0, y1, y3, n, rfl, hl, h0, h1, h3⟩ := Go.Deep.trod_struct3 Tryz.underlying54 h
  have c4 : Tryz.prog.cellsOf 54 = 3 := by kernel_rfl
  have cb : Tryz.prog.cellsOf 4 = 1 := by kernel_rfl
  rw [c4] at hl
  match cs, hl with
  | [k0, k1, k3], _ =>
    simp only [cellsStr, cb, List.drop_zero, List.drop_succ_cons, List.take_succ_cons, List.take_zero] at h0 h1 h3
    obtain ⟨s0, e0, d0, _⟩ := DataW.trod_string Tryz.underlying9 h0
    obtain ⟨s1, e1, d1, _⟩ := DataW.trod_string Tryz.underlying9 h1
    obtain ⟨b2, e2, _⟩ := DataW.trod_bool Tryz.underlying4 h3
    injection e0 with e0 _
    injection e1 with e1 _
    injection e2 with e2 _
    refine ⟨⟨s0.data.toList, s1.data.toList, b2⟩, ?_, ?_⟩
    · rw [e0, e1, e2, tx_back, tx_back]
    · have q0 : y0.1 = .lit (.string s0.data.toList) := congrArg Prod.fst d0
      have q1 : y1.1 = .lit (.string s1.data.toList) := congrArg Prod.fst d1
      show _ = plen (.agg [y0.1, y1.1, y3.1])
      rw [q0, q1]
      rfl
set_option maxRecDepth 100000 in
theorem open_pms {H : Type} {enc : TypeId × Value → H} {W : World} {a : Option Addr} {len cap : Nat} {d : DataW H} {p : List MemPlace}
    (h : DataW.Trod enc Tryz.prog W 0 (fun _ => true) true 22 (.slice a len cap) d p) :
    ∃ st : List Pm, st.length = len ∧ Pms a st W ∧ (a = none → cap = 0) ∧ st.length ≤ Rows.uptoBulk d ∧ totP st ≤ Rows.uptoBulk d := by
  obtain ⟨fuel, hf⟩ := h
  have c4 : Tryz.prog.cellsOf 54 = 3 := by kernel_rfl
  rcases DataW.trod_slice Tryz.underlying22 hf with ⟨e, _⟩ | ⟨ad, l, c, elems, rest, n, _, e, hx, hb, hl, hm, hlen, hel, _⟩
  · simp [Value.cells] at e
    obtain ⟨rfl, rfl, rfl⟩ := e
    exact ⟨[], rfl, .inl rfl, fun _ => rfl, Nat.zero_le _, Nat.zero_le _⟩
  · simp [Value.cells] at e
    obtain ⟨rfl, rfl, rfl⟩ := e
    simp only [Prod.mk.injEq] at hx
    obtain ⟨rfl, _⟩ := hx
    have each : ∀ i : Fin len, ∃ t : Pm, (∀ j, j < 3 → W.cell? ((ad.add (i.val * 3)).add j) = [Value.string (tx t.name), .string (tx t.val), .bool t.has][j]?) ∧ some (t.name.length + t.val.length) = (elems[i.val]?).map (fun y => plen y.1) := fun i => by
      have h1 := hel i.val i.isLt
      rw [c4] at h1
      have hi : i.val < elems.length := by rw [hlen]; exact i.isLt
      rw [List.getElem?_eq_getElem hi, Option.bind_eq_some_iff] at h1
      obtain ⟨cs, hc, ht⟩ := h1
      obtain ⟨t, rfl, h4⟩ := open_pm ht
      exact ⟨t, fun j hj => cellsP_at10 hc j hj, by rw [List.getElem?_eq_getElem hi, h4]; rfl⟩
    obtain ⟨f, hfs⟩ : ∃ f : Fin len → Pm, ∀ i, (∀ j, j < 3 → W.cell? ((ad.add (i.val * 3)).add j) = [Value.string (tx (f i).name), .string (tx (f i).val), .bool (f i).has][j]?) ∧ some ((f i).name.length + (f i).val.length) = (elems[i.val]?).map (fun y => plen y.1) := ⟨fun i => (each i).choose, fun i => (each i).choose_spec⟩
    clear each
    refine ⟨List.ofFn f, List.length_ofFn, ?_, (fun e => by cases e), ?_, ?_⟩
    · by_cases h0 : len = 0
      · left
        exact List.eq_nil_of_length_eq_zero (by rw [List.length_ofFn]; exact h0)
      · right
        obtain ⟨b, off, spot⟩ := ad
        have hc := (hfs ⟨0, by omega⟩).1 0 (by omega)
        have hspot : spot = none := by simpa [Addr.add] using World.cell?_spot hc
        subst hspot
        have hcell : ∀ (i : Fin len) j, j < 3 → W.cell? ⟨b, off + i.val * 3 + j, none⟩ = [Value.string (tx (f i).name), .string (tx (f i).val), .bool (f i).has][j]? := fun i j hj => by
          have := (hfs i).1 j hj
          rw [Addr.add_lit, Addr.add_lit] at this
          exact this
        refine ⟨b, off, rfl, World.block_lt_of_cell? W _ (hcell ⟨0, by omega⟩ 0 (by omega)), fun j u hj => ?_⟩
        have hjl : j < (cellsP (List.ofFn f)).length := by
          rcases Nat.lt_or_ge j (cellsP (List.ofFn f)).length with h' | h'
          · exact h'
          · rw [List.getElem?_eq_none h'] at hj; cases hj
        rw [cellsP_length, List.length_ofFn] at hjl
        have hi : j / 3 < len := by omega
        obtain ⟨q0, q1, q2⟩ := cellsP_at (List.ofFn f) (j / 3) (by rw [List.length_ofFn]; exact hi)
        rw [List.getElem_ofFn] at q0 q1 q2
        have hm := hcell ⟨j / 3, hi⟩ (j % 3) (by omega)
        have hd3 : j = j / 3 * 3 + j % 3 := by omega
        rw [show off + j = off + j / 3 * 3 + j % 3 by omega]
        have h3 : j % 3 = 0 ∨ j % 3 = 1 ∨ j % 3 = 2 := by omega
        rcases h3 with h3 | h3 | h3
        · rw [h3] at hm hd3 ⊢
          rw [hm]
          rw [hd3, Nat.add_zero, q0] at hj
          exact hj
        · rw [h3] at hm hd3 ⊢
          rw [hm]
          rw [hd3, q1] at hj
          exact hj
        · rw [h3] at hm hd3 ⊢
          rw [hm]
          rw [hd3, q2] at hj
          exact hj
    · rw [List.length_ofFn]
      have := bulk_len (elems.map (·.1))
      rw [List.length_map, hlen] at this
      simp only [Rows.uptoBulk]
      omega
    · have e : ((List.ofFn f).map fun t => t.name.length + t.val.length) = (elems.map (·.1)).map plen := by
        apply List.ext_getElem?
        intro j
        rcases Nat.lt_or_ge j len with hj | hj
        · have s := (hfs ⟨j, hj⟩).2
          have hj2 : j < elems.length := by omega
          rw [List.getElem?_eq_getElem hj2] at s
          simp only [Option.map_some, Option.some.injEq] at s
          rw [List.getElem?_eq_getElem (by rw [List.length_map, List.length_ofFn]; exact hj), List.getElem?_eq_getElem (by rw [List.length_map, List.length_map]; exact hj2)]
          simp only [List.getElem_map, List.getElem_ofFn]
          rw [s]
        · rw [List.getElem?_eq_none (by rw [List.length_map, List.length_ofFn]; exact hj), List.getElem?_eq_none (by rw [List.length_map, List.length_map]; omega)]
      unfold totP
      rw [e]
      have := plens_le (elems.map (·.1))
      simp only [Rows.uptoBulk]
      omega
end Go.Proofs.YtjpmfgmoekpcpabGreatDoor
