/-
  Replies that came in: how they lie.
-/
import Derived.Test.YtbfgefgadplcjaaDoorMd12
import Derived.ProofKit
import Derived.ChangeMaps5
import Derived.OpenShut
import Derived.SizedLaws
import Derived.Lib.SmallJoins
import Derived.Deep.Strs
namespace Go.Proofs.YtbfgefgadplcjaaDoor
open Go.ChangeShapes Go.WideShapes Go.ChangeAt Go.RowKit

structure Rq where
  x : Rx
  L : List (List UInt8)
def RqAt (w : World) (r : Rq) : Prop := r.x.n = r.L.length ∧ Txs r.x.a r.L w ∧ ∀ l ∈ r.L, l.length ≤ 9223372036854775807
def Rqs (a : Option Addr) (st : List Rq) (w : World) : Prop := st = [] ∨ ∃ g o, a = some ⟨g, o, none⟩ ∧ g < w.heap.size ∧ ∀ j, (h : j < st.length) →
  (∀ i, i < 5 → w.cell? ⟨g, o + j * 5 + i, none⟩ = (celR st[j].x)[i]?) ∧ RqAt w st[j]
theorem cellsR_at {w : World} {base n : Nat} {a : Addr} {cs : List Value} (h : w.cells? base a n = some cs) (i : Nat) (hi : i < n) : w.cell? (a.add i) = cs[i]? := by
  unfold World.cells? at h
  split at h
  · exact mapM_some_get h i i (by simp [hi])
  · cases h
set_option maxRecDepth 100000 in
theorem open_txs {H : Type} {enc : TypeId × Value → H} {W : World} {fuel : Nat} {cs : List Value} {x : DataW H × List MemPlace}
    (h : DataW.trod enc Tryd.prog W 0 (fun _ => true) true fuel 30 cs = some x) :
    ∃ (a : Option Addr) (k : Nat) (L : List (List UInt8)), cs = [.slice a L.length k] ∧ Txs a L W ∧ ∀ l ∈ L, l.length ≤ 9223372036854775807 := by
  rcases Go.Deep.open_strs Tryd.underlying30 Tryd.underlying9 (by kernel_rfl) h with ⟨rfl, _⟩ | ⟨ad, len, cap, m, Sx, rfl, _, hl, _, hm, _, hc⟩
  · exact ⟨none, 0, [], rfl, .inl rfl, fun l hl => by cases hl⟩
  · have hlm : len ≤ m := by rw [hm]; split <;> omega
    refine ⟨some ad, cap, (List.range len).map fun i => (Sx i).data.toList, by simp, ?_, fun l hl => ?_⟩
    · by_cases h0 : len = 0
      · subst h0
        exact .inl rfl
      · obtain ⟨b, off, spot⟩ := ad
        have hc0 := (hc 0 (by omega)).1
        have hspot : spot = none := by simpa [Addr.add] using World.cell?_spot hc0
        subst hspot
        refine .inr ⟨b, off, rfl, World.block_lt_of_cell? W _ hc0, fun j hj => ?_⟩
        rw [List.length_map, List.length_range] at hj
        have := (hc j (by omega)).1
        rw [Addr.add_lit] at this
        rw [this, List.getElem_map, List.getElem_range, tx_back]
    · obtain ⟨i, hi, rfl⟩ := List.mem_map.1 hl
      have := (hc i (by have := List.mem_range.1 hi; omega)).2
      rw [len_list]
      unfold maxLen at this
      omega
set_option maxRecDepth 100000 in
theorem open_rq {H : Type} {enc : TypeId × Value → H} {W : World} {fuel : Nat} {cs : List Value} {x : DataW H × List MemPlace}
    (h : DataW.trod enc Tryd.prog W 0 (fun _ => true) true fuel 50 cs = some x) : ∃ r : Rq, cs = celR r.x ∧ RqAt W r := by
  obtain ⟨y0, y1, y3, n, rfl, hl, h0, h1, h3⟩ := Go.Deep.trod_struct3 Tryd.underlying50 h
  have c5 : Tryd.prog.cellsOf 50 = 5 := by kernel_rfl
  have c1 : Tryd.prog.cellsOf 3 = 1 := by kernel_rfl
  have c3 : Tryd.prog.cellsOf 48 = 3 := by kernel_rfl
  have cs1 : Tryd.prog.cellsOf 30 = 1 := by kernel_rfl
  rw [c5] at hl
  match cs, hl with
  | [k0, k1, k2, k3, k4], _ =>
    simp only [c1, c3, cs1, List.drop_zero, List.drop_succ_cons, List.take_succ_cons, List.take_zero] at h0 h1 h3
    obtain ⟨n0, e0, _, _⟩ := DataW.trod_int Tryd.underlying3 h0
    obtain ⟨z0, z1, z2, m, _, _, g0, g1, g2⟩ := Go.Deep.trod_struct3 Tryd.underlying48 h1
    simp only [c1, List.drop_zero, List.drop_succ_cons, List.take_succ_cons, List.take_zero] at g0 g1 g2
    obtain ⟨n1, e1, _, _⟩ := DataW.trod_int Tryd.underlying3 g0
    obtain ⟨n2, e2, _, _⟩ := DataW.trod_int Tryd.underlying3 g1
    obtain ⟨n3, e3, _, _⟩ := DataW.trod_int Tryd.underlying3 g2
    obtain ⟨a, k, L, e4, ht, hll⟩ := open_txs h3
    injection e0 with e0 _
    injection e1 with e1 _
    injection e2 with e2 _
    injection e3 with e3 _
    injection e4 with e4 _
    exact ⟨⟨⟨n0, (n1, n2, n3), a, L.length, k⟩, L⟩, by rw [e0, e1, e2, e3, e4]; rfl, rfl, ht, hll⟩
set_option maxRecDepth 100000 in
theorem open_rqs {H : Type} {enc : TypeId × Value → H} {W : World} {a : Option Addr} {len cap : Nat} {d : DataW H} {p : List MemPlace}
    (h : DataW.Trod enc Tryd.prog W 0 (fun _ => true) true 29 (.slice a len cap) d p) :
    ∃ st : List Rq, st.length = len ∧ Rqs a st W ∧ (a = none → cap = 0) ∧ len ≤ cap ∧ cap ≤ 9223372036854775807 := by
  obtain ⟨fuel, hf⟩ := h
  have c4 : Tryd.prog.cellsOf 50 = 5 := by kernel_rfl
  rcases DataW.trod_slice Tryd.underlying29 hf with ⟨e, hx⟩ | ⟨ad, l, c, elems, rest, n, _, e, hx, hb, hl, hm, hlen, hel, _⟩
  · simp [Value.cells] at e
    obtain ⟨rfl, rfl, rfl⟩ := e
    exact ⟨[], rfl, .inl rfl, fun _ => rfl, Nat.le_refl _, by decide⟩
  · simp [Value.cells] at e
    obtain ⟨rfl, rfl, rfl⟩ := e
    have each : ∀ i : Fin len, ∃ r : Rq, (∀ j, j < 5 → W.cell? ((ad.add (i.val * 5)).add j) = (celR r.x)[j]?) ∧ RqAt W r := fun i => by
      have h1 := hel i.val i.isLt
      rw [c4] at h1
      have hi : i.val < elems.length := by rw [hlen]; exact i.isLt
      rw [List.getElem?_eq_getElem hi, Option.bind_eq_some_iff] at h1
      obtain ⟨cs, hc, ht⟩ := h1
      obtain ⟨r, rfl, h4⟩ := open_rq ht
      exact ⟨r, fun j hj => cellsR_at hc j hj, h4⟩
    obtain ⟨f, hfs⟩ : ∃ f : Fin len → Rq, ∀ i, (∀ j, j < 5 → W.cell? ((ad.add (i.val * 5)).add j) = (celR (f i).x)[j]?) ∧ RqAt W (f i) := ⟨fun i => (each i).choose, fun i => (each i).choose_spec⟩
    clear each
    refine ⟨List.ofFn f, List.length_ofFn, ?_, (fun e => by cases e), hl, by unfold maxLen at hm; omega⟩
    by_cases h0 : len = 0
    · left
      exact List.eq_nil_of_length_eq_zero (by rw [List.length_ofFn]; exact h0)
    · right
      obtain ⟨b, off, spot⟩ := ad
      have hc := (hfs ⟨0, by omega⟩).1 0 (by omega)
      have hspot : spot = none := by simpa [Addr.add] using World.cell?_spot hc
      subst hspot
      have hcell : ∀ (i : Fin len) j, j < 5 → W.cell? ⟨b, off + i.val * 5 + j, none⟩ = (celR (f i).x)[j]? := fun i j hj => by
        have := (hfs i).1 j hj
        rw [Addr.add_lit, Addr.add_lit] at this
        exact this
      refine ⟨b, off, rfl, World.block_lt_of_cell? W _ (hcell ⟨0, by omega⟩ 0 (by omega)), fun j hj => ?_⟩
      have hj' : j < len := by rw [List.length_ofFn] at hj; exact hj
      rw [List.getElem_ofFn]
      exact ⟨fun i hi => hcell ⟨j, hj'⟩ i hi, (hfs ⟨j, hj'⟩).2⟩
theorem RqAt.below {w w' : World} {r : Rq} (h : RqAt w r) (hb : Below w.heap.size w w') : RqAt w' r := ⟨h.1, h.2.1.below hb, h.2.2⟩
theorem Rqs.below {a : Option Addr} {st : List Rq} {w w' : World} (h : Rqs a st w) (hb : Below w.heap.size w w') : Rqs a st w' := by
  rcases h with h | ⟨g, o, e, hg, hr⟩
  · exact .inl h
  · exact .inr ⟨g, o, e, Nat.lt_of_lt_of_le hg hb.size, fun j hj => ⟨fun i hi => (hb.cell (p := ⟨g, o + j * 5 + i, none⟩) hg).trans ((hr j hj).1 i hi), (hr j hj).2.below hb⟩⟩
theorem Rqs.take {a : Option Addr} {st : List Rq} {w : World} (h : Rqs a st w) (n : Nat) : Rqs a (st.take n) w := by
  rcases h with rfl | ⟨g, o, e, hg, hr⟩
  · exact .inl (by simp)
  · refine .inr ⟨g, o, e, hg, fun j hj => ?_⟩
    have hj' : j < st.length := by rw [List.length_take] at hj; omega
    rw [List.getElem_take]
    exact hr j hj'
end Go.Proofs.YtbfgefgadplcjaaDoor
