/-
  Numbers and steps that came in, as the walks have them.
-/
import Derived.Test.YtgbbjhhggjocmaaCpy
import Derived.Test.YtgbbjhhggjocmaaRows
import Derived.ProofKit
import Derived.OpenShut
import Derived.SizedLaws
import Derived.Lib.SmallJoins
import Derived.Deep.Strs
namespace Go.Proofs.Ytgbbjhhggjocmaa
open Go.ChangeShapes Go.WideShapes Go.ChangeAt Go.RowKit

/-- A number as cells. -/
def cel1 (x : Int) : List Value := [.int .i64 x]
theorem cel1_length (x : Int) : (cel1 x).length = 1 := rfl
/-- A step as cells. -/
def cel3 (x : Int × Int × Int) : List Value := [.int .i64 x.1, .int .i64 x.2.1, .int .i64 x.2.2]
theorem cel3_length (x : Int × Int × Int) : (cel3 x).length = 3 := rfl
theorem bytes3 : Try.prog.bytesOf 3 = 8 := by kernel_rfl
theorem bytesO : Try.prog.bytesOf 36 = 24 := by kernel_rfl
def In64 (z : Int) : Prop := -9223372036854775808 ≤ z ∧ z ≤ 9223372036854775807
theorem open_nums {H : Type} {enc : TypeId × Value → H} {W : World} {a : Option Addr} {len cap : Nat} {d : DataW H} {p : List MemPlace}
    (h : DataW.Trod enc Try.prog W 0 (fun _ => true) true 55 (.slice a len cap) d p) :
    ∃ l : List Int, l.length = len ∧ (Sg cel1 a l W ∧ ∀ z ∈ l, In64 z) ∧ ((∃ el sp, d = .slice el sp ∧ el.length = len) ∨ (d = .nil ∧ len = 0)) := by
  obtain ⟨fuel, hf⟩ := h
  rcases open_ints Try.underlying55 Try.underlying3 (by kernel_rfl) hf with ⟨hcs, hx⟩ | ⟨x, l, c, zs, hcs, _, hl, hm, hz, hx, hcell, hwz⟩
  · simp [Value.cells] at hcs
    obtain ⟨rfl, rfl, rfl⟩ := hcs
    simp only [Prod.mk.injEq] at hx
    exact ⟨[], rfl, ⟨.inl rfl, fun z hz => by cases hz⟩, .inr ⟨hx.1, rfl⟩⟩
  · simp [Value.cells] at hcs
    obtain ⟨rfl, rfl, rfl⟩ := hcs
    simp only [Prod.mk.injEq] at hx
    have hz' : zs.length = cap := by simpa using hz
    have hlen : (zs.take len).length = len := by
      rw [List.length_take]
      omega
    refine ⟨zs.take len, hlen, ⟨?_, fun z hz => bounds_i64 (hwz z (List.mem_of_mem_take hz))⟩, .inl ⟨_, _, hx.1, ?_⟩⟩
    · by_cases h0 : len = 0
      · left
        exact List.eq_nil_of_length_eq_zero (hlen.trans h0)
      · right
        obtain ⟨b, off, spot⟩ := x
        have hc := hcell 0 (by omega)
        have hspot : spot = none := by simpa [Addr.add] using World.cell?_spot hc
        subst hspot
        refine ⟨b, off, rfl, fun j v hv => ?_⟩
        have hj := (List.getElem?_eq_some_iff.1 hv).1
        rw [flat_length cel1_length, hlen, Nat.mul_one] at hj
        have h1 := hcell j (by omega)
        rw [Addr.add_lit] at h1
        have hjz : j < zs.length := by omega
        have e1 : zs.getD j 0 = zs[j] := by simp [List.getD_eq_getElem?_getD, List.getElem?_eq_getElem hjz]
        have e2 := flat_at cel1_length (zs.take len) j 0 (by omega) (by decide)
        rw [Nat.mul_one, Nat.add_zero, hv, List.getElem_take] at e2
        rw [h1, e1, e2]
        rfl
    · simp [lits]
      omega
theorem cells_at {w : World} {base n : Nat} {a : Addr} {cs : List Value} (h : w.cells? base a n = some cs) (i : Nat) (hi : i < n) : w.cell? (a.add i) = cs[i]? := by
  unfold World.cells? at h
  split at h
  · exact mapM_some_get h i i (by simp [hi])
  · cases h
set_option maxRecDepth 100000 in
theorem open_step {H : Type} {enc : TypeId × Value → H} {W : World} {fuel : Nat} {cs : List Value} {x : DataW H × List MemPlace}
    (h : DataW.trod enc Try.prog W 0 (fun _ => true) true fuel 36 cs = some x) :
    ∃ t : Int × Int × Int, cs = cel3 t ∧ In64 t.1 ∧ In64 t.2.1 ∧ In64 t.2.2 := by
  obtain ⟨y0, y1, y3, n, rfl, hl, h0, h1, h3⟩ := Go.Deep.trod_struct3 Try.underlying36 h
  have c4 : Try.prog.cellsOf 36 = 3 := by kernel_rfl
  have c1 : Try.prog.cellsOf 3 = 1 := by kernel_rfl
  rw [c4] at hl
  match cs, hl with
  | [k0, k1, k3], _ =>
    simp only [c1, List.drop_zero, List.drop_succ_cons, List.take_succ_cons, List.take_zero] at h0 h1 h3
    obtain ⟨n0, e0, _, b0⟩ := DataW.trod_int Try.underlying3 h0
    obtain ⟨n1, e1, _, b1⟩ := DataW.trod_int Try.underlying3 h1
    obtain ⟨n3, e3, _, b3⟩ := DataW.trod_int Try.underlying3 h3
    injection e0 with e0 _
    injection e1 with e1 _
    injection e3 with e3 _
    exact ⟨(n0, n1, n3), by rw [e0, e1, e3]; rfl, bounds_i64 b0, bounds_i64 b1, bounds_i64 b3⟩
set_option maxRecDepth 100000 in
theorem open_ops {H : Type} {enc : TypeId × Value → H} {W : World} {a : Option Addr} {len cap : Nat} {d : DataW H} {p : List MemPlace}
    (h : DataW.Trod enc Try.prog W 0 (fun _ => true) true 22 (.slice a len cap) d p) :
    ∃ st : List (Int × Int × Int), st.length = len ∧ (Sg cel3 a st W ∧ ∀ t ∈ st, In64 t.1 ∧ In64 t.2.1 ∧ In64 t.2.2) ∧ ((∃ el sp, d = .slice el sp ∧ el.length = len) ∨ (d = .nil ∧ len = 0)) := by
  obtain ⟨fuel, hf⟩ := h
  have c4 : Try.prog.cellsOf 36 = 3 := by kernel_rfl
  rcases DataW.trod_slice Try.underlying22 hf with ⟨e, hx⟩ | ⟨ad, l, c, elems, rest, n, _, e, hx, hb, hl, hm, hlen, hel, _⟩
  · simp [Value.cells] at e
    obtain ⟨rfl, rfl, rfl⟩ := e
    simp only [Prod.mk.injEq] at hx
    exact ⟨[], rfl, ⟨.inl rfl, fun z hz => by cases hz⟩, .inr ⟨hx.1, rfl⟩⟩
  · simp [Value.cells] at e
    obtain ⟨rfl, rfl, rfl⟩ := e
    simp only [Prod.mk.injEq] at hx
    obtain ⟨rfl, _⟩ := hx
    have each : ∀ i : Fin len, ∃ t : Int × Int × Int, (∀ j, j < 3 → W.cell? ((ad.add (i.val * 3)).add j) = (cel3 t)[j]?) ∧ In64 t.1 ∧ In64 t.2.1 ∧ In64 t.2.2 := fun i => by
      have h1 := hel i.val i.isLt
      rw [c4] at h1
      have hi : i.val < elems.length := by rw [hlen]; exact i.isLt
      rw [List.getElem?_eq_getElem hi, Option.bind_eq_some_iff] at h1
      obtain ⟨cs, hc, ht⟩ := h1
      obtain ⟨t, rfl, h2⟩ := open_step ht
      exact ⟨t, fun j hj => cells_at hc j hj, h2⟩
    obtain ⟨f, hfs⟩ : ∃ f : Fin len → Int × Int × Int, ∀ i, (∀ j, j < 3 → W.cell? ((ad.add (i.val * 3)).add j) = (cel3 (f i))[j]?) ∧ In64 (f i).1 ∧ In64 (f i).2.1 ∧ In64 (f i).2.2 := ⟨fun i => (each i).choose, fun i => (each i).choose_spec⟩
    clear each
    refine ⟨List.ofFn f, List.length_ofFn, ⟨?_, fun t ht => ?_⟩, .inl ⟨_, _, rfl, by rw [List.length_map]; exact hlen⟩⟩
    · by_cases h0 : len = 0
      · left
        exact List.eq_nil_of_length_eq_zero (by rw [List.length_ofFn]; exact h0)
      · right
        obtain ⟨b, off, spot⟩ := ad
        have hc := (hfs ⟨0, by omega⟩).1 0 (by omega)
        have hspot : spot = none := by simpa [Addr.add] using World.cell?_spot hc
        subst hspot
        refine ⟨b, off, rfl, fun j v hv => ?_⟩
        have hj := (List.getElem?_eq_some_iff.1 hv).1
        rw [flat_length cel3_length, List.length_ofFn] at hj
        have hq : j / 3 < len := by omega
        have s := (hfs ⟨j / 3, hq⟩).1 (j % 3) (by omega)
        rw [Addr.add_lit, Addr.add_lit] at s
        have e2 := flat_at cel3_length (List.ofFn f) (j / 3) (j % 3) (by rw [List.length_ofFn]; exact hq) (by omega)
        rw [show j / 3 * 3 + j % 3 = j by omega, hv, List.getElem_ofFn] at e2
        rw [show off + j = off + j / 3 * 3 + j % 3 by omega, e2]
        exact s
    · obtain ⟨i, rfl⟩ := List.mem_ofFn.1 ht
      exact (hfs i).2
end Go.Proofs.Ytgbbjhhggjocmaa
