/-
  What a dressed date is asked of, as it came in.
-/
import Derived.Test.YtedfnebadenmdabDoorMde
namespace Go.Proofs.YtedfnebadenmdabDoor
open Go.ChangeShapes Go.WideShapes Go.ChangeAt Go.RowKit

/-- A date, a mask, a width, a remark. -/
structure Dr where
  o : Md
  mask : Int
  wide : Int
  r : ByteArray
def drC (a : Dr) : Array Value := #[.int .i64 a.o.n, .int .u8 a.o.h, .int .u8 a.o.mi, .int .u8 a.o.s, .int .i16 a.o.z, .int .u64 a.mask, .int .u8 a.wide, .string a.r]
def drV (a : Dr) : Value := .agg #[.int .i64 a.o.n, .int .u8 a.o.h, .int .u8 a.o.mi, .int .u8 a.o.s, .int .i16 a.o.z, .int .u64 a.mask, .int .u8 a.wide, .string a.r]
structure Dr.In (a : Dr) : Prop where
  o : a.o.In
  m0 : 0 ≤ a.mask
  m1 : a.mask ≤ 18446744073709551615
  w0 : 0 ≤ a.wide
  w1 : a.wide ≤ 255
set_option maxRecDepth 100000 in
theorem open_dress {H : Type} {enc : TypeId × Value → H} {W : World} {r : Reach} {b0 : Nat} {v : Value} {d : DataW H} {ps : List MemPlace} (hv : Value.okWide Tryd.prog W r b0 45 v) (h : DataW.Trod enc Tryd.prog W 0 (fun _ => true) true 45 v d ps) :
    ∃ a : Dr, v = drV a ∧ a.In ∧ ∃ p q t, d = .agg [p, q, t, .lit (.string a.r.data.toList)] := by
  obtain ⟨cs, rfl, hsz⟩ := okWide_struct Tryd.underlying45 hv
  have c8 : Tryd.prog.cellsOf 45 = 8 := by kernel_rfl
  have c5 : Tryd.prog.cellsOf 32 = 5 := by kernel_rfl
  have k2 : Tryd.prog.cellsOf 2 = 1 := by kernel_rfl
  have k5 : Tryd.prog.cellsOf 5 = 1 := by kernel_rfl
  have k43 : Tryd.prog.cellsOf 43 = 1 := by kernel_rfl
  rw [c8] at hsz
  obtain ⟨fuel, hf⟩ := h
  obtain ⟨ys, n, _, hx, hl, hyl, hfd⟩ := DataW.trod_struct Tryd.underlying45 hf
  have hy4 : ys.length = 4 := hyl
  obtain ⟨y0, y1, y2, y3, rfl⟩ : ∃ a b c e, ys = [a, b, c, e] := by
    match ys, hy4 with
    | [a, b, c, e], _ => exact ⟨a, b, c, e, rfl⟩
  have g0 : _ = some y0 := hfd 0 _ rfl
  have g1 : _ = some y1 := hfd 1 _ rfl
  have g2 : _ = some y2 := hfd 2 _ rfl
  have g3 : _ = some y3 := hfd 3 _ rfl
  obtain ⟨zs, n2, _, _, hl2, hzl, hfe⟩ := DataW.trod_struct Tryd.underlying32 g0
  have key : ∀ (i : Nat) (f : Field) (k : IntKind), Tryd.prog.underlying f.type = some (.int k) → Tryd.prog.cellsOf f.type = 1 → f.offset = i → i < 5 → DataW.trod enc Tryd.prog W 0 (fun _ => true) true n2 f.type ((((((Value.agg cs).cells.toList.drop 0).take (Tryd.prog.cellsOf 32))).drop f.offset).take (Tryd.prog.cellsOf f.type)) = zs[i]? → i < zs.length → ∃ z, cs[i]? = some (.int k z) ∧ (Lit.int k z).wf = true := by
    intro i f k hu hc ho _ ht hi
    rw [List.getElem?_eq_getElem hi] at ht
    obtain ⟨z, a1, _, a3⟩ := DataW.trod_int hu ht
    refine ⟨z, ?_, a3⟩
    rw [hc, ho, c5] at a1
    have r0 := congrArg (fun l => l[0]?) a1
    simp only [List.getElem?_take, List.getElem?_drop] at r0
    have r1 : i < 5 ∧ cs[i]? = some (.int k z) := by simpa [Value.cells] using r0
    exact r1.2
  have hz5 : zs.length = 5 := hzl
  obtain ⟨z0, e0, w0⟩ := key 0 _ .i64 Tryd.underlying2 k2 rfl (by omega) (hfe 0 _ rfl) (by omega)
  obtain ⟨z1, e1, w1⟩ := key 1 _ .u8 Tryd.underlying5 k5 rfl (by omega) (hfe 1 _ rfl) (by omega)
  obtain ⟨z2, e2, w2⟩ := key 2 _ .u8 Tryd.underlying5 k5 rfl (by omega) (hfe 2 _ rfl) (by omega)
  obtain ⟨z3, e3, w3⟩ := key 3 _ .u8 Tryd.underlying5 k5 rfl (by omega) (hfe 3 _ rfl) (by omega)
  obtain ⟨z4, e4, w4⟩ := key 4 _ .i16 Tryd.underlying23 cells16 rfl (by omega) (hfe 4 _ rfl) (by omega)
  obtain ⟨z5, a5, _, w5⟩ := DataW.trod_int Tryd.underlying43 g1
  obtain ⟨z6, a6, _, w6⟩ := DataW.trod_int Tryd.underlying5 g2
  obtain ⟨st, a7, d7, _⟩ := DataW.trod_string Tryd.underlying9 g3
  have e5 : cs[5]? = some (.int .u64 z5) := by
    have r0 := congrArg (fun l => l[0]?) a5
    simp only [List.getElem?_take, List.getElem?_drop] at r0
    simpa [Value.cells, k43] using r0
  have e6 : cs[6]? = some (.int .u8 z6) := by
    have r0 := congrArg (fun l => l[0]?) a6
    simp only [List.getElem?_take, List.getElem?_drop] at r0
    simpa [Value.cells, k5] using r0
  have e7 : cs[7]? = some (.string st) := by
    have r0 := congrArg (fun l => l[0]?) a7
    simp only [List.getElem?_take, List.getElem?_drop] at r0
    simpa [Value.cells, cellsStr] using r0
  refine ⟨⟨⟨z0, z1, z2, z3, z4⟩, z5, z6, st⟩, ?_, ⟨⟨(bounds_u8 w1).1, (bounds_u8 w1).2, (bounds_u8 w2).1, (bounds_u8 w2).2, (bounds_u8 w3).1, (bounds_u8 w3).2, (bounds_i16 w4).1, (bounds_i16 w4).2⟩, (bounds_u64 w5).1, (bounds_u64 w5).2, (bounds_u8 w6).1, (bounds_u8 w6).2⟩, ?_⟩
  · unfold drV
    congr 1
    apply Array.ext_getElem?
    intro j
    by_cases hj : j < 8
    · have hc : j = 0 ∨ j = 1 ∨ j = 2 ∨ j = 3 ∨ j = 4 ∨ j = 5 ∨ j = 6 ∨ j = 7 := by omega
      rcases hc with rfl | rfl | rfl | rfl | rfl | rfl | rfl | rfl
      · exact e0
      · exact e1
      · exact e2
      · exact e3
      · exact e4
      · exact e5
      · exact e6
      · exact e7
    · rw [Array.getElem?_eq_none (by omega), Array.getElem?_eq_none (by simp; omega)]
  · have hd : d = .agg [y0.1, y1.1, y2.1, y3.1] := congrArg Prod.fst hx
    have e3' : y3.1 = .lit (.string st.data.toList) := congrArg Prod.fst d7
    exact ⟨y0.1, y1.1, y2.1, by rw [hd, ← e3']⟩
theorem dress_size {H : Type} {ts : List TypeId} {ds : List (DataW H)} {d : DataW H} {r : ByteArray} (h : (DataW.weightsEach Tryd.prog ts ds).all (· ≤ reachBytes) = true) (ht : ts[0]? = some 45) (hd : ds[0]? = some d) (e : ∃ p q t, d = .agg [p, q, t, .lit (.string r.data.toList)]) : r.size ≤ 140737488351232 := by
  obtain ⟨p, q, t, rfl⟩ := e
  have hm : r.data.toList.length ∈ (DataW.agg [p, q, t, .lit (.string r.data.toList)]).weights Tryd.prog 45 := by
    unfold DataW.weights
    rw [Tryd.underlying45]
    exact DataW.weights_mem_each (j := 3) (t := 9) (d := .lit (.string r.data.toList)) rfl rfl _ (by simp [DataW.weights])
  have := List.all_eq_true.1 h _ (DataW.weights_mem_each ht hd _ hm)
  simp only [reachBytes, Array.length_toList] at this
  exact of_decide_eq_true this
end Go.Proofs.YtedfnebadenmdabDoor
