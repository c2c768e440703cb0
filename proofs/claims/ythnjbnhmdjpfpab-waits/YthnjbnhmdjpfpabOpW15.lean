/-
  What FramerWaits is asked of, as it came in.
-/
import Derived.Test.YthnjbnhmdjpfpabOpenC
namespace Go.Proofs.Ythnjbnhmdjpfpab
open Go.ChangeShapes Go.WideShapes Go.ChangeAt Go.RowKit

set_option maxRecDepth 100000 in
theorem open_wait {H : Type} {enc : TypeId × Value → H} {W : World} {r : Reach} {b0 : Nat} {v : Value} {d : DataW H} {ps : List MemPlace} (hv : Value.okWide Try.prog W r b0 24 v) (h : DataW.Trod enc Try.prog W 0 (fun _ => true) true 24 v d ps) :
    ∃ (s : ByteArray) (mo n rm : Int) (a : Option Addr) (l : List UInt8) (cap : Nat), v = .agg #[.string s, .int .i64 mo, .int .i64 n, .int .i64 rm, .slice a l.length cap] ∧ (-9223372036854775808 ≤ n ∧ n ≤ 9223372036854775807) ∧ (-9223372036854775808 ≤ rm ∧ rm ≤ 9223372036854775807) ∧ Bts a l W ∧ l.length ≤ cap ∧ cap ≤ 9223372036854775807 ∧ (a = none → cap = 0) ∧ ∃ p q t u, d = .agg [.lit (.string s.data.toList), p, q, t, u] := by
  obtain ⟨cs, rfl, hsz⟩ := okWide_struct Try.underlying24 hv
  have c5 : Try.prog.cellsOf 24 = 5 := by kernel_rfl
  rw [c5] at hsz
  obtain ⟨fuel, hf⟩ := h
  obtain ⟨ys, n, _, hx, hl, hyl, hfd⟩ := DataW.trod_struct Try.underlying24 hf
  have hy5 : ys.length = 5 := hyl
  obtain ⟨y0, y1, y2, y3, y4, rfl⟩ : ∃ a b c e f, ys = [a, b, c, e, f] := by
    match ys, hy5 with
    | [a, b, c, e, f], _ => exact ⟨a, b, c, e, f, rfl⟩
  have g0 : _ = some y0 := hfd 0 _ rfl
  have g1 : _ = some y1 := hfd 1 _ rfl
  have g2 : _ = some y2 := hfd 2 _ rfl
  have g3 : _ = some y3 := hfd 3 _ rfl
  have g4 : _ = some y4 := hfd 4 _ rfl
  obtain ⟨cl⟩ := cs
  match cl, hsz with
  | [x0, x1, x2, x3, x4], _ =>
    simp only [Value.cells] at g0 g1 g2 g3 g4
    obtain ⟨st, a0, d0, _⟩ := DataW.trod_string Try.underlying9 g0
    obtain ⟨z1, a1, _, w1⟩ := DataW.trod_int Try.underlying3 g1
    obtain ⟨z2, a2, _, w2⟩ := DataW.trod_int Try.underlying2 g2
    obtain ⟨z3, a3, _, w3⟩ := DataW.trod_int Try.underlying2 g3
    obtain ⟨a, len, cap, e4⟩ : ∃ a len cap, x4 = .slice a len cap := by
      rcases DataW.trod_slice Try.underlying22 g4 with ⟨e, _⟩ | ⟨a, len, cap, _, _, _, _, e, _⟩
      · injection e with e _
        exact ⟨_, _, _, e⟩
      · injection e with e _
        exact ⟨_, _, _, e⟩
    subst e4
    have ht : DataW.Trod enc Try.prog W 0 (fun _ => true) true 22 (.slice a len cap) y4.1 y4.2 := ⟨n, g4⟩
    obtain ⟨l, hll, hb, hcl, _⟩ := open_bytes ht
    have hn := open_none ht
    have hcm := open_cap ht
    injection a0 with a0 _
    injection a1 with a1 _
    injection a2 with a2 _
    injection a3 with a3 _
    subst a0 a1 a2 a3 hll
    refine ⟨st, z1, z2, z3, a, l, cap, rfl, bounds_i64 w2, bounds_i64 w3, hb, hcl, hcm, hn, y1.1, y2.1, y3.1, y4.1, ?_⟩
    have hd : d = .agg [y0.1, y1.1, y2.1, y3.1, y4.1] := congrArg Prod.fst hx
    have e0' : y0.1 = .lit (.string st.data.toList) := congrArg Prod.fst d0
    rw [hd, ← e0']
theorem wait_size {H : Type} {ts : List TypeId} {ds : List (DataW H)} {d : DataW H} {r : ByteArray} (h : (DataW.weightsEach Try.prog ts ds).all (· ≤ reachBytes) = true) (ht : ts[0]? = some 24) (hd : ds[0]? = some d) (e : ∃ p q t u, d = .agg [.lit (.string r.data.toList), p, q, t, u]) : r.size ≤ 140737488351232 := by
  obtain ⟨p, q, t, u, rfl⟩ := e
  have hm : r.data.toList.length ∈ (DataW.agg [.lit (.string r.data.toList), p, q, t, u]).weights Try.prog 24 := by
    unfold DataW.weights
    rw [Try.underlying24]
    exact DataW.weights_mem_each (j := 0) (t := 9) (d := .lit (.string r.data.toList)) rfl rfl _ (by simp [DataW.weights])
  have := List.all_eq_true.1 h _ (DataW.weights_mem_each ht hd _ hm)
  simp only [reachBytes, Array.length_toList] at this
  exact of_decide_eq_true this
end Go.Proofs.Ythnjbnhmdjpfpab
