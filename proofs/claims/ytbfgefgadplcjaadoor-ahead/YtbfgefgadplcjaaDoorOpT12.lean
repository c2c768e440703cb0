/-
  Two lists of bytes in an array, as they came in.
-/
import Derived.Test.YtbfgefgadplcjaaDoorOpR12
import Derived.Test.YtbfgefgadplcjaaDoorOpenC
namespace Go.Proofs.YtbfgefgadplcjaaDoor
open Go.ChangeShapes Go.WideShapes Go.ChangeAt Go.RowKit

/-- One list among the cells. -/
theorem open_one {H : Type} {enc : TypeId × Value → H} {W : World} {fuel : Nat} {c : Value} {x : DataW H × List MemPlace}
    (h : DataW.trod enc Tryd.prog W 0 (fun _ => true) true fuel 31 [c] = some x) :
    ∃ (a : Option Addr) (l : List UInt8) (k : Nat), c = .slice a l.length k ∧ Bts a l W ∧ l.length ≤ k ∧ (a = none → k = 0) ∧ k ≤ 9223372036854775807 ∧ ((∃ el sp, x.1 = .slice el sp ∧ el.length = l.length) ∨ (x.1 = .nil ∧ l.length = 0)) := by
  obtain ⟨a, len, cap, e3⟩ : ∃ a len cap, c = .slice a len cap := by
    rcases DataW.trod_slice Tryd.underlying31 h with ⟨e, _⟩ | ⟨a, len, cap, _, _, _, _, e, _⟩
    · injection e with e _
      exact ⟨_, _, _, e⟩
    · injection e with e _
      exact ⟨_, _, _, e⟩
  subst e3
  have ht : DataW.Trod enc Tryd.prog W 0 (fun _ => true) true 31 (.slice a len cap) x.1 x.2 := ⟨fuel, h⟩
  obtain ⟨l, hl, hb, hc, hd⟩ := open_bytes ht
  have hn := open_none ht
  have hm := open_cap ht
  subst hl
  exact ⟨a, l, cap, rfl, hb, hc, hn, hm, hd⟩
set_option maxRecDepth 100000 in
theorem open_two {H : Type} {enc : TypeId × Value → H} {W : World} {r : Reach} {b0 : Nat} {v : Value} {d : DataW H} {ps : List MemPlace} (hv : Value.okWide Tryd.prog W r b0 67 v) (h : DataW.Trod enc Tryd.prog W 0 (fun _ => true) true 67 v d ps) :
    ∃ (a0 : Option Addr) (l0 : List UInt8) (k0 : Nat) (a1 : Option Addr) (l1 : List UInt8) (k1 : Nat) (y0 y1 : DataW H), v = .agg #[.slice a0 l0.length k0, .slice a1 l1.length k1] ∧ Bts a0 l0 W ∧ l0.length ≤ k0 ∧ (a0 = none → k0 = 0) ∧ k0 ≤ 9223372036854775807 ∧ Bts a1 l1 W ∧ l1.length ≤ k1 ∧ (a1 = none → k1 = 0) ∧ k1 ≤ 9223372036854775807 ∧
      d = .agg [y0, y1] ∧ ((∃ el sp, y0 = .slice el sp ∧ el.length = l0.length) ∨ (y0 = .nil ∧ l0.length = 0)) ∧ ((∃ el sp, y1 = .slice el sp ∧ el.length = l1.length) ∨ (y1 = .nil ∧ l1.length = 0)) := by
  simp only [Value.okWide, Tryd.underlying67] at hv
  obtain ⟨cs, rfl, hsz, _⟩ := hv
  obtain ⟨fuel, hf⟩ := h
  obtain ⟨xs, m, _, hx, hlen, hn, hel⟩ := DataW.trod_array Tryd.underlying67 hf
  have cb : Tryd.prog.cellsOf 31 = 1 := by kernel_rfl
  rw [cb] at hel
  have hc2 : cs.size = 2 := by
    have c2 : Tryd.prog.cellsOf 67 = 2 := by kernel_rfl
    simpa [Value.cells, c2] using hlen
  have hx2 : xs.length = 2 := by omega
  obtain ⟨y0, y1, rfl⟩ : ∃ a b, xs = [a, b] := by
    match xs, hx2 with
    | [a, b], _ => exact ⟨a, b, rfl⟩
  obtain ⟨c0, c1, rfl⟩ : ∃ a b, cs = #[a, b] := by
    obtain ⟨L⟩ := cs
    match L, hc2 with
    | [a, b], _ => exact ⟨a, b, rfl⟩
  have g0 := hel 0 (by decide)
  have g1 := hel 1 (by decide)
  simp [Value.cells] at g0 g1
  obtain ⟨a0, l0, k0, rfl, b0', p0, q0, r0, d0⟩ := open_one g0
  obtain ⟨a1, l1, k1, rfl, b1', p1, q1, r1, d1⟩ := open_one g1
  refine ⟨a0, l0, k0, a1, l1, k1, y0.1, y1.1, rfl, b0', p0, q0, r0, b1', p1, q1, r1, ?_, d0, d1⟩
  exact congrArg Prod.fst hx
theorem two_size {H : Type} {ts : List TypeId} {ds : List (DataW H)} {y0 y1 : DataW H} {n0 n1 : Nat} {j : Nat} (h : (DataW.weightsEach Tryd.prog ts ds).all (· ≤ reachBytes) = true) (ht : ts[j]? = some 67) (hd : ds[j]? = some (.agg [y0, y1]))
    (e0 : (∃ el sp, y0 = .slice el sp ∧ el.length = n0) ∨ (y0 = .nil ∧ n0 = 0)) (e1 : (∃ el sp, y1 = .slice el sp ∧ el.length = n1) ∨ (y1 = .nil ∧ n1 = 0)) : n0 ≤ 140737488351232 ∧ n1 ≤ 140737488351232 := by
  have key : ∀ n, n ∈ (DataW.agg [y0, y1]).weights Tryd.prog 67 → n ≤ 140737488351232 := fun n hn => by
    have h0 := List.all_eq_true.1 h _ (DataW.weights_mem_each ht hd _ hn)
    simp only [reachBytes] at h0
    exact of_decide_eq_true h0
  have hw : (DataW.agg [y0, y1]).weights Tryd.prog 67 = y0.weights Tryd.prog 31 ++ (y1.weights Tryd.prog 31 ++ []) := by
    rw [DataW.weights, Tryd.underlying67]
    simp only [DataW.weightsAll]
  rw [hw] at key
  refine ⟨?_, ?_⟩
  · rcases e0 with ⟨el, sp, rfl, rfl⟩ | ⟨rfl, rfl⟩
    · have := key ((el.length + sp.length) * Tryd.prog.bytesOf 5) (List.mem_append.2 (.inl (by unfold DataW.weights; rw [Tryd.underlying31]; simp)))
      rw [bytes5] at this
      omega
    · omega
  · rcases e1 with ⟨el, sp, rfl, rfl⟩ | ⟨rfl, rfl⟩
    · have := key ((el.length + sp.length) * Tryd.prog.bytesOf 5) (List.mem_append.2 (.inr (List.mem_append.2 (.inl (by unfold DataW.weights; rw [Tryd.underlying31]; simp)))))
      rw [bytes5] at this
      omega
    · omega
end Go.Proofs.YtbfgefgadplcjaaDoor
