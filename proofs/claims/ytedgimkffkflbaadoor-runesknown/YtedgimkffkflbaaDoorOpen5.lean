/-
  What came in, as the walks have it: runes; and what a bound of all data says of each.
-/
import Derived.Test.YtedgimkffkflbaaDoorCard5
import Derived.Test.YtedgimkffkflbaaDoorOpen4
import Derived.Test.YtedgimkffkflbaaDoorNum
import Derived.Test.YtedgimkffkflbaaDoorRows
import Derived.ProofKit
import Derived.OpenShut
import Derived.SizedLaws
namespace Go.Proofs.YtedgimkffkflbaaDoor
open Go.ChangeShapes Go.WideShapes Go.ChangeAt Go.RowKit

theorem open_runes {H : Type} {enc : TypeId × Value → H} {W : World} {a : Option Addr} {len cap : Nat} {d : DataW H} {p : List MemPlace}
    (h : DataW.Trod enc Tryd.prog W 0 (fun _ => true) true 28 (.slice a len cap) d p) :
    ∃ l : List Int, l.length = len ∧ Nts .i32 a l W ∧ (∀ x ∈ l, -2147483648 ≤ x ∧ x ≤ 2147483647) ∧ ((∃ el sp, d = .slice el sp ∧ el.length = len) ∨ (d = .nil ∧ len = 0)) := by
  obtain ⟨fuel, hf⟩ := h
  rcases open_ints Tryd.underlying28 Tryd.underlying21 (by kernel_rfl) hf with ⟨hcs, hx⟩ | ⟨x, l, c, zs, hcs, _, hl, hm, hz, hx, hcell, hwz⟩
  · simp [Value.cells] at hcs
    obtain ⟨rfl, rfl, rfl⟩ := hcs
    simp only [Prod.mk.injEq] at hx
    exact ⟨[], rfl, .inl rfl, fun z hz => (by cases hz), .inr ⟨hx.1, rfl⟩⟩
  · simp [Value.cells] at hcs
    obtain ⟨rfl, rfl, rfl⟩ := hcs
    simp only [Prod.mk.injEq] at hx
    have hz' : zs.length = cap := by simpa using hz
    have hlen : (zs.take len).length = len := by
      rw [List.length_take]
      omega
    refine ⟨zs.take len, hlen, ?_, fun z hz => bounds_i32 (hwz z (List.mem_of_mem_take hz)), .inl ⟨_, _, hx.1, ?_⟩⟩
    · by_cases h0 : len = 0
      · left
        exact List.eq_nil_of_length_eq_zero (hlen.trans h0)
      · right
        obtain ⟨b, off, spot⟩ := x
        have hc := hcell 0 (by omega)
        have hspot : spot = none := by simpa [Addr.add] using World.cell?_spot hc
        subst hspot
        refine ⟨b, off, rfl, ?_, fun j hj => ?_⟩
        · have := World.block_lt_of_cell? W _ hc
          simpa [Addr.add_lit] using this
        have hj' : j < len := by omega
        have h1 := hcell j (by omega)
        rw [Addr.add_lit] at h1
        rw [h1]
        have hjz : j < zs.length := by omega
        have e1 : zs.getD j 0 = zs[j] := by simp [List.getD_eq_getElem?_getD, List.getElem?_eq_getElem hjz]
        rw [e1, List.getElem_take]
    · simp [lits]
      omega
end Go.Proofs.YtedgimkffkflbaaDoor
