/-
  What a list of bytes that came in is to the walks.
-/
import Derived.Test.YtdgbkllhcoincabDoorRow
import Derived.Test.YtdgbkllhcoincabDoorProg
import Derived.ProofKit
import Derived.OpenShut
import Derived.SizedLaws
namespace Go.Proofs.YtdgbkllhcoincabDoor
open Go.ChangeShapes Go.WideShapes Go.ChangeAt Go.RowKit

theorem bytes5 : Tryd.prog.bytesOf 5 = 1 := by kernel_rfl

theorem open_bytes {H : Type} {enc : TypeId × Value → H} {W : World} {a : Option Addr} {len cap : Nat} {d : DataW H} {p : List MemPlace}
    (h : DataW.Trod enc Tryd.prog W 0 (fun _ => true) true 27 (.slice a len cap) d p) :
    ∃ bs : ByteArray, bs.size = len ∧ (len = 0 ∨ ∃ g o, a = some ⟨g, o, none⟩ ∧ RowAt bs g o W) ∧ ((∃ el sp, d = .slice el sp ∧ el.length = len) ∨ (d = .nil ∧ len = 0)) := by
  obtain ⟨fuel, hf⟩ := h
  rcases open_ints Tryd.underlying27 Tryd.underlying5 (by kernel_rfl) hf with ⟨hcs, hx⟩ | ⟨x, l, c, zs, hcs, _, hl, hm, hz, hx, hcell, hwz⟩
  · simp [Value.cells] at hcs
    obtain ⟨rfl, rfl, rfl⟩ := hcs
    simp only [Prod.mk.injEq] at hx
    exact ⟨⟨#[]⟩, rfl, .inl rfl, .inr ⟨hx.1, rfl⟩⟩
  · simp [Value.cells] at hcs
    obtain ⟨rfl, rfl, rfl⟩ := hcs
    simp only [Prod.mk.injEq] at hx
    have hz' : zs.length = cap := by simpa using hz
    refine ⟨⟨((zs.take len).map fun n => UInt8.ofNat n.toNat).toArray⟩, ?_, ?_, .inl ⟨_, _, hx.1, ?_⟩⟩
    · show ((zs.take len).map fun n => UInt8.ofNat n.toNat).toArray.size = len
      rw [List.size_toArray, List.length_map, List.length_take]
      omega
    · by_cases h0 : len = 0
      · exact .inl h0
      · right
        obtain ⟨b, off, spot⟩ := x
        have hc := hcell 0 (by omega)
        have hspot : spot = none := by simpa [Addr.add] using World.cell?_spot hc
        subst hspot
        refine ⟨b, off, rfl, fun j hj => ?_⟩
        have hj' : j < len := by
          have : ((zs.take len).map fun n => UInt8.ofNat n.toNat).toArray.size = len := by
            rw [List.size_toArray, List.length_map, List.length_take]
            omega
          have hj2 : j < ((zs.take len).map fun n => UInt8.ofNat n.toNat).toArray.size := hj
          omega
        have h1 := hcell j (by omega)
        rw [Addr.add_lit] at h1
        rw [h1]
        have hjz : j < zs.length := by omega
        have hw := hwz zs[j] (List.getElem_mem hjz)
        obtain ⟨q0, q1⟩ := bounds_u8 hw
        have e1 : zs.getD j 0 = zs[j] := by simp [List.getD_eq_getElem?_getD, List.getElem?_eq_getElem hjz]
        rw [e1]
        have e2 : (⟨((zs.take len).map fun n => UInt8.ofNat n.toNat).toArray⟩ : ByteArray)[j]'hj = UInt8.ofNat (zs[j]).toNat := by
          show (((zs.take len).map fun n => UInt8.ofNat n.toNat).toArray)[j] = _
          simp
        rw [e2]
        congr 2
        simp
        omega
    · simp [lits]
      omega

theorem empty_of {bs : ByteArray} (h : bs.size = 0) : bs = ⟨#[]⟩ := by
  apply ByteArray.ext
  exact Array.eq_empty_of_size_eq_zero h
end Go.Proofs.YtdgbkllhcoincabDoor
