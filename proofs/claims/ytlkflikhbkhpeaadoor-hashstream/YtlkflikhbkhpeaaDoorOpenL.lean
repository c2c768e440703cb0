/-
  Pieces that came in, as the walks have them.
-/
import Derived.Test.YtlkflikhbkhpeaaDoorOpen
import Derived.Test.YtlkflikhbkhpeaaDoorPcl
import Derived.Lib.SmallJoins
namespace Go.Proofs.YtlkflikhbkhpeaaDoor
open Go.ChangeShapes Go.WideShapes Go.ChangeAt Go.RowKit

theorem bytesTB : Tryd.prog.bytesOf 22 = 24 := by kernel_rfl
theorem cellsTB : Tryd.prog.cellsOf 22 = 1 := by kernel_rfl
theorem cells_at' {w : World} {base n : Nat} {a : Addr} {cs : List Value} (h : w.cells? base a n = some cs) (i : Nat) (hi : i < n) : w.cell? (a.add i) = cs[i]? := by
  unfold World.cells? at h
  split at h
  · exact mapM_some_get h i i (by simp [hi])
  · cases h
theorem weights_all {H : Type} {P : Program} {e : TypeId} : ∀ (l : List (DataW H)) (d : DataW H), d ∈ l → ∀ x ∈ d.weights P e, x ∈ DataW.weightsAll P e l
  | y :: l, d, hd, x, hx => by
    rw [DataW.weightsAll]
    rcases List.mem_cons.1 hd with rfl | hd
    · exact List.mem_append_left _ hx
    · exact List.mem_append_right _ (weights_all l d hd x hx)

theorem open_pc {H : Type} {enc : TypeId × Value → H} {W : World} {fuel : Nat} {cs : List Value} {x : DataW H × List MemPlace}
    (h : DataW.trod enc Tryd.prog W 0 (fun _ => true) true fuel 22 cs = some x) (hw : ∀ y ∈ x.1.weights Tryd.prog 22, y ≤ reachBytes) :
    ∃ p : Pc, cs = [p.val] ∧ Bts p.at_ p.bs W ∧ (p.at_ = none → p.cap = 0) ∧ p.bs.length ≤ 140737488351232 := by
  obtain ⟨a, len, cap, e3⟩ : ∃ a len cap, cs = [.slice a len cap] := by
    rcases DataW.trod_slice Tryd.underlying22 h with ⟨e, _⟩ | ⟨a, len, cap, _, _, _, _, e, _⟩
    · exact ⟨_, _, _, e⟩
    · exact ⟨_, _, _, e⟩
  subst e3
  have ht : DataW.Trod enc Tryd.prog W 0 (fun _ => true) true 22 (.slice a len cap) x.1 x.2 := ⟨fuel, h⟩
  obtain ⟨l, hl, hb, _, hd⟩ := open_bytes ht
  subst hl
  refine ⟨⟨a, l, cap⟩, rfl, hb, open_none ht, ?_⟩
  show l.length ≤ _
  rcases hd with ⟨el, sp, e, hel⟩ | ⟨e, h0⟩
  · rw [e] at hw
    have := hw ((el.length + sp.length) * Tryd.prog.bytesOf 5) (by simp [DataW.weights, Tryd.underlying22])
    rw [bytes5] at this
    simp only [reachBytes] at this
    omega
  · omega

theorem open_lists {H : Type} {enc : TypeId × Value → H} {W : World} {ts : List TypeId} {ds : List (DataW H)} {a : Option Addr} {len cap : Nat} {d : DataW H} {p : List MemPlace}
    (hsz : (DataW.weightsEach Tryd.prog (53 :: ts) (d :: ds)).all (· ≤ reachBytes) = true)
    (h : DataW.Trod enc Tryd.prog W 0 (fun _ => true) true 53 (.slice a len cap) d p) :
    ∃ ps : List Pc, ps.length = len ∧ Pl ps a W ∧ ps.length ≤ 140737488351232 := by
  have hmem : ∀ x ∈ d.weights Tryd.prog 53, x ≤ reachBytes := fun x hx => by
    have := List.all_eq_true.1 hsz x (DataW.weights_mem_each (j := 0) rfl rfl x hx)
    simpa using this
  obtain ⟨fuel, hf⟩ := h
  rcases DataW.trod_slice Tryd.underlying53 hf with ⟨e, _⟩ | ⟨ad, l, c, elems, rest, n, _, e, hx, hb, hl, hm, hlen, hel, _⟩
  · simp [Value.cells] at e
    obtain ⟨rfl, rfl, rfl⟩ := e
    exact ⟨[], rfl, ⟨.inl rfl, fun j hj => by simp at hj, fun j hj => by simp at hj, fun j hj => by simp at hj⟩, by simp⟩
  · simp [Value.cells] at e
    obtain ⟨rfl, rfl, rfl⟩ := e
    simp only [Prod.mk.injEq] at hx
    obtain ⟨rfl, _⟩ := hx
    have hw0 : len ≤ 140737488351232 := by
      have h1 := hmem (((elems.map (·.1)).length + _) * Tryd.prog.bytesOf 22) (by simp only [DataW.weights, Tryd.underlying53]; exact List.mem_cons_self)
      rw [bytesTB, List.length_map, hlen] at h1
      simp only [reachBytes] at h1
      omega
    have hwe : ∀ y ∈ elems, ∀ x ∈ y.1.weights Tryd.prog 22, x ≤ reachBytes := fun y hy x hx => by
      refine hmem x ?_
      simp only [DataW.weights, Tryd.underlying53]
      exact List.mem_cons_of_mem _ (List.mem_append_left _ (weights_all _ y.1 (List.mem_map_of_mem hy) x hx))
    have each : ∀ i : Fin len, ∃ t : Pc, W.cell? (ad.add i.val) = some t.val ∧ Bts t.at_ t.bs W ∧ (t.at_ = none → t.cap = 0) ∧ t.bs.length ≤ 140737488351232 := fun i => by
      have h1 := hel i.val i.isLt
      rw [cellsTB, Nat.mul_one] at h1
      have hi : i.val < elems.length := by rw [hlen]; exact i.isLt
      rw [List.getElem?_eq_getElem hi, Option.bind_eq_some_iff] at h1
      obtain ⟨cs, hc, ht⟩ := h1
      obtain ⟨t, rfl, h2, h3, h4⟩ := open_pc ht (hwe _ (List.getElem_mem hi))
      have := cells_at' hc 0 (by omega)
      rw [show (ad.add i.val).add 0 = ad.add i.val by unfold Addr.add; split <;> simp_all] at this
      exact ⟨t, this, h2, h3, h4⟩
    obtain ⟨f, hfs⟩ : ∃ f : Fin len → Pc, ∀ i, W.cell? (ad.add i.val) = some (f i).val ∧ Bts (f i).at_ (f i).bs W ∧ ((f i).at_ = none → (f i).cap = 0) ∧ (f i).bs.length ≤ 140737488351232 := ⟨fun i => (each i).choose, fun i => (each i).choose_spec⟩
    clear each
    refine ⟨List.ofFn f, List.length_ofFn, ⟨?_, fun j hj => ?_, fun j hj => ?_, fun j hj => ?_⟩, by rw [List.length_ofFn]; exact hw0⟩
    · by_cases h0 : len = 0
      · left
        exact List.eq_nil_of_length_eq_zero (by rw [List.length_ofFn]; exact h0)
      · right
        obtain ⟨b, off, spot⟩ := ad
        have hc := (hfs ⟨0, by omega⟩).1
        have hspot : spot = none := by simpa [Addr.add] using World.cell?_spot hc
        subst hspot
        refine ⟨b, off, rfl, ?_, fun j hj => ?_⟩
        · rw [Addr.add_lit] at hc
          exact World.block_lt_of_cell? W _ hc
        · have hj' : j < len := by rw [List.length_ofFn] at hj; exact hj
          rw [List.getElem_ofFn]
          have := (hfs ⟨j, hj'⟩).1
          rw [Addr.add_lit] at this
          exact this
    · rw [List.getElem_ofFn]
      exact (hfs _).2.1
    · rw [List.getElem_ofFn]
      exact (hfs _).2.2.1
    · rw [List.getElem_ofFn]
      exact (hfs _).2.2.2
end Go.Proofs.YtlkflikhbkhpeaaDoor
