/-
  Rows of texts that a call made.
-/
import Derived.Test.YtdgepnfgjgbkoabDoorNum
import Derived.Test.YtdgepnfgjgbkoabDoorWp17
import Derived.Test.YtdgepnfgjgbkoabDoorEnP
namespace Go.Proofs.YtdgepnfgjgbkoabDoor
open Go.RowKit

def cellsS (L : List (List UInt8)) : List Value := L.map fun x => Value.string (bS x)
theorem cellsS_len (L : List (List UInt8)) : (cellsS L).length = L.length := by simp [cellsS]
theorem cellsS_one (L : List (List UInt8)) : ∀ v ∈ cellsS L, v.oneCell' = true := by
  intro v hv
  simp only [cellsS, List.mem_map] at hv
  obtain ⟨b, _, rfl⟩ := hv
  rfl
theorem info9 : (Tryd.prog.info? 9).map (fun i => (i.zero, i.size, i.bytes)) = some (some (.string ⟨#[]⟩), 1, 16) := by kernel_rfl
theorem info_partsG {e : TypeId} {z : Value} {n b : Nat} (h : (Tryd.prog.info? e).map (fun i => (i.zero, i.size, i.bytes)) = some (some z, n, b)) : ∃ i, Tryd.prog.info? e = some i ∧ i.zero = some z ∧ i.size = n ∧ i.bytes = b := by
  cases hq : Tryd.prog.info? e with
  | none => rw [hq] at h; cases h
  | some i =>
    rw [hq] at h
    simp at h
    exact ⟨i, rfl, h.1, h.2.1, h.2.2⟩
/-- One text more behind a row of the call's own. -/
theorem wpList_append_str {ops : Array Oper} {rest : List Oper} {o : Oper} {a : Act} {w : World} {Q : Exit → Act → World → Prop} (hgd : o.guard = none) (s x : Operand)
    (ho : o.op = .call { callee := .builtin .append, args := #[s, x], argTypes := #[63, 63] }) (base : Nat) (v : Value) (n : Nat) (xs : List (List UInt8)) (hs : a.eval s = v) (hown : w.ownsRow base 9 1 v n (cellsS xs))
    (g : Nat) (y : List UInt8) (c : Nat) (hx : a.eval x = .slice (some ⟨g, 0, none⟩) 1 c) (hb : w.cell? ⟨g, 0, none⟩ = some (.string (bS y))) (hbytes : (n + 1) * 16 ≤ 140737488355328) (hbase : base ≤ w.heap.size)
    (h : ∀ v' w', w'.ownsRow base 9 1 v' (n + 1) (cellsS (xs ++ [y])) → w.grownBy w' v.ownBlock → wpList Tryd.prog ops Q rest (a.put o.dst v') w') : wpList Tryd.prog ops Q (o :: rest) a w := by
  obtain ⟨i0, hi, hz0, hz1, hz2⟩ := info_partsG info9
  refine wpList_append_own _ hgd s x 63 ho base 9 i0 (.string ⟨#[]⟩) 1 16 Tryd.underlying63 hi hz0 hz1 hz2 rfl (by decide) v n _ hs hown ⟨g, 0, none⟩ 1 c (cellsS [y]) hx rfl (fun j u hu => ?_) (cellsS_one _) (by unfold maxLen; omega) hbytes hbase ?_
  · cases j with
    | zero =>
      obtain rfl : Value.string (bS y) = u := by simpa [cellsS] using hu
      exact hb
    | succ j => simp [cellsS] at hu
  · intro v' w' ho' hg' _
    exact h v' w' (by rw [cellsS, List.map_append]; exact ho') hg'
/-- Nothing of a row is left. -/
theorem own_empty {w : World} {base : Nat} {a : Option Addr} {n cp : Nat} {xs : List Value} (h : w.ownsRow base 5 1 (.slice a n cp) n xs) : w.ownsRow base 5 1 (.slice a 0 cp) 0 (cellsB []) := by
  rcases h.2 with ⟨hv, h0⟩ | ⟨g, cap, cur, hv, hbg, hg, hnc, hcm, hcs, ht⟩
  · injection hv with e1 e2 e3
    subst e1 e3
    exact ⟨rfl, .inl ⟨rfl, rfl⟩⟩
  · injection hv with e1 e2 e3
    subst e1 e3
    exact ⟨rfl, .inr ⟨g, cp, cur, rfl, hbg, hg, Nat.zero_le _, hcm, hcs, by simp [cellsB]⟩⟩
theorem rowS_cells {w : World} {base n : Nat} {v : Value} {L : List (List UInt8)} (h : w.ownsRow base 9 1 v n (cellsS L)) : n = L.length ∧ (L = [] ∨ ∃ g cp, v = .slice (some ⟨g, 0, none⟩) n cp ∧ g < w.heap.size ∧ n ≤ cp ∧ ∀ j x, L[j]? = some x → w.cell? ⟨g, j, none⟩ = some (.string (bS x))) := by
  have hl : n = L.length := by have := h.1; rw [cellsS_len] at this; omega
  refine ⟨hl, ?_⟩
  rcases h.2 with ⟨hv, h0⟩ | ⟨g, cap, cur, hv, hbg, hg, hnc, hcm, hcs, ht⟩
  · exact .inl (List.eq_nil_of_length_eq_zero (by omega))
  · refine .inr ⟨g, cap, hv, (Array.getElem?_eq_some_iff.1 hg).1, hnc, fun j x hx => ?_⟩
    subst hv
    have hj := (List.getElem?_eq_some_iff.1 hx).1
    have := h.cellAt j (by omega)
    rw [this]
    simp [cellsS, hx]
theorem own_shapeS {w : World} {base n : Nat} {v : Value} {L : List (List UInt8)} (h : w.ownsRow base 9 1 v n (cellsS L)) : ∃ a cp, v = .slice a n cp ∧ (L ≠ [] → ∃ g, a = some ⟨g, 0, none⟩ ∧ g < w.heap.size ∧ n ≤ cp ∧ ∀ j x, L[j]? = some x → w.cell? ⟨g, j, none⟩ = some (.string (bS x))) := by
  obtain ⟨hl, hL⟩ := rowS_cells h
  rcases h.2 with ⟨hv, h0⟩ | ⟨g, cap, cur, hv, hbg, hg, hnc, hcm, hcs, ht⟩
  · refine ⟨none, 0, by rw [hv, h0], fun hne => ?_⟩
    exact absurd (List.eq_nil_of_length_eq_zero (by omega)) hne
  · refine ⟨_, cap, hv, fun hne => ?_⟩
    rcases hL with hL | ⟨g', cp', hv', h1, h2, h3⟩
    · exact absurd hL hne
    · rw [hv] at hv'
      injection hv' with e1 _ e3
      injection e1 with e1
      injection e1 with e1
      exact ⟨g, rfl, by rw [e1]; exact h1, hnc, by rw [e1]; exact h3⟩
/-- strings.Join of texts with a blank. -/
theorem join_any {w : World} {base n : Nat} {v : Value} {L : List (List UInt8)} (h : w.ownsRow base 9 1 v n (cellsS L)) (hs : ∀ x ∈ L, x.length ≤ 75) (hn : n ≤ 2000000) :
    Calls Tryd.prog 31 #[v, .string ⟨#[32]⟩] w fun e w' => e = .returned (.string (bS (jnW L))) ∧ Below w.heap.size w w' := by
  obtain ⟨hl, _⟩ := rowS_cells h
  obtain ⟨a, cp, rfl, hc⟩ := own_shapeS h
  by_cases hL : L = []
  · subst hL
    subst hl
    refine (Tryd.strings_Join_none a cp ⟨#[32]⟩ w).mono ?_
    rintro e w' ⟨rfl, rfl⟩
    exact ⟨rfl, Below.refl _ _⟩
  · obtain ⟨g, rfl, hg, hnc, hcell⟩ := hc hL
    have e1 : (L.map bS).map (·.data.toList) = L := by
      rw [List.map_map]
      have : ((fun x : ByteArray => x.data.toList) ∘ bS) = id := by
        funext x
        exact bS_list x
      rw [this, List.map_id]
    have hj := jn_len L hs
    have := Tryd.strings_Join g 0 cp (L.map bS) ⟨#[32]⟩ w (fun j x hx => by
      rw [List.getElem?_map] at hx
      cases hq : L[j]? with
      | none => rw [hq] at hx; cases hx
      | some y =>
        rw [hq] at hx
        injection hx with hx
        rw [Nat.zero_add, hcell j y hq, hx]) hg (by rw [List.length_map]; omega) (by rw [List.length_map]; omega) (by
      rw [e1]
      show (List.intercalate [32] L).length ≤ _
      rw [join_jn]
      omega)
    rw [e1, List.length_map, ← hl] at this
    refine this.mono ?_
    rintro e w' ⟨rfl, hb⟩
    refine ⟨?_, hb⟩
    show _ = Ending.returned (Value.string (bS (jnW L)))
    rw [← join_jn]
    rfl
end Go.Proofs.YtdgepnfgjgbkoabDoor
