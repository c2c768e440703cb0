/-
  Rows of texts that a call made; slices.Contains of them; worlds of which one block is changed.
-/
import Derived.Test.YtjpmfgmoekpcpabGreatDoorNum
import Derived.Test.YtjpmfgmoekpcpabGreatDoorSpan4
import Derived.Test.YtjpmfgmoekpcpabGreatDoorShc
namespace Go.Proofs.YtjpmfgmoekpcpabGreatDoor
open Go.RowKit

def cellsS (L : List (List UInt8)) : List Value := L.map fun x => Value.string (tx x)
theorem info9 : (Tryz.prog.info? 9).map (fun i => (i.zero, i.size, i.bytes)) = some (some (.string ⟨#[]⟩), 1, 16) := by kernel_rfl
theorem info_partsG {e : TypeId} {z : Value} {n b : Nat} (h : (Tryz.prog.info? e).map (fun i => (i.zero, i.size, i.bytes)) = some (some z, n, b)) : ∃ i, Tryz.prog.info? e = some i ∧ i.zero = some z ∧ i.size = n ∧ i.bytes = b := by
  cases hq : Tryz.prog.info? e with
  | none => rw [hq] at h; cases h
  | some i =>
    rw [hq] at h
    simp at h
    exact ⟨i, rfl, h.1, h.2.1, h.2.2⟩
/-- One text more behind a row of the call's own. -/
theorem wpList_append_str {ops : Array Oper} {rest : List Oper} {o : Oper} {a : Act} {w : World} {Q : Exit → Act → World → Prop} (hgd : o.guard = none) (s x : Operand)
    (ho : o.op = .call { callee := .builtin .append, args := #[s, x], argTypes := #[84, 84] }) (base : Nat) (v : Value) (n : Nat) (xs : List (List UInt8)) (hs : a.eval s = v) (hown : w.ownsRow base 9 1 v n (cellsS xs))
    (g : Nat) (y : List UInt8) (c : Nat) (hx : a.eval x = .slice (some ⟨g, 0, none⟩) 1 c) (hb : w.cell? ⟨g, 0, none⟩ = some (.string (tx y))) (hbytes : (n + 1) * 16 ≤ 140737488355328) (hbase : base ≤ w.heap.size)
    (h : ∀ v' w', w'.ownsRow base 9 1 v' (n + 1) (cellsS (xs ++ [y])) → w.grownBy w' v.ownBlock → wpList Tryz.prog ops Q rest (a.put o.dst v') w') : wpList Tryz.prog ops Q (o :: rest) a w := by
  obtain ⟨i0, hi, hz0, hz1, hz2⟩ := info_partsG info9
  refine wpList_append_own _ hgd s x 84 ho base 9 i0 (.string ⟨#[]⟩) 1 16 Tryz.underlying84 hi hz0 hz1 hz2 rfl (by decide) v n _ hs hown ⟨g, 0, none⟩ 1 c (cellsS [y]) hx rfl (fun j u hu => ?_) (fun v hv => ?_) (by unfold maxLen; omega) hbytes hbase ?_
  · cases j with
    | zero =>
      obtain rfl : Value.string (tx y) = u := by simpa [cellsS] using hu
      exact hb
    | succ j => simp [cellsS] at hu
  · obtain rfl : v = Value.string (tx y) := by simpa [cellsS] using hv
    rfl
  · intro v' w' hown' hgrow _
    exact h v' w' (by unfold cellsS at hown' ⊢; rw [List.map_append]; exact hown') hgrow
theorem contS_eq (L : List (List UInt8)) (y : List UInt8) : Lib.containsS (L.map tx) (tx y) = L.contains y := by
  rw [Bool.eq_iff_iff, Lib.containsS_iff, List.contains_iff_mem, List.mem_map]
  constructor
  · rintro ⟨x, hx, e⟩
    have e2 := congrArg (fun s : ByteArray => s.data.toList) e
    simp only [tx_list] at e2
    rw [← e2]
    exact hx
  · exact fun h => ⟨y, h, rfl⟩
/-- slices.Contains of such a row. -/
theorem cont_own {w : World} {base : Nat} {v : Value} {L : List (List UInt8)} (h : w.ownsRow base 9 1 v L.length (cellsS L)) (y : List UInt8) (hL : L.length ≤ 1125899906842624) :
    Calls Tryz.prog 102 #[v, .string (tx y)] w fun e w' => e = .returned (.bool (L.contains y)) ∧ w' = w := by
  obtain ⟨h1, h2⟩ := id h
  rcases h2 with ⟨rfl, h0⟩ | ⟨g, cap, cur, rfl, hb, hg, hcap, _⟩
  · obtain rfl : L = [] := List.eq_nil_of_length_eq_zero h0
    exact Tryz.slices_Contains_string_empty none 0 (tx y) w
  · have := Tryz.slices_Contains_string g 0 L.length cap (L.map tx) (tx y) w (by rw [List.length_map]; exact Nat.le_refl _) (by omega) (fun j hj => by
      rw [List.length_map] at hj
      have hc := h.cellAt j (by omega)
      rw [Nat.zero_add, hc]
      unfold cellsS
      rw [List.getElem?_map, List.getElem?_eq_getElem hj, List.getD_eq_getElem?_getD, List.getElem?_map, List.getElem?_eq_getElem hj]
      rfl)
    rw [List.take_of_length_le (by rw [List.length_map]; exact Nat.le_refl _), contS_eq] at this
    exact this
theorem grown_two {w w1 w2 : World} {row row2 : Option Nat} (h1 : w.grownBy w1 row) (h2 : w1.grownBy w2 row2) (h : ∀ k, row2 = some k → some k = row ∨ w.heap.size ≤ k) : w.grownBy w2 row :=
  ⟨h2.os.trans h1.os, h2.tape.trans h1.tape, h2.output.trans h1.output, Nat.le_trans h1.size h2.size, fun k hk hne => (h2.block k (Nat.lt_of_lt_of_le hk h1.size) (fun e => by
    rcases h k e.symm with h' | h'
    · exact hne h'
    · omega)).trans (h1.block k hk hne)⟩
theorem grown_below {w w1 w2 : World} {row : Option Nat} (h1 : w.grownBy w1 row) (h2 : Below w1.heap.size w1 w2) : w.grownBy w2 row :=
  ⟨h2.os.trans h1.os, h2.tape.trans h1.tape, h2.output.trans h1.output, Nat.le_trans h1.size h2.size, fun k hk hne => (h2.block k (Nat.lt_of_lt_of_le hk h1.size)).trans (h1.block k hk hne)⟩
end Go.Proofs.YtjpmfgmoekpcpabGreatDoor
