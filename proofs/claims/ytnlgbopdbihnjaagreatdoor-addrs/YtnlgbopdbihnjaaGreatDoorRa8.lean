/-
  The document's Ascii.
-/
import Derived.Test.YtnlgbopdbihnjaaGreatDoorRStp
import Derived.Test.YtnlgbopdbihnjaaGreatDoorRPu
import Derived.Test.YtnlgbopdbihnjaaGreatDoorShd
namespace Go.Proofs.YtnlgbopdbihnjaaGreatDoor
open Go.RowKit

def cellsS (L : List (List UInt8)) : List Value := L.map fun x => Value.string ⟨x.toArray⟩
theorem info9 : (Tryz.prog.info? 9).map (fun i => (i.zero, i.size, i.bytes)) = some (some (.string ⟨#[]⟩), 1, 16) := by kernel_rfl
theorem info_partsG {e : TypeId} {z : Value} {n b : Nat} (h : (Tryz.prog.info? e).map (fun i => (i.zero, i.size, i.bytes)) = some (some z, n, b)) : ∃ i, Tryz.prog.info? e = some i ∧ i.zero = some z ∧ i.size = n ∧ i.bytes = b := by
  cases hq : Tryz.prog.info? e with
  | none => rw [hq] at h; cases h
  | some i =>
    rw [hq] at h
    simp at h
    exact ⟨i, rfl, h.1, h.2.1, h.2.2⟩
/-- One text more behind a row of the call's own. -/
theorem wpList_append_str {ops : Array Oper} {rest : List Oper} {o : Oper} {a : Act} {w : World} {Q : Exit → Act → World → Prop} (hgd : o.guard = none) (s x : Operand)
    (ho : o.op = .call { callee := .builtin .append, args := #[s, x], argTypes := #[79, 79] }) (base : Nat) (v : Value) (n : Nat) (xs : List (List UInt8)) (hs : a.eval s = v) (hown : w.ownsRow base 9 1 v n (cellsS xs))
    (g : Nat) (y : List UInt8) (c : Nat) (hx : a.eval x = .slice (some ⟨g, 0, none⟩) 1 c) (hb : w.cell? ⟨g, 0, none⟩ = some (.string ⟨y.toArray⟩)) (hbytes : (n + 1) * 16 ≤ 140737488355328) (hbase : base ≤ w.heap.size)
    (h : ∀ v' w', w'.ownsRow base 9 1 v' (n + 1) (cellsS (xs ++ [y])) → w.grownBy w' v.ownBlock → wpList Tryz.prog ops Q rest (a.put o.dst v') w') : wpList Tryz.prog ops Q (o :: rest) a w := by
  obtain ⟨i0, hi, hz0, hz1, hz2⟩ := info_partsG info9
  refine wpList_append_own _ hgd s x 79 ho base 9 i0 (.string ⟨#[]⟩) 1 16 Tryz.underlying79 hi hz0 hz1 hz2 rfl (by decide) v n _ hs hown ⟨g, 0, none⟩ 1 c (cellsS [y]) hx rfl (fun j u hu => ?_) (fun v hv => ?_) (by unfold maxLen; omega) hbytes hbase ?_
  · cases j with
    | zero =>
      obtain rfl : Value.string ⟨y.toArray⟩ = u := by simpa [cellsS] using hu
      exact hb
    | succ j => simp [cellsS] at hu
  · obtain rfl : v = Value.string ⟨y.toArray⟩ := by simpa [cellsS] using hv
    rfl
  · intro v' w' hown' hgrow _
    exact h v' w' (by unfold cellsS at hown' ⊢; rw [List.map_append]; exact hown') hgrow
/-- The texts of a row that the call made. -/
theorem own_strs {w : World} {base n : Nat} {v : Value} {L : List (List UInt8)} (h : w.ownsRow base 9 1 v n (cellsS L)) (hL : L ≠ []) : ∃ g cap, v = .slice (some ⟨g, 0, none⟩) L.length cap ∧ L.length ≤ cap ∧ base ≤ g ∧ g < w.heap.size ∧ ∀ (j : Nat) x, (L.map fun l => (⟨l.toArray⟩ : ByteArray))[j]? = some x → w.cell? ⟨g, 0 + j, none⟩ = some (.string x) := by
  obtain ⟨h1, h2⟩ := id h
  have hl : L.length = n := by simp [cellsS] at h1; omega
  rcases h2 with ⟨rfl, h0⟩ | ⟨g, cap, cur, rfl, hb, hg, hcap, _⟩
  · exact absurd (List.eq_nil_of_length_eq_zero (hl.trans h0)) hL
  · subst hl
    refine ⟨g, cap, rfl, hcap, hb, (Array.getElem?_eq_some_iff.1 hg).1, fun j x hx => ?_⟩
    rw [List.getElem?_map] at hx
    obtain ⟨l, hl, rfl⟩ := Option.map_eq_some_iff.1 hx
    have hj : j < L.length := (List.getElem?_eq_some_iff.1 hl).1
    have := h.cellAt j (by omega)
    rw [Nat.zero_add, this]
    unfold cellsS
    rw [List.getElem?_map, hl]
    rfl
theorem join_own {w : World} {base n : Nat} {v : Value} {L : List (List UInt8)} (h : w.ownsRow base 9 1 v n (cellsS L)) (hL : L ≠ []) (sep : ByteArray) (hz : L.length ≤ 1000000) (hlen : (joinL sep.data.toList L).length ≤ 140737488355328) :
    Calls Tryz.prog 50 #[v, .string sep] w fun e w' => e = .returned (.string ⟨(joinL sep.data.toList L).toArray⟩) ∧ Below w.heap.size w w' := by
  obtain ⟨g, cap, rfl, hc, _, hg, hcells⟩ := own_strs h hL
  have := Tryz.strings_Join g 0 cap (L.map fun l => (⟨l.toArray⟩ : ByteArray)) sep w hcells hg (by rw [List.length_map]; omega) (by rw [List.length_map]; exact hc) (by rw [texts_back, join_joinL]; exact hlen)
  rw [texts_back, join_joinL, List.length_map] at this
  exact this
end Go.Proofs.YtnlgbopdbihnjaaGreatDoor
