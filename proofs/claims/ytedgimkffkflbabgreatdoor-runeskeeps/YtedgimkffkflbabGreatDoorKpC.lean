/-
  copy over a list of runes.
-/
import Derived.Test.YtedgimkffkflbabGreatDoorKpA
namespace Go.Proofs.YtedgimkffkflbabGreatDoor
open Go.RowKit

/-- A list of which the first ones are those of another. -/
def over (l m : List Int) : List Int := m.take l.length ++ l.drop m.length
theorem over_length (l m : List Int) : (over l m).length = l.length := by
  unfold over
  rw [List.length_append, List.length_take, List.length_drop]
  omega
theorem over_mem (l m : List Int) {P : Int → Prop} (h1 : ∀ x ∈ l, P x) (h2 : ∀ x ∈ m, P x) : ∀ x ∈ over l m, P x := by
  intro x hx
  unfold over at hx
  rw [List.mem_append] at hx
  rcases hx with hx | hx
  · exact h2 x (List.mem_of_mem_take hx)
  · exact h1 x (List.mem_of_mem_drop hx)
theorem size1 : (Tryz.prog.info? 21).map (·.size) = some 1 := by kernel_rfl
/-- copy over the numbers at the head of a block that lies open. -/
theorem wpList_copy_over {ops : Array Oper} {rest : List Oper} {o : Oper} {a : Act} {w : World} {Q : Exit → Act → World → Prop} (hgd : o.guard = none) (d s : Operand)
    (ho : o.op = .call { callee := .builtin .copy, args := #[d, s], argTypes := #[22, 22] }) (g n dc : Nat) (hd : a.eval d = .slice (some ⟨g, 0, none⟩) n dc) (l : List Int) (tail : List Value) (hn : n = l.length) (hg : Lies w g (cellsN .i32 l ++ tail).toArray 21)
    (oa : Option Addr) (m : List Int) (on oc : Nat) (hs : a.eval s = .slice oa on oc) (hon : on = m.length) (hb : Nts .i32 oa m w)
    (h : ∀ w', Lies w' g (cellsN .i32 (over l m) ++ tail).toArray 21 → But g w w' → wpList Tryz.prog ops Q rest (a.put o.dst (goInt (Nat.min on n))) w') : wpList Tryz.prog ops Q (o :: rest) a w := by
  by_cases hmin : Nat.min on n = 0
  · refine wpList_copy_nothing hgd d s 22 22 ho 21 Tryz.underlying22 size1 _ _ _ _ _ _ hd hs hmin ?_
    have e : over l m = l := by
      have h0 : on = 0 ∨ n = 0 := by
        have := hmin
        simp only [Nat.min_def] at this
        split at this <;> omega
      unfold over
      rcases h0 with h0 | h0
      · have : m = [] := List.eq_nil_of_length_eq_zero (by omega)
        rw [this]
        simp
      · have : l = [] := List.eq_nil_of_length_eq_zero (by omega)
        rw [this]
        simp
    have := h w (by rw [e]; exact hg) (But.refl _ _)
    rw [hmin] at this
    exact this
  · have hpos : 0 < on ∧ 0 < n := by
      have := hmin
      simp only [Nat.min_def] at this
      split at this <;> omega
    cases oa with
    | none =>
      have := nts_none hb
      rw [this] at hon
      simp at hon
      omega
    | some ad =>
      have hk : (m.take n).length = Nat.min on n := by
        rw [List.length_take, hon]
        exact Nat.min_comm _ _
      have hkn : Nat.min on n ≤ n := Nat.min_le_right _ _
      refine wpList_copy_own hgd d s 22 22 ho 21 Tryz.underlying22 size1 g 0 n dc ad on oc hd hs (cellsN .i32 l ++ tail).toArray 21 hg (cellsN .i32 (m.take n)) (by rw [cellsN_length]; exact hk) ?_ ?_ (cellsN_one .i32 _) ?_
      · intro j v hv
        refine nts_news hb j v ?_
        have hj := (List.getElem?_eq_some_iff.1 hv).1
        rw [cellsN_length] at hj
        rw [← hv]
        unfold cellsN
        rw [List.length_take] at hj
        rw [List.getElem?_map, List.getElem?_map, List.getElem?_take, if_pos (by omega)]
      · rw [cellsN_length, hk, List.size_toArray, List.length_append, cellsN_length]
        omega
      · have e : ((cellsN .i32 l ++ tail).toArray.toList.take 0 ++ (cellsN .i32 (m.take n) ++ (cellsN .i32 l ++ tail).toArray.toList.drop (0 + (cellsN .i32 (m.take n)).length))) = cellsN .i32 (over l m) ++ tail := by
          rw [List.take_zero, List.nil_append, Nat.zero_add, cellsN_length, hk]
          show _ ++ List.drop _ (cellsN .i32 l ++ tail) = _
          rw [List.drop_append_of_le_length (by rw [cellsN_length]; omega), ← List.append_assoc]
          congr 1
          unfold over
          rw [cellsN_append, ← hn]
          congr 1
          unfold cellsN
          rw [← List.map_drop]
          congr 1
          by_cases hc : on ≤ n
          · rw [show Nat.min on n = on from Nat.min_eq_left hc, hon]
          · rw [show Nat.min on n = n from Nat.min_eq_right (by omega), List.drop_eq_nil_of_le (by omega), List.drop_eq_nil_of_le (by omega)]
        rw [e, cellsN_length, hk]
        exact h _ (hg.row _) ⟨rfl, rfl, rfl, by simp [World.setRow], fun k hk' hne => setRow_other w g k _ hne⟩
theorem nts_lies {w : World} {g : Nat} {l : List Int} {tail : List Value} (h : Lies w g (cellsN .i32 l ++ tail).toArray 21) : Nts .i32 (some ⟨g, 0, none⟩) l w := by
  refine .inr ⟨g, 0, rfl, h.lt, fun j hj => ?_⟩
  rw [Nat.zero_add, h.cell j, List.getElem?_toArray, List.getElem?_append_left (by rw [cellsN_length]; exact hj), cellsN_at .i32 l j hj]
/-- A row with room behind it, as its block holds it. -/
theorem own_head {w : World} {B n : Nat} {v : Value} {l : List Int} (hn : n = l.length) (h : w.ownsRow B 21 1 v (n + 80) (cellsN .i32 (roomI l 80))) :
    ∃ g cap tail, v = .slice (some ⟨g, 0, none⟩) (n + 80) cap ∧ B ≤ g ∧ n + 80 ≤ cap ∧ Lies w g (cellsN .i32 l ++ tail).toArray 21 ∧ tail.take 80 = cellsN .i32 (List.replicate 80 165) := by
  rcases h.2 with ⟨_, h0⟩ | ⟨g, cap, cur, hv, hb, hg, hc, _, hs, ht⟩
  · omega
  · rw [Nat.mul_one] at ht
    unfold roomI at ht
    rw [cellsN_append] at ht
    have e : cur.toList = cellsN .i32 l ++ cur.toList.drop n := by
      have h1 : cur.toList.take n = cellsN .i32 l := by
        have := congrArg (List.take n) ht
        rw [List.take_take, Nat.min_eq_left (by omega), List.take_append_of_le_length (by rw [cellsN_length]; omega)] at this
        exact this.trans (List.take_of_length_le (by rw [cellsN_length]; omega))
      rw [← h1, List.take_append_drop]
    refine ⟨g, cap, cur.toList.drop n, hv, hb, hc, ?_, ?_⟩
    · rw [← e]
      exact hg
    · have := congrArg (List.drop n) ht
      have e0 : List.drop n (cellsN .i32 l) = [] := List.drop_eq_nil_of_le (by rw [cellsN_length]; omega)
      rw [List.drop_append_of_le_length (by rw [cellsN_length]; omega), e0, List.nil_append, List.drop_take, show n + 80 - n = 80 from by omega] at this
      exact this
theorem head_room {w : World} {g : Nat} {l : List Int} {tail : List Value} (h : Lies w g (cellsN .i32 l ++ tail).toArray 21) (ht : tail.take 80 = cellsN .i32 (List.replicate 80 165)) : Nts .i32 (some ⟨g, 0, none⟩) (roomI l 80) w := by
  have e : cellsN .i32 l ++ tail = cellsN .i32 (roomI l 80) ++ tail.drop 80 := by
    unfold roomI
    rw [cellsN_append, List.append_assoc, ← ht, List.take_append_drop]
  rw [e] at h
  exact nts_lies h
/-- copy over a row of the call's own. -/
theorem wpList_copy_now {ops : Array Oper} {rest : List Oper} {o : Oper} {a : Act} {w : World} {Q : Exit → Act → World → Prop} (hgd : o.guard = none) (d s : Operand)
    (ho : o.op = .call { callee := .builtin .copy, args := #[d, s], argTypes := #[22, 22] }) (B n dc : Nat) (av : Option Addr) (hd : a.eval d = .slice av n dc) (l : List Int) (hn : n = l.length) (hown : w.ownsRow B 21 1 (.slice av n dc) n (cellsN .i32 l))
    (oa : Option Addr) (m : List Int) (on oc : Nat) (hs : a.eval s = .slice oa on oc) (hon : on = m.length) (hb : Nts .i32 oa m w)
    (h : ∀ w', Nts .i32 av (over l m) w' → w.grownBy w' (Value.slice av n dc).ownBlock → wpList Tryz.prog ops Q rest (a.put o.dst (goInt (Nat.min on n))) w') : wpList Tryz.prog ops Q (o :: rest) a w := by
  rcases id hown.2 with ⟨hv, h0⟩ | ⟨g, cap, cur, hv, hB, hg, hc, _, hsz, ht⟩
  · injection hv with e1 e2 e3
    subst e1 e3
    have hl : l = [] := List.eq_nil_of_length_eq_zero (by omega)
    have hmin : Nat.min on n = 0 := by rw [h0]; exact Nat.min_zero _
    refine wpList_copy_nothing hgd d s 22 22 ho 21 Tryz.underlying22 size1 _ _ _ _ _ _ hd hs hmin ?_
    have := h w (.inl (by rw [hl]; simp [over])) (World.grownBy.refl w _)
    rw [hmin] at this
    exact this
  · injection hv with e1 e2 e3
    subst e1 e3
    rw [Nat.mul_one] at ht
    have e : cur.toList = cellsN .i32 l ++ cur.toList.drop n := by rw [← ht, List.take_append_drop]
    have hg2 : Lies w g (cellsN .i32 l ++ cur.toList.drop n).toArray 21 := by
      rw [← e]
      exact hg
    refine wpList_copy_over hgd d s ho g n dc hd l _ hn hg2 oa m on oc hs hon hb ?_
    intro w' h1 h2
    exact h w' (nts_lies h1) ⟨h2.os, h2.tape, h2.output, h2.size, fun k hk hne => h2.block k hk (fun e => hne (by rw [e]; rfl))⟩
end Go.Proofs.YtedgimkffkflbabGreatDoor
