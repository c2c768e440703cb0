/-
  A hash in memory, and what taking bytes does to it, without the walks.
-/
import Derived.Test.YtlkflikhbkhpeabDoorDig
import Derived.Laws.CopyOwn
namespace Go.Proofs.YtlkflikhbkhpeabDoor
open Go.RowKit

/-- Nothing but block g has turned; more may lie behind. -/
structure But (g : Nat) (w w' : World) : Prop where
  os : w'.os = w.os
  tape : w'.tape = w.tape
  output : w'.output = w.output
  size : w.heap.size ≤ w'.heap.size
  block : ∀ k, k < w.heap.size → k ≠ g → w'.heap[k]? = w.heap[k]?

theorem But.refl (g : Nat) (w : World) : But g w w := ⟨rfl, rfl, rfl, Nat.le_refl _, fun _ _ _ => rfl⟩
theorem But.trans {g : Nat} {a b c : World} (h : But g a b) (k : But g b c) : But g a c :=
  ⟨k.os.trans h.os, k.tape.trans h.tape, k.output.trans h.output, Nat.le_trans h.size k.size, fun j hj hne => (k.block j (Nat.lt_of_lt_of_le hj h.size) hne).trans (h.block j hj hne)⟩
theorem But.set {g : Nat} {w w' : World} (h : But g w w') (j : Nat) (v : Value) : But g w (w'.setCell ⟨g, j, none⟩ v) :=
  ⟨h.os, h.tape, h.output, by rw [World.size_setCell]; exact h.size, fun k hk hne => (Below.heap_setCell _ _ _ _ hne).trans (h.block k hk hne)⟩
theorem But.row {g : Nat} {w w' : World} (h : But g w w') (cs : Array Value) : But g w (w'.setRow g cs) :=
  ⟨h.os, h.tape, h.output, by simp [World.setRow]; exact h.size, fun k hk hne => (setRow_other _ _ _ _ hne).trans (h.block k hk hne)⟩
theorem But.below {g B : Nat} {w w' : World} (h : But g w w') (hB : B ≤ g) (hs : B ≤ w.heap.size) : Below B w w' :=
  ⟨h.os, h.tape, h.output, h.size, fun k hk => h.block k (by omega) (by omega)⟩
theorem But.of_below {g : Nat} {w w' : World} (h : Below w.heap.size w w') : But g w w' := ⟨h.os, h.tape, h.output, h.size, fun k hk _ => h.block k hk⟩
theorem But.lies {g k : Nat} {w w' : World} {cs : Array Value} {t : TypeId} (h : But g w w') (hl : Lies w k cs t) (hne : k ≠ g) : Lies w' k cs t := (h.block k hl.lt hne).trans hl
theorem But.bts {g : Nat} {a : Option Addr} {l : List UInt8} {w w' : World} (h : But g w w') (hb : Bts a l w) (hne : ∀ ad, a = some ad → ad.block ≠ g) : Bts a l w' := by
  rcases hb with hb | ⟨b, o, e, hb, hr⟩
  · exact .inl hb
  · exact .inr ⟨b, o, e, Nat.lt_of_lt_of_le hb h.size, fun j hj => (World.cell?_of_block (w := w) (a := ⟨b, o + j, none⟩) (h.block b hb (hne _ e))).trans (hr j hj)⟩
theorem But.tabs {g : Nat} {w w' : World} (h : But g w w') (ht : Tabs w) (hg : 2 ≤ g) : Tabs w' := ht.belowB (h.below (B := 2) hg ht.size) (Nat.le_refl _)

/-- What a hash's block holds. -/
def hvL (m : Bool) (r : Rg) (row : List UInt8) (n : Nat) : List Value := .bool m :: ((rgv r).toList ++ (cellsB row ++ [.int .i64 (n : Int)]))
def hv (m : Bool) (r : Rg) (row : List UInt8) (n : Nat) : Array Value := (hvL m r row n).toArray
theorem hvL_length (m : Bool) (r : Rg) (row : List UInt8) (n : Nat) (h : row.length = 64) : (hvL m r row n).length = 70 := by simp [hvL, rgv, cellsB, h]
theorem hv_size (m : Bool) (r : Rg) (row : List UInt8) (n : Nat) (h : row.length = 64) : (hv m r row n).size = 70 := by rw [hv, List.size_toArray, hvL_length _ _ _ _ h]
theorem hv_one (m : Bool) (r : Rg) (row : List UInt8) (n : Nat) : (hv m r row n).all (·.oneCell') = true := by
  refine all_oneCell_toArray fun v hv => ?_
  simp only [hvL, rgv, List.mem_cons, List.mem_append, List.not_mem_nil, or_false] at hv
  rcases hv with rfl | (rfl | rfl | rfl | rfl) | h | rfl
  · rfl
  · rfl
  · rfl
  · rfl
  · rfl
  · exact cellsB_one row v h
  · rfl
theorem hv_made (m : Bool) (r : Rg) (row : List UInt8) (n : Nat) : (hv m r row n)[0]? = some (.bool m) := rfl
theorem hv_len (m : Bool) (r : Rg) (row : List UInt8) (n : Nat) (h : row.length = 64) : (hv m r row n)[69]? = some (.int .i64 (n : Int)) := by
  rw [hv, List.getElem?_toArray]
  unfold hvL
  rw [List.getElem?_cons_succ, List.getElem?_append_right (by simp [rgv]), List.getElem?_append_right (by simp [rgv, cellsB, h])]
  simp [rgv, cellsB, h]
theorem hv_reg {w : World} {g : Nat} {m : Bool} {r : Rg} {row : List UInt8} {n : Nat} {t : TypeId} (h : Lies w g (hv m r row n) t) : w.rangeAt g 1 (rgv r).toList := by
  intro j v hj
  have hlt := (List.getElem?_eq_some_iff.1 hj).1
  rw [h.cell (1 + j), hv, List.getElem?_toArray, Nat.add_comm 1 j]
  unfold hvL
  rw [List.getElem?_cons_succ, List.getElem?_append_left hlt, hj]
theorem hv_row {w : World} {g : Nat} {m : Bool} {r : Rg} {row : List UInt8} {n : Nat} {t : TypeId} (h : Lies w g (hv m r row n) t) : w.rangeAt g 5 (cellsB row) := by
  intro j v hj
  have hlt := (List.getElem?_eq_some_iff.1 hj).1
  rw [h.cell (5 + j), hv, List.getElem?_toArray, show 5 + j = (4 + j) + 1 by omega]
  unfold hvL
  rw [List.getElem?_cons_succ, List.getElem?_append_right (by simp [rgv]), show 4 + j - (rgv r).toList.length = j by simp [rgv], List.getElem?_append_left hlt, hj]
theorem hv_setLen (m : Bool) (r : Rg) (row : List UInt8) (n k : Nat) (h : row.length = 64) : (hv m r row n).setIfInBounds 69 (.int .i64 (k : Int)) = hv m r row k := by
  unfold hv hvL
  rw [List.setIfInBounds_toArray, List.set_cons_succ, List.set_append_right _ _ (by simp [rgv]), List.set_append_right _ _ (by simp [rgv, cellsB, h])]
  simp [rgv, cellsB, h]
theorem hv_setReg (m : Bool) (r r' : Rg) (row : List UInt8) (n : Nat) : splice (hvL m r row n) 1 (rgv r').toList = hvL m r' row n := by
  simp [splice, hvL, rgv]
theorem cellsB_splice (l cs : List UInt8) (o : Nat) : cellsB (splice l o cs) = splice (cellsB l) o (cellsB cs) := by
  simp [splice, cellsB]
theorem hv_setRow (m : Bool) (r : Rg) (row : List UInt8) (n k : Nat) (cs : List UInt8) (h : k + cs.length ≤ row.length) : splice (hvL m r row n) (5 + k) (cellsB cs) = hvL m r (splice row k cs) n := by
  have e1 : (hvL m r row n).take (5 + k) = .bool m :: ((rgv r).toList ++ (cellsB row).take k) := by
    unfold hvL
    rw [show 5 + k = (4 + k) + 1 by omega, List.take_succ_cons, List.take_append, List.take_of_length_le (by simp [rgv]), show 4 + k - (rgv r).toList.length = k by simp [rgv], List.take_append_of_le_length (by rw [cellsB_length]; omega)]
  have e2 : (hvL m r row n).drop (5 + k + (cellsB cs).length) = (cellsB row).drop (k + (cellsB cs).length) ++ [.int .i64 (n : Int)] := by
    unfold hvL
    rw [show 5 + k + (cellsB cs).length = (4 + (k + (cellsB cs).length)) + 1 by omega, List.drop_succ_cons, List.drop_append, List.drop_eq_nil_of_le (by simp [rgv]), List.nil_append, show 4 + (k + (cellsB cs).length) - (rgv r).toList.length = k + (cellsB cs).length by simp [rgv], List.drop_append_of_le_length (by rw [cellsB_length, cellsB_length]; exact h)]
  show (hvL m r row n).take (5 + k) ++ (cellsB cs ++ (hvL m r row n).drop (5 + k + (cellsB cs).length)) = hvL m r (splice row k cs) n
  rw [e1, e2]
  unfold hvL
  rw [cellsB_splice]
  simp [splice]

/-- Cells written one behind the other into a row. -/
theorem Lies.cells {g : Nat} {t : TypeId} : ∀ (vs : List Value) (o : Nat) (w : World) (L : List Value), Lies w g L.toArray t → o + vs.length ≤ L.length → Lies (w.setCells g o vs) g (splice L o vs).toArray t
  | [], o, w, L, h, _ => by simpa [World.setCells, splice] using h
  | v :: vs, o, w, L, h, hl => by
    rw [World.setCells]
    have h1 : Lies (w.setCell ⟨g, o, none⟩ v) g (L.set o v).toArray t := by
      have := h.set o v
      rwa [List.setIfInBounds_toArray] at this
    have h2 := Lies.cells vs (o + 1) _ (L.set o v) h1 (by simp at hl ⊢; omega)
    have e : splice (L.set o v) (o + 1) vs = splice L o (v :: vs) := by
      simp only [List.length_cons] at hl
      unfold splice
      rw [List.take_set, List.drop_set_of_lt (by omega), List.take_succ_eq_append_getElem (by omega), List.set_append_right _ _ (by simp; omega)]
      simp [Nat.min_eq_left (show o ≤ L.length by omega), Nat.add_assoc, Nat.add_comm 1]
    rw [e] at h2
    exact h2
theorem But.cells {g : Nat} {w : World} : ∀ (vs : List Value) (o : Nat) (w' : World), But g w w' → But g w (w'.setCells g o vs)
  | [], _, _, h => h
  | v :: vs, o, w', h => by
    rw [World.setCells]
    exact But.cells vs (o + 1) _ (h.set o v)

/-- The register is written. -/
theorem wp_store_reg {o : Oper} {a : Act} {w : World} {K : Act → World → Prop} {Q : Exit → Act → World → Prop} (x y : Operand) (ho : o.op = .store 43 x y)
    (g : Nat) (hx : a.eval x = .pointer (some ⟨g, 1, none⟩)) (r' : Rg) (hy : a.eval y = .agg (rgv r')) (m : Bool) (r : Rg) (row : List UInt8) (n : Nat) (hrow : row.length = 64) (hl : Lies w g (hv m r row n) 46)
    (hd : o.dst = none) (h : ∀ w', Lies w' g (hv m r' row n) 46 → But g w w' → K a w') : o.wp Tryd.prog a w K Q := by
  have ht : w.there g 1 (rgv r').size := fun j hj => by
    have hj' : j < (rgv r).toList.length := hj
    exact ⟨by rw [hv_reg hl j _ (List.getElem?_eq_getElem hj')]; rfl, hl.frozen _⟩
  refine wp_store_mid 43 x y ho g 1 (rgv r') hx hy ht (infoRg r') (rgv_one r') ?_
  rw [hd]
  have h2 := Lies.cells (rgv r').toList 1 w (hvL m r row n) hl (by rw [hvL_length _ _ _ _ hrow]; simp [rgv])
  rw [hv_setReg] at h2
  exact h _ h2 (But.cells _ _ _ (But.refl g w))

/-- copy into the bytes that wait. -/
theorem wpList_copy_row {ops : Array Oper} {rest : List Oper} {o : Oper} {a : Act} {w : World} {Q : Exit → Act → World → Prop} (hgd : o.guard = none) (d s : Operand)
    (ho : o.op = .call { callee := .builtin .copy, args := #[d, s], argTypes := #[22, 22] }) (g k : Nat) (sp : Option Addr) (dCap sCap : Nat) (l : List UInt8)
    (hd : a.eval d = .slice (some ⟨g, 5 + k, none⟩) (64 - k) dCap) (hs : a.eval s = .slice sp l.length sCap) (hb : Bts sp l w)
    (m : Bool) (r : Rg) (row : List UInt8) (n : Nat) (hrow : row.length = 64) (hk : k ≤ 64) (hl : Lies w g (hv m r row n) 46) (c : Nat) (hc : c = Nat.min l.length (64 - k))
    (h : ∀ w', Lies w' g (hv m r (splice row k (l.take c)) n) 46 → But g w w' → wpList Tryd.prog ops Q rest (a.put o.dst (goInt c)) w') : wpList Tryd.prog ops Q (o :: rest) a w := by
  have hcl : (l.take c).length = c := by rw [List.length_take, hc]; exact Nat.min_eq_left (Nat.min_le_left _ _)
  have hck : k + c ≤ 64 := by have : c ≤ 64 - k := by rw [hc]; exact Nat.min_le_right _ _
                              omega
  by_cases h0 : c = 0
  · subst h0
    refine wpList_copy_nothing hgd d s 22 22 ho 5 Tryd.underlying22 (by kernel_rfl) _ _ _ _ _ _ hd hs hc.symm ?_
    refine h w ?_ (But.refl g w)
    simpa [splice] using hl
  · rcases hb with rfl | ⟨gb, ob, rfl, hgb, hrb⟩
    · simp at hc
      exact absurd hc h0
    · refine wpList_copy_own hgd d s 22 22 ho 5 Tryd.underlying22 (by kernel_rfl) g (5 + k) (64 - k) dCap ⟨gb, ob, none⟩ l.length sCap hd hs (hv m r row n) 46 hl (cellsB (l.take c)) (by rw [cellsB_length, hcl, hc]) ?_ (by rw [cellsB_length, hcl, hv_size _ _ _ _ hrow]; omega) (cellsB_one _) ?_
      · intro j v hj
        have hj' : j < (l.take c).length := by
          have := (List.getElem?_eq_some_iff.1 hj).1
          rwa [cellsB_length] at this
        have hjl : j < l.length := by rw [List.length_take] at hj'; omega
        rw [Addr.add_lit, hrb j hjl, ← hj, cellsB_at _ j hj', List.getElem_take]
      · have e := hv_setRow m r row n k (l.take c) (by rw [hcl, hrow]; exact hck)
        have e2 : ((hv m r row n).toList.take (5 + k) ++ (cellsB (l.take c) ++ (hv m r row n).toList.drop (5 + k + (cellsB (l.take c)).length))).toArray = hv m r (splice row k (l.take c)) n := by
          exact congrArg List.toArray e
        rw [e2]
        have e3 : (cellsB (l.take c)).length = c := by rw [cellsB_length, hcl]
        rw [e3]
        exact h _ (hl.row _) ((But.refl g w).row _)
end Go.Proofs.YtlkflikhbkhpeabDoor
