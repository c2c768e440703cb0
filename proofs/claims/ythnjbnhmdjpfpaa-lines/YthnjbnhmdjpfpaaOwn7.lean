/-
  Rows that the call made, of things of several cells; one thing laid behind them.
-/
import Derived.Test.YthnjbnhmdjpfpaaCpy
import Derived.OwnWalk
import Derived.Laws.OwnMore
import Derived.Deep.AppendLies
namespace Go.Proofs.Ythnjbnhmdjpfpaa
open Go.RowKit

/-- The row v holds the things l. -/
def Ow {α : Type} (cel : α → List Value) (t k : Nat) (w : World) (v : Value) (l : List α) : Prop := w.ownsRow 0 t k v l.length (l.flatMap cel)
theorem Ow.nil {α : Type} (cel : α → List Value) (t k : Nat) (w : World) : Ow cel t k w (.slice none 0 0) ([] : List α) := ⟨by simp, .inl ⟨rfl, rfl⟩⟩
theorem Ow.shape {α : Type} {cel : α → List Value} {t k : Nat} {w : World} {v : Value} {l : List α} (h : Ow cel t k w v l) : ∃ a c, v = .slice a l.length c ∧ (l ≠ [] → ∃ g, a = some ⟨g, 0, none⟩) := by
  obtain ⟨_, ⟨rfl, h2⟩ | ⟨g, cap, cur, rfl, _⟩⟩ := h
  · exact ⟨none, 0, by rw [h2], fun e => absurd (List.eq_nil_of_length_eq_zero h2) e⟩
  · exact ⟨_, cap, rfl, fun _ => ⟨g, rfl⟩⟩
theorem Ow.keep {α : Type} {cel : α → List Value} {t k : Nat} {w w' : World} {v : Value} {l : List α} (h : Ow cel t k w v l) (hk : ∀ g, v.ownBlock = some g → w'.heap[g]? = w.heap[g]?) : Ow cel t k w' v l := by
  obtain ⟨h1, ⟨rfl, h2⟩ | ⟨g, cap, cur, rfl, h3, h4, h5⟩⟩ := h
  · exact ⟨h1, .inl ⟨rfl, h2⟩⟩
  · exact ⟨h1, .inr ⟨g, cap, cur, rfl, h3, (hk g rfl).trans h4, h5⟩⟩
theorem Ow.lt {α : Type} {cel : α → List Value} {t k : Nat} {w : World} {v : Value} {l : List α} (h : Ow cel t k w v l) (g : Nat) (hg : v.ownBlock = some g) : g < w.heap.size := by
  obtain ⟨_, ⟨rfl, _⟩ | ⟨g', cap, cur, rfl, _, h4, _⟩⟩ := h
  · cases hg
  · cases hg; exact (Array.getElem?_eq_some_iff.1 h4).1
theorem Ow.chg {α : Type} {cel : α → List Value} {t k : Nat} {w w' : World} {v : Value} {l : List α} {F : Nat → Prop} (h : Ow cel t k w v l) (hc : Chg F w w') (hn : ∀ g, v.ownBlock = some g → ¬ F g) : Ow cel t k w' v l := h.keep (fun g hg => hc.block g (h.lt g hg) (hn g hg))
theorem Ow.below {α : Type} {cel : α → List Value} {t k : Nat} {w w' : World} {v : Value} {l : List α} (h : Ow cel t k w v l) (hb : Below w.heap.size w w') : Ow cel t k w' v l := h.keep (fun g hg => hb.block g (h.lt g hg))
theorem Ow.cells {α : Type} {cel : α → List Value} {t k : Nat} {w : World} {g n c : Nat} {l : List α} (h : Ow cel t k w (.slice (some ⟨g, 0, none⟩) n c) l) (j : Nat) (hj : j < (l.flatMap cel).length) : w.cell? ⟨g, j, none⟩ = (l.flatMap cel)[j]? := by
  obtain ⟨h1, ⟨h2, _⟩ | ⟨g', cap, cur, h2, _, h4, _, _, _, h5⟩⟩ := h
  · cases h2
  · cases h2
    rw [cell_of_row w g j cur t (0, 0) h4, ← h5, List.getElem?_take, if_pos (by rw [← h1]; exact hj), Array.getElem?_toList]
theorem Ow.frozen {α : Type} {cel : α → List Value} {t k : Nat} {w : World} {g n c : Nat} {l : List α} (h : Ow cel t k w (.slice (some ⟨g, 0, none⟩) n c) l) (j : Nat) : w.frozen? ⟨g, j, none⟩ = false := by
  obtain ⟨h1, ⟨h2, _⟩ | ⟨g', cap, cur, h2, _, h4, _⟩⟩ := h
  · cases h2
  · cases h2
    exact frozen_of_row w g j cur t h4
theorem Ow.cap {α : Type} {cel : α → List Value} {t k : Nat} {w : World} {a : Option Addr} {n c : Nat} {l : List α} (h : Ow cel t k w (.slice a n c) l) : n = l.length ∧ n ≤ c := by
  obtain ⟨h1, ⟨h2, h0⟩ | ⟨g', cap, cur, h2, _, h4, h5, _⟩⟩ := h
  · cases h2; exact ⟨h0.symm, Nat.le_refl _⟩
  · cases h2; exact ⟨rfl, h5⟩
/-- A row without things that lies nowhere. -/
theorem Ow.nowhere {α : Type} {cel : α → List Value} {t k : Nat} {w : World} {n c : Nat} {l : List α} (h : Ow cel t k w (.slice none n c) l) : l = [] := by
  obtain ⟨_, ⟨h2, h0⟩ | ⟨g', cap, cur, h2, _⟩⟩ := h
  · exact List.eq_nil_of_length_eq_zero h0
  · cases h2
theorem wpList_append_ow {α : Type} {cel : α → List Value} {t k : Nat} (hk : ∀ x, (cel x).length = k) (hk0 : 0 < k) (h1 : ∀ x, ∀ v ∈ cel x, v.oneCell' = true) {P : Program} {ops : Array Oper} {rest : List Oper} {op : Oper} {a : Act} {w : World} {Q : Exit → Act → World → Prop} (hgd : op.guard = none) (s x : Operand) (st : TypeId)
    (ho : op.op = .call { callee := .builtin .append, args := #[s, x], argTypes := #[st, st] }) (hu : P.underlying st = some (.slice t)) (z : Value) (bytes : Nat) (hinfo : (P.info? t).map (fun i => (i.zero, i.size, i.bytes)) = some (some z, k, bytes)) (hz : z.cells.size = k)
    (v : Value) (l : List α) (hs : a.eval s = v) (hown : Ow cel t k w v l) (g : Nat) (c : Nat) (y : α) (hx : a.eval x = .slice (some ⟨g, 0, none⟩) 1 c) (hy : ∀ j u, (cel y)[j]? = some u → w.cell? ⟨g, j, none⟩ = some u) (hb : (l.length + 1) * bytes ≤ 140737488355328) (hb2 : l.length + 1 ≤ 281474976710656)
    (h : ∀ g' cap w', Ow cel t k w' (.slice (some ⟨g', 0, none⟩) (l.length + 1) cap) (l ++ [y]) → Chg (fun k => v.ownBlock = some k) w w' → (v.ownBlock = some g' ∨ w.heap.size ≤ g') → wpList P ops Q rest (a.put op.dst (.slice (some ⟨g', 0, none⟩) (l.length + 1) cap)) w') : wpList P ops Q (op :: rest) a w := by
  obtain ⟨i, hi, hz0, hz1, hz2⟩ := info_parts hinfo
  refine wpList_append_lies w hgd s x st ho 0 t i z k bytes hu hi hz0 hz1 hz2 hz hk0 v l.length _ hs hown ⟨g, 0, none⟩ 1 c (cel y) hx (by rw [hk, Nat.one_mul]) (fun j u hu => by rw [addr_add, Nat.zero_add]; exact hy j u hu) (h1 y) (by decide) (by unfold maxLen; omega) hb (Nat.zero_le _) w.heap.size rfl ?_
  intro g' cap w' h2 h3 h4 _
  refine h g' cap w' ?_ ⟨h3.os, h3.tape, h3.output, h3.size, fun k hk hn => h3.block k hk (fun e => hn e.symm)⟩ (h4.imp id (fun e => by omega))
  unfold Ow
  rw [List.flatMap_append, List.length_append, List.length_singleton]
  simpa using h2
theorem wp_append_ow {α : Type} {cel : α → List Value} {t k : Nat} (hk : ∀ x, (cel x).length = k) (hk0 : 0 < k) (h1 : ∀ x, ∀ v ∈ cel x, v.oneCell' = true) {P : Program} {op : Oper} {a : Act} {w : World} {K : Act → World → Prop} {Q : Exit → Act → World → Prop} (s x : Operand) (st : TypeId)
    (ho : op.op = .call { callee := .builtin .append, args := #[s, x], argTypes := #[st, st] }) (hu : P.underlying st = some (.slice t)) (z : Value) (bytes : Nat) (hinfo : (P.info? t).map (fun i => (i.zero, i.size, i.bytes)) = some (some z, k, bytes)) (hz : z.cells.size = k)
    (v : Value) (l : List α) (hs : a.eval s = v) (hown : Ow cel t k w v l) (g : Nat) (c : Nat) (y : α) (hx : a.eval x = .slice (some ⟨g, 0, none⟩) 1 c) (hy : ∀ j u, (cel y)[j]? = some u → w.cell? ⟨g, j, none⟩ = some u) (hb : (l.length + 1) * bytes ≤ 140737488355328) (hb2 : l.length + 1 ≤ 281474976710656)
    (h : ∀ g' cap w', Ow cel t k w' (.slice (some ⟨g', 0, none⟩) (l.length + 1) cap) (l ++ [y]) → Chg (fun k => v.ownBlock = some k) w w' → (v.ownBlock = some g' ∨ w.heap.size ≤ g') → K (a.put op.dst (.slice (some ⟨g', 0, none⟩) (l.length + 1) cap)) w') : op.wp P a w K Q := by
  obtain ⟨i, hi, hz0, hz1, hz2⟩ := info_parts hinfo
  refine wp_append_lies w s x st ho 0 t i z k bytes hu hi hz0 hz1 hz2 hz hk0 v l.length _ hs hown ⟨g, 0, none⟩ 1 c (cel y) hx (by rw [hk, Nat.one_mul]) (fun j u hu => by rw [addr_add, Nat.zero_add]; exact hy j u hu) (h1 y) (by decide) (by unfold maxLen; omega) hb (Nat.zero_le _) w.heap.size rfl ?_
  intro g' cap w' h2 h3 h4 _
  refine h g' cap w' ?_ ⟨h3.os, h3.tape, h3.output, h3.size, fun k hk hn => h3.block k hk (fun e => hn e.symm)⟩ (h4.imp id (fun e => by omega))
  unfold Ow
  rw [List.flatMap_append, List.length_append, List.length_singleton]
  simpa using h2
/-- Cells that a block of one thing holds. -/
theorem new_cells {w : World} {t : TypeId} (cs : List Value) (j : Nat) (u : Value) (h : cs[j]? = some u) : (w.alloc (.cells cs.toArray t)).cell? ⟨w.heap.size, j, none⟩ = some u := by
  rw [(Lies.new w cs.toArray t).cell, List.getElem?_toArray]
  exact h
end Go.Proofs.Ythnjbnhmdjpfpaa
