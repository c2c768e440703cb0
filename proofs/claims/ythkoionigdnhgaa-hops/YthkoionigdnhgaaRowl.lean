/-
  Whole rows of numbers, out of and into blocks.
-/
import Derived.Test.YthkoionigdnhgaaProg
import Derived.WalkKit
import Derived.WalkSpells
import Derived.Below
import Derived.Deep.WholeRow
import Derived.Deep.MidRow
import Derived.Laws.ResultCell
import Derived.Deep.QuietTactic
import Derived.BigQuiet
namespace Go.Proofs.Ythkoionigdnhgaa
open Go.RowKit

/-- The block g holds the row cs. -/
def Lies (w : World) (g : Nat) (cs : Array Value) (t : TypeId) : Prop := w.heap[g]? = some (.cells cs t (0, 0))

theorem Lies.lt {w : World} {g : Nat} {cs : Array Value} {t : TypeId} (h : Lies w g cs t) : g < w.heap.size := (Array.getElem?_eq_some_iff.1 h).1
theorem Lies.new (w : World) (cs : Array Value) (t : TypeId) : Lies (w.alloc (.cells cs t)) w.heap.size cs t := heap_alloc_last w _
theorem Lies.alloc {w : World} {g : Nat} {cs : Array Value} {t : TypeId} (h : Lies w g cs t) (o : Obj) : Lies (w.alloc o) g cs t :=
  (Below.heap_alloc w o g h.lt).trans h
theorem Lies.below {w w' : World} {g B : Nat} {cs : Array Value} {t : TypeId} (h : Lies w g cs t) (hb : Below B w w') (hg : g < B) : Lies w' g cs t := (hb.block g hg).trans h
theorem Lies.drew {w : World} {g : Nat} {cs : Array Value} {t : TypeId} (h : Lies w g cs t) : Lies w.drew g cs t := h
theorem Lies.drewN {w : World} {g : Nat} {cs : Array Value} {t : TypeId} (h : Lies w g cs t) (n : Nat) : Lies (w.drewN n) g cs t := h
theorem Lies.set {w : World} {g : Nat} {cs : Array Value} {t : TypeId} (h : Lies w g cs t) (k : Nat) (v : Value) : Lies (w.setCell ⟨g, k, none⟩ v) g (cs.setIfInBounds k v) t := by
  have hlt := h.lt
  have hv : w.heap[g] = .cells cs t (0, 0) := (Array.getElem?_eq_some_iff.1 h).2
  unfold Lies World.setCell
  rw [Array.getElem?_eq_getElem (by simpa using hlt), Array.getElem_modify]
  simp [hv]
theorem Lies.set_other {w : World} {g : Nat} {cs : Array Value} {t : TypeId} (h : Lies w g cs t) {a : Addr} (hne : g ≠ a.block) (v : Value) : Lies (w.setCell a v) g cs t :=
  (Below.heap_setCell w a v g hne).trans h
theorem Lies.row {w : World} {g : Nat} {cs : Array Value} {t : TypeId} (h : Lies w g cs t) (ds : Array Value) : Lies (w.setRow g ds) g ds t := setRow_heap w g cs ds t (0, 0) h
theorem Lies.row_other {w : World} {g k : Nat} {cs : Array Value} {t : TypeId} (h : Lies w g cs t) (hne : g ≠ k) (ds : Array Value) : Lies (w.setRow k ds) g cs t :=
  (setRow_other w k g ds hne).trans h
theorem Lies.cell {w : World} {g : Nat} {cs : Array Value} {t : TypeId} (h : Lies w g cs t) (k : Nat) : w.cell? ⟨g, k, none⟩ = cs[k]? := cell_of_row w g k cs t (0, 0) h
theorem Lies.frozen {w : World} {g : Nat} {cs : Array Value} {t : TypeId} (h : Lies w g cs t) (k : Nat) : w.frozen? ⟨g, k, none⟩ = false := frozen_of_row w g k cs t h
theorem below_row {B : Nat} {a w : World} (h : Below B a w) {g : Nat} (hg : B ≤ g) (cs : Array Value) : Below B a (w.setRow g cs) :=
  h.trans ⟨rfl, rfl, rfl, by simp [World.setRow], fun k hk => setRow_other w g k cs (by omega)⟩

theorem wpList_load_row {P : Program} {ops : Array Oper} {rest : List Oper} {op : Oper} {a : Act} {w : World} {Q : Exit → Act → World → Prop} (hgd : op.guard = none) (ty : TypeId) (x : Operand) (ho : op.op = .load ty x)
    (g : Nat) (hx : a.eval x = .pointer (some ⟨g, 0, none⟩)) (cs : Array Value) (t : TypeId) (d : TypeDesc) (hc : Lies w g cs t)
    (hu : P.underlying ty = some d) (hd : (match d with | .struct _ | .array _ _ => true | _ => false) = true) (hi : (P.info? ty).map (·.size) = some cs.size)
    (h : wpList P ops Q rest (a.put op.dst (.agg cs)) w) : wpList P ops Q (op :: rest) a w :=
  wpList_plain hgd fun _ hK => by
    unfold Oper.wp execOp
    simp only [ho, hx, Instr.loadAt, Instr.sureAddr, Sem.run_bind, Sem.run_pure, Result.andThen_ok, run_loadVar_row w g t ty cs (0, 0) d hc hu hd hi]
    exact hK _ _ h

theorem wpList_store_row {P : Program} {ops : Array Oper} {rest : List Oper} {op : Oper} {a : Act} {w : World} {Q : Exit → Act → World → Prop} (hgd : op.guard = none) (ty : TypeId) (x y : Operand) (ho : op.op = .store ty x y)
    (g : Nat) (hx : a.eval x = .pointer (some ⟨g, 0, none⟩)) (old cs : Array Value) (hy : a.eval y = .agg cs) (t : TypeId) (hc : Lies w g old t)
    (hi : (P.info? ty).map (·.size) = some cs.size) (hs : old.size = cs.size) (h1 : cs.all (·.oneCell') = true) (hdst : op.dst = none)
    (h : wpList P ops Q rest a (w.setRow g cs)) : wpList P ops Q (op :: rest) a w :=
  wpList_plain hgd fun _ hK => by
    unfold Oper.wp execOp
    simp only [ho, hx, hy, Instr.storeAt, Instr.sureAddr, Sem.run_bind, Sem.run_pure, Result.andThen_ok, run_storeVar_row w g t ty old cs hc hi hs h1]
    have e : a.put op.dst undef = a := by rw [hdst]; rfl
    exact hK _ _ (by rw [e]; exact h)


/-- The first places of a row are those of another. -/
structure Upto (k : Nat) (c d : Array Value) : Prop where
  size : c.size = d.size
  same : ∀ j, j < k → c[j]? = d[j]?

theorem Upto.next {k : Nat} {c d : Array Value} (h : Upto k c d) {v : Value} (hv : d[k]? = some v) : Upto (k + 1) (c.setIfInBounds k v) d :=
  ⟨by rw [Array.size_setIfInBounds]; exact h.size, fun j hj => by
    have hk : k < c.size := by rw [h.size]; exact (Array.getElem?_eq_some_iff.1 hv).1
    rw [Array.getElem?_setIfInBounds]
    by_cases e : k = j
    · subst e
      rw [if_pos rfl, if_pos hk, hv]
    · rw [if_neg e]
      exact h.same j (by omega)⟩
theorem Upto.all {n : Nat} {c d : Array Value} (h : Upto n c d) (hd : d.size = n) : c = d := by
  apply Array.ext_getElem?
  intro i
  rcases Nat.lt_or_ge i n with hi | hi
  · exact h.same i hi
  · rw [Array.getElem?_eq_none (by rw [h.size, hd]; exact hi), Array.getElem?_eq_none (by rw [hd]; exact hi)]
theorem new_one (w : World) (a : Obj) (cs : Array Value) (t : TypeId) : Lies ((w.alloc a).alloc (.cells cs t)) (w.heap.size + 1) cs t := by
  simpa using Lies.new (w.alloc a) cs t
theorem new_two (w : World) (a b : Obj) (cs : Array Value) (t : TypeId) : Lies (((w.alloc a).alloc b).alloc (.cells cs t)) (w.heap.size + 2) cs t := by
  simpa using Lies.new ((w.alloc a).alloc b) cs t
theorem Lies.range {w : World} {g : Nat} {cs : Array Value} {t : TypeId} (h : Lies w g cs t) : w.rangeAt g 0 cs.toList :=
  fun j v hv => by rw [Nat.zero_add, h.cell j, ← hv, Array.getElem?_toList]
end Go.Proofs.Ythkoionigdnhgaa
