/-
  The script of calls, as it lies in memory; a part of what is told of one step.
-/
import Derived.Test.YtekjhfhakodooaaPlaySt
import Derived.Deep.RegionHeld3
namespace Go.Proofs.Ytekjhfhakodooaa
open Go.RowKit

/-- One step of the script. -/
structure Stp where
  kind : Int
  who : Int
  to : Int
  ap : Option Addr
  bytes : List UInt8
  cp : Nat
/-- A step's four cells. -/
def Stp.cells (t : Stp) : Array Value := #[.int .i64 t.kind, .int .i64 t.who, .int .i64 t.to, .slice t.ap t.bytes.length t.cp]
/-- The script. -/
def Steps (a : Option Addr) (st : List Stp) (w : World) : Prop := st = [] ∨ ∃ g o, a = some ⟨g, o, none⟩ ∧ g < w.heap.size ∧ ∀ j, (h : j < st.length) →
  w.cell? ⟨g, o + j * 4, none⟩ = some (.int .i64 st[j].kind) ∧ w.cell? ⟨g, o + j * 4 + 1, none⟩ = some (.int .i64 st[j].who) ∧ w.cell? ⟨g, o + j * 4 + 2, none⟩ = some (.int .i64 st[j].to) ∧
  w.cell? ⟨g, o + j * 4 + 3, none⟩ = some (.slice st[j].ap st[j].bytes.length st[j].cp) ∧ Bts st[j].ap st[j].bytes w ∧ (st[j].ap = none → st[j].cp = 0)
def tot (st : List Stp) (k : Nat) : Nat := ((st.take k).map fun t => t.bytes.length).sum
theorem tot_next (st : List Stp) (k : Nat) (h : k < st.length) : tot st (k + 1) = tot st k + st[k].bytes.length := by
  unfold tot
  rw [List.take_succ_eq_append_getElem h, List.map_append, List.sum_append]
  simp
theorem tot_le (st : List Stp) (k : Nat) : tot st k ≤ tot st st.length := by
  unfold tot
  rw [List.take_length]
  conv => rhs; rw [← List.take_append_drop k st, List.map_append, List.sum_append]
  omega
theorem own_base {w : World} {B B' n : Nat} {v : Value} {xs : List Value} (h : w.ownsRow B' 5 1 v n xs) (hB : B ≤ B') : w.ownsRow B 5 1 v n xs := by
  obtain ⟨h1, h2⟩ := h
  refine ⟨h1, ?_⟩
  rcases h2 with h2 | ⟨g, cap, cur, e, hb, hr⟩
  · exact .inl h2
  · exact .inr ⟨g, cap, cur, e, Nat.le_trans hB hb, hr⟩
theorem Play.up {w0 w : World} {gb wb T T' : Nat} {s : Nat → Option (List UInt8)} {p b : Nat → Value} (h : Play w0 w gb wb s p b T 5) (hT : T ≤ T') : Play w0 w gb wb s p b T' 5 :=
  ⟨h.below, h.got, h.want, h.hgb, h.hwb, h.row, h.apart, fun i L hi hx hL => Nat.le_trans (h.small i L hi hx hL) hT⟩
theorem wp_agg {P : Program} {f : FuncId} {args args' : Array Value} {w : World} {Q : Ending → World → Prop} (e : args = args') (h : Calls P f args w Q) : Calls P f args' w Q := e ▸ h
end Go.Proofs.Ytekjhfhakodooaa
