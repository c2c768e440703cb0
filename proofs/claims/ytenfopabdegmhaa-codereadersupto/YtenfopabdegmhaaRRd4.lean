/-
  The document's reader: what it holds, New, Close, and Feed of one that was spoilt.
-/
import Derived.Test.YtenfopabdegmhaaRRdP
import Derived.Test.YtenfopabdegmhaaRdr
import Derived.Test.YtenfopabdegmhaaRUnc
import Derived.BigQuiet
namespace Go.Proofs.Ytenfopabdegmhaa
open Go.RowKit

/-- Two values share no block. -/
def Ap (a b : Value) : Prop := ∀ k, a.ownBlock = some k → b.ownBlock ≠ some k
theorem Ap.symm {a b : Value} (h : Ap a b) : Ap b a := fun k hb ha => h k ha hb
theorem Ap.none (b : Value) (n c : Nat) : Ap (.slice none n c) b := fun k h => by cases h
/-- A reader of the document's: its text lies in v while nothing has spoilt it. -/
structure RrAt (w : World) (B g : Nat) (t : List UInt8) (e : Nat) (v : Value) : Prop where
  lies : Lies w g #[v, .int .i64 (e : Int)] 69
  own : e = 0 → okN 0 t = t.length ∧ w.ownsRow B 5 1 v t.length (cellsB t)
  blk : ∀ k, v.ownBlock = some k → B ≤ k ∧ k < w.heap.size
/-- All is as it was but block g and the row r. -/
structure But2 (g : Nat) (r : Option Nat) (w w' : World) : Prop where
  os : w'.os = w.os
  tape : w'.tape = w.tape
  output : w'.output = w.output
  size : w.heap.size ≤ w'.heap.size
  block : ∀ k, k < w.heap.size → k ≠ g → some k ≠ r → w'.heap[k]? = w.heap[k]?
theorem But2.refl (g : Nat) (r : Option Nat) (w : World) : But2 g r w w := ⟨rfl, rfl, rfl, Nat.le_refl _, fun _ _ _ _ => rfl⟩
theorem But2.below {g : Nat} {r : Option Nat} {w a b : World} (h : But2 g r w a) (hb : Below a.heap.size a b) : But2 g r w b :=
  ⟨hb.os.trans h.os, hb.tape.trans h.tape, hb.output.trans h.output, Nat.le_trans h.size hb.size, fun k hk h1 h2 => (hb.block k (Nat.lt_of_lt_of_le hk h.size)).trans (h.block k hk h1 h2)⟩
theorem But2.grown {g : Nat} {r s : Option Nat} {w a b : World} (h : But2 g r w a) (hb : a.grownBy b s) (hs : ∀ k, s = some k → r = some k ∨ w.heap.size ≤ k) : But2 g r w b :=
  ⟨hb.os.trans h.os, hb.tape.trans h.tape, hb.output.trans h.output, Nat.le_trans h.size hb.size, fun k hk h1 h2 => (hb.block k (Nat.lt_of_lt_of_le hk h.size) (fun e => by
    rcases hs k e.symm with h3 | h3
    · exact h2 h3.symm
    · omega)).trans (h.block k hk h1 h2)⟩
theorem But2.set {g : Nat} {r : Option Nat} {w a : World} (h : But2 g r w a) (j : Nat) (v : Value) : But2 g r w (a.setCell ⟨g, j, none⟩ v) :=
  ⟨h.os, h.tape, h.output, by rw [World.size_setCell]; exact h.size, fun k hk h1 h2 => (Below.heap_setCell _ _ _ _ h1).trans (h.block k hk h1 h2)⟩
theorem But2.lies {g k : Nat} {r : Option Nat} {w w' : World} {cs : Array Value} {t : TypeId} (h : But2 g r w w') (hl : Lies w k cs t) (h1 : k ≠ g) (h2 : some k ≠ r) : Lies w' k cs t := (h.block k hl.lt h1 h2).trans hl
theorem But2.bts {g : Nat} {r : Option Nat} {a : Option Addr} {l : List UInt8} {w w' : World} (h : But2 g r w w') (hb : Bts a l w) (hne : l ≠ [] → ∀ ad, a = some ad → ad.block ≠ g ∧ some ad.block ≠ r) : Bts a l w' := by
  by_cases hl : l = []
  · exact .inl hl
  rcases hb with hb | ⟨b, o, e, hb, hr⟩
  · exact absurd hb hl
  · obtain ⟨h1, h2⟩ := hne hl _ e
    exact .inr ⟨b, o, e, Nat.lt_of_lt_of_le hb h.size, fun j hj => (World.cell?_of_block (h.block b hb h1 h2)).trans (hr j hj)⟩
theorem But2.own {g B n : Nat} {r : Option Nat} {v : Value} {xs : List Value} {w w' : World} (h : But2 g r w w') (ho : w.ownsRow B 5 1 v n xs) (h1 : ∀ k, v.ownBlock = some k → k ≠ g ∧ some k ≠ r) : w'.ownsRow B 5 1 v n xs :=
  own_keep ho (fun k hk => h.block k (ho.lt k hk).2 (h1 k hk).1 (h1 k hk).2)
theorem RrAt.of {w w' : World} {B g : Nat} {t : List UInt8} {e : Nat} {v : Value} (h : RrAt w B g t e v) (hs : w.heap.size ≤ w'.heap.size) (hg : w'.heap[g]? = w.heap[g]?) (hv : e = 0 → ∀ k, v.ownBlock = some k → w'.heap[k]? = w.heap[k]?) : RrAt w' B g t e v :=
  ⟨hg.trans h.lies, fun e0 => ⟨(h.own e0).1, own_keep (h.own e0).2 (hv e0)⟩, fun k hk => ⟨(h.blk k hk).1, Nat.lt_of_lt_of_le (h.blk k hk).2 hs⟩⟩
theorem RrAt.below {w w' : World} {B g : Nat} {t : List UInt8} {e : Nat} {v : Value} (h : RrAt w B g t e v) (hb : Below w.heap.size w w') : RrAt w' B g t e v :=
  h.of hb.size (hb.block g h.lies.lt) (fun _ k hk => hb.block k (h.blk k hk).2)

set_option maxHeartbeats 1000000 in
theorem rrnew_any (B : Nat) (w : World) : Calls Try.prog 16 #[] w fun e w' => e = .returned (.pointer (some ⟨w.heap.size, 0, none⟩)) ∧ RrAt w' B w.heap.size [] 0 (.slice none 0 0) ∧ Below w.heap.size w w' := by
  go_enter Try.func16, Try.ntmps16
  go_wp2
  go_ret
  exact ⟨rfl, ⟨Lies.new w _ _, fun _ => ⟨rfl, own_nil _ _⟩, fun k h => by cases h⟩, (Below.refl _ _).alloc (Nat.le_refl _) _⟩
set_option maxHeartbeats 1000000 in
theorem rrclose_any (B g : Nat) (t : List UInt8) (e0 : Nat) (v : Value) (w : World) (hr : RrAt w B g t e0 v) (hl : t.length ≤ 9223372036854775807) :
    Calls Try.prog 20 #[.pointer (some ⟨g, 0, none⟩)] w fun e w' => e = .returned (.int .i64 (clE t e0 : Nat)) ∧ w' = w := by
  have c0 := hr.lies.cell 0
  have c1 := hr.lies.cell 1
  simp only [List.getElem?_toArray, List.getElem?_cons_zero, List.getElem?_cons_succ] at c0 c1
  by_cases he : e0 = 0
  · subst he
    obtain ⟨a, c, rfl⟩ := own_shape (hr.own rfl).2
    by_cases ht : t.length % 4 = 0
    · have e : clE t 0 = 0 := by simp [clE, ht]
      rw [e]
      have hm : (((t.length : Nat) : Int).tmod 4 != 0) = false := by rw [Int.tmod_eq_emod_of_nonneg (by omega)]; simp; omega
      have hm2 : (((t.length : Nat) : Int) % 4 != 0) = false := by simp; omega
      clear hr e ht
      generalize t.length = m at c0 hm hm2 hl
      go_enter Try.func20, Try.ntmps20
      go_wp2
      go_ret
      exact ⟨rfl, rfl⟩
    · have e : clE t 0 = 41 := by simp [clE, ht]
      rw [e]
      have hm : (((t.length : Nat) : Int).tmod 4 != 0) = true := by rw [Int.tmod_eq_emod_of_nonneg (by omega)]; simp; omega
      have hm2 : (((t.length : Nat) : Int) % 4 != 0) = true := by simp; omega
      clear hr e ht
      generalize t.length = m at c0 hm hm2 hl
      go_enter Try.func20, Try.ntmps20
      go_wp2
      go_ret
      exact ⟨rfl, rfl⟩
  · have e : clE t e0 = e0 := by simp [clE, he]
    rw [e]
    have hne : (((e0 : Nat) : Int) == 0) = false := by simp; omega
    clear hr e he
    go_enter Try.func20, Try.ntmps20
    go_wp2
    go_ret
    exact ⟨rfl, rfl⟩
set_option maxHeartbeats 1000000 in
theorem rrfeed_spoilt (B g : Nat) (t : List UInt8) (e0 : Nat) (he : e0 ≠ 0) (v u : Value) (w : World) (hr : RrAt w B g t e0 v) :
    Calls Try.prog 19 #[.pointer (some ⟨g, 0, none⟩), u] w fun e w' => e = .returned (.tuple #[.slice none 0 0, .int .i64 (e0 : Nat)]) ∧ ∃ k, w' = w.drewN k := by
  have c1 := hr.lies.cell 1
  simp only [List.getElem?_toArray, List.getElem?_cons_zero, List.getElem?_cons_succ] at c1
  have hne : (((e0 : Nat) : Int) != 0) = true := by simp; omega
  clear hr
  go_enter Try.func19, Try.ntmps19
  go_wp2_with fail
  go_quiet (fail)
  go_wp2
  go_ret2
  exact ⟨rfl, _, rfl⟩
end Go.Proofs.Ytenfopabdegmhaa
