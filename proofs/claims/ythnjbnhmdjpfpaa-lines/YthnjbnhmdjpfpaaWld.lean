/-
  Worlds of which some blocks alone are changed; lists of things in memory, each of as many cells.
-/
import Derived.Test.YthnjbnhmdjpfpaaRowl
import Derived.Test.YthnjbnhmdjpfpaaRgP
import Derived.Laws.IdiomCopy
import Derived.Laws.OwnMore
import Derived.Lib.SliceRun
namespace Go.Proofs.Ythnjbnhmdjpfpaa
open Go.RowKit

/-- All is as it was but the blocks F. -/
structure Chg (F : Nat → Prop) (w w' : World) : Prop where
  os : w'.os = w.os
  tape : w'.tape = w.tape
  output : w'.output = w.output
  size : w.heap.size ≤ w'.heap.size
  block : ∀ k, k < w.heap.size → ¬ F k → w'.heap[k]? = w.heap[k]?
theorem Chg.refl (F : Nat → Prop) (w : World) : Chg F w w := ⟨rfl, rfl, rfl, Nat.le_refl _, fun _ _ _ => rfl⟩
theorem Chg.trans {F : Nat → Prop} {a b c : World} (h : Chg F a b) (k : Chg F b c) : Chg F a c :=
  ⟨k.os.trans h.os, k.tape.trans h.tape, k.output.trans h.output, Nat.le_trans h.size k.size, fun i hi hn => (k.block i (Nat.lt_of_lt_of_le hi h.size) hn).trans (h.block i hi hn)⟩
/-- What is changed next may be new besides. -/
theorem Chg.then {F G : Nat → Prop} {a b c : World} (h : Chg F a b) (k : Chg G b c) (hG : ∀ i, G i → F i ∨ a.heap.size ≤ i) : Chg F a c :=
  ⟨k.os.trans h.os, k.tape.trans h.tape, k.output.trans h.output, Nat.le_trans h.size k.size, fun i hi hn => (k.block i (Nat.lt_of_lt_of_le hi h.size) (fun g => by rcases hG i g with h1 | h1; exact hn h1; omega)).trans (h.block i hi hn)⟩
theorem Chg.mono {F G : Nat → Prop} {a b : World} (h : Chg F a b) (hG : ∀ i, F i → G i) : Chg G a b := ⟨h.os, h.tape, h.output, h.size, fun k hk hn => h.block k hk (fun f => hn (hG k f))⟩
theorem Chg.drew {F : Nat → Prop} {a b : World} (h : Chg F a b) : Chg F a b.drew := ⟨h.os, h.tape, h.output, h.size, h.block⟩
theorem Chg.drewN {F : Nat → Prop} {a b : World} (h : Chg F a b) (n : Nat) : Chg F a (b.drewN n) := ⟨h.os, h.tape, h.output, h.size, h.block⟩
theorem Chg.undrew {F : Nat → Prop} {a b : World} {n : Nat} (h : Chg F (a.drewN n) b) : Chg F a b := ⟨h.os, h.tape, h.output, h.size, h.block⟩
theorem Chg.set {F : Nat → Prop} {a b : World} (h : Chg F a b) {p : Addr} (hp : F p.block ∨ a.heap.size ≤ p.block) (v : Value) : Chg F a (b.setCell p v) :=
  ⟨h.os, h.tape, h.output, by rw [World.size_setCell]; exact h.size, fun k hk hn => (Below.heap_setCell _ _ _ _ (fun e => by subst e; rcases hp with h1 | h1; exact hn h1; omega)).trans (h.block k hk hn)⟩
theorem Chg.alloc {F : Nat → Prop} {a b : World} (h : Chg F a b) (o : Obj) : Chg F a (b.alloc o) :=
  ⟨h.os, h.tape, h.output, by simp; exact Nat.le_succ_of_le h.size, fun k hk hn => (Below.heap_alloc _ _ _ (Nat.lt_of_lt_of_le hk h.size)).trans (h.block k hk hn)⟩
theorem Chg.below {F : Nat → Prop} {a b c : World} (h : Chg F a b) (k : Below b.heap.size b c) : Chg F a c :=
  ⟨k.os.trans h.os, k.tape.trans h.tape, k.output.trans h.output, Nat.le_trans h.size k.size, fun i hi hn => (k.block i (Nat.lt_of_lt_of_le hi h.size)).trans (h.block i hi hn)⟩
theorem Chg.of_below {F : Nat → Prop} {a b : World} (k : Below a.heap.size a b) : Chg F a b := (Chg.refl F a).below k
theorem Chg.grown {F : Nat → Prop} {a b c : World} {row : Option Nat} (h : Chg F a b) (g : b.grownBy c row) (hr : ∀ k, row = some k → F k ∨ a.heap.size ≤ k) : Chg F a c :=
  ⟨g.os.trans h.os, g.tape.trans h.tape, g.output.trans h.output, Nat.le_trans h.size g.size, fun k hk hn => (g.block k (Nat.lt_of_lt_of_le hk h.size) (fun e => by rcases hr k e.symm with h1 | h1; exact hn h1; omega)).trans (h.block k hk hn)⟩
theorem Chg.to_below {F : Nat → Prop} {B : Nat} {a b : World} (h : Chg F a b) (hB : B ≤ a.heap.size) (hF : ∀ k, F k → B ≤ k) : Below B a b :=
  ⟨h.os, h.tape, h.output, h.size, fun k hk => h.block k (by omega) (fun f => by have := hF k f; omega)⟩
theorem Chg.lies {F : Nat → Prop} {a b : World} (h : Chg F a b) {g : Nat} {cs : Array Value} {t : TypeId} (hl : Lies a g cs t) (hn : ¬ F g) : Lies b g cs t := (h.block g hl.lt hn).trans hl
theorem lies_kind {w : World} {g t u : Nat} {cs ds : Array Value} (h : Lies w g cs t) (k : Lies w g ds u) : t = u := by
  unfold Lies at h k
  rw [h] at k
  cases k
  rfl
theorem lies_ne {w : World} {g q t u : Nat} {cs ds : Array Value} (h : Lies w g cs t) (k : Lies w q ds u) (ht : t ≠ u) : g ≠ q := fun e => ht (by subst e; exact lies_kind h k)
theorem lt_of_cell {w : World} {a : Addr} {v : Value} (h : w.cell? a = some v) : a.block < w.heap.size := by
  rcases Nat.lt_or_ge a.block w.heap.size with h' | h'
  · exact h'
  · simp [World.cell?, Array.getElem?_eq_none h'] at h
theorem below_drewN (w : World) (n : Nat) : Below w.heap.size w (w.drewN n) := ⟨rfl, rfl, rfl, Nat.le_refl _, fun _ _ => rfl⟩
theorem drewN_drew (w : World) (n : Nat) : (w.drewN n).drew = w.drewN (n + 1) := rfl
theorem drewN_add (w : World) (m n : Nat) : (w.drewN m).drewN n = w.drewN (m + n) := by
  simp [World.drewN, Nat.add_assoc]

/-- Cells written over others from place o on. -/
def putL (L : List Value) (o : Nat) (vs : List Value) : List Value := L.take o ++ vs ++ L.drop (o + vs.length)
theorem putL_length (L : List Value) (o : Nat) (vs : List Value) (h : o + vs.length ≤ L.length) : (putL L o vs).length = L.length := by simp [putL]; omega
theorem putL_nil (L : List Value) (o : Nat) : putL L o [] = L := by simp [putL]
theorem putL_cons (L : List Value) (o : Nat) (v : Value) (r : List Value) (h : o + (r.length + 1) ≤ L.length) : putL (L.set o v) (o + 1) r = putL L o (v :: r) := by
  unfold putL
  have h1 : o < L.length := by omega
  rw [List.take_set, List.drop_set, if_pos (by omega), show o + (v :: r).length = o + 1 + r.length by simp; omega]
  rw [List.take_add_one, List.getElem?_eq_getElem h1, Option.toList_some, List.set_append, if_neg (by simp; omega)]
  simp only [List.length_take, Nat.min_eq_left (Nat.le_of_lt h1), Nat.sub_self, List.set_cons_zero]
  simp
theorem Lies.sets {t : TypeId} {q : Nat} : ∀ (vs : List Value) (o : Nat) (L : List Value) (w : World), Lies w q L.toArray t → o + vs.length ≤ L.length → Lies (w.setCells q o vs) q (putL L o vs).toArray t
  | [], o, L, w, h, _ => by rw [putL_nil]; exact h
  | v :: r, o, L, w, h, hl => by
    rw [World.setCells, ← putL_cons L o v r (by simpa using hl)]
    refine Lies.sets r (o + 1) (L.set o v) _ ?_ (by simp at hl ⊢; omega)
    have := h.set o v
    rwa [List.setIfInBounds_toArray] at this
theorem Chg.sets {F : Nat → Prop} {a : World} {q : Nat} (hq : F q ∨ a.heap.size ≤ q) : ∀ (vs : List Value) (o : Nat) (b : World), Chg F a b → Chg F a (b.setCells q o vs)
  | [], _, _, h => h
  | v :: r, o, _, h => by rw [World.setCells]; exact Chg.sets hq r (o + 1) _ (h.set (p := ⟨q, o, none⟩) hq v)

theorem flat_length {α : Type} {cel : α → List Value} {k : Nat} (hk : ∀ x, (cel x).length = k) : ∀ A : List α, (A.flatMap cel).length = A.length * k
  | [] => by simp
  | x :: A => by rw [List.flatMap_cons, List.length_append, hk, flat_length hk A, List.length_cons, Nat.succ_mul, Nat.add_comm]
theorem flat_take {α : Type} {cel : α → List Value} {k : Nat} (hk : ∀ x, (cel x).length = k) : ∀ (A : List α) (n : Nat), (A.take n).flatMap cel = (A.flatMap cel).take (n * k)
  | [], n => by simp
  | x :: A, 0 => by simp
  | x :: A, n + 1 => by
    rw [List.take_succ_cons, List.flatMap_cons, List.flatMap_cons, flat_take hk A n, List.take_append, hk, Nat.succ_mul, show n * k + k - k = n * k by omega]
    rw [List.take_of_length_le (l := cel x) (by rw [hk]; omega)]
theorem flat_drop {α : Type} {cel : α → List Value} {k : Nat} (hk : ∀ x, (cel x).length = k) : ∀ (A : List α) (n : Nat), (A.drop n).flatMap cel = (A.flatMap cel).drop (n * k)
  | [], n => by simp
  | x :: A, 0 => by simp
  | x :: A, n + 1 => by
    rw [List.drop_succ_cons, List.flatMap_cons, flat_drop hk A n, List.drop_append, hk, Nat.succ_mul, show n * k + k - k = n * k by omega]
    rw [show List.drop (n * k + k) (cel x) = [] from List.drop_eq_nil_of_le (by rw [hk]; omega), List.nil_append]
theorem flat_at {α : Type} {cel : α → List Value} {k : Nat} (hk : ∀ x, (cel x).length = k) (A : List α) (j i : Nat) (hj : j < A.length) (hi : i < k) : (A.flatMap cel)[j * k + i]? = (cel A[j])[i]? := by
  have h1 : (A.flatMap cel).drop (j * k) = (A.drop j).flatMap cel := (flat_drop hk A j).symm
  rw [← List.getElem?_drop, h1, List.drop_eq_getElem_cons hj, List.flatMap_cons, List.getElem?_append_left (by rw [hk]; exact hi)]
theorem flat_set {α : Type} {cel : α → List Value} {k : Nat} (hk : ∀ x, (cel x).length = k) (A : List α) (j : Nat) (x : α) (hj : j < A.length) : (A.set j x).flatMap cel = putL (A.flatMap cel) (j * k) (cel x) := by
  unfold putL
  rw [hk, ← flat_take hk, show j * k + k = (j + 1) * k by rw [Nat.succ_mul], ← flat_drop hk, List.set_eq_take_append_cons_drop, if_pos hj]
  simp
theorem flat_put {α : Type} {cel : α → List Value} {k : Nat} (hk : ∀ x, (cel x).length = k) (A : List α) (o : Nat) (m : List α) : (A.take o ++ m ++ A.drop (o + m.length)).flatMap cel = putL (A.flatMap cel) (o * k) (m.flatMap cel) := by
  unfold putL
  rw [flat_length hk, ← flat_take hk, ← Nat.add_mul, ← flat_drop hk]
  simp
/-- Where the places lie. -/
def plc (q : Option Nat) (n : Nat) : Value := match q with | none => .slice none 0 0 | some g => .slice (some ⟨g, 0, none⟩) n n
/-- A ring's blocks. -/
def Fq (p q : Option Nat) (k : Nat) : Prop := p = some k ∨ q = some k
/-- A pointer to it. -/
def ptr (p : Option Nat) : Value := .pointer (p.map fun b => ⟨b, 0, none⟩)
theorem ret_bool {a b : Bool} (h : a = b) : Ending.returned (.bool a) = .returned (.bool b) := by rw [h]
theorem ret_i64 {a b : Int} (h : a = b) : Ending.returned (.int .i64 a) = .returned (.int .i64 b) := by rw [h]
/-- What Push tells. -/
def pushE (most n : Nat) : Int := if most = 0 then 1 else if n = most then 4 else 0
def atB (n : Nat) (i : Int) : Bool := decide (0 ≤ i ∧ i < (n : Int))
/-- How many go. -/
def dropN (len : Nat) (n : Int) : Nat := (min n (len : Int)).toNat
end Go.Proofs.Ythnjbnhmdjpfpaa
