/-
  A row that lies in places that go around: read, put in, taken out, laid anew.
-/
import Derived.Test.YtdgepnfgjgbkoaaDoorProg
import Derived.WalkKit
import Derived.Test.YtdgepnfgjgbkoaaDoorRowl
import Derived.Laws.IdiomCopy
import Derived.Laws.OwnMore
import Derived.Lib.SliceRun
namespace Go.Proofs.YtdgepnfgjgbkoaaDoor
open Go.RowKit

/-- The c things from place f on. -/
def rwA {α : Type} (d : α) (A : List α) (f c : Nat) : List α := (List.range c).map fun i => A.getD ((f + i) % A.length) d
theorem rwA_length {α : Type} (d : α) (A : List α) (f c : Nat) : (rwA d A f c).length = c := by simp [rwA]
theorem rwA_at {α : Type} (d : α) (A : List α) (f c i : Nat) (h : i < c) : (rwA d A f c)[i]? = some (A.getD ((f + i) % A.length) d) := by simp [rwA, h]
theorem rwA_zero {α : Type} (d : α) (A : List α) (f : Nat) : rwA d A f 0 = [] := rfl
theorem around_ne {f i c n : Nat} (hi : i < c) (hc : c < n) : (f + c) % n ≠ (f + i) % n := by
  intro h
  have h1 : (f + c - (f + i)) % n = 0 := Nat.sub_mod_eq_zero_of_mod_eq h
  have h2 : f + c - (f + i) = c - i := by omega
  rw [h2, Nat.mod_eq_of_lt (by omega)] at h1
  omega
theorem rwA_push {α : Type} (d : α) (A : List α) (f c : Nat) (x : α) (h : c < A.length) : rwA d (A.set ((f + c) % A.length) x) f (c + 1) = rwA d A f c ++ [x] := by
  unfold rwA
  rw [List.range_succ, List.map_append]
  congr 1
  · apply List.map_congr_left
    intro i hi
    have hi' : i < c := List.mem_range.1 hi
    rw [List.length_set, List.getD_eq_getElem?_getD, List.getD_eq_getElem?_getD, List.getElem?_set_ne (around_ne hi' h)]
  · have hl : (f + c) % A.length < A.length := Nat.mod_lt _ (by omega)
    simp [hl]
/-- Places in two pieces: those up to the end, and those that go on at the beginning. -/
theorem rwA_pieces {α : Type} (d : α) (A : List α) (f c : Nat) (hf : f < A.length) (hc : c ≤ A.length) :
    (A.drop f).take (min (f + c) A.length - f) ++ A.take (c - (min (f + c) A.length - f)) = rwA d A f c := by
  apply List.ext_getElem?
  intro i
  by_cases hi : i < c
  · rw [rwA_at d A f c i hi]
    by_cases h1 : f + i < A.length
    · have h2 : i < min (f + c) A.length - f := by omega
      rw [List.getElem?_append_left (by simp; omega), List.getElem?_take, if_pos h2, List.getElem?_drop, Nat.mod_eq_of_lt h1, List.getElem?_eq_getElem h1]
      simp [h1]
    · have h2 : min (f + c) A.length - f = A.length - f := by omega
      have h3 : (f + i) % A.length = f + i - A.length := by
        rw [Nat.mod_eq_sub_mod (by omega), Nat.mod_eq_of_lt (by omega)]
      have h4 : f + i - A.length < A.length := by omega
      rw [h2, h3, List.getElem?_append_right (by simp; omega)]
      simp only [List.length_take, List.length_drop, Nat.min_self]
      rw [List.getElem?_take, if_pos (by omega), show i - (A.length - f) = f + i - A.length by omega, List.getElem?_eq_getElem h4]
      simp [h4]
  · rw [List.getElem?_eq_none (by simp; omega), List.getElem?_eq_none (by rw [rwA_length]; omega)]
theorem rwA_anew {α : Type} (d : α) (l : List α) (t : List α) : rwA d (l ++ t) 0 l.length = l := by
  apply List.ext_getElem?
  intro i
  by_cases hi : i < l.length
  · rw [rwA_at d _ 0 _ i hi, Nat.zero_add, Nat.mod_eq_of_lt (by simp; omega), List.getD_eq_getElem?_getD, List.getElem?_append_left hi, List.getElem?_eq_getElem hi]
    rfl
  · rw [List.getElem?_eq_none (by rw [rwA_length]; omega), List.getElem?_eq_none (by omega)]
/-- Places from o on, n of them, cleared. -/
def clrA {α : Type} (d : α) (A : List α) (o n : Nat) : List α := A.take o ++ List.replicate n d ++ A.drop (o + n)
theorem clrA_length {α : Type} (d : α) (A : List α) (o n : Nat) (h : o + n ≤ A.length) : (clrA d A o n).length = A.length := by simp [clrA]; omega
theorem clrA_zero {α : Type} (d : α) (A : List α) (o : Nat) : clrA d A o 0 = A := by simp [clrA]
theorem clrA_at {α : Type} (d : α) (A : List α) (o n i : Nat) (h : o + n ≤ A.length) (hi : i < o ∨ o + n ≤ i) : (clrA d A o n)[i]? = A[i]? := by
  unfold clrA
  rcases hi with hi | hi
  · rw [List.append_assoc, List.getElem?_append_left (by simp; omega), List.getElem?_take, if_pos hi]
  · rw [List.getElem?_append_right (by simp; omega), List.getElem?_drop]
    congr 1
    simp
    omega
/-- The first n gone: the places behind them are the row that is left. -/
theorem rwA_drop {α : Type} (d : α) (A A' : List α) (f c n : Nat) (hn : n ≤ c) (hl : A'.length = A.length)
    (hA : ∀ i, n ≤ i → i < c → A'[(f + i) % A.length]? = A[(f + i) % A.length]?) : rwA d A' ((f + n) % A.length) (c - n) = (rwA d A f c).drop n := by
  apply List.ext_getElem?
  intro i
  by_cases hi : i < c - n
  · rw [rwA_at d _ _ _ i hi, List.getElem?_drop, rwA_at d _ _ _ (n + i) (by omega), hl]
    congr 1
    have e : ((f + n) % A.length + i) % A.length = (f + (n + i)) % A.length := by rw [Nat.mod_add_mod]; congr 1; omega
    rw [e, List.getD_eq_getElem?_getD, List.getD_eq_getElem?_getD, hA (n + i) (by omega) (by omega)]
  · rw [List.getElem?_eq_none (by rw [rwA_length]; omega), List.getElem?_eq_none (by simp [rwA_length]; omega)]
/-- Drop's two clearings. -/
theorem rwA_cleared {α : Type} (d : α) (A : List α) (f c n : Nat) (hf : f < A.length) (hc : c ≤ A.length) (hn : n ≤ c) :
    rwA d (clrA d (clrA d A f (min (f + n) A.length - f)) 0 (n - (min (f + n) A.length - f))) ((f + n) % A.length) (c - n) = (rwA d A f c).drop n := by
  have l1 : (clrA d A f (min (f + n) A.length - f)).length = A.length := clrA_length _ _ _ _ (by omega)
  refine rwA_drop d A _ f c n hn (by rw [clrA_length _ _ _ _ (by omega), l1]) fun i h1 h2 => ?_
  by_cases h3 : f + i < A.length
  · rw [Nat.mod_eq_of_lt h3, clrA_at _ _ _ _ _ (by omega) (.inr (by omega)), clrA_at _ _ _ _ _ (by omega) (.inr (by omega))]
  · have h4 : (f + i) % A.length = f + i - A.length := by rw [Nat.mod_eq_sub_mod (by omega), Nat.mod_eq_of_lt (by omega)]
    rw [h4, clrA_at _ _ _ _ _ (by omega) (.inr (by omega)), clrA_at _ _ _ _ _ (by omega) (.inl (by omega))]
theorem clrA_cleared_length {α : Type} (d : α) (A : List α) (f n : Nat) (hf : f ≤ A.length) (hn : n ≤ A.length) :
    (clrA d (clrA d A f (min (f + n) A.length - f)) 0 (n - (min (f + n) A.length - f))).length = A.length := by
  have l1 : (clrA d A f (min (f + n) A.length - f)).length = A.length := clrA_length _ _ _ _ (by omega)
  rw [clrA_length _ _ _ _ (by omega), l1]
/-- Two pieces laid at the head of cleared places. -/
theorem grown_list {α : Type} (d : α) (M a1 a2 : Nat) (m1 m2 : List α) (h1 : a1 = m1.length) (h2 : a2 = m2.length) (hM : a1 + a2 ≤ M) :
    ((List.replicate M d).take 0 ++ m1 ++ (List.replicate M d).drop (0 + m1.length)).take a1 ++ m2 ++ ((List.replicate M d).take 0 ++ m1 ++ (List.replicate M d).drop (0 + m1.length)).drop (a1 + m2.length) = m1 ++ m2 ++ List.replicate (M - (a1 + a2)) d := by
  subst h1 h2
  rw [List.take_zero, List.nil_append, List.take_append_of_le_length (Nat.le_refl _), List.take_length, Nat.zero_add, List.drop_append, List.drop_eq_nil_of_le (by omega), List.nil_append, List.drop_drop, List.drop_replicate]
  congr 2
  omega
end Go.Proofs.YtdgepnfgjgbkoaaDoor
/-
  Worlds of which some blocks alone are changed; lists of things in memory, each of as many cells.
-/
namespace Go.Proofs.YtdgepnfgjgbkoaaDoor
open Go.RowKit

/-- All is as it was but the blocks F. -/
structure Chg (F : Nat → Prop) (w w' : World) : Prop where
  os : w'.os = w.os
  tape : w'.tape = w.tape
  output : w'.output = w.output
  size : w.heap.size ≤ w'.heap.size
  block : ∀ k, k < w.heap.size → ¬ F k → w'.heap[k]? = w.heap[k]?
theorem Chg.refl (F : Nat → Prop) (w : World) : Chg F w w := ⟨rfl, rfl, rfl, Nat.le_refl _, fun _ _ _ => rfl⟩
theorem Chg.trans {F : Nat → Prop} {a b c : World} (h : Chg F a b) (k : Chg F b c) : Chg F a c :=
  ⟨k.os.trans h.os, k.tape.trans h.tape, k.output.trans h.output, Nat.le_trans h.size k.size, fun i hi hn => (k.block i (Nat.lt_of_lt_of_le hi h.size) hn).trans (h.block i hi hn)⟩
/-- What is changed next may be new besides. -/
theorem Chg.then {F G : Nat → Prop} {a b c : World} (h : Chg F a b) (k : Chg G b c) (hG : ∀ i, G i → F i ∨ a.heap.size ≤ i) : Chg F a c :=
  ⟨k.os.trans h.os, k.tape.trans h.tape, k.output.trans h.output, Nat.le_trans h.size k.size, fun i hi hn => (k.block i (Nat.lt_of_lt_of_le hi h.size) (fun g => by rcases hG i g with h1 | h1; exact hn h1; omega)).trans (h.block i hi hn)⟩
theorem Chg.mono {F G : Nat → Prop} {a b : World} (h : Chg F a b) (hG : ∀ i, F i → G i) : Chg G a b := ⟨h.os, h.tape, h.output, h.size, fun k hk hn => h.block k hk (fun f => hn (hG k f))⟩
theorem Chg.drew {F : Nat → Prop} {a b : World} (h : Chg F a b) : Chg F a b.drew := ⟨h.os, h.tape, h.output, h.size, h.block⟩
theorem Chg.drewN {F : Nat → Prop} {a b : World} (h : Chg F a b) (n : Nat) : Chg F a (b.drewN n) := ⟨h.os, h.tape, h.output, h.size, h.block⟩
theorem Chg.undrew {F : Nat → Prop} {a b : World} {n : Nat} (h : Chg F (a.drewN n) b) : Chg F a b := ⟨h.os, h.tape, h.output, h.size, h.block⟩
theorem Chg.set {F : Nat → Prop} {a b : World} (h : Chg F a b) {p : Addr} (hp : F p.block ∨ a.heap.size ≤ p.block) (v : Value) : Chg F a (b.setCell p v) :=
  ⟨h.os, h.tape, h.output, by rw [World.size_setCell]; exact h.size, fun k hk hn => (Below.heap_setCell _ _ _ _ (fun e => by subst e; rcases hp with h1 | h1; exact hn h1; omega)).trans (h.block k hk hn)⟩
theorem Chg.alloc {F : Nat → Prop} {a b : World} (h : Chg F a b) (o : Obj) : Chg F a (b.alloc o) :=
  ⟨h.os, h.tape, h.output, by simp; exact Nat.le_succ_of_le h.size, fun k hk hn => (Below.heap_alloc _ _ _ (Nat.lt_of_lt_of_le hk h.size)).trans (h.block k hk hn)⟩
theorem Chg.below {F : Nat → Prop} {a b c : World} (h : Chg F a b) (k : Below b.heap.size b c) : Chg F a c :=
  ⟨k.os.trans h.os, k.tape.trans h.tape, k.output.trans h.output, Nat.le_trans h.size k.size, fun i hi hn => (k.block i (Nat.lt_of_lt_of_le hi h.size)).trans (h.block i hi hn)⟩
theorem Chg.of_below {F : Nat → Prop} {a b : World} (k : Below a.heap.size a b) : Chg F a b := (Chg.refl F a).below k
theorem Chg.grown {F : Nat → Prop} {a b c : World} {row : Option Nat} (h : Chg F a b) (g : b.grownBy c row) (hr : ∀ k, row = some k → F k ∨ a.heap.size ≤ k) : Chg F a c :=
  ⟨g.os.trans h.os, g.tape.trans h.tape, g.output.trans h.output, Nat.le_trans h.size g.size, fun k hk hn => (g.block k (Nat.lt_of_lt_of_le hk h.size) (fun e => by rcases hr k e.symm with h1 | h1; exact hn h1; omega)).trans (h.block k hk hn)⟩
theorem Chg.to_below {F : Nat → Prop} {B : Nat} {a b : World} (h : Chg F a b) (hB : B ≤ a.heap.size) (hF : ∀ k, F k → B ≤ k) : Below B a b :=
  ⟨h.os, h.tape, h.output, h.size, fun k hk => h.block k (by omega) (fun f => by have := hF k f; omega)⟩
theorem Chg.lies {F : Nat → Prop} {a b : World} (h : Chg F a b) {g : Nat} {cs : Array Value} {t : TypeId} (hl : Lies a g cs t) (hn : ¬ F g) : Lies b g cs t := (h.block g hl.lt hn).trans hl
theorem lies_kind {w : World} {g t u : Nat} {cs ds : Array Value} (h : Lies w g cs t) (k : Lies w g ds u) : t = u := by
  unfold Lies at h k
  rw [h] at k
  cases k
  rfl
theorem lies_ne {w : World} {g q t u : Nat} {cs ds : Array Value} (h : Lies w g cs t) (k : Lies w q ds u) (ht : t ≠ u) : g ≠ q := fun e => ht (by subst e; exact lies_kind h k)
theorem lt_of_cell {w : World} {a : Addr} {v : Value} (h : w.cell? a = some v) : a.block < w.heap.size := by
  rcases Nat.lt_or_ge a.block w.heap.size with h' | h'
  · exact h'
  · simp [World.cell?, Array.getElem?_eq_none h'] at h
theorem below_drewN (w : World) (n : Nat) : Below w.heap.size w (w.drewN n) := ⟨rfl, rfl, rfl, Nat.le_refl _, fun _ _ => rfl⟩
theorem drewN_drew (w : World) (n : Nat) : (w.drewN n).drew = w.drewN (n + 1) := rfl
theorem drewN_add (w : World) (m n : Nat) : (w.drewN m).drewN n = w.drewN (m + n) := by
  simp [World.drewN, Nat.add_assoc]

/-- Cells written over others from place o on. -/
def putL (L : List Value) (o : Nat) (vs : List Value) : List Value := L.take o ++ vs ++ L.drop (o + vs.length)
theorem putL_length (L : List Value) (o : Nat) (vs : List Value) (h : o + vs.length ≤ L.length) : (putL L o vs).length = L.length := by simp [putL]; omega
theorem putL_nil (L : List Value) (o : Nat) : putL L o [] = L := by simp [putL]
theorem putL_cons (L : List Value) (o : Nat) (v : Value) (r : List Value) (h : o + (r.length + 1) ≤ L.length) : putL (L.set o v) (o + 1) r = putL L o (v :: r) := by
  unfold putL
  have h1 : o < L.length := by omega
  rw [List.take_set, List.drop_set, if_pos (by omega), show o + (v :: r).length = o + 1 + r.length by simp; omega]
  rw [List.take_add_one, List.getElem?_eq_getElem h1, Option.toList_some, List.set_append, if_neg (by simp; omega)]
  simp only [List.length_take, Nat.min_eq_left (Nat.le_of_lt h1), Nat.sub_self, List.set_cons_zero]
  simp
theorem Lies.sets {t : TypeId} {q : Nat} : ∀ (vs : List Value) (o : Nat) (L : List Value) (w : World), Lies w q L.toArray t → o + vs.length ≤ L.length → Lies (w.setCells q o vs) q (putL L o vs).toArray t
  | [], o, L, w, h, _ => by rw [putL_nil]; exact h
  | v :: r, o, L, w, h, hl => by
    rw [World.setCells, ← putL_cons L o v r (by simpa using hl)]
    refine Lies.sets r (o + 1) (L.set o v) _ ?_ (by simp at hl ⊢; omega)
    have := h.set o v
    rwa [List.setIfInBounds_toArray] at this
theorem Chg.sets {F : Nat → Prop} {a : World} {q : Nat} (hq : F q ∨ a.heap.size ≤ q) : ∀ (vs : List Value) (o : Nat) (b : World), Chg F a b → Chg F a (b.setCells q o vs)
  | [], _, _, h => h
  | v :: r, o, _, h => by rw [World.setCells]; exact Chg.sets hq r (o + 1) _ (h.set (p := ⟨q, o, none⟩) hq v)

theorem flat_length {α : Type} {cel : α → List Value} {k : Nat} (hk : ∀ x, (cel x).length = k) : ∀ A : List α, (A.flatMap cel).length = A.length * k
  | [] => by simp
  | x :: A => by rw [List.flatMap_cons, List.length_append, hk, flat_length hk A, List.length_cons, Nat.succ_mul, Nat.add_comm]
theorem flat_take {α : Type} {cel : α → List Value} {k : Nat} (hk : ∀ x, (cel x).length = k) : ∀ (A : List α) (n : Nat), (A.take n).flatMap cel = (A.flatMap cel).take (n * k)
  | [], n => by simp
  | x :: A, 0 => by simp
  | x :: A, n + 1 => by
    rw [List.take_succ_cons, List.flatMap_cons, List.flatMap_cons, flat_take hk A n, List.take_append, hk, Nat.succ_mul, show n * k + k - k = n * k by omega]
    rw [List.take_of_length_le (l := cel x) (by rw [hk]; omega)]
theorem flat_drop {α : Type} {cel : α → List Value} {k : Nat} (hk : ∀ x, (cel x).length = k) : ∀ (A : List α) (n : Nat), (A.drop n).flatMap cel = (A.flatMap cel).drop (n * k)
  | [], n => by simp
  | x :: A, 0 => by simp
  | x :: A, n + 1 => by
    rw [List.drop_succ_cons, List.flatMap_cons, flat_drop hk A n, List.drop_append, hk, Nat.succ_mul, show n * k + k - k = n * k by omega]
    rw [show List.drop (n * k + k) (cel x) = [] from List.drop_eq_nil_of_le (by rw [hk]; omega), List.nil_append]
theorem flat_at {α : Type} {cel : α → List Value} {k : Nat} (hk : ∀ x, (cel x).length = k) (A : List α) (j i : Nat) (hj : j < A.length) (hi : i < k) : (A.flatMap cel)[j * k + i]? = (cel A[j])[i]? := by
  have h1 : (A.flatMap cel).drop (j * k) = (A.drop j).flatMap cel := (flat_drop hk A j).symm
  rw [← List.getElem?_drop, h1, List.drop_eq_getElem_cons hj, List.flatMap_cons, List.getElem?_append_left (by rw [hk]; exact hi)]
theorem flat_set {α : Type} {cel : α → List Value} {k : Nat} (hk : ∀ x, (cel x).length = k) (A : List α) (j : Nat) (x : α) (hj : j < A.length) : (A.set j x).flatMap cel = putL (A.flatMap cel) (j * k) (cel x) := by
  unfold putL
  rw [hk, ← flat_take hk, show j * k + k = (j + 1) * k by rw [Nat.succ_mul], ← flat_drop hk, List.set_eq_take_append_cons_drop, if_pos hj]
  simp
theorem flat_put {α : Type} {cel : α → List Value} {k : Nat} (hk : ∀ x, (cel x).length = k) (A : List α) (o : Nat) (m : List α) : (A.take o ++ m ++ A.drop (o + m.length)).flatMap cel = putL (A.flatMap cel) (o * k) (m.flatMap cel) := by
  unfold putL
  rw [flat_length hk, ← flat_take hk, ← Nat.add_mul, ← flat_drop hk]
  simp
/-- Where the places lie. -/
def plc (q : Option Nat) (n : Nat) : Value := match q with | none => .slice none 0 0 | some g => .slice (some ⟨g, 0, none⟩) n n
/-- A ring's blocks. -/
def Fq (p q : Option Nat) (k : Nat) : Prop := p = some k ∨ q = some k
/-- A pointer to it. -/
def ptr (p : Option Nat) : Value := .pointer (p.map fun b => ⟨b, 0, none⟩)
theorem ret_bool {a b : Bool} (h : a = b) : Ending.returned (.bool a) = .returned (.bool b) := by rw [h]
theorem ret_i64 {a b : Int} (h : a = b) : Ending.returned (.int .i64 a) = .returned (.int .i64 b) := by rw [h]
/-- What Push tells. -/
def pushE (most n : Nat) : Int := if most = 0 then 1 else if n = most then 4 else 0
def atB (n : Nat) (i : Int) : Bool := decide (0 ≤ i ∧ i < (n : Int))
/-- How many go. -/
def dropN (len : Nat) (n : Int) : Nat := (min n (len : Int)).toNat
end Go.Proofs.YtdgepnfgjgbkoaaDoor
