/-
  Small laws on bytes, texts and lists.
-/
import Derived.Test.YthkoionigdnhgabGreatDoorBase
import Derived.Lib.IndexMore
import Derived.Lib.IndexLaws
namespace Go.Proofs.YthkoionigdnhgabGreatDoor
open Go.RowKit

theorem ext_list (s : ByteArray) (a b : Nat) : (s.extract a b).data.toList = (s.data.toList.take b).drop a := by
  simp [ByteArray.data_extract, List.drop_take]
theorem len_list (s : ByteArray) : s.data.toList.length = s.size := by rw [Array.length_toList]; rfl
theorem at_list (s : ByteArray) (k : Nat) (h : k < s.size) : s.data.toList[k]'(by rw [len_list]; exact h) = s[k] := rfl

theorem own_nil (w : World) (B : Nat) : w.ownsRow B 5 1 (.slice none 0 0) ([] : List UInt8).length (cellsB []) := ⟨rfl, .inl ⟨rfl, rfl⟩⟩

end Go.Proofs.YthkoionigdnhgabGreatDoor
/-
  A message's lines, and how many of its header's are of the name Received.
-/
namespace Go.Proofs.YthkoionigdnhgabGreatDoor

/-- One byte more: the lines so far, and the line that stands open. -/
def hlS (s : List (List UInt8) × List UInt8) (c : UInt8) : List (List UInt8) × List UInt8 := if c = 10 ∧ s.2.getLast? = some 13 then (s.1 ++ [s.2.dropLast], []) else (s.1, s.2 ++ [c])
def hlF (s : List (List UInt8) × List UInt8) (xs : List UInt8) : List (List UInt8) × List UInt8 := xs.foldl hlS s
/-- The lines of a message. -/
def lnsH (xs : List UInt8) : List (List UInt8) := (hlF ([], []) xs).1 ++ [(hlF ([], []) xs).2]
def hopN (rc : List UInt8 → Bool) : List (List UInt8) → Nat
  | [] => 0
  | l :: r => if l = [] then 0 else (if rc l = true then 1 else 0) + hopN rc r
/-- How many of the header's lines are so. -/
def hopsB (rc : List UInt8 → Bool) (xs : List UInt8) : Nat := hopN rc (lnsH xs)
/-- No line end stands there. -/
def noCL (l : List UInt8) : Prop := ∀ i : Nat, l[i]? = some 13 → l[i + 1]? ≠ some 10

theorem hlF_shift : ∀ (xs : List UInt8) (A B : List (List UInt8)) (cur : List UInt8), hlF (A ++ B, cur) xs = (A ++ (hlF (B, cur) xs).1, (hlF (B, cur) xs).2)
  | [], A, B, cur => rfl
  | c :: t, A, B, cur => by
    unfold hlF
    rw [List.foldl_cons, List.foldl_cons]
    unfold hlS
    by_cases h : c = 10 ∧ cur.getLast? = some 13
    · rw [if_pos h, if_pos h, List.append_assoc]
      exact hlF_shift t A (B ++ [cur.dropLast]) []
    · rw [if_neg h, if_neg h]
      exact hlF_shift t A B (cur ++ [c])
theorem hlF_app (s : List (List UInt8) × List UInt8) (a b : List UInt8) : hlF s (a ++ b) = hlF (hlF s a) b := by unfold hlF; rw [List.foldl_append]
theorem last_get (l : List UInt8) : l.getLast? = l[l.length - 1]? := List.getLast?_eq_getElem? 
theorem hlF_no : ∀ (xs cur : List UInt8) (A : List (List UInt8)), noCL (cur ++ xs) → hlF (A, cur) xs = (A, cur ++ xs)
  | [], cur, A, _ => by simp [hlF]
  | c :: t, cur, A, h => by
    have hn : ¬ (c = 10 ∧ cur.getLast? = some 13) := by
      rintro ⟨rfl, h2⟩
      have hne : cur ≠ [] := by rintro rfl; simp at h2
      have hp : 0 < cur.length := List.length_pos_iff.2 hne
      rw [last_get] at h2
      refine h (cur.length - 1) (by rw [List.getElem?_append_left (by omega)]; exact h2) ?_
      rw [show cur.length - 1 + 1 = cur.length by omega, List.getElem?_append_right (Nat.le_refl _)]
      simp
    have := hlF_no t (cur ++ [c]) A (by simpa using h)
    unfold hlF at this ⊢
    rw [List.foldl_cons]
    unfold hlS
    rw [if_neg hn]
    unfold hlS at this
    rw [this]
    simp
theorem lns_no {xs : List UInt8} (h : noCL xs) : lnsH xs = [xs] := by
  unfold lnsH
  rw [hlF_no xs [] [] (by simpa using h)]
  simp
theorem lns_cut {l r : List UInt8} (h : noCL (l ++ [13])) : lnsH (l ++ 13 :: 10 :: r) = l :: lnsH r := by
  unfold lnsH
  have e : l ++ 13 :: 10 :: r = (l ++ [13]) ++ ([10] ++ r) := by simp
  rw [e, hlF_app, hlF_no (l ++ [13]) [] [] (by simpa using h), hlF_app]
  have : hlF ([], [] ++ (l ++ [13])) [10] = ([l], []) := by
    unfold hlF
    rw [List.foldl_cons, List.foldl_nil]
    unfold hlS
    rw [if_pos ⟨rfl, by simp⟩]
    simp
  rw [this]
  have := hlF_shift r [l] [] []
  rw [List.append_nil] at this
  rw [this]
  simp
theorem hops_no (rc : List UInt8 → Bool) (h0 : rc [] = false) {xs : List UInt8} (h : noCL xs) : hopsB rc xs = if rc xs = true then 1 else 0 := by
  unfold hopsB
  rw [lns_no h]
  unfold hopN
  by_cases e : xs = []
  · subst e
    simp [h0]
  · rw [if_neg e]
    simp [hopN]
theorem hops_cut (rc : List UInt8 → Bool) {l r : List UInt8} (h : noCL (l ++ [13])) : hopsB rc (l ++ 13 :: 10 :: r) = if l = [] then 0 else (if rc l = true then 1 else 0) + hopsB rc r := by
  unfold hopsB
  rw [lns_cut h]
  rfl
theorem hops_nil (rc : List UInt8 → Bool) (h0 : rc [] = false) : hopsB rc [] = 0 := by rw [hops_no rc h0 (by intro i h; simp at h), h0]; rfl
/-- Where the first line end stands. -/
theorem index_crlf (xs : List UInt8) : (Lib.index xs [13, 10] = -1 ∧ noCL xs) ∨ (∃ i : Nat, Lib.index xs [13, 10] = i ∧ i + 2 ≤ xs.length ∧ xs = xs.take i ++ 13 :: 10 :: xs.drop (i + 2) ∧ noCL (xs.take i ++ [13])) := by
  have occ : ∀ j : Nat, xs[j]? = some 13 → xs[j + 1]? = some 10 → Lib.occAt xs [13, 10] j = true := by
    intro j h1 h2
    have e1 := List.drop_eq_getElem_cons (List.getElem?_eq_some_iff.1 h1).1
    have e2 := List.drop_eq_getElem_cons (List.getElem?_eq_some_iff.1 h2).1
    obtain ⟨q1, h1⟩ := List.getElem?_eq_some_iff.1 h1
    obtain ⟨q2, h2⟩ := List.getElem?_eq_some_iff.1 h2
    unfold Lib.occAt
    rw [e1, e2, h1, h2]
    simp [List.isPrefixOf]
  rcases Lib.index_spec xs [13, 10] with ⟨h1, h2⟩ | ⟨i, h1, h2, h3, h4⟩
  · refine .inl ⟨h1, fun i a b => ?_⟩
    have := h2 i (Nat.le_of_lt (List.getElem?_eq_some_iff.1 a).1)
    rw [occ i a b] at this
    cases this
  · have hr := Lib.index_room xs [13, 10] (by rw [h1]; omega)
    have hr2 : i + 2 ≤ xs.length := by rw [h1] at hr; simp at hr; omega
    have hd : ∃ r, xs.drop i = 13 :: 10 :: r := by
      unfold Lib.occAt at h3
      obtain ⟨r, hr⟩ := List.isPrefixOf_iff_prefix.1 h3
      exact ⟨r, by rw [← hr]; rfl⟩
    obtain ⟨r, hd⟩ := hd
    have hr3 : xs.drop (i + 2) = r := by rw [← List.drop_drop, hd]; rfl
    refine .inr ⟨i, h1, hr2, ?_, ?_⟩
    · rw [hr3, ← hd, List.take_append_drop]
    · intro j a b
      have hl : (xs.take i ++ [13]).length = i + 1 := by rw [List.length_append, List.length_take]; simp; omega
      have hj : j + 1 < i + 1 := by have := (List.getElem?_eq_some_iff.1 b).1; omega
      have e : ∀ k : Nat, k < i → (xs.take i ++ [13])[k]? = xs[k]? := fun k hk => by
        rw [List.getElem?_append_left (by rw [List.length_take]; omega), List.getElem?_take, if_pos hk]
      rw [e j (by omega)] at a
      by_cases hj2 : j + 1 < i
      · rw [e (j + 1) hj2] at b
        have := h4 j (by omega)
        rw [occ j a b] at this
        cases this
      · obtain rfl : j + 1 = i := by omega
        rw [List.getElem?_append_right (by rw [List.length_take]; omega)] at b
        rw [List.length_take, show j + 1 - min (j + 1) xs.length = 0 by omega] at b
        simp at b
end Go.Proofs.YthkoionigdnhgabGreatDoor
/-
  Addresses in plain mathematics: read and written, as the program does it; no Go in sight.
-/
namespace Go.Proofs.YthkoionigdnhgabGreatDoor

def dgB (c : UInt8) : Bool := decide (48 ≤ c.toNat) && decide (c.toNat ≤ 57)
def hxB (c : UInt8) : Bool := dgB c || (decide (65 ≤ c.toNat) && decide (c.toNat ≤ 70)) || (decide (97 ≤ c.toNat) && decide (c.toNat ≤ 102))
/-- What a digit to the base sixteen says. -/
def hxV (c : UInt8) : Nat := if c.toNat ≤ 57 then c.toNat - 48 else if c.toNat ≤ 70 then c.toNat - 55 else c.toNat - 87
def hexN : Nat → List UInt8 → Nat
  | n, [] => n
  | n, c :: r => hexN (16 * n + hxV c) r

/-- The number with which a text begins, and how many bytes it has. -/
def numGo : Nat → Nat → List UInt8 → Nat × Nat
  | n, k, [] => (n, k)
  | n, k, c :: r => if dgB c = true then (if 255 < 10 * n + (c.toNat - 48) ∨ (0 < k ∧ n = 0) then (n, k) else numGo (10 * n + (c.toNat - 48)) (k + 1) r) else (n, k)
theorem numGo_no (n k : Nat) (c : UInt8) (r : List UInt8) (h : dgB c = false) : numGo n k (c :: r) = (n, k) := by
  rw [numGo, if_neg (by rw [h]; decide)]
/-- An address of the fourth kind: its numbers, or the place that is wrong. -/
def v4Go : Nat → List Nat → Nat → List UInt8 → Except Nat (List Nat)
  | 0, l, a, s => if s = [] then .ok l else .error a
  | k + 1, l, a, s =>
    if l = [] then
      (if (numGo 0 0 s).2 = 0 then .error a else v4Go k (l ++ [(numGo 0 0 s).1]) (a + (numGo 0 0 s).2) (s.drop (numGo 0 0 s).2))
    else if s.head? = some 46 then
      (if (numGo 0 0 (s.drop 1)).2 = 0 then .error (a + 1) else v4Go k (l ++ [(numGo 0 0 (s.drop 1)).1]) (a + 1 + (numGo 0 0 (s.drop 1)).2) ((s.drop 1).drop (numGo 0 0 (s.drop 1)).2))
    else .error a
def v4 (s : List UInt8) : Except Nat (List Nat) := v4Go 4 [] 0 s

/-- The groups of an address of the sixth kind that were read so far. -/
structure Gs where
  l : List Nat
  gap : Option Nat
def Gs.room (g : Gs) : Nat := if g.gap.isSome then 6 - g.l.length else 8 - g.l.length
def Gs.whole (g : Gs) (k : Nat) : Bool := (g.gap.isSome && decide (k ≤ g.room)) || decide (k = g.room)
def Gs.put (g : Gs) (n : Nat) : Gs := ⟨g.l ++ [n], g.gap⟩
def Gs.mayOpen (g : Gs) : Bool := !g.gap.isSome && decide (g.l.length ≤ 6)
def Gs.open' (g : Gs) : Gs := ⟨g.l, some g.l.length⟩
def twoB : List Nat → List Nat
  | [] => []
  | n :: r => n / 256 :: n % 256 :: twoB r
def Gs.all (g : Gs) : List Nat := match g.gap with
  | none => g.l
  | some k => g.l.take k ++ List.replicate (8 - g.l.length) 0 ++ g.l.drop k
def Gs.addr (g : Gs) : List Nat := twoB g.all

/-- How many bytes are of the class at a text's beginning. -/
def hexSp : List UInt8 → Nat
  | [] => 0
  | c :: r => if hxB c = true then hexSp r + 1 else 0
def grpL (s : List UInt8) : Nat := min (hexSp s) 4
def grpN (s : List UInt8) : Nat := hexN 0 (s.take (grpL s))
/-- Two numbers of the fourth kind as a group. -/
def pairN (l : List Nat) (k : Nat) : Nat := 256 * l.getD k 0 + l.getD (k + 1) 0

def v6Go : Nat → Gs → Nat → List UInt8 → Except Nat (List Nat)
  | 0, _, a, _ => .error a
  | f + 1, g, a, s =>
    if grpL s = 0 ∨ g.room = 0 then .error a
    else if g.whole 2 = true ∧ s[grpL s]? = some 46 then
      match v4 s with
      | .error p => .error (a + max (grpL s) p)
      | .ok x => .ok ((g.put (pairN x 0)).put (pairN x 2)).addr
    else if s.drop (grpL s) = [] ∧ (g.put (grpN s)).whole 0 = true then .ok (g.put (grpN s)).addr
    else if (s.drop (grpL s)).head? ≠ some 58 ∨ (g.put (grpN s)).room = 0 then .error (a + grpL s)
    else if (s.drop (grpL s + 1)).head? = some 58 then
      (if (g.put (grpN s)).mayOpen = true then
        (if s.drop (grpL s + 2) = [] then .ok (g.put (grpN s)).open'.addr else v6Go f (g.put (grpN s)).open' (a + grpL s + 2) (s.drop (grpL s + 2)))
      else .error (a + grpL s + 1))
    else v6Go f (g.put (grpN s)) (a + grpL s + 1) (s.drop (grpL s + 1))
def v6 (s : List UInt8) : Except Nat (List Nat) :=
  if s.take 2 = [58, 58] then (if s.length = 2 then .ok (Gs.addr ⟨[], some 0⟩) else v6Go 9 ⟨[], some 0⟩ 2 (s.drop 2))
  else if s.head? = some 58 then .error 1
  else v6Go 9 ⟨[], none⟩ 0 s

/-- A number's digits to the base sixteen, and to the base ten. -/
def hexC (d : Nat) : UInt8 := if d < 10 then UInt8.ofNat (48 + d) else UInt8.ofNat (87 + d)
def hexF : Nat → Nat → List UInt8
  | 0, n => [hexC (n % 16)]
  | f + 1, n => if n < 16 then [hexC n] else hexF f (n / 16) ++ [hexC (n % 16)]
def hexD (n : Nat) : List UInt8 := hexF 16 n
def decD (n : Nat) : List UInt8 := if n < 10 then [UInt8.ofNat (48 + n)] else if n < 100 then [UInt8.ofNat (48 + n / 10), UInt8.ofNat (48 + n % 10)] else [UInt8.ofNat (48 + n / 100), UInt8.ofNat (48 + n / 10 % 10), UInt8.ofNat (48 + n % 10)]
def joinL (sep : List UInt8) : List (List UInt8) → List UInt8
  | [] => []
  | [x] => x
  | x :: y :: r => x ++ sep ++ joinL sep (y :: r)
def print4 (a : List Nat) : List UInt8 := joinL [46] (a.map decD)
/-- The first one of the longest rows of groups that are 0. -/
def zrGo : Nat → Nat → Nat → Nat → List (List UInt8) → Nat × Nat
  | _, _, f, t, [] => (f, t)
  | i, b, f, t, x :: r =>
    if i + 1 - (if x ≠ [48] then i + 1 else b) > t - f then zrGo (i + 1) (if x ≠ [48] then i + 1 else b) (if x ≠ [48] then i + 1 else b) (i + 1) r
    else zrGo (i + 1) (if x ≠ [48] then i + 1 else b) f t r
def zeros (l : List (List UInt8)) : Nat × Nat := zrGo 0 0 0 0 l
def grpsOf : List Nat → List Nat
  | a :: b :: r => (256 * a + b) :: grpsOf r
  | _ => []
def print6 (a : List Nat) : List UInt8 :=
  if (zeros ((grpsOf a).map hexD)).2 - (zeros ((grpsOf a).map hexD)).1 < 2 then joinL [58] ((grpsOf a).map hexD)
  else joinL [58] (((grpsOf a).map hexD).take (zeros ((grpsOf a).map hexD)).1) ++ [58, 58] ++ joinL [58] (((grpsOf a).map hexD).drop (zeros ((grpsOf a).map hexD)).2)

end Go.Proofs.YthkoionigdnhgabGreatDoor
