/-
  The plain mathematics of parameters: no Go in sight.
-/
import Derived.Test.YtjpmfgmoekpcpabGreatDoorPureBad
import Derived.Test.YtjpmfgmoekpcpabGreatDoorUtfP
namespace Go.Proofs.YtjpmfgmoekpcpabGreatDoor

/-- A parameter. -/
structure Pm where
  name : List UInt8
  val : List UInt8
  has : Bool
/-- How many bytes from the beginning are a keyword. -/
def kwN : List UInt8 → Nat
  | [] => 0
  | c :: r => if isB 3 (c.toNat : Int) = true then badN 10 (c :: r) else 0
theorem kwN_le (l : List UInt8) : kwN l ≤ l.length := by
  cases l with
  | nil => exact Nat.le_refl _
  | cons c r =>
    rw [kwN]
    split
    · exact badN_le _ _
    · exact Nat.zero_le _
/-- The bytes ahead of the first blank. -/
def tilB (b : UInt8) (l : List UInt8) : List UInt8 := l.takeWhile (· ≠ b)
theorem tilB_len (b : UInt8) (l : List UInt8) : (tilB b l).length ≤ l.length := (List.takeWhile_sublist _).length_le
theorem tilB_take (b : UInt8) (l : List UInt8) : tilB b l = l.take (tilB b l).length := by
  unfold tilB
  induction l with
  | nil => rfl
  | cons c r ih =>
    rw [List.takeWhile_cons]
    split
    · simp only [List.length_cons, List.take_succ_cons]; rw [← ih]
    · rfl
/-- Whether a byte may stand in a value. -/
def vlB (wide : Bool) (c : UInt8) : Bool := isB 8 (c.toNat : Int) || (wide && isB 14 (c.toNat : Int))
/-- The place of the first byte that may not stand in a value; the length, if there is none. -/
def badV (wide : Bool) (l : List UInt8) : Nat :=
  if (l.takeWhile (vlB wide)).length < l.length then (l.takeWhile (vlB wide)).length else badU l
/-- What is read: an error and its place, or something, and how many bytes it took. -/
def pm1 (wide : Bool) (l : List UInt8) : Except (Nat × Nat) (Pm × Nat) :=
  if kwN l = 0 then .error (100, 0) else
  match l.drop (kwN l) with
  | [] => .ok (⟨upL (l.take (kwN l)), [], false⟩, kwN l)
  | c :: t =>
    if c = 32 then .ok (⟨upL (l.take (kwN l)), [], false⟩, kwN l)
    else if c = 61 then
      (if (tilB 32 t).length = 0 ∨ badV wide (tilB 32 t) < (tilB 32 t).length then .error (101, kwN l + 1 + badV wide (tilB 32 t))
       else .ok (⟨upL (l.take (kwN l)), tilB 32 t, true⟩, kwN l + 1 + (tilB 32 t).length))
    else .error (100, kwN l)
def Pq.on (acc : List Pm) (k : Nat) : Except (Nat × Nat) (List Pm) → Except (Nat × Nat) (List Pm)
  | .error (e, p) => .error (e, k + p)
  | .ok l => .ok (acc ++ l)
/-- Parameters, as many as there is room for. -/
def prs (wide : Bool) : Nat → List UInt8 → Except (Nat × Nat) (List Pm)
  | _, [] => .ok []
  | 0, c :: _ => if c = 32 then .error (4, 0) else .error (100, 0)
  | j + 1, c :: r =>
    if c = 32 then
      match pm1 wide r with
      | .error (e, p) => .error (e, 1 + p)
      | .ok (p, n) => Pq.on [p] (1 + n) (prs wide j (r.drop n))
    else .error (100, 0)
theorem Pq.on_on (acc bcc : List Pm) (k m : Nat) (x : Except (Nat × Nat) (List Pm)) : Pq.on acc k (Pq.on bcc m x) = Pq.on (acc ++ bcc) (k + m) x := by
  rcases x with ⟨e, p⟩ | l <;> simp [Pq.on, Nat.add_assoc]
theorem Pq.on_nil (x : Except (Nat × Nat) (List Pm)) : x = Pq.on [] 0 x := by rcases x with ⟨e, p⟩ | l <;> simp [Pq.on]
theorem prs_end (wide : Bool) (j : Nat) : prs wide j [] = .ok [] := by cases j <;> rfl
theorem prs_no (wide : Bool) (j : Nat) (c : UInt8) (r : List UInt8) (h : c ≠ 32) : prs wide j (c :: r) = .error (100, 0) := by
  cases j with
  | zero => rw [prs, if_neg h]
  | succ j => rw [prs, if_neg h]
theorem prs_full (wide : Bool) (c : UInt8) (r : List UInt8) (h : c = 32) : prs wide 0 (c :: r) = .error (4, 0) := by rw [prs, if_pos h]
theorem prs_step (wide : Bool) (j : Nat) (c : UInt8) (r : List UInt8) (h : c = 32) : prs wide (j + 1) (c :: r) = match pm1 wide r with
      | .error (e, p) => .error (e, 1 + p)
      | .ok (p, n) => Pq.on [p] (1 + n) (prs wide j (r.drop n)) := by rw [prs, if_pos h]
/-- Whether a name may be written: a keyword without small letters. -/
def nmB (l : List UInt8) : Bool := decide (l.length ≠ 0) && decide (kwN l = l.length) && decide (upL l = l)
/-- Whether a value may be written. -/
def vaB (p : Pm) : Bool := if p.has then decide (p.val.length ≠ 0) && decide (badV true p.val = p.val.length) else decide (p.val.length = 0)
def wr1 (p : Pm) : List UInt8 := 32 :: p.name ++ (if p.has then 61 :: p.val else [])
def prtL : List Pm → Except Nat (List UInt8)
  | [] => .ok []
  | p :: r => if nmB p.name = true then (if vaB p = true then (match prtL r with
      | .error e => .error e
      | .ok t => .ok (wr1 p ++ t)) else .error 101) else .error 100
def prt (l : List Pm) : Except Nat (List UInt8) := if 16 < l.length then .error 4 else prtL l
end Go.Proofs.YtjpmfgmoekpcpabGreatDoor
