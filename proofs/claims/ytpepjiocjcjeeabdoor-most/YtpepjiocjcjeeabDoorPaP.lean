/-
  Reading fields, plainly.
-/
import Derived.Test.YtpepjiocjcjeeabDoorRc16
namespace Go.Proofs.YtpepjiocjcjeeabDoor

/-- Where a field stands: its first byte, its colon, its end. -/
structure Plc where
  f : Nat
  c : Nat
  t : Nat
/-- The last one goes on up to t. -/
def setLast (ps : List Plc) (t : Nat) : List Plc := ps.dropLast ++ (match ps.getLast? with
  | some p => [⟨p.f, p.c, t⟩]
  | none => [])
def foldH (l : List UInt8) (ps : List Plc) (f t : Nat) : Except (Nat × Nat) (List Plc) := if ps = [] ∨ fldB (stE l f t) = false then .error (161, f) else .ok (setLast ps t)
def begH (l : List UInt8) (ps : List Plc) (f t : Nat) : Except (Nat × Nat) (List Plc) :=
  let a := badN 11 (stE l f t)
  if a = 0 ∨ a = t - f ∨ l[f + a]? ≠ some 58 then .error (160, f + a) else if ps.length = 4096 then .error (160, f) else .ok (ps ++ [⟨f, f + a, t⟩])
/-- A row that is not the header's end. -/
def tkH (l : List UInt8) (ps : List Plc) (f t : Nat) : Except (Nat × Nat) (List Plc) :=
  if 998 < t - f then .error (160, f + 998) else if leH (l.drop t) = false then .error (160, t) else if (match l[f]? with
    | some c => blB c
    | none => false) = true then foldH l ps f t else begH l ps f t
theorem setLast_snoc (ps : List Plc) (p : Plc) (t : Nat) : setLast (ps ++ [p]) t = ps ++ [⟨p.f, p.c, t⟩] := by
  unfold setLast
  rw [List.dropLast_concat, List.getLast?_concat]
theorem snoc_of (ps : List Plc) (h : ps ≠ []) : ∃ q p, ps = q ++ [p] := ⟨ps.dropLast, ps.getLast h, (List.dropLast_concat_getLast h).symm⟩
theorem setLast_len (ps : List Plc) (t : Nat) : (setLast ps t).length = ps.length := by
  by_cases h : ps = []
  · rw [h]; rfl
  · obtain ⟨q, p, rfl⟩ := snoc_of ps h
    rw [setLast_snoc]
    simp
/-- What Parse tells: the fields' places and where the body begins, or an error and its place. -/
def prsR (l : List UInt8) : List (Nat × Nat) → List Plc → Except (Nat × Nat) (List Plc × Nat)
  | [], _ => .error (0, 0)
  | (f, t) :: r, ps => if f = l.length then .ok (ps, f) else if leH (l.drop f) = true then .ok (ps, f + 2) else match tkH l ps f t with
    | .error e => .error e
    | .ok ps' => prsR l r ps'
def prsF (l : List UInt8) : Except (Nat × Nat) (List Plc × Nat) := prsR l (rws l 0) []
/-- The field at a place. -/
def fldAt (l : List UInt8) (p : Plc) : List UInt8 × List UInt8 := (stE l p.f p.c, stE l (p.c + 1) p.t)
end Go.Proofs.YtpepjiocjcjeeabDoor
