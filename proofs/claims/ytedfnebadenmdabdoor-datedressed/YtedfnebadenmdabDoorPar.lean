/-
  The plain mathematics of reading a date: no Go in sight.
-/
import Derived.Test.YtedfnebadenmdabDoorPureNum
import Derived.Test.YtedfnebadenmdabDoorPureUp
import Derived.Test.YtedfnebadenmdabDoorCal
namespace Go.Proofs.YtedfnebadenmdabDoor

/-- What a part of the text tells: a value and what stands behind it, or a fault and where. -/
inductive Rs (α : Type) where
  | ok (v : α) (r : List UInt8)
  | bad (e : Int) (r : List UInt8)
/-- Two parts, one behind the other. -/
def both {α β : Type} (f : List UInt8 → Rs α) (g : List UInt8 → Rs β) (l : List UInt8) : Rs (α × β) :=
  match f l with
  | .ok x r => match g r with
    | .ok y q => .ok (x, y) q
    | .bad e q => .bad e q
  | .bad e r => .bad e r
/-- A part's value, turned. -/
def mapR {α β : Type} (t : α → β) (f : List UInt8 → Rs α) (l : List UInt8) : Rs β :=
  match f l with
  | .ok x r => .ok (t x) r
  | .bad e r => .bad e r

def isBl (b : UInt8) : Bool := b == 32 || b == 9
/-- How many blanks stand there. -/
def blN : List UInt8 → Nat
  | [] => 0
  | b :: r => if isBl b = true then blN r + 1 else 0
def pFree (l : List UInt8) : Rs Unit := .ok () (l.drop (blN l))
def pGap (l : List UInt8) : Rs Unit := if blN l = 0 then .bad 60 l else .ok () (l.drop (blN l))
def pMark (b : UInt8) (l : List UInt8) : Rs Unit := if l.head? = some b then .ok () (l.drop 1) else .bad 60 l
def pNum (a z : Nat) (l : List UInt8) : Rs Int := if badN 2 l < a ∨ z < badN 2 l then .bad 60 l else .ok (numV (l.take (badN 2 l)) : Int) (l.drop (badN 2 l))
/-- The place of a name among others. -/
def nameAt : List (List UInt8) → List UInt8 → Option Nat
  | [], _ => none
  | n :: r, w => if n = w then some 0 else (nameAt r w).map (· + 1)
def pName (ns : List (List UInt8)) (l : List UInt8) : Rs Int :=
  match nameAt ns (upL (l.take (badN 1 l))) with
  | some i => .ok (i : Int) (l.drop (badN 1 l))
  | none => .bad 60 l
def wdL : List (List UInt8) := [[83, 85, 78], [77, 79, 78], [84, 85, 69], [87, 69, 68], [84, 72, 85], [70, 82, 73], [83, 65, 84]]
def moL : List (List UInt8) := [[74, 65, 78], [70, 69, 66], [77, 65, 82], [65, 80, 82], [77, 65, 89], [74, 85, 78], [74, 85, 76], [65, 85, 71], [83, 69, 80], [79, 67, 84], [78, 79, 86], [68, 69, 67]]
/-- A named weekday. -/
def pNamed (l : List UInt8) : Rs Int := mapR (fun x => x.1) (both (pName wdL) (both (pMark 44) pFree)) l
def pWd (l : List UInt8) : Rs Int :=
  if badN 1 (l.drop (blN l)) = 0 then .ok (-1) (l.drop (blN l)) else pNamed (l.drop (blN l))
def pMon (l : List UInt8) : Rs Int := mapR (· + 1) (pName moL) l
def yearV (k : Nat) (n : Int) : Int := if k = 2 ∧ n < 50 then n + 2000 else if k < 4 then n + 1900 else n
def pYear (l : List UInt8) : Rs Int := mapR (yearV (badN 2 l)) (pNum 2 4) l
/-- A second, if it is said. -/
def pSec (l : List UInt8) : Rs Int := if l.head? = some 58 then pNum 2 2 (l.drop 1) else .ok 0 l
def pTime (l : List UInt8) : Rs (Int × Int × Int) := mapR (fun x => (x.1, x.2.2.1, x.2.2.2)) (both (pNum 2 2) (both (pMark 58) (both (pNum 2 2) pSec))) l
/-- What four digits say of a zone. -/
def zoneD (w : List UInt8) : Option Int := if w.length = 4 ∧ numV (w.drop 2) ≤ 59 then some (60 * (numV (w.take 2) : Int) + (numV (w.drop 2) : Int)) else none
/-- What letters, in capitals, say of a zone. -/
def zoneL (w : List UInt8) : Option Int :=
  if w.length = 1 then (if w = [74] then none else some 0)
  else if w = [85, 84] then some 0 else if w = [71, 77, 84] then some 0
  else if w = [69, 83, 84] then some (-300) else if w = [69, 68, 84] then some (-240)
  else if w = [67, 83, 84] then some (-360) else if w = [67, 68, 84] then some (-300)
  else if w = [77, 83, 84] then some (-420) else if w = [77, 68, 84] then some (-360)
  else if w = [80, 83, 84] then some (-480) else if w = [80, 68, 84] then some (-420) else none
def orBad (e : Int) (l : List UInt8) (o : Option Int) (r : List UInt8) : Rs Int := match o with | some v => .ok v r | none => .bad e l
def pZone (l : List UInt8) : Rs Int :=
  if l.head? = some 43 then orBad 61 l (zoneD ((l.drop 1).take (badN 2 (l.drop 1)))) (l.drop (1 + badN 2 (l.drop 1)))
  else if l.head? = some 45 then orBad 61 l ((zoneD ((l.drop 1).take (badN 2 (l.drop 1)))).map (fun z => -z)) (l.drop (1 + badN 2 (l.drop 1)))
  else orBad 61 l (zoneL (upL (l.take (badN 1 l)))) (l.drop (badN 1 l))
/-- A byte may stand within a remark. -/
def remB (b : UInt8) : Bool := decide (32 ≤ b.toNat) && decide (b.toNat ≤ 126) && b != 40 && b != 41 && b != 92
def remN : List UInt8 → Nat
  | [] => 0
  | b :: r => if remB b = true then remN r + 1 else 0
def pRem (l : List UInt8) : Rs Unit :=
  if l.head? = some 40 then (if (l.drop (1 + remN (l.drop 1))).head? = some 41 then .ok () (l.drop (1 + remN (l.drop 1) + 1)) else .bad 60 l) else .ok () l
def pFin (l : List UInt8) : Rs Unit := if l = [] then .ok () [] else .bad 60 l
def pEnd (l : List UInt8) : Rs Unit := mapR (fun _ => ()) (both pFree (both pRem (both pFree pFin))) l
def pHere (l : List UInt8) : Rs Nat := .ok l.length l
/-- All parts. -/
def pAll : List UInt8 → Rs (Int × Nat × Int × Unit × Int × Unit × Int × Unit × (Int × Int × Int) × Unit × Nat × Int × Unit) :=
  both pWd (both pHere (both (pNum 1 2) (both pGap (both pMon (both pGap (both pYear (both pGap (both pTime (both pGap (both pHere (both pZone pEnd)))))))))))
/-- What is answered: a date and a spot. -/
structure Ans where
  d : Dt
  e : Int
  p : Int
deriving DecidableEq
def zeroD : Dt := ⟨0, 0, 0, 0, 0, 0, 0⟩
def judge (d : Dt) (wd dayAt zoneAt : Int) : Ans :=
  if chk d = 60 ∨ (0 ≤ wd ∧ wd ≠ wdN (numD d.y d.mo d.d)) then ⟨zeroD, 60, dayAt⟩ else if chk d ≠ 0 then ⟨zeroD, chk d, zoneAt⟩ else ⟨d, 0, 0⟩
def parse (s : List UInt8) : Ans :=
  match pAll s with
  | .bad e r => ⟨zeroD, e, (s.length : Int) - (r.length : Int)⟩
  | .ok (wd, da, day, _, mo, _, y, _, (h, mi, sc), _, za, z, _) _ => judge ⟨y, mo, day, h, mi, sc, z⟩ wd ((s.length : Int) - (da : Int)) ((s.length : Int) - (za : Int))

/-- How a reader stands: at what is left, or with its first fault. -/
inductive St where
  | at (l : List UInt8)
  | bad (e p : Int)
/-- A part was taken. -/
def Step {α : Type} (n : Nat) (f : List UInt8 → Rs α) (a b : St) (v : α) : Prop :=
  (∃ e p, a = .bad e p ∧ b = .bad e p) ∨ (∃ l x r, a = .at l ∧ f l = .ok x r ∧ b = .at r ∧ v = x) ∨ (∃ l e r, a = .at l ∧ f l = .bad e r ∧ b = .bad e ((n : Int) - (r.length : Int)))
theorem Step.both {α β : Type} {n : Nat} {f : List UInt8 → Rs α} {g : List UInt8 → Rs β} {a b c : St} {v : α} {u : β} (h : Step n f a b v) (k : Step n g b c u) : Step n (both f g) a c (v, u) := by
  rcases h with ⟨e, p, rfl, rfl⟩ | ⟨l, x, r, rfl, hf, rfl, rfl⟩ | ⟨l, e, r, rfl, hf, rfl⟩
  · rcases k with ⟨e', p', h1, rfl⟩ | ⟨_, _, _, h1, _⟩ | ⟨_, _, _, h1, _⟩
    · injection h1 with h1 h2; subst h1 h2; exact .inl ⟨e, p, rfl, rfl⟩
    · cases h1
    · cases h1
  · rcases k with ⟨e', p', h1, _⟩ | ⟨l', x', r', h1, hg, rfl, rfl⟩ | ⟨l', e', r', h1, hg, rfl⟩
    · cases h1
    · injection h1 with h1; subst h1
      exact .inr (.inl ⟨l, _, r', rfl, by simp only [Proofs.YtedfnebadenmdabDoor.both, hf, hg], rfl, rfl⟩)
    · injection h1 with h1; subst h1
      exact .inr (.inr ⟨l, e', r', rfl, by simp only [Proofs.YtedfnebadenmdabDoor.both, hf, hg], rfl⟩)
  · rcases k with ⟨e', p', h1, rfl⟩ | ⟨_, _, _, h1, _⟩ | ⟨_, _, _, h1, _⟩
    · injection h1 with h1 h2; subst h1 h2
      exact .inr (.inr ⟨l, e, r, rfl, by simp only [Proofs.YtedfnebadenmdabDoor.both, hf], rfl⟩)
    · cases h1
    · cases h1
theorem Step.map {α β : Type} {n : Nat} {f : List UInt8 → Rs α} {a b : St} {v : α} (t : α → β) (h : Step n f a b v) : Step n (mapR t f) a b (t v) := by
  rcases h with ⟨e, p, rfl, rfl⟩ | ⟨l, x, r, rfl, hf, rfl, rfl⟩ | ⟨l, e, r, rfl, hf, rfl⟩
  · exact .inl ⟨e, p, rfl, rfl⟩
  · exact .inr (.inl ⟨l, _, r, rfl, by simp only [mapR, hf], rfl, rfl⟩)
  · exact .inr (.inr ⟨l, e, r, rfl, by simp only [mapR, hf], rfl⟩)
theorem Step.bad {α : Type} {n : Nat} {f : List UInt8 → Rs α} (e p : Int) (v : α) : Step n f (.bad e p) (.bad e p) v := .inl ⟨e, p, rfl, rfl⟩
theorem Step.ok {α : Type} {n : Nat} {f : List UInt8 → Rs α} {l r : List UInt8} {x : α} (h : f l = .ok x r) : Step n f (.at l) (.at r) x := .inr (.inl ⟨l, x, r, rfl, h, rfl, rfl⟩)
theorem Step.no {α : Type} {n : Nat} {f : List UInt8 → Rs α} {l r : List UInt8} {e : Int} (h : f l = .bad e r) (v : α) : Step n f (.at l) (.bad e ((n : Int) - (r.length : Int))) v := .inr (.inr ⟨l, e, r, rfl, h, rfl⟩)
/-- Two parts that answer alike where the reader stands. -/
theorem Step.like {α : Type} {n : Nat} {f g : List UInt8 → Rs α} {a b : St} {v : α} (h : Step n f a b v) (e : ∀ l, a = .at l → f l = g l) : Step n g a b v := by
  rcases h with h | ⟨l, x, r, rfl, hf, h⟩ | ⟨l, e', r, rfl, hf, h⟩
  · exact .inl h
  · exact .inr (.inl ⟨l, x, r, rfl, by rw [← e l rfl]; exact hf, h⟩)
  · exact .inr (.inr ⟨l, e', r, rfl, by rw [← e l rfl]; exact hf, h⟩)
end Go.Proofs.YtedfnebadenmdabDoor
