/-
  The plain mathematics of encoded words: no Go in sight. What a text's words are, when one is encoded, what it means; and how a text is written.
-/
import Derived.Test.YtdgepnfgjgbkoabDoorUtfE
import Derived.Test.YtdgepnfgjgbkoabDoorB64b
import Derived.Test.YtdgepnfgjgbkoabDoorPureUp
namespace Go.Proofs.YtdgepnfgjgbkoabDoor

/-- A blank or a tab. -/
def blk (c : UInt8) : Bool := c == 32 || c == 9
/-- Does a word end at k? -/
def stopAt (l : List UInt8) (k : Nat) : Bool := match l[k]? with
  | none => true
  | some c => blk c
/-- Where the word begins that goes on at k. -/
def frm (l : List UInt8) : Nat → Nat
  | 0 => 0
  | k + 1 => if stopAt l k then k + 1 else frm l k
/-- The words that end ahead of k, each by its two ends. -/
def wds (l : List UInt8) : Nat → List (Nat × Nat)
  | 0 => []
  | k + 1 => if stopAt l k = true ∧ frm l k < k then wds l k ++ [(frm l k, k)] else wds l k
def wdsA (l : List UInt8) : List (Nat × Nat) := wds l (l.length + 1)
/-- A part of a row. -/
def cutW (l : List UInt8) (f t : Nat) : List UInt8 := (l.drop f).take (t - f)

/-- What stands ahead of the first c, and what behind it. -/
def cutC (c : UInt8) : List UInt8 → List UInt8 × Option (List UInt8)
  | [] => ([], none)
  | a :: t => if a = c then ([], some t) else (a :: (cutC c t).1, (cutC c t).2)
/-- Cut at the first k question marks. -/
def pcs : Nat → List UInt8 → List (List UInt8)
  | 0, l => [l]
  | k + 1, l => match (cutC 63 l).2 with
    | none => [l]
    | some t => (cutC 63 l).1 :: pcs k t
/-- The charset, the coding (is it Q?) and the text of an encoded word. -/
def pW (w : List UInt8) : Option (List UInt8 × Bool × List UInt8) :=
  if badN 12 w < w.length then none else
  match pcs 4 w with
  | [a, cs, cd, tx, e] => if a = [61] ∧ cs ≠ [] ∧ e = [61] ∧ (upL cd = [66] ∨ upL cd = [81]) then some (cs, decide (upL cd = [81]), tx) else none
  | _ => none

/-- The bytes of a text in Q, and the place of what can't be read. -/
def uqB : Nat → List UInt8 → List UInt8 × Option Nat
  | _, [] => ([], none)
  | n, c :: t =>
    if c = 61 then
      match t with
      | a :: b :: t' => if badN 4 [a, b] = 2 then (unL [a, b] ++ (uqB (n + 3) t').1, (uqB (n + 3) t').2) else ([], some n)
      | _ => ([], some n)
    else ((if c = 95 then 32 else c) :: (uqB (n + 1) t).1, (uqB (n + 1) t).2)
/-- The bytes of an encoded word's text. -/
def rdW (q : Bool) (t : List UInt8) : List UInt8 × Option Nat :=
  if q then uqB 0 t else if unbE t = 0 then (unbL t, none) else ([], some (unbA t))

def nmU : List UInt8 := [85, 84, 70, 45, 56]
def nmA : List UInt8 := [85, 83, 45, 65, 83, 67, 73, 73]
def nmI : List UInt8 := [73, 83, 79, 45, 56, 56, 53, 57, 45, 49]
/-- The charset of a name: 1 UTF-8, 2 US-ASCII, 3 ISO-8859-1, 0 unknown. -/
def csNo (n : List UInt8) : Nat := if upL n = nmU then 1 else if upL n = nmA then 2 else if upL n = nmI then 3 else 0
/-- What bytes mean. -/
def csT (k : Nat) (b : List UInt8) : Option (List UInt8) :=
  if k = 1 then (if badU b = b.length then some b else none)
  else if k = 2 then (if badN 13 b = b.length then some b else none)
  else if k = 3 then some (b.flatMap fun c => Lib.encodeRune (c.toNat : Int)) else none
/-- What the word from f to t means: its text, or the error and its place. -/
def mnW (f t : Nat) (p : List UInt8 × Bool × List UInt8) : List UInt8 × Nat × Nat :=
  if csNo (cutC 42 p.1).1 = 0 then ([], 171, f + 2)
  else match (rdW p.2.1 p.2.2).2 with
    | some n => ([], 170, t - 2 - p.2.2.length + n)
    | none => match csT (csNo (cutC 42 p.1).1) (rdW p.2.1 p.2.2).1 with
      | none => ([], 170, t - 2 - p.2.2.length)
      | some x => (x, 0, 0)
/-- Decode, behind some words: out is laid, all ahead of done is; joins: an encoded word ended there, and no word stood behind it. -/
def dcS (l : List UInt8) : List (Nat × Nat) → List UInt8 → Nat → Bool → List UInt8 × Nat × Nat
  | [], out, done, _ => (out ++ l.drop done, 0, 0)
  | (f, t) :: ws, out, done, joins => match pW (cutW l f t) with
    | none => dcS l ws out done false
    | some p => if (mnW f t p).2.1 ≠ 0 then ([], (mnW f t p).2) else dcS l ws ((if joins then out else out ++ cutW l done f) ++ (mnW f t p).1) t true
def decW (l : List UInt8) : List UInt8 × Nat × Nat := dcS l (wdsA l) [] 0 false
/-- Needs. -/
def needW (l : List UInt8) : Bool := decide (badN 12 l < l.length) || (wdsA l).any fun p => (pW (cutW l p.1 p.2)).isSome

/-- Does a byte stand for itself in Q? -/
def qsf (c : UInt8) : Bool := isB 3 (c.toNat : Int) || c == 33 || c == 42 || c == 43 || c == 45 || c == 47
def qB (c : UInt8) : List UInt8 := if qsf c then [c] else if c = 32 then [95] else 61 :: hexL [c]
/-- Bytes in Q. -/
def qL (l : List UInt8) : List UInt8 := l.flatMap qB
/-- Bytes in a coding. -/
def txW (q : Bool) (b : List UInt8) : List UInt8 := if q then qL b else e64L b
/-- What bytes take of a word's room. -/
def coW (q : Bool) (b : List UInt8) : Nat := if q then (qL b).length else b.length
def roW (q : Bool) : Nat := if q then 63 else 45
/-- An encoded word. -/
def wrd (q : Bool) (b : List UInt8) : List UInt8 := [61, 63, 85, 84, 70, 45, 56, 63, (if q then 81 else 66), 63] ++ txW q b ++ [63, 61]
/-- The words of runes, when the bytes b are taken. -/
def wrS (q : Bool) (b : List UInt8) : List Int → List (List UInt8)
  | [] => if b = [] then [] else [wrd q b]
  | r :: rs => if roW q < coW q b + coW q (Lib.encodeRune r) then wrd q b :: wrS q (Lib.encodeRune r) rs else wrS q (b ++ Lib.encodeRune r) rs
/-- Words with a blank between each two. -/
def jnW : List (List UInt8) → List UInt8
  | [] => []
  | [w] => w
  | w :: ws => w ++ 32 :: jnW ws
def wrT (q : Bool) (l : List UInt8) : List UInt8 := jnW (wrS q [] (decL l))
/-- Encode: its text, and the error. -/
def encW (l : List UInt8) (short : Bool) : List UInt8 :=
  if badU l < l.length then [] else if short = true ∧ (wrT true l).length < (wrT false l).length then wrT true l else wrT false l
def encE (l : List UInt8) : Nat := if badU l < l.length then 50 else 0
end Go.Proofs.YtdgepnfgjgbkoabDoor
