/-
  Bodies of whole lines in plain words: what is wrong with one, and how it is written with dots doubled.
-/
import Derived.Test.YtfifpepcmpaipaaDtP
namespace Go.Proofs.Ytfifpepcmpaipaa

/-- Is a CR or an LF bare? (h: behind a CR.) -/
def whE : Bool → List UInt8 → Bool
  | h, [] => h
  | h, c :: r => if (h != (c == 10)) = true then true else whE (c == 13) r
def lastOk (l : List UInt8) : Bool := l.getLast? == none || l.getLast? == some 10
/-- What is wrong with a body. -/
def wholeI (l : List UInt8) : Int := if whE false l = true then 130 else if lastOk l = true then 0 else 141
/-- Is a line too long? (i: the place; b: where the line begins.) -/
def lgE (t : Nat) : Nat → Nat → List UInt8 → Bool
  | _, _, [] => false
  | i, b, c :: r => if c = 10 then (if t + 1 + b < i then true else lgE t (i + 1) (i + 1) r) else lgE t (i + 1) b r
def checkI (t : Nat) (l : List UInt8) : Int := if wholeI l = 0 then (if lgE t 0 0 l = true then 140 else 0) else wholeI l
/-- A body with dots doubled. -/
def stf : Bool → List UInt8 → List UInt8
  | _, [] => []
  | b, c :: r => (if (b && c == 46) = true then [46, c] else [c]) ++ stf (c == 10) r
def stuffL (l : List UInt8) : List UInt8 := stf true l ++ [46, 13, 10]
theorem whE_cons (h : Bool) (c : UInt8) (r : List UInt8) : whE h (c :: r) = if (h != (c == 10)) = true then true else whE (c == 13) r := rfl
theorem stf_cons (b : Bool) (c : UInt8) (r : List UInt8) : stf b (c :: r) = (if (b && c == 46) = true then [46, c] else [c]) ++ stf (c == 10) r := rfl
theorem lgE_cons (t i b : Nat) (c : UInt8) (r : List UInt8) : lgE t i b (c :: r) = if c = 10 then (if t + 1 + b < i then true else lgE t (i + 1) (i + 1) r) else lgE t (i + 1) b r := rfl
theorem stf_len : ∀ (l : List UInt8) (b : Bool), (stf b l).length ≤ 2 * l.length
  | [], b => by simp [stf]
  | c :: r, b => by
    have := stf_len r (c == 10)
    rw [stf_cons, List.length_append, List.length_cons]
    split <;> simp only [List.length_cons, List.length_nil] <;> omega
theorem stf_take : ∀ (l : List UInt8) (b : Bool) (k : Nat) (hk : k < l.length) (o : List UInt8) (x : Bool), stf b l = o ++ stf x (l.drop k) → stf b l = (o ++ (if (x && l[k] == 46) = true then [46, l[k]] else [l[k]])) ++ stf (l[k] == 10) (l.drop (k + 1)) := by
  intro l b k hk o x h
  rw [List.drop_eq_getElem_cons hk, stf_cons, ← List.append_assoc] at h
  exact h
theorem lastOk_of (l : List UInt8) (h : 0 < l.length) : lastOk l = (l[l.length - 1]'(by omega) == 10) := by
  have e : l.getLast? = some (l[l.length - 1]'(by omega)) := by
    rw [List.getLast?_eq_getElem?, List.getElem?_eq_getElem (by omega)]
  unfold lastOk
  rw [e]
  simp
theorem lastOk_nil : lastOk [] = true := rfl
end Go.Proofs.Ytfifpepcmpaipaa
