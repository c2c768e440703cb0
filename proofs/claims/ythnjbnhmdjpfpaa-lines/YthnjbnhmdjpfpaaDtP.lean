/-
  A reader of a body in plain words: where it stands, what it counted, and what is told with each byte.
-/
namespace Go.Proofs.Ythnjbnhmdjpfpaa

/-- Where a reader stands, and what it knows. -/
structure Ds where
  p : Nat
  row : Nat
  size : Nat
  bare : Bool
  long : Bool
  high : Bool
def Ds.new : Ds := ⟨1, 0, 0, false, false, false⟩
/-- A byte of the body, counted. -/
def Ds.tl (s : Ds) (c : UInt8) : Ds := { s with size := s.size + 1, high := s.high || decide (127 < c.toNat) }
/-- What is told of it. -/
def Ds.ou (a : Nat) (s : Ds) (c : UInt8) : List UInt8 := if a < s.size + 1 then [] else [c]
/-- Within a line: the reader as it is ahead of the counting. -/
def Ds.mid (t : Nat) (s : Ds) (c : UInt8) : Ds := if c = 13 then { s with p := 5 } else { s with p := 4, row := s.row + 1, bare := s.bare || c == 10, long := s.long || decide (t < s.row + 1) }
def Ds.inn (t : Nat) (s : Ds) (c : UInt8) : Ds := (s.mid t c).tl c
/-- One byte: the reader behind it. -/
def Ds.stp (t : Nat) (s : Ds) (c : UInt8) : Ds :=
  if s.p = 1 then (if c = 46 then { s with p := 2 } else s.inn t c)
  else if s.p = 2 then (if c = 13 then { s with p := 3 } else s.inn t c)
  else if s.p = 3 then (if c = 10 then { s with p := 6 } else ({ s.tl 13 with bare := true }).inn t c)
  else if s.p = 5 then (if c = 10 then ({ s with p := 1, row := 0 }).tl 10 else ({ s with bare := true }).inn t c)
  else s.inn t c
/-- One byte: what is told with it. -/
def Ds.out (a : Nat) (s : Ds) (c : UInt8) : List UInt8 :=
  if s.p = 1 then (if c = 46 then [] else s.ou a c)
  else if s.p = 2 then (if c = 13 then [] else s.ou a c)
  else if s.p = 3 then (if c = 10 then [] else s.ou a 13 ++ (s.tl 13).ou a c)
  else s.ou a c
/-- What is wrong. -/
def Ds.why (a : Nat) (s : Ds) : Int := if s.bare then 130 else if s.long then 140 else if a < s.size then 150 else 0
def Ds.held (s : Ds) : Nat := if s.p = 2 then 1 else if s.p = 3 then 2 else 0
/-- Bytes one after the other, up to the end: how many, what is told, the reader behind them. -/
def Ds.run (t a : Nat) : Ds → List UInt8 → Nat × List UInt8 × Ds
  | s, [] => (0, [], s)
  | s, c :: r => if s.p < 6 then ((Ds.run t a (s.stp t c) r).1 + 1, s.out a c ++ (Ds.run t a (s.stp t c) r).2.1, (Ds.run t a (s.stp t c) r).2.2) else (0, [], s)
/-- An item: none, bytes of a body, the end. -/
inductive Im where
  | no
  | body (l : List UInt8)
  | fin (y : Int) (h : Bool)
def Ds.over (s : Ds) : Ds := { s with p := 7 }
/-- What one Take tells of what its bytes came to. -/
def imOf (a : Nat) (l : List UInt8) (s : Ds) : Im := if l = [] then (if s.p = 6 then .fin (s.why a) s.high else .no) else .body l
def stOf (l : List UInt8) (s : Ds) : Ds := if l = [] then (if s.p = 6 then s.over else s) else s

theorem Ds.run_nil (t a : Nat) (s : Ds) : s.run t a [] = (0, [], s) := rfl
theorem Ds.run_cons {t a : Nat} {s : Ds} (h : s.p < 6) (c : UInt8) (r : List UInt8) : s.run t a (c :: r) = ((Ds.run t a (s.stp t c) r).1 + 1, s.out a c ++ (Ds.run t a (s.stp t c) r).2.1, (Ds.run t a (s.stp t c) r).2.2) := if_pos h
theorem Ds.run_over {t a : Nat} {s : Ds} (h : ¬ s.p < 6) : ∀ l, s.run t a l = (0, [], s)
  | [] => rfl
  | _ :: _ => if_neg h
theorem Ds.run_len (t a : Nat) : ∀ (l : List UInt8) (s : Ds), (s.run t a l).1 ≤ l.length
  | [], s => Nat.le_refl _
  | c :: r, s => by
    by_cases h : s.p < 6
    · rw [run_cons h]; have := run_len t a r (s.stp t c); simp only [List.length_cons]; omega
    · rw [run_over h]; exact Nat.zero_le _
/-- One byte after the other. -/
theorem Ds.run_at {t a : Nat} {s : Ds} {b : List UInt8} {i : Nat} (hi : i < b.length) {o : List UInt8} {x : Ds}
    (h : s.run t a b = ((x.run t a (b.drop i)).1 + i, o ++ (x.run t a (b.drop i)).2.1, (x.run t a (b.drop i)).2.2)) :
    (x.p < 6 → s.run t a b = (((x.stp t b[i]).run t a (b.drop (i + 1))).1 + (i + 1), (o ++ x.out a b[i]) ++ ((x.stp t b[i]).run t a (b.drop (i + 1))).2.1, ((x.stp t b[i]).run t a (b.drop (i + 1))).2.2)) ∧
    (¬ x.p < 6 → s.run t a b = (i, o, x)) := by
  have hd : b.drop i = b[i] :: b.drop (i + 1) := List.drop_eq_getElem_cons hi
  rw [hd] at h
  constructor
  · intro hx
    rw [run_cons hx] at h
    rw [h, List.append_assoc]
    exact Prod.ext (by show _ + 1 + i = _ + (i + 1); omega) rfl
  · intro hx
    rw [run_over hx] at h
    rw [h]
    simp
theorem Ds.run_end {t a : Nat} {s : Ds} {b : List UInt8} {o : List UInt8} {x : Ds} {i : Nat} (hi : i = b.length)
    (h : s.run t a b = ((x.run t a (b.drop i)).1 + i, o ++ (x.run t a (b.drop i)).2.1, (x.run t a (b.drop i)).2.2)) : s.run t a b = (i, o, x) := by
  rw [hi, List.drop_length, run_nil] at h
  rw [h, hi]
  simp
/-- The size grows by two at most. -/
theorem Ds.tl_size (s : Ds) (c : UInt8) : (s.tl c).size = s.size + 1 := rfl
theorem Ds.mid_size (t : Nat) (s : Ds) (c : UInt8) : (s.mid t c).size = s.size ∧ (s.mid t c).row ≤ s.row + 1 := by
  unfold mid
  split <;> simp
theorem Ds.stp_size (t : Nat) (s : Ds) (c : UInt8) : (s.stp t c).size ≤ s.size + 2 ∧ (s.stp t c).row ≤ s.row + 1 := by
  unfold stp inn
  have h := fun x : Ds => mid_size t x c
  split
  · split
    · simp
    · simp [tl, (h s).1, (h s).2]
  · split
    · split
      · simp
      · simp [tl, (h s).1, (h s).2]
    · split
      · split
        · simp
        · have := h { s.tl 13 with bare := true }
          simp only [tl] at this ⊢
          omega
      · split
        · split
          · simp [tl]
          · have := h { s with bare := true }
            simp only [tl] at this ⊢
            omega
        · have := h s
          simp only [tl] at this ⊢
          omega
theorem Ds.out_len (a : Nat) (s : Ds) (c : UInt8) : (s.out a c).length ≤ 2 := by
  have h : ∀ (x : Ds) (d : UInt8), (x.ou a d).length ≤ 1 := fun x d => by unfold ou; split <;> simp
  have h1 := h s c
  have h2 := h s 13
  have h3 := h (s.tl 13) c
  unfold out
  repeat' split
  all_goals simp
  all_goals omega
end Go.Proofs.Ythnjbnhmdjpfpaa
