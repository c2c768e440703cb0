/-
  The plain mathematics of quoted-printable text: no Go in sight.
-/
import Derived.Test.YtenfopabdegmhaaDoorPureHex
namespace Go.Proofs.YtenfopabdegmhaaDoor

def valB (c : UInt8) : Bool := decide (33 ≤ c.toNat ∧ c.toNat ≤ 126 ∧ c.toNat ≠ 61)
def blkB (c : UInt8) : Bool := decide (c.toNat = 32 ∨ c.toNat = 9)
def hexB (c : UInt8) : Bool := isB 4 (c.toNat : Int)

/-- Where a text that is read stands: k 0 behind a sign, 1 behind a blank, 2 behind =, 3 behind = and a digit (h), 4 behind a CR, 5 behind = and a CR; p bytes of the row; o is meant so far. -/
structure Qs where
  k : Nat
  p : Nat
  h : UInt8
  o : List UInt8
/-- One byte within a row. -/
def stepN (s : Qs) (c : UInt8) : Option Qs :=
  if s.k = 0 ∨ s.k = 1 then
    (if valB c = true ∧ s.p ≤ 75 then some ⟨0, s.p + 1, 0, s.o ++ [c]⟩ else if blkB c = true ∧ s.p ≤ 74 then some ⟨1, s.p + 1, 0, s.o ++ [c]⟩ else if c = 61 ∧ s.p ≤ 75 then some ⟨2, s.p + 1, 0, s.o⟩ else none)
  else if s.k = 2 then (if hexB c = true ∧ s.p ≤ 74 then some ⟨3, s.p + 1, c, s.o⟩ else none)
  else if s.k = 3 then (if hexB c = true then some ⟨0, s.p + 1, 0, s.o ++ [UInt8.ofNat (hexV s.h.toNat * 16 + hexV c.toNat)]⟩ else none)
  else none
/-- One byte. -/
def stepM (s : Qs) (c : UInt8) : Option Qs :=
  if s.k = 4 then (if c = 10 then some ⟨0, 0, 0, s.o ++ [13, 10]⟩ else none)
  else if s.k = 5 then (if c = 10 then some ⟨0, 0, 0, s.o⟩ else none)
  else if c = 13 ∧ s.k = 0 then some ⟨4, s.p, 0, s.o⟩
  else if c = 13 ∧ s.k = 2 then some ⟨5, s.p, 0, s.o⟩
  else stepN s c
def runN (s : Qs) : List UInt8 → Option Qs
  | [] => some s
  | c :: r => match stepN s c with
    | none => none
    | some s' => runN s' r
def runM (s : Qs) : List UInt8 → Option Qs
  | [] => some s
  | c :: r => match stepM s c with
    | none => none
    | some s' => runM s' r
/-- How many bytes go on. -/
def okM (s : Qs) : List UInt8 → Nat
  | [] => 0
  | c :: r => match stepM s c with
    | none => 0
    | some s' => okM s' r + 1
def q0 : Qs := ⟨0, 0, 0, []⟩

theorem runN_append (s : Qs) (l m : List UInt8) : runN s (l ++ m) = (runN s l).bind fun t => runN t m := by
  induction l generalizing s with
  | nil => rfl
  | cons c r ih =>
    simp only [List.cons_append, runN]
    cases stepN s c with
    | none => rfl
    | some s' => exact ih s'
theorem runM_append (s : Qs) (l m : List UInt8) : runM s (l ++ m) = (runM s l).bind fun t => runM t m := by
  induction l generalizing s with
  | nil => rfl
  | cons c r ih =>
    simp only [List.cons_append, runM]
    cases stepM s c with
    | none => rfl
    | some s' => exact ih s'
theorem runM_snoc (l : List UInt8) (k : Nat) (h : k < l.length) (s t : Qs) (hs : runM s (l.take k) = some t) : runM s (l.take (k + 1)) = stepM t l[k] := by
  rw [List.take_succ_eq_append_getElem h, runM_append, hs]
  simp only [Option.bind, runM]
  cases stepM t l[k] <;> rfl
theorem runN_snoc (l : List UInt8) (k : Nat) (h : k < l.length) (s t : Qs) (hs : runN s (l.take k) = some t) : runN s (l.take (k + 1)) = stepN t l[k] := by
  rw [List.take_succ_eq_append_getElem h, runN_append, hs]
  simp only [Option.bind, runN]
  cases stepN t l[k] <;> rfl
theorem runN_none (l : List UInt8) (k : Nat) (s : Qs) (hs : runN s (l.take k) = none) : runN s l = none := by
  conv => lhs; rw [← List.take_append_drop k l]
  rw [runN_append, hs]
  rfl
theorem okM_le (s : Qs) (l : List UInt8) : okM s l ≤ l.length := by
  induction l generalizing s with
  | nil => exact Nat.le_refl _
  | cons c r ih =>
    unfold okM
    cases stepM s c with
    | none => exact Nat.zero_le _
    | some s' => exact Nat.succ_le_succ (ih s')
theorem okM_append (s t : Qs) (l m : List UInt8) (h : runM s l = some t) : okM s (l ++ m) = l.length + okM t m := by
  induction l generalizing s with
  | nil => injection h with h; subst h; simp
  | cons c r ih =>
    simp only [runM] at h
    cases hn : stepM s c with
    | none => rw [hn] at h; cases h
    | some s' =>
      rw [hn] at h
      simp only [List.cons_append, okM, hn, ih s' h, List.length_cons]
      omega
theorem okM_stop (s t : Qs) (l : List UInt8) (k : Nat) (hk : k < l.length) (h : runM s (l.take k) = some t) (hn : stepM t l[k] = none) : okM s l = k ∧ runM s l = none := by
  have e : l = l.take k ++ (l[k] :: l.drop (k + 1)) := by rw [List.getElem_cons_drop, List.take_append_drop]
  have hl : (l.take k).length = k := by rw [List.length_take]; omega
  constructor
  · conv => lhs; rw [e]
    rw [okM_append s t _ _ h, hl]
    simp [okM, hn]
  · conv => lhs; rw [e]
    rw [runM_append, h]
    simp [runM, hn]
theorem okM_run (s : Qs) (l : List UInt8) : (okM s l = l.length ↔ (runM s l).isSome = true) := by
  induction l generalizing s with
  | nil => simp [okM, runM]
  | cons c r ih =>
    simp only [okM, runM, List.length_cons]
    cases stepM s c with
    | none => simp
    | some s' => simpa using ih s'

/-- What Unquote tells. -/
def unqOk (l : List UInt8) : Bool := match runM q0 l with
  | none => false
  | some t => decide (t.k = 0)
def unqA (l : List UInt8) : Nat := okM q0 l
def unqL (l : List UInt8) : List UInt8 := match runM q0 l with
  | none => []
  | some t => t.o

/-- What has been meant ahead stays ahead. -/
def ahead (x : List UInt8) (s : Qs) : Qs := ⟨s.k, s.p, s.h, x ++ s.o⟩
theorem stepN_ahead (x : List UInt8) (s : Qs) (c : UInt8) : stepN (ahead x s) c = (stepN s c).map (ahead x) := by
  unfold stepN ahead
  simp only
  repeat' split
  all_goals simp [List.append_assoc]
theorem stepM_ahead (x : List UInt8) (s : Qs) (c : UInt8) : stepM (ahead x s) c = (stepM s c).map (ahead x) := by
  unfold stepM
  rw [stepN_ahead]
  unfold ahead
  simp only
  repeat' split
  all_goals simp [List.append_assoc]
theorem runM_ahead (x : List UInt8) (s : Qs) (l : List UInt8) : runM (ahead x s) l = (runM s l).map (ahead x) := by
  induction l generalizing s with
  | nil => rfl
  | cons c r ih =>
    simp only [runM, stepM_ahead]
    cases stepM s c with
    | none => rfl
    | some s' => exact ih s'
theorem okM_ahead (x : List UInt8) (s : Qs) (l : List UInt8) : okM (ahead x s) l = okM s l := by
  induction l generalizing s with
  | nil => rfl
  | cons c r ih =>
    simp only [okM, stepM_ahead]
    cases stepM s c with
    | none => rfl
    | some s' => simp only [Option.map]; rw [ih s']

/-- Within a row the places are few. -/
theorem stepN_p (s t : Qs) (c : UInt8) (h : stepN s c = some t) : t.p = s.p + 1 ∧ t.k ≤ 3 ∧ (t.k = 0 → t.p ≤ 76 ∨ s.k = 3) ∧ (t.k = 1 → t.p ≤ 75) ∧ (t.k = 2 → t.p ≤ 76) ∧ (t.k = 3 → t.p ≤ 75) := by
  unfold stepN at h
  repeat' split at h
  all_goals first | cases h | skip
  all_goals refine ⟨rfl, ?_, ?_, ?_, ?_, ?_⟩ <;> simp only <;> first | omega | (intro _; omega) | (intro _; exact .inl (by omega)) | (intro _; right; assumption)
def fits (s : Qs) : Prop := s.k ≤ 3 ∧ s.p ≤ 76 ∧ (s.k = 1 → s.p ≤ 75) ∧ (s.k = 3 → s.p ≤ 75)
theorem fits_step (s t : Qs) (c : UInt8) (hs : fits s) (h : stepN s c = some t) : fits t := by
  obtain ⟨h1, h2, h3, h4, h5, h6⟩ := stepN_p s t c h
  obtain ⟨f1, f2, f3, f4⟩ := hs
  refine ⟨h2, ?_, h4, h6⟩
  by_cases e0 : t.k = 0
  · rcases h3 e0 with h | h
    · exact h
    · have := f4 h; omega
  · by_cases e1 : t.k = 1
    · have := h4 e1; omega
    · by_cases e2 : t.k = 2
      · exact h5 e2
      · have := h6 (by omega); omega
theorem runN_fits (s t : Qs) (l : List UInt8) (hs : fits s) (h : runN s l = some t) : fits t ∧ t.p = s.p + l.length := by
  induction l generalizing s with
  | nil => injection h with h; subst h; exact ⟨hs, rfl⟩
  | cons c r ih =>
    simp only [runN] at h
    cases hn : stepN s c with
    | none => rw [hn] at h; cases h
    | some s' =>
      rw [hn] at h
      obtain ⟨a, b⟩ := ih s' (fits_step s s' c hs hn) h
      refine ⟨a, ?_⟩
      rw [b, (stepN_p s s' c hn).1, List.length_cons]
      omega
theorem fits0 : fits q0 := by unfold fits q0; simp
/-- Behind a row with CR and LF left out, a row is a row. -/
def rowR (t : List UInt8) : Option (List UInt8 × Bool) := match runN q0 t with
  | none => none
  | some s => if s.k = 0 then some (s.o, false) else if s.k = 2 then some (s.o, true) else none
theorem rowR_long (t : List UInt8) (h : 76 < t.length) : rowR t = none := by
  unfold rowR
  cases hn : runN q0 t with
  | none => rfl
  | some s =>
    obtain ⟨⟨_, h2, _⟩, h3⟩ := runN_fits q0 s t fits0 hn
    simp [q0] at h3
    omega
/-- Does some row begin so, or end so with the CR behind it? -/
def goesB (t : List UInt8) : Bool := (runN q0 t).isSome || (match t.getLast? with
  | some c => decide (c = 13) && (rowR t.dropLast).isSome
  | none => false)
theorem rowR_isSome (t : List UInt8) (h : (rowR t).isSome = true) : (runN q0 t).isSome = true := by
  unfold rowR at h
  cases hn : runN q0 t with
  | none => rw [hn] at h; cases h
  | some s => rfl
theorem goes_two (t : List UInt8) : ((rowR t).isSome || (rowR (t ++ [48])).isSome) = (runN q0 t).isSome := by
  cases hn : runN q0 t with
  | none =>
    have h1 : rowR t = none := by unfold rowR; rw [hn]
    have h2 : rowR (t ++ [48]) = none := by unfold rowR; rw [runN_append, hn]; rfl
    simp [h1, h2]
  | some s =>
    obtain ⟨⟨f1, f2, f3, f4⟩, _⟩ := runN_fits q0 s t fits0 hn
    have hv : valB 48 = true := by decide
    have hx : hexB 48 = true := by decide
    by_cases e0 : s.k = 0
    · simp [rowR, hn, e0]
    · by_cases e2 : s.k = 2
      · simp [rowR, hn, e2]
      · have h2 : (rowR (t ++ [48])).isSome = true := by
          unfold rowR
          rw [runN_append, hn]
          by_cases e1 : s.k = 1
          · have := f3 e1
            simp [Option.bind, runN, stepN, e1, hv, this]
          · have e3 : s.k = 3 := by omega
            simp [Option.bind, runN, stepN, e3, hx]
        simp [h2]

/-! Writing. -/
def signQ (c : UInt8) (last : Bool) : List UInt8 := if valB c = true ∨ (blkB c = true ∧ last = false) then [c] else [61, hexD (c.toNat / 16), hexD (c.toNat % 16)]
/-- A line's rows; r: how much the row holds. -/
def qrow : Nat → List UInt8 → List UInt8
  | _, [] => []
  | r, c :: t => if 76 < r + (signQ c t.isEmpty).length + (if t.isEmpty = true then 0 else 1) then 61 :: 13 :: 10 :: (signQ c t.isEmpty ++ qrow (signQ c t.isEmpty).length t) else signQ c t.isEmpty ++ qrow (r + (signQ c t.isEmpty).length) t
/-- The first CR LF. -/
def crlf : List UInt8 → Option Nat
  | 13 :: 10 :: _ => some 0
  | _ :: r => (crlf r).map (· + 1)
  | [] => none
/-- Line by line. -/
def quoteF : Nat → List UInt8 → List UInt8
  | 0, l => qrow 0 l
  | n + 1, l => match crlf l with
    | none => qrow 0 l
    | some i => qrow 0 (l.take i) ++ 13 :: 10 :: quoteF n (l.drop (i + 2))
def quoteL (l : List UInt8) : List UInt8 := quoteF l.length l
theorem crlf_lt (l : List UInt8) (i : Nat) (h : crlf l = some i) : i + 2 ≤ l.length := by
  induction l generalizing i with
  | nil => simp [crlf] at h
  | cons c r ih =>
    unfold crlf at h
    split at h
    · injection h with h
      rename_i heq
      injection heq with _ e
      subst e h
      simp
    · rename_i heq
      injection heq with e1 e2
      subst e1 e2
      rw [Option.map_eq_some_iff] at h
      obtain ⟨j, hj, rfl⟩ := h
      have := ih j hj
      simp only [List.length_cons]
      omega
    · cases h
theorem quoteF_enough (n m : Nat) (l : List UInt8) (h : l.length ≤ n) (h' : l.length ≤ m) : quoteF n l = quoteF m l := by
  induction n generalizing m l with
  | zero =>
    have : l = [] := List.eq_nil_of_length_eq_zero (by omega)
    subst this
    cases m with
    | zero => rfl
    | succ m => simp [quoteF, crlf]
  | succ n ih =>
    cases m with
    | zero =>
      have : l = [] := List.eq_nil_of_length_eq_zero (by omega)
      subst this
      simp [quoteF, crlf]
    | succ m =>
      simp only [quoteF]
      cases hc : crlf l with
      | none => rfl
      | some i =>
        have := crlf_lt l i hc
        simp only
        rw [ih m (l.drop (i + 2)) (by rw [List.length_drop]; omega) (by rw [List.length_drop]; omega)]
theorem quote_none (l : List UInt8) (h : crlf l = none) : quoteL l = qrow 0 l := by
  unfold quoteL
  cases l.length with
  | zero => rfl
  | succ n => simp [quoteF, h]
theorem quote_some (l : List UInt8) (i : Nat) (h : crlf l = some i) : quoteL l = qrow 0 (l.take i) ++ 13 :: 10 :: quoteL (l.drop (i + 2)) := by
  have hi := crlf_lt l i h
  unfold quoteL
  rw [List.length_drop]
  obtain ⟨n, hn⟩ : ∃ n, l.length = n + 1 := ⟨l.length - 1, by omega⟩
  rw [hn]
  simp only [quoteF, h]
  rw [quoteF_enough n (n + 1 - (i + 2)) (l.drop (i + 2)) (by rw [List.length_drop]; omega) (by rw [List.length_drop]; omega)]
end Go.Proofs.YtenfopabdegmhaaDoor
