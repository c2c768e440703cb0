/-
  The plain mathematics of the classes of bytes: no Go in sight.
-/
namespace Go.Proofs.YtbfgefgadplcjaaDoor

/-- A byte (as a number) stands in a row of bytes. -/
def hasB (l : List UInt8) (b : Int) : Bool := l.any fun c => (c.toNat : Int) == b

theorem hasB_drop (l : List UInt8) (b : Int) (k : Nat) (h : k < l.length) : hasB (l.drop k) b = (((l[k].toNat : Int) == b) || hasB (l.drop (k + 1)) b) := by
  unfold hasB
  rw [List.drop_eq_getElem_cons h, List.any_cons]

/-- A byte lies in one of the stretches of a row of pairs. -/
def inPairs : List UInt8 → Int → Bool
  | x :: y :: r, b => (decide ((x.toNat : Int) ≤ b) && decide (b ≤ (y.toNat : Int))) || inPairs r b
  | _, _ => false

theorem inPairs_drop (l : List UInt8) (b : Int) (k : Nat) (h : k + 1 < l.length) :
    inPairs (l.drop k) b = ((decide ((l[k].toNat : Int) ≤ b) && decide (b ≤ (l[k + 1].toNat : Int))) || inPairs (l.drop (k + 2)) b) := by
  rw [List.drop_eq_getElem_cons (by omega), List.drop_eq_getElem_cons h, inPairs]

theorem inPairs_end (l : List UInt8) (b : Int) (k : Nat) (h : l.length ≤ k + 1) : inPairs (l.drop k) b = false := by
  have hl : (l.drop k).length ≤ 1 := by simp; omega
  match hd : l.drop k, hl with
  | [], _ => rfl
  | [_], _ => rfl
  | _ :: _ :: _, hl => simp at hl

/-- The rows of the table, a row a class. -/
def classRows : List (List UInt8) := [[], [65, 90, 97, 122], [48, 57], [48, 57, 65, 90, 97, 122], [48, 57, 65, 70, 97, 102], [48, 57, 65, 90, 97, 122, 33, 33, 35, 39, 42, 43, 45, 45, 47, 47, 61, 61, 63, 63, 94, 96, 123, 126], [32, 33, 35, 91, 93, 126], [33, 90, 94, 126], [33, 60, 62, 126], [33, 42, 44, 60, 62, 126], [48, 57, 65, 90, 97, 122, 45, 45], [33, 57, 59, 126], [9, 9, 32, 126], [0, 127], [128, 255]]

/-- Whether a byte is of a class. -/
def isB (cl b : Int) : Bool := if cl < 0 ∨ 15 ≤ cl then false else inPairs (classRows.getD cl.toNat []) b

def shownB (b : Int) (but : List UInt8) : Bool := decide (33 ≤ b) && decide (b ≤ 126) && !hasB but b
def caps : List UInt8 := [65, 66, 67, 68, 69, 70, 71, 72, 73, 74, 75, 76, 77, 78, 79, 80, 81, 82, 83, 84, 85, 86, 87, 88, 89, 90]
def smls : List UInt8 := [97, 98, 99, 100, 101, 102, 103, 104, 105, 106, 107, 108, 109, 110, 111, 112, 113, 114, 115, 116, 117, 118, 119, 120, 121, 122]
def odigs : List UInt8 := [48, 49, 50, 51, 52, 53, 54, 55, 56, 57]
def hexs : List UInt8 := [48, 49, 50, 51, 52, 53, 54, 55, 56, 57, 65, 66, 67, 68, 69, 70, 97, 98, 99, 100, 101, 102]
def sgns : List UInt8 := [33, 35, 36, 37, 38, 39, 42, 43, 45, 47, 61, 63, 94, 95, 123, 124, 125, 126, 96]
def r1 (b : Int) : Bool := hasB caps b || hasB smls b
def r2 (b : Int) : Bool := hasB odigs b
def r3 (b : Int) : Bool := r1 b || r2 b
/-- The document's answer. -/
def refB (cl b : Int) : Bool :=
  if cl = 1 then r1 b else if cl = 2 then r2 b else if cl = 3 then r3 b else if cl = 4 then hasB hexs b
  else if cl = 5 then r3 b || hasB sgns b else if cl = 6 then decide (b = 32) || shownB b [34, 92]
  else if cl = 7 then shownB b [91, 92, 93] else if cl = 8 then shownB b [61] else if cl = 9 then shownB b [43, 61]
  else if cl = 10 then r3 b || decide (b = 45) else if cl = 11 then shownB b [58]
  else if cl = 12 then decide (b = 9) || decide (b = 32) || shownB b []
  else if cl = 13 then decide (b < 128) else if cl = 14 then decide (128 ≤ b) else false

theorem is_ref_fin : ∀ c : Fin 15, ∀ b : Fin 256, isB (c.val : Int) (b.val : Int) = refB (c.val : Int) (b.val : Int) := by decide +kernel

theorem is_ref (c b : Int) (h0 : 0 ≤ b) (h1 : b ≤ 255) : isB c b = refB c b := by
  by_cases hc : c < 0 ∨ 15 ≤ c
  · unfold isB refB
    rw [if_pos hc]
    repeat rw [if_neg (by omega)]
  · obtain ⟨n, rfl⟩ := Int.eq_ofNat_of_zero_le (show 0 ≤ c by omega)
    obtain ⟨m, rfl⟩ := Int.eq_ofNat_of_zero_le h0
    exact is_ref_fin ⟨n, by omega⟩ ⟨m, by omega⟩
end Go.Proofs.YtbfgefgadplcjaaDoor
/-
  The plain mathematics of Bad and Span: no Go in sight.
-/
namespace Go.Proofs.YtbfgefgadplcjaaDoor

/-- How many bytes ahead of the first that is not of the class. -/
def badN (c : Int) : List UInt8 → Nat
  | [] => 0
  | b :: r => if isB c (b.toNat : Int) = true then badN c r + 1 else 0

theorem badN_le (c : Int) : ∀ l : List UInt8, badN c l ≤ l.length
  | [] => Nat.le_refl _
  | b :: r => by
    have := badN_le c r
    unfold badN
    split <;> simp <;> omega

theorem badN_yes (c : Int) (l : List UInt8) (k : Nat) (h : k < l.length) (hb : isB c (l[k].toNat : Int) = true) : badN c (l.drop k) = badN c (l.drop (k + 1)) + 1 := by
  rw [List.drop_eq_getElem_cons h, badN, if_pos hb]
theorem badN_no (c : Int) (l : List UInt8) (k : Nat) (h : k < l.length) (hb : isB c (l[k].toNat : Int) = false) : badN c (l.drop k) = 0 := by
  rw [List.drop_eq_getElem_cons h, badN, if_neg (by rw [hb]; decide)]
theorem badN_end (c : Int) (l : List UInt8) (k : Nat) (h : l.length ≤ k) : badN c (l.drop k) = 0 := by
  rw [List.drop_eq_nil_of_le h, badN]

/-- The place behind the row of bytes of the class that begins at from. -/
def spanI (c : Int) (l : List UInt8) (f : Int) : Int := if f < 0 then f else f + (badN c (l.drop f.toNat) : Int)
theorem spanI_neg (c : Int) (l : List UInt8) (f : Int) (h : f < 0) : spanI c l f = f := if_pos h
theorem spanI_nat (c : Int) (l : List UInt8) (f : Nat) : spanI c l (f : Int) = (f : Int) + (badN c (l.drop f) : Int) := if_neg (by omega)
theorem spanI_zero (c : Int) (l : List UInt8) : spanI c l 0 = (badN c l : Int) := by
  have := spanI_nat c l 0
  simpa using this
theorem spanI_behind (c : Int) (l : List UInt8) (f : Int) (h : (l.length : Int) ≤ f) : spanI c l f = f := by
  obtain ⟨n, rfl⟩ := Int.eq_ofNat_of_zero_le (show 0 ≤ f by omega)
  rw [spanI_nat, badN_end _ _ _ (by omega)]
  omega
end Go.Proofs.YtbfgefgadplcjaaDoor
/-
  The plain mathematics of numbers in digits: no Go in sight.
-/
namespace Go.Proofs.YtbfgefgadplcjaaDoor

/-- What a row of digits says. -/
def numV (l : List UInt8) : Nat := l.foldl (fun n b => n * 10 + (b.toNat - 48)) 0

theorem numV_snoc (l : List UInt8) (k : Nat) (h : k < l.length) : numV (l.take (k + 1)) = numV (l.take k) * 10 + (l[k].toNat - 48) := by
  unfold numV
  rw [List.take_succ_eq_append_getElem h, List.foldl_append]
  rfl

theorem numV_mono (l : List UInt8) (k : Nat) : numV (l.take k) ≤ numV l := by
  have h : ∀ (r : List UInt8) (n : Nat), n ≤ r.foldl (fun n b => n * 10 + (b.toNat - 48)) n := by
    intro r
    induction r with
    | nil => intro n; exact Nat.le_refl _
    | cons b r ih => intro n; exact Nat.le_trans (show n ≤ n * 10 + (b.toNat - 48) by omega) (ih _)
  have e : numV l = (l.drop k).foldl (fun n b => n * 10 + (b.toNat - 48)) (numV (l.take k)) := by
    unfold numV
    rw [← List.foldl_append, List.take_append_drop]
  rw [e]
  exact h _ _

theorem badN_all (c : Int) : ∀ (l : List UInt8), badN c l = l.length → ∀ k, (h : k < l.length) → isB c (l[k].toNat : Int) = true
  | [], _, k, h => by simp at h
  | b :: r, hb, k, h => by
    unfold badN at hb
    by_cases hi : isB c (b.toNat : Int) = true
    · rw [if_pos hi] at hb
      have hr : badN c r = r.length := by simpa using hb
      cases k with
      | zero => exact hi
      | succ k => exact badN_all c r hr k (by simpa using h)
    · rw [if_neg hi] at hb
      simp at hb

theorem digit_fin : ∀ b : Fin 256, isB 2 (b.val : Int) = (decide (48 ≤ b.val) && decide (b.val ≤ 57)) := by decide +kernel
theorem digit_iff (b : UInt8) (h : isB 2 (b.toNat : Int) = true) : 48 ≤ b.toNat ∧ b.toNat ≤ 57 := by
  have := digit_fin ⟨b.toNat, b.toNat_lt⟩
  simp only [h] at this
  simpa using this.symm

/-- A row of one to twenty digits. -/
def numOk (l : List UInt8) : Prop := 1 ≤ l.length ∧ l.length ≤ 20 ∧ badN 2 l = l.length
instance (l : List UInt8) : Decidable (numOk l) := by unfold numOk; infer_instance
def numVal (l : List UInt8) (most : Int) : Int := if numOk l then (if (numV l : Int) ≤ most then (numV l : Int) else 0) else 0
def numCode (l : List UInt8) (most : Int) : Int := if numOk l then (if (numV l : Int) ≤ most then 0 else 5) else 10
theorem num_bad (l : List UInt8) (most : Int) (h : ¬ numOk l) : numVal l most = 0 ∧ numCode l most = 10 := ⟨if_neg h, if_neg h⟩
theorem num_over (l : List UInt8) (most : Int) (h : numOk l) (h2 : most < (numV l : Int)) : numVal l most = 0 ∧ numCode l most = 5 := by
  unfold numVal numCode
  rw [if_pos h, if_pos h, if_neg (by omega), if_neg (by omega)]
  exact ⟨rfl, rfl⟩
theorem num_in (l : List UInt8) (most : Int) (h : numOk l) (h2 : (numV l : Int) ≤ most) : numVal l most = (numV l : Int) ∧ numCode l most = 0 := by
  unfold numVal numCode
  rw [if_pos h, if_pos h, if_pos h2, if_pos h2]
  exact ⟨rfl, rfl⟩
end Go.Proofs.YtbfgefgadplcjaaDoor
