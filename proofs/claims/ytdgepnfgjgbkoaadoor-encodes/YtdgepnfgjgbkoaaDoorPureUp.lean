/-
  The plain mathematics of the classes of bytes: no Go in sight.
-/
namespace Go.Proofs.YtdgepnfgjgbkoaaDoor

/-- A byte (as a number) stands in a row of bytes. -/
def hasB (l : List UInt8) (b : Int) : Bool := l.any fun c => (c.toNat : Int) == b

theorem hasB_drop (l : List UInt8) (b : Int) (k : Nat) (h : k < l.length) : hasB (l.drop k) b = (((l[k].toNat : Int) == b) || hasB (l.drop (k + 1)) b) := by
  unfold hasB
  rw [List.drop_eq_getElem_cons h, List.any_cons]

/-- A byte lies in one of the stretches of a row of pairs. -/
def inPairs : List UInt8 → Int → Bool
  | x :: y :: r, b => (decide ((x.toNat : Int) ≤ b) && decide (b ≤ (y.toNat : Int))) || inPairs r b
  | _, _ => false

theorem inPairs_drop (l : List UInt8) (b : Int) (k : Nat) (h : k + 1 < l.length) :
    inPairs (l.drop k) b = ((decide ((l[k].toNat : Int) ≤ b) && decide (b ≤ (l[k + 1].toNat : Int))) || inPairs (l.drop (k + 2)) b) := by
  rw [List.drop_eq_getElem_cons (by omega), List.drop_eq_getElem_cons h, inPairs]

theorem inPairs_end (l : List UInt8) (b : Int) (k : Nat) (h : l.length ≤ k + 1) : inPairs (l.drop k) b = false := by
  have hl : (l.drop k).length ≤ 1 := by simp; omega
  match hd : l.drop k, hl with
  | [], _ => rfl
  | [_], _ => rfl
  | _ :: _ :: _, hl => simp at hl

/-- The rows of the table, a row a class. -/
def classRows : List (List UInt8) := [[], [65, 90, 97, 122], [48, 57], [48, 57, 65, 90, 97, 122], [48, 57, 65, 70, 97, 102], [48, 57, 65, 90, 97, 122, 33, 33, 35, 39, 42, 43, 45, 45, 47, 47, 61, 61, 63, 63, 94, 96, 123, 126], [32, 33, 35, 91, 93, 126], [33, 90, 94, 126], [33, 60, 62, 126], [33, 42, 44, 60, 62, 126], [48, 57, 65, 90, 97, 122, 45, 45], [33, 57, 59, 126], [9, 9, 32, 126], [0, 127], [128, 255]]

/-- Whether a byte is of a class. -/
def isB (cl b : Int) : Bool := if cl < 0 ∨ 15 ≤ cl then false else inPairs (classRows.getD cl.toNat []) b

def shownB (b : Int) (but : List UInt8) : Bool := decide (33 ≤ b) && decide (b ≤ 126) && !hasB but b
def caps : List UInt8 := [65, 66, 67, 68, 69, 70, 71, 72, 73, 74, 75, 76, 77, 78, 79, 80, 81, 82, 83, 84, 85, 86, 87, 88, 89, 90]
def smls : List UInt8 := [97, 98, 99, 100, 101, 102, 103, 104, 105, 106, 107, 108, 109, 110, 111, 112, 113, 114, 115, 116, 117, 118, 119, 120, 121, 122]
def odigs : List UInt8 := [48, 49, 50, 51, 52, 53, 54, 55, 56, 57]
def hexs : List UInt8 := [48, 49, 50, 51, 52, 53, 54, 55, 56, 57, 65, 66, 67, 68, 69, 70, 97, 98, 99, 100, 101, 102]
def sgns : List UInt8 := [33, 35, 36, 37, 38, 39, 42, 43, 45, 47, 61, 63, 94, 95, 123, 124, 125, 126, 96]
def r1 (b : Int) : Bool := hasB caps b || hasB smls b
def r2 (b : Int) : Bool := hasB odigs b
def r3 (b : Int) : Bool := r1 b || r2 b
/-- The document's answer. -/
def refB (cl b : Int) : Bool :=
  if cl = 1 then r1 b else if cl = 2 then r2 b else if cl = 3 then r3 b else if cl = 4 then hasB hexs b
  else if cl = 5 then r3 b || hasB sgns b else if cl = 6 then decide (b = 32) || shownB b [34, 92]
  else if cl = 7 then shownB b [91, 92, 93] else if cl = 8 then shownB b [61] else if cl = 9 then shownB b [43, 61]
  else if cl = 10 then r3 b || decide (b = 45) else if cl = 11 then shownB b [58]
  else if cl = 12 then decide (b = 9) || decide (b = 32) || shownB b []
  else if cl = 13 then decide (b < 128) else if cl = 14 then decide (128 ≤ b) else false

theorem is_ref_fin : ∀ c : Fin 15, ∀ b : Fin 256, isB (c.val : Int) (b.val : Int) = refB (c.val : Int) (b.val : Int) := by decide +kernel

theorem is_ref (c b : Int) (h0 : 0 ≤ b) (h1 : b ≤ 255) : isB c b = refB c b := by
  by_cases hc : c < 0 ∨ 15 ≤ c
  · unfold isB refB
    rw [if_pos hc]
    repeat rw [if_neg (by omega)]
  · obtain ⟨n, rfl⟩ := Int.eq_ofNat_of_zero_le (show 0 ≤ c by omega)
    obtain ⟨m, rfl⟩ := Int.eq_ofNat_of_zero_le h0
    exact is_ref_fin ⟨n, by omega⟩ ⟨m, by omega⟩
end Go.Proofs.YtdgepnfgjgbkoaaDoor
/-
  The plain mathematics of Bad and Span: no Go in sight.
-/
namespace Go.Proofs.YtdgepnfgjgbkoaaDoor

/-- How many bytes ahead of the first that is not of the class. -/
def badN (c : Int) : List UInt8 → Nat
  | [] => 0
  | b :: r => if isB c (b.toNat : Int) = true then badN c r + 1 else 0

theorem badN_le (c : Int) : ∀ l : List UInt8, badN c l ≤ l.length
  | [] => Nat.le_refl _
  | b :: r => by
    have := badN_le c r
    unfold badN
    split <;> simp <;> omega

theorem badN_yes (c : Int) (l : List UInt8) (k : Nat) (h : k < l.length) (hb : isB c (l[k].toNat : Int) = true) : badN c (l.drop k) = badN c (l.drop (k + 1)) + 1 := by
  rw [List.drop_eq_getElem_cons h, badN, if_pos hb]
theorem badN_no (c : Int) (l : List UInt8) (k : Nat) (h : k < l.length) (hb : isB c (l[k].toNat : Int) = false) : badN c (l.drop k) = 0 := by
  rw [List.drop_eq_getElem_cons h, badN, if_neg (by rw [hb]; decide)]
theorem badN_end (c : Int) (l : List UInt8) (k : Nat) (h : l.length ≤ k) : badN c (l.drop k) = 0 := by
  rw [List.drop_eq_nil_of_le h, badN]

/-- The place behind the row of bytes of the class that begins at from. -/
def spanI (c : Int) (l : List UInt8) (f : Int) : Int := if f < 0 then f else f + (badN c (l.drop f.toNat) : Int)
theorem spanI_neg (c : Int) (l : List UInt8) (f : Int) (h : f < 0) : spanI c l f = f := if_pos h
theorem spanI_nat (c : Int) (l : List UInt8) (f : Nat) : spanI c l (f : Int) = (f : Int) + (badN c (l.drop f) : Int) := if_neg (by omega)
theorem spanI_zero (c : Int) (l : List UInt8) : spanI c l 0 = (badN c l : Int) := by
  have := spanI_nat c l 0
  simpa using this
theorem spanI_behind (c : Int) (l : List UInt8) (f : Int) (h : (l.length : Int) ≤ f) : spanI c l f = f := by
  obtain ⟨n, rfl⟩ := Int.eq_ofNat_of_zero_le (show 0 ≤ f by omega)
  rw [spanI_nat, badN_end _ _ _ (by omega)]
  omega
end Go.Proofs.YtdgepnfgjgbkoaaDoor
/-
  The plain mathematics of bytes in digits to the base sixteen: no Go in sight.
-/
namespace Go.Proofs.YtdgepnfgjgbkoaaDoor

/-- The digit of a number below sixteen. -/
def hexD (n : Nat) : UInt8 := if n < 10 then UInt8.ofNat (48 + n) else UInt8.ofNat (55 + n)
/-- Two digits a byte. -/
def hexL : List UInt8 → List UInt8
  | [] => []
  | b :: r => hexD (b.toNat / 16) :: hexD (b.toNat % 16) :: hexL r
def hexS (s : ByteArray) : ByteArray := ⟨(hexL s.data.toList).toArray⟩

theorem hexL_length : ∀ l : List UInt8, (hexL l).length = 2 * l.length
  | [] => rfl
  | b :: r => by have := hexL_length r; simp only [hexL, List.length_cons]; omega
theorem hexL_append (r : List UInt8) : ∀ l : List UInt8, hexL (l ++ r) = hexL l ++ hexL r
  | [] => rfl
  | b :: l => by rw [List.cons_append, hexL, hexL, hexL_append r l]; rfl
theorem hexL_take (l : List UInt8) (k : Nat) (h : k < l.length) : hexL (l.take (k + 1)) = hexL (l.take k) ++ [hexD (l[k].toNat / 16), hexD (l[k].toNat % 16)] := by
  rw [List.take_succ_eq_append_getElem h, hexL_append]
  rfl

/-- What a digit says. -/
def hexV (c : Nat) : Nat := if 97 ≤ c then c - 87 else if 65 ≤ c then c - 55 else c - 48
/-- Pairs of digits read. -/
def unL : List UInt8 → List UInt8
  | a :: b :: r => UInt8.ofNat (hexV a.toNat * 16 + hexV b.toNat) :: unL r
  | _ => []
theorem unL_length : ∀ l : List UInt8, (unL l).length = l.length / 2
  | [] => rfl
  | [_] => by simp [unL]
  | a :: b :: r => by have := unL_length r; simp only [unL, List.length_cons, this]; omega

theorem unL_at : ∀ (l : List UInt8) (k : Nat) (h : 2 * k + 1 < l.length) (h' : k < (unL l).length), (unL l)[k] = UInt8.ofNat (hexV l[2 * k].toNat * 16 + hexV l[2 * k + 1].toNat)
  | [], k, h, _ => by simp at h
  | [_], k, h, _ => by simp at h
  | a :: b :: r, 0, h, _ => rfl
  | a :: b :: r, k + 1, h, h' => by
    have h1 : 2 * k + 1 < r.length := by simp only [List.length_cons] at h; omega
    have h2 : k < (unL r).length := by rw [unL_length]; omega
    have := unL_at r k h1 h2
    simpa [unL, Nat.mul_add] using this

/-- A text that Unhex takes. -/
def hexOk (l : List UInt8) : Prop := badN 4 l = l.length ∧ l.length % 2 = 0
instance (l : List UInt8) : Decidable (hexOk l) := by unfold hexOk; infer_instance

theorem hex_fin : ∀ b : Fin 256, isB 4 (b.val : Int) = true → (48 ≤ b.val ∧ b.val ≤ 57) ∨ (65 ≤ b.val ∧ b.val ≤ 70) ∨ (97 ≤ b.val ∧ b.val ≤ 102) := by decide +kernel
theorem hex_iff (b : UInt8) (h : isB 4 (b.toNat : Int) = true) : (48 ≤ b.toNat ∧ b.toNat ≤ 57) ∨ (65 ≤ b.toNat ∧ b.toNat ≤ 70) ∨ (97 ≤ b.toNat ∧ b.toNat ≤ 102) :=
  hex_fin ⟨b.toNat, b.toNat_lt⟩ h
theorem hexV_lt (b : UInt8) (h : isB 4 (b.toNat : Int) = true) : hexV b.toNat < 16 := by
  have := hex_iff b h
  unfold hexV
  split
  · omega
  · split <;> omega
theorem hexOk_at (l : List UInt8) (h : badN 4 l = l.length) : ∀ k, (hk : k < l.length) → isB 4 (l[k].toNat : Int) = true := by
  have all : ∀ (l : List UInt8), badN 4 l = l.length → ∀ k, (hk : k < l.length) → isB 4 (l[k].toNat : Int) = true := by
    intro l
    induction l with
    | nil => intro _ k hk; simp at hk
    | cons b r ih =>
      intro hb k hk
      unfold badN at hb
      by_cases hi : isB 4 (b.toNat : Int) = true
      · rw [if_pos hi] at hb
        cases k with
        | zero => exact hi
        | succ k => exact ih (by simpa using hb) k (by simpa using hk)
      · rw [if_neg hi] at hb
        simp at hb
  exact all l h
end Go.Proofs.YtdgepnfgjgbkoaaDoor
/-
  The plain mathematics of capitals: no Go in sight.
-/
namespace Go.Proofs.YtdgepnfgjgbkoaaDoor

/-- A byte's capital. -/
def upB (b : UInt8) : UInt8 := if 97 ≤ b.toNat ∧ b.toNat ≤ 122 then UInt8.ofNat (b.toNat - 32) else b
/-- A row of bytes in capitals. -/
def upL (l : List UInt8) : List UInt8 := l.map upB
def upS (s : ByteArray) : ByteArray := ⟨(upL s.data.toList).toArray⟩

theorem upB_no (b : UInt8) (h : ¬ (97 ≤ b.toNat ∧ b.toNat ≤ 122)) : upB b = b := if_neg h
theorem upB_yes (b : UInt8) (h1 : 97 ≤ b.toNat) (h2 : b.toNat ≤ 122) : (upB b).toNat = b.toNat - 32 := by
  unfold upB
  rw [if_pos ⟨h1, h2⟩]
  simp
  omega
theorem upS_size (s : ByteArray) : (upS s).size = s.size := by
  show (upL s.data.toList).toArray.size = s.data.size
  rw [List.size_toArray, upL, List.length_map, Array.length_toList]
/-- The first k bytes in capitals, the others as they are: the byte at j. -/
def upAt (l : List UInt8) (k j : Nat) : UInt8 := if j < k then upB (l.getD j 0) else l.getD j 0
theorem upAt_zero (l : List UInt8) (j : Nat) : upAt l 0 j = l.getD j 0 := by simp [upAt]
theorem upAt_self (l : List UInt8) (k : Nat) : upAt l k k = l.getD k 0 := by simp [upAt]
theorem upAt_step (l : List UInt8) (k : Nat) : upAt l (k + 1) k = upB (l.getD k 0) := by simp [upAt]
theorem upAt_other (l : List UInt8) (k j : Nat) (h : j ≠ k) : upAt l (k + 1) j = upAt l k j := by
  unfold upAt
  by_cases h1 : j < k
  · rw [if_pos h1, if_pos (by omega)]
  · rw [if_neg h1, if_neg (by omega)]
theorem upAt_all (l : List UInt8) (n j : Nat) (hn : n = l.length) (h : j < (upL l).length) : upAt l n j = (upL l)[j] := by
  have h' : j < l.length := by simpa [upL] using h
  subst hn
  simp [upAt, upL, h', List.getD_eq_getElem?_getD]
theorem upB_fin : ∀ b : Fin 256, upB (upB (UInt8.ofNat b.val)) = upB (UInt8.ofNat b.val) := by decide +kernel
theorem upB_twice (b : UInt8) : upB (upB b) = upB b := by
  have := upB_fin ⟨b.toNat, b.toNat_lt⟩
  simpa using this
theorem upL_twice (l : List UInt8) : upL (upL l) = upL l := by simp [upL, upB_twice]
theorem upS_twice (s : ByteArray) : upS (upS s) = upS s := by
  show (⟨(upL (upL s.data.toList)).toArray⟩ : ByteArray) = _
  rw [upL_twice]
  rfl
end Go.Proofs.YtdgepnfgjgbkoaaDoor
