/-
  The plain mathematics of base64, on: the document's way to ask whether a text goes on; line ends left out; pieces.
-/
import Derived.Test.YtdgepnfgjgbkoaaDoorB64
namespace Go.Proofs.YtdgepnfgjgbkoaaDoor

/-- The document's: does a text go on with its byte at i? -/
def onB (l : List UInt8) (i : Nat) : Bool :=
  (decide (i / 4 * 4 = 0) || decide (l[i / 4 * 4 - 1]? ≠ some 61)) && decide (okN 0 ((l.take (i + 1)).drop (i / 4 * 4)) = i + 1 - i / 4 * 4)

theorem on_iff (l : List UInt8) (i : Nat) (hi : i < l.length) (h : okN 0 (l.take i) = i) : onB l i = (nextD (stD 0 (l.take i)) l[i]).isSome := by
  have hk : i / 4 * 4 ≤ i := by omega
  generalize hK : i / 4 * 4 = K at hk
  have hKi : i < K + 4 := by omega
  have hK4 : K = 4 * (i / 4) := by omega
  have hl : (l.take i).length = i := by rw [List.length_take]; omega
  have hlK : (l.take K).length = K := by rw [List.length_take]; omega
  have e1 : l.take i = l.take K ++ (l.take i).drop K := by
    have : (l.take i).take K = l.take K := by rw [List.take_take, Nat.min_eq_left hk]
    rw [← this, List.take_append_drop]
  have hKok : okN 0 (l.take K) = (l.take K).length := by
    have := okN_pre 0 (l.take i) K (by rw [h]; exact hk)
    rwa [List.take_take, Nat.min_eq_left hk] at this
  have hst := st_whole (i / 4) (l.take K) (by rw [hlK]; exact hK4) hKok
  have hlast : (l.take K)[K - 1]? = if K = 0 then none else l[K - 1]? := by
    by_cases h0 : K = 0
    · subst h0; simp
    · rw [if_neg h0, List.getElem?_take, if_pos (by omega)]
  rw [hlK, hlast] at hst
  have e2 : (l.take (i + 1)).drop K = (l.take i).drop K ++ [l[i]] := by
    rw [List.take_succ_eq_append_getElem hi, List.drop_append_of_le_length (by omega)]
  have hmid : okN (stD 0 (l.take K)) ((l.take i).drop K) = i - K := by
    have := okN_append 0 (l.take K) ((l.take i).drop K) hKok
    rw [← e1, h, hlK] at this
    omega
  have hmst : stD 0 (l.take i) = stD (stD 0 (l.take K)) ((l.take i).drop K) := by
    have := stD_append 0 (l.take K) ((l.take i).drop K) hKok
    rwa [← e1] at this
  have hml : ((l.take i).drop K).length = i - K := by rw [List.length_drop, hl]
  unfold onB
  rw [hK]
  by_cases hp : K ≠ 0 ∧ l[K - 1]? = some 61
  · obtain ⟨h0, h1⟩ := hp
    rw [if_neg h0, h1, if_pos rfl] at hst
    rw [hst, okN_seven] at hmid
    have hnil : (l.take i).drop K = [] := List.eq_nil_of_length_eq_zero (by rw [hml]; omega)
    rw [hmst, hnil, hst]
    have h7 : nextD 7 l[i] = none := by
      unfold nextD
      split <;> simp
    simp [stD, h7, h0, h1]
  · have hst0 : stD 0 (l.take K) = 0 := by
      rw [hst]
      by_cases h0 : K = 0
      · subst h0; simp
      · rw [if_neg h0, if_neg (fun e => hp ⟨h0, e⟩)]
    rw [hst0] at hmid hmst
    have hfirst : (decide (K = 0) || decide (l[K - 1]? ≠ some 61)) = true := by
      simp
      by_cases h0 : K = 0
      · exact .inl h0
      · exact .inr (fun e => hp ⟨h0, e⟩)
    rw [hfirst, Bool.true_and, e2, okN_append 0 _ _ (by rw [hmid, hml]), hml, hmst]
    cases hn : nextD (stD 0 ((l.take i).drop K)) l[i] with
    | none => simp [okN, hn]; omega
    | some d' => simp [okN, hn]; omega

/-- Without line ends. -/
def noCr (l : List UInt8) : List UInt8 := l.filter fun c => !(c == 13 || c == 10)
theorem noCr_append (a b : List UInt8) : noCr (a ++ b) = noCr a ++ noCr b := List.filter_append ..
theorem noCr_le (a : List UInt8) : (noCr a).length ≤ a.length := List.length_filter_le ..
theorem noCr_snoc (l : List UInt8) (k : Nat) (h : k < l.length) : noCr (l.take (k + 1)) = if l[k] = 13 ∨ l[k] = 10 then noCr (l.take k) else noCr (l.take k) ++ [l[k]] := by
  rw [List.take_succ_eq_append_getElem h, noCr_append]
  by_cases e : l[k] = 13 ∨ l[k] = 10
  · rw [if_pos e]
    simp only [noCr, List.filter_cons, List.filter_nil]
    rcases e with e | e <;> simp [e]
  · rw [if_neg e]
    have e1 : l[k] ≠ 13 := fun x => e (.inl x)
    have e2 : l[k] ≠ 10 := fun x => e (.inr x)
    simp [noCr, e1, e2]

/-- What a reader that has taken the text t has taken behind a piece. -/
def rdT (t b : List UInt8) : List UInt8 := t ++ (noCr b).take (okN (stD 0 t) (noCr b))
/-- The error that then spoils it. -/
def rdE (t b : List UInt8) : Nat := if h : okN (stD 0 t) (noCr b) < (noCr b).length then errC (noCr b)[okN (stD 0 t) (noCr b)] else 0
/-- What is begun of a group. -/
def tailG (t : List UInt8) : List UInt8 := t.drop (t.length / 4 * 4)
/-- What it tells. -/
def rdL (t b : List UInt8) : List UInt8 := d64L (tailG t ++ (noCr b).take (okN (stD 0 t) (noCr b)))
theorem tailG_len (t : List UInt8) : (tailG t).length = t.length % 4 := by
  unfold tailG
  rw [List.length_drop]
  omega
theorem rdT_ok (t b : List UInt8) (h : okN 0 t = t.length) : okN 0 (rdT t b) = (rdT t b).length := by
  unfold rdT
  rw [okN_append 0 _ _ h, okN_take, List.length_append]
theorem rdL_dec (t b : List UInt8) : d64L (rdT t b) = d64L t ++ rdL t b := by
  unfold rdT rdL
  have hl : (t.take (t.length / 4 * 4)).length = 4 * (t.length / 4) := by rw [List.length_take]; omega
  have e : t = t.take (t.length / 4 * 4) ++ tailG t := (List.take_append_drop _ _).symm
  have hd : d64L t = d64L (t.take (t.length / 4 * 4)) := by
    conv => lhs; rw [e]
    rw [d64L_append _ _ _ hl, d64L_short (tailG t) (by rw [tailG_len]; omega), List.append_nil]
  rw [hd]
  generalize (noCr b).take (okN (stD 0 t) (noCr b)) = m
  have e3 : t ++ m = t.take (t.length / 4 * 4) ++ (tailG t ++ m) := by rw [← List.append_assoc, ← e]
  rw [e3, d64L_append _ _ _ hl]
theorem rdE_zero (t b : List UInt8) (h : rdE t b = 0) : (noCr b).length ≤ okN (stD 0 t) (noCr b) := by
  unfold rdE at h
  split at h
  · unfold errC at h
    split at h <;> omega
  · omega
theorem rdT_zero (t b : List UInt8) (h : rdE t b = 0) : rdT t b = t ++ noCr b := by
  unfold rdT
  rw [List.take_of_length_le (rdE_zero t b h)]
/-- A piece behind a piece that goes on is one piece. -/
theorem rd_join (t a b : List UInt8) (h : okN 0 t = t.length) (he : rdE t a = 0) : rdT (rdT t a) b = rdT t (a ++ b) ∧ rdE (rdT t a) b = rdE t (a ++ b) := by
  have hz := rdE_zero t a he
  have hle := okN_le (stD 0 t) (noCr a)
  have hall : okN (stD 0 t) (noCr a) = (noCr a).length := by omega
  have hT := rdT_zero t a he
  have hs : stD 0 (rdT t a) = stD (stD 0 t) (noCr a) := by rw [hT, stD_append _ _ _ h]
  have hn : okN (stD 0 t) (noCr (a ++ b)) = (noCr a).length + okN (stD (stD 0 t) (noCr a)) (noCr b) := by rw [noCr_append, okN_append _ _ _ hall]
  constructor
  · show rdT t a ++ (noCr b).take (okN (stD 0 (rdT t a)) (noCr b)) = t ++ (noCr (a ++ b)).take (okN (stD 0 t) (noCr (a ++ b)))
    rw [hs, hT, hn, noCr_append, List.take_length_add_append, List.append_assoc]
  · unfold rdE
    rw [hs]
    simp only [noCr_append] at hn ⊢
    simp only [hn, List.length_append]
    by_cases hlt : okN (stD (stD 0 t) (noCr a)) (noCr b) < (noCr b).length
    · rw [dif_pos hlt, dif_pos (by omega)]
      congr 1
      rw [List.getElem_append_right (by omega)]
      simp
    · rw [dif_neg hlt, dif_neg (by omega)]
theorem errC_pos (c : UInt8) : errC c ≠ 0 := by
  unfold errC
  split <;> omega
/-- A piece that does not go on is cut there, whatever stands behind. -/
theorem rd_cut (t a b : List UInt8) (he : rdE t a ≠ 0) : rdT t (a ++ b) = rdT t a ∧ rdE t (a ++ b) = rdE t a := by
  have hlt : okN (stD 0 t) (noCr a) < (noCr a).length := by
    rcases Nat.lt_or_ge (okN (stD 0 t) (noCr a)) (noCr a).length with h | h
    · exact h
    · unfold rdE at he
      rw [dif_neg (by omega)] at he
      exact absurd rfl he
  have hbad := okN_bad _ _ hlt
  have hpre : okN (stD 0 t) ((noCr a).take (okN (stD 0 t) (noCr a))) = okN (stD 0 t) (noCr a) := by
    rw [okN_take, List.length_take]
    omega
  have hn : okN (stD 0 t) (noCr a ++ noCr b) = okN (stD 0 t) (noCr a) := by
    refine okN_none _ _ _ (by rw [List.length_append]; omega) ?_ ?_
    · rw [List.take_append_of_le_length (by omega)]
      exact hpre
    · rw [List.take_append_of_le_length (by omega), List.getElem_append_left hlt]
      exact hbad
  constructor
  · unfold rdT
    rw [noCr_append, hn, List.take_append_of_le_length (by omega)]
  · unfold rdE
    simp only [noCr_append, hn]
    rw [dif_pos (by rw [List.length_append]; omega), dif_pos hlt, List.getElem_append_left hlt]

/-- How Unbase64's answer hangs on what a reader takes. -/
theorem rd_whole (b : List UInt8) : rdT [] b = (noCr b).take (okN 0 (noCr b)) ∧ (rdE [] b = if h : okN 0 (noCr b) < (noCr b).length then errC (noCr b)[okN 0 (noCr b)] else 0) := ⟨by simp [rdT, stD], rfl⟩
end Go.Proofs.YtdgepnfgjgbkoaaDoor
/-
  The plain mathematics of the classes of bytes: no Go in sight.
-/
namespace Go.Proofs.YtdgepnfgjgbkoaaDoor

/-- A byte (as a number) stands in a row of bytes. -/
def hasB (l : List UInt8) (b : Int) : Bool := l.any fun c => (c.toNat : Int) == b

theorem hasB_drop (l : List UInt8) (b : Int) (k : Nat) (h : k < l.length) : hasB (l.drop k) b = (((l[k].toNat : Int) == b) || hasB (l.drop (k + 1)) b) := by
  unfold hasB
  rw [List.drop_eq_getElem_cons h, List.any_cons]

/-- A byte lies in one of the stretches of a row of pairs. -/
def inPairs : List UInt8 → Int → Bool
  | x :: y :: r, b => (decide ((x.toNat : Int) ≤ b) && decide (b ≤ (y.toNat : Int))) || inPairs r b
  | _, _ => false

theorem inPairs_drop (l : List UInt8) (b : Int) (k : Nat) (h : k + 1 < l.length) :
    inPairs (l.drop k) b = ((decide ((l[k].toNat : Int) ≤ b) && decide (b ≤ (l[k + 1].toNat : Int))) || inPairs (l.drop (k + 2)) b) := by
  rw [List.drop_eq_getElem_cons (by omega), List.drop_eq_getElem_cons h, inPairs]

theorem inPairs_end (l : List UInt8) (b : Int) (k : Nat) (h : l.length ≤ k + 1) : inPairs (l.drop k) b = false := by
  have hl : (l.drop k).length ≤ 1 := by simp; omega
  match hd : l.drop k, hl with
  | [], _ => rfl
  | [_], _ => rfl
  | _ :: _ :: _, hl => simp at hl

/-- The rows of the table, a row a class. -/
def classRows : List (List UInt8) := [[], [65, 90, 97, 122], [48, 57], [48, 57, 65, 90, 97, 122], [48, 57, 65, 70, 97, 102], [48, 57, 65, 90, 97, 122, 33, 33, 35, 39, 42, 43, 45, 45, 47, 47, 61, 61, 63, 63, 94, 96, 123, 126], [32, 33, 35, 91, 93, 126], [33, 90, 94, 126], [33, 60, 62, 126], [33, 42, 44, 60, 62, 126], [48, 57, 65, 90, 97, 122, 45, 45], [33, 57, 59, 126], [9, 9, 32, 126], [0, 127], [128, 255]]

/-- Whether a byte is of a class. -/
def isB (cl b : Int) : Bool := if cl < 0 ∨ 15 ≤ cl then false else inPairs (classRows.getD cl.toNat []) b

def shownB (b : Int) (but : List UInt8) : Bool := decide (33 ≤ b) && decide (b ≤ 126) && !hasB but b
def caps : List UInt8 := [65, 66, 67, 68, 69, 70, 71, 72, 73, 74, 75, 76, 77, 78, 79, 80, 81, 82, 83, 84, 85, 86, 87, 88, 89, 90]
def smls : List UInt8 := [97, 98, 99, 100, 101, 102, 103, 104, 105, 106, 107, 108, 109, 110, 111, 112, 113, 114, 115, 116, 117, 118, 119, 120, 121, 122]
def odigs : List UInt8 := [48, 49, 50, 51, 52, 53, 54, 55, 56, 57]
def hexs : List UInt8 := [48, 49, 50, 51, 52, 53, 54, 55, 56, 57, 65, 66, 67, 68, 69, 70, 97, 98, 99, 100, 101, 102]
def sgns : List UInt8 := [33, 35, 36, 37, 38, 39, 42, 43, 45, 47, 61, 63, 94, 95, 123, 124, 125, 126, 96]
def r1 (b : Int) : Bool := hasB caps b || hasB smls b
def r2 (b : Int) : Bool := hasB odigs b
def r3 (b : Int) : Bool := r1 b || r2 b
/-- The document's answer. -/
def refB (cl b : Int) : Bool :=
  if cl = 1 then r1 b else if cl = 2 then r2 b else if cl = 3 then r3 b else if cl = 4 then hasB hexs b
  else if cl = 5 then r3 b || hasB sgns b else if cl = 6 then decide (b = 32) || shownB b [34, 92]
  else if cl = 7 then shownB b [91, 92, 93] else if cl = 8 then shownB b [61] else if cl = 9 then shownB b [43, 61]
  else if cl = 10 then r3 b || decide (b = 45) else if cl = 11 then shownB b [58]
  else if cl = 12 then decide (b = 9) || decide (b = 32) || shownB b []
  else if cl = 13 then decide (b < 128) else if cl = 14 then decide (128 ≤ b) else false

theorem is_ref_fin : ∀ c : Fin 15, ∀ b : Fin 256, isB (c.val : Int) (b.val : Int) = refB (c.val : Int) (b.val : Int) := by decide +kernel

theorem is_ref (c b : Int) (h0 : 0 ≤ b) (h1 : b ≤ 255) : isB c b = refB c b := by
  by_cases hc : c < 0 ∨ 15 ≤ c
  · unfold isB refB
    rw [if_pos hc]
    repeat rw [if_neg (by omega)]
  · obtain ⟨n, rfl⟩ := Int.eq_ofNat_of_zero_le (show 0 ≤ c by omega)
    obtain ⟨m, rfl⟩ := Int.eq_ofNat_of_zero_le h0
    exact is_ref_fin ⟨n, by omega⟩ ⟨m, by omega⟩
end Go.Proofs.YtdgepnfgjgbkoaaDoor
/-
  The plain mathematics of Bad and Span: no Go in sight.
-/
namespace Go.Proofs.YtdgepnfgjgbkoaaDoor

/-- How many bytes ahead of the first that is not of the class. -/
def badN (c : Int) : List UInt8 → Nat
  | [] => 0
  | b :: r => if isB c (b.toNat : Int) = true then badN c r + 1 else 0

theorem badN_le (c : Int) : ∀ l : List UInt8, badN c l ≤ l.length
  | [] => Nat.le_refl _
  | b :: r => by
    have := badN_le c r
    unfold badN
    split <;> simp <;> omega

theorem badN_yes (c : Int) (l : List UInt8) (k : Nat) (h : k < l.length) (hb : isB c (l[k].toNat : Int) = true) : badN c (l.drop k) = badN c (l.drop (k + 1)) + 1 := by
  rw [List.drop_eq_getElem_cons h, badN, if_pos hb]
theorem badN_no (c : Int) (l : List UInt8) (k : Nat) (h : k < l.length) (hb : isB c (l[k].toNat : Int) = false) : badN c (l.drop k) = 0 := by
  rw [List.drop_eq_getElem_cons h, badN, if_neg (by rw [hb]; decide)]
theorem badN_end (c : Int) (l : List UInt8) (k : Nat) (h : l.length ≤ k) : badN c (l.drop k) = 0 := by
  rw [List.drop_eq_nil_of_le h, badN]

/-- The place behind the row of bytes of the class that begins at from. -/
def spanI (c : Int) (l : List UInt8) (f : Int) : Int := if f < 0 then f else f + (badN c (l.drop f.toNat) : Int)
theorem spanI_neg (c : Int) (l : List UInt8) (f : Int) (h : f < 0) : spanI c l f = f := if_pos h
theorem spanI_nat (c : Int) (l : List UInt8) (f : Nat) : spanI c l (f : Int) = (f : Int) + (badN c (l.drop f) : Int) := if_neg (by omega)
theorem spanI_zero (c : Int) (l : List UInt8) : spanI c l 0 = (badN c l : Int) := by
  have := spanI_nat c l 0
  simpa using this
theorem spanI_behind (c : Int) (l : List UInt8) (f : Int) (h : (l.length : Int) ≤ f) : spanI c l f = f := by
  obtain ⟨n, rfl⟩ := Int.eq_ofNat_of_zero_le (show 0 ≤ f by omega)
  rw [spanI_nat, badN_end _ _ _ (by omega)]
  omega
end Go.Proofs.YtdgepnfgjgbkoaaDoor
/-
  The plain mathematics of bytes in digits to the base sixteen: no Go in sight.
-/
namespace Go.Proofs.YtdgepnfgjgbkoaaDoor

/-- The digit of a number below sixteen. -/
def hexD (n : Nat) : UInt8 := if n < 10 then UInt8.ofNat (48 + n) else UInt8.ofNat (55 + n)
/-- Two digits a byte. -/
def hexL : List UInt8 → List UInt8
  | [] => []
  | b :: r => hexD (b.toNat / 16) :: hexD (b.toNat % 16) :: hexL r
def hexS (s : ByteArray) : ByteArray := ⟨(hexL s.data.toList).toArray⟩

theorem hexL_length : ∀ l : List UInt8, (hexL l).length = 2 * l.length
  | [] => rfl
  | b :: r => by have := hexL_length r; simp only [hexL, List.length_cons]; omega
theorem hexL_append (r : List UInt8) : ∀ l : List UInt8, hexL (l ++ r) = hexL l ++ hexL r
  | [] => rfl
  | b :: l => by rw [List.cons_append, hexL, hexL, hexL_append r l]; rfl
theorem hexL_take (l : List UInt8) (k : Nat) (h : k < l.length) : hexL (l.take (k + 1)) = hexL (l.take k) ++ [hexD (l[k].toNat / 16), hexD (l[k].toNat % 16)] := by
  rw [List.take_succ_eq_append_getElem h, hexL_append]
  rfl

/-- What a digit says. -/
def hexV (c : Nat) : Nat := if 97 ≤ c then c - 87 else if 65 ≤ c then c - 55 else c - 48
/-- Pairs of digits read. -/
def unL : List UInt8 → List UInt8
  | a :: b :: r => UInt8.ofNat (hexV a.toNat * 16 + hexV b.toNat) :: unL r
  | _ => []
theorem unL_length : ∀ l : List UInt8, (unL l).length = l.length / 2
  | [] => rfl
  | [_] => by simp [unL]
  | a :: b :: r => by have := unL_length r; simp only [unL, List.length_cons, this]; omega

theorem unL_at : ∀ (l : List UInt8) (k : Nat) (h : 2 * k + 1 < l.length) (h' : k < (unL l).length), (unL l)[k] = UInt8.ofNat (hexV l[2 * k].toNat * 16 + hexV l[2 * k + 1].toNat)
  | [], k, h, _ => by simp at h
  | [_], k, h, _ => by simp at h
  | a :: b :: r, 0, h, _ => rfl
  | a :: b :: r, k + 1, h, h' => by
    have h1 : 2 * k + 1 < r.length := by simp only [List.length_cons] at h; omega
    have h2 : k < (unL r).length := by rw [unL_length]; omega
    have := unL_at r k h1 h2
    simpa [unL, Nat.mul_add] using this

/-- A text that Unhex takes. -/
def hexOk (l : List UInt8) : Prop := badN 4 l = l.length ∧ l.length % 2 = 0
instance (l : List UInt8) : Decidable (hexOk l) := by unfold hexOk; infer_instance

theorem hex_fin : ∀ b : Fin 256, isB 4 (b.val : Int) = true → (48 ≤ b.val ∧ b.val ≤ 57) ∨ (65 ≤ b.val ∧ b.val ≤ 70) ∨ (97 ≤ b.val ∧ b.val ≤ 102) := by decide +kernel
theorem hex_iff (b : UInt8) (h : isB 4 (b.toNat : Int) = true) : (48 ≤ b.toNat ∧ b.toNat ≤ 57) ∨ (65 ≤ b.toNat ∧ b.toNat ≤ 70) ∨ (97 ≤ b.toNat ∧ b.toNat ≤ 102) :=
  hex_fin ⟨b.toNat, b.toNat_lt⟩ h
theorem hexV_lt (b : UInt8) (h : isB 4 (b.toNat : Int) = true) : hexV b.toNat < 16 := by
  have := hex_iff b h
  unfold hexV
  split
  · omega
  · split <;> omega
theorem hexOk_at (l : List UInt8) (h : badN 4 l = l.length) : ∀ k, (hk : k < l.length) → isB 4 (l[k].toNat : Int) = true := by
  have all : ∀ (l : List UInt8), badN 4 l = l.length → ∀ k, (hk : k < l.length) → isB 4 (l[k].toNat : Int) = true := by
    intro l
    induction l with
    | nil => intro _ k hk; simp at hk
    | cons b r ih =>
      intro hb k hk
      unfold badN at hb
      by_cases hi : isB 4 (b.toNat : Int) = true
      · rw [if_pos hi] at hb
        cases k with
        | zero => exact hi
        | succ k => exact ih (by simpa using hb) k (by simpa using hk)
      · rw [if_neg hi] at hb
        simp at hb
  exact all l h
end Go.Proofs.YtdgepnfgjgbkoaaDoor
/-
  The plain mathematics of capitals: no Go in sight.
-/
namespace Go.Proofs.YtdgepnfgjgbkoaaDoor

/-- A byte's capital. -/
def upB (b : UInt8) : UInt8 := if 97 ≤ b.toNat ∧ b.toNat ≤ 122 then UInt8.ofNat (b.toNat - 32) else b
/-- A row of bytes in capitals. -/
def upL (l : List UInt8) : List UInt8 := l.map upB
def upS (s : ByteArray) : ByteArray := ⟨(upL s.data.toList).toArray⟩

theorem upB_no (b : UInt8) (h : ¬ (97 ≤ b.toNat ∧ b.toNat ≤ 122)) : upB b = b := if_neg h
theorem upB_yes (b : UInt8) (h1 : 97 ≤ b.toNat) (h2 : b.toNat ≤ 122) : (upB b).toNat = b.toNat - 32 := by
  unfold upB
  rw [if_pos ⟨h1, h2⟩]
  simp
  omega
theorem upS_size (s : ByteArray) : (upS s).size = s.size := by
  show (upL s.data.toList).toArray.size = s.data.size
  rw [List.size_toArray, upL, List.length_map, Array.length_toList]
/-- The first k bytes in capitals, the others as they are: the byte at j. -/
def upAt (l : List UInt8) (k j : Nat) : UInt8 := if j < k then upB (l.getD j 0) else l.getD j 0
theorem upAt_zero (l : List UInt8) (j : Nat) : upAt l 0 j = l.getD j 0 := by simp [upAt]
theorem upAt_self (l : List UInt8) (k : Nat) : upAt l k k = l.getD k 0 := by simp [upAt]
theorem upAt_step (l : List UInt8) (k : Nat) : upAt l (k + 1) k = upB (l.getD k 0) := by simp [upAt]
theorem upAt_other (l : List UInt8) (k j : Nat) (h : j ≠ k) : upAt l (k + 1) j = upAt l k j := by
  unfold upAt
  by_cases h1 : j < k
  · rw [if_pos h1, if_pos (by omega)]
  · rw [if_neg h1, if_neg (by omega)]
theorem upAt_all (l : List UInt8) (n j : Nat) (hn : n = l.length) (h : j < (upL l).length) : upAt l n j = (upL l)[j] := by
  have h' : j < l.length := by simpa [upL] using h
  subst hn
  simp [upAt, upL, h', List.getD_eq_getElem?_getD]
theorem upB_fin : ∀ b : Fin 256, upB (upB (UInt8.ofNat b.val)) = upB (UInt8.ofNat b.val) := by decide +kernel
theorem upB_twice (b : UInt8) : upB (upB b) = upB b := by
  have := upB_fin ⟨b.toNat, b.toNat_lt⟩
  simpa using this
theorem upL_twice (l : List UInt8) : upL (upL l) = upL l := by simp [upL, upB_twice]
theorem upS_twice (s : ByteArray) : upS (upS s) = upS s := by
  show (⟨(upL (upL s.data.toList)).toArray⟩ : ByteArray) = _
  rw [upL_twice]
  rfl
end Go.Proofs.YtdgepnfgjgbkoaaDoor
