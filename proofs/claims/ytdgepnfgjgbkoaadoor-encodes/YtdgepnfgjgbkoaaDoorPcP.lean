/-
  The plain mathematics of encoded words: no Go in sight. What a text's words are, when one is encoded, what it means; and how a text is written.
-/
import Derived.Test.YtdgepnfgjgbkoaaDoorUtfE
import Derived.Test.YtdgepnfgjgbkoaaDoorB64b
import Derived.Test.YtdgepnfgjgbkoaaDoorPureUp
import Derived.Lib.Split
import Derived.Lib.CutLaws
namespace Go.Proofs.YtdgepnfgjgbkoaaDoor

/-- A blank or a tab. -/
def blk (c : UInt8) : Bool := c == 32 || c == 9
/-- Does a word end at k? -/
def stopAt (l : List UInt8) (k : Nat) : Bool := match l[k]? with
  | none => true
  | some c => blk c
/-- Where the word begins that goes on at k. -/
def frm (l : List UInt8) : Nat → Nat
  | 0 => 0
  | k + 1 => if stopAt l k then k + 1 else frm l k
/-- The words that end ahead of k, each by its two ends. -/
def wds (l : List UInt8) : Nat → List (Nat × Nat)
  | 0 => []
  | k + 1 => if stopAt l k = true ∧ frm l k < k then wds l k ++ [(frm l k, k)] else wds l k
def wdsA (l : List UInt8) : List (Nat × Nat) := wds l (l.length + 1)
/-- A part of a row. -/
def cutW (l : List UInt8) (f t : Nat) : List UInt8 := (l.drop f).take (t - f)

/-- What stands ahead of the first c, and what behind it. -/
def cutC (c : UInt8) : List UInt8 → List UInt8 × Option (List UInt8)
  | [] => ([], none)
  | a :: t => if a = c then ([], some t) else (a :: (cutC c t).1, (cutC c t).2)
/-- Cut at the first k question marks. -/
def pcs : Nat → List UInt8 → List (List UInt8)
  | 0, l => [l]
  | k + 1, l => match (cutC 63 l).2 with
    | none => [l]
    | some t => (cutC 63 l).1 :: pcs k t
/-- The charset, the coding (is it Q?) and the text of an encoded word. -/
def pW (w : List UInt8) : Option (List UInt8 × Bool × List UInt8) :=
  if badN 12 w < w.length then none else
  match pcs 4 w with
  | [a, cs, cd, tx, e] => if a = [61] ∧ cs ≠ [] ∧ e = [61] ∧ (upL cd = [66] ∨ upL cd = [81]) then some (cs, decide (upL cd = [81]), tx) else none
  | _ => none

/-- The bytes of a text in Q, and the place of what can't be read. -/
def uqB : Nat → List UInt8 → List UInt8 × Option Nat
  | _, [] => ([], none)
  | n, c :: t =>
    if c = 61 then
      match t with
      | a :: b :: t' => if badN 4 [a, b] = 2 then (unL [a, b] ++ (uqB (n + 3) t').1, (uqB (n + 3) t').2) else ([], some n)
      | _ => ([], some n)
    else ((if c = 95 then 32 else c) :: (uqB (n + 1) t).1, (uqB (n + 1) t).2)
/-- The bytes of an encoded word's text. -/
def rdW (q : Bool) (t : List UInt8) : List UInt8 × Option Nat :=
  if q then uqB 0 t else if unbE t = 0 then (unbL t, none) else ([], some (unbA t))

def nmU : List UInt8 := [85, 84, 70, 45, 56]
def nmA : List UInt8 := [85, 83, 45, 65, 83, 67, 73, 73]
def nmI : List UInt8 := [73, 83, 79, 45, 56, 56, 53, 57, 45, 49]
/-- The charset of a name: 1 UTF-8, 2 US-ASCII, 3 ISO-8859-1, 0 unknown. -/
def csNo (n : List UInt8) : Nat := if upL n = nmU then 1 else if upL n = nmA then 2 else if upL n = nmI then 3 else 0
/-- What bytes mean. -/
def csT (k : Nat) (b : List UInt8) : Option (List UInt8) :=
  if k = 1 then (if badU b = b.length then some b else none)
  else if k = 2 then (if badN 13 b = b.length then some b else none)
  else if k = 3 then some (b.flatMap fun c => Lib.encodeRune (c.toNat : Int)) else none
/-- What the word from f to t means: its text, or the error and its place. -/
def mnW (f t : Nat) (p : List UInt8 × Bool × List UInt8) : List UInt8 × Nat × Nat :=
  if csNo (cutC 42 p.1).1 = 0 then ([], 171, f + 2)
  else match (rdW p.2.1 p.2.2).2 with
    | some n => ([], 170, t - 2 - p.2.2.length + n)
    | none => match csT (csNo (cutC 42 p.1).1) (rdW p.2.1 p.2.2).1 with
      | none => ([], 170, t - 2 - p.2.2.length)
      | some x => (x, 0, 0)
/-- Decode, behind some words: out is laid, all ahead of done is; joins: an encoded word ended there, and no word stood behind it. -/
def dcS (l : List UInt8) : List (Nat × Nat) → List UInt8 → Nat → Bool → List UInt8 × Nat × Nat
  | [], out, done, _ => (out ++ l.drop done, 0, 0)
  | (f, t) :: ws, out, done, joins => match pW (cutW l f t) with
    | none => dcS l ws out done false
    | some p => if (mnW f t p).2.1 ≠ 0 then ([], (mnW f t p).2) else dcS l ws ((if joins then out else out ++ cutW l done f) ++ (mnW f t p).1) t true
def decW (l : List UInt8) : List UInt8 × Nat × Nat := dcS l (wdsA l) [] 0 false
/-- Needs. -/
def needW (l : List UInt8) : Bool := decide (badN 12 l < l.length) || (wdsA l).any fun p => (pW (cutW l p.1 p.2)).isSome

/-- Does a byte stand for itself in Q? -/
def qsf (c : UInt8) : Bool := isB 3 (c.toNat : Int) || c == 33 || c == 42 || c == 43 || c == 45 || c == 47
def qB (c : UInt8) : List UInt8 := if qsf c then [c] else if c = 32 then [95] else 61 :: hexL [c]
/-- Bytes in Q. -/
def qL (l : List UInt8) : List UInt8 := l.flatMap qB
/-- Bytes in a coding. -/
def txW (q : Bool) (b : List UInt8) : List UInt8 := if q then qL b else e64L b
/-- What bytes take of a word's room. -/
def coW (q : Bool) (b : List UInt8) : Nat := if q then (qL b).length else b.length
def roW (q : Bool) : Nat := if q then 63 else 45
/-- An encoded word. -/
def wrd (q : Bool) (b : List UInt8) : List UInt8 := [61, 63, 85, 84, 70, 45, 56, 63, (if q then 81 else 66), 63] ++ txW q b ++ [63, 61]
/-- The words of runes, when the bytes b are taken. -/
def wrS (q : Bool) (b : List UInt8) : List Int → List (List UInt8)
  | [] => if b = [] then [] else [wrd q b]
  | r :: rs => if roW q < coW q b + coW q (Lib.encodeRune r) then wrd q b :: wrS q (Lib.encodeRune r) rs else wrS q (b ++ Lib.encodeRune r) rs
/-- Words with a blank between each two. -/
def jnW : List (List UInt8) → List UInt8
  | [] => []
  | [w] => w
  | w :: ws => w ++ 32 :: jnW ws
def wrT (q : Bool) (l : List UInt8) : List UInt8 := jnW (wrS q [] (decL l))
/-- Encode: its text, and the error. -/
def encW (l : List UInt8) (short : Bool) : List UInt8 :=
  if badU l < l.length then [] else if short = true ∧ (wrT true l).length < (wrT false l).length then wrT true l else wrT false l
def encE (l : List UInt8) : Nat := if badU l < l.length then 50 else 0
end Go.Proofs.YtdgepnfgjgbkoaaDoor
/-
  Texts cut at a byte: the library's words and the plain ones.
-/
namespace Go.Proofs.YtdgepnfgjgbkoaaDoor

theorem cutC_none {c : UInt8} : ∀ {l : List UInt8}, (cutC c l).2 = none → (cutC c l).1 = l ∧ c ∉ l
  | [], _ => by simp [cutC]
  | a :: t, h => by
    unfold cutC at h ⊢
    by_cases e : a = c
    · rw [if_pos e] at h
      cases h
    · rw [if_neg e] at h ⊢
      obtain ⟨h1, h2⟩ := cutC_none h
      exact ⟨by rw [h1], by simp only [List.mem_cons, not_or]; exact ⟨fun q => e q.symm, h2⟩⟩
theorem cutC_some {c : UInt8} : ∀ {l t : List UInt8}, (cutC c l).2 = some t → l = (cutC c l).1 ++ c :: t ∧ c ∉ (cutC c l).1
  | [], t, h => by simp [cutC] at h
  | a :: l, t, h => by
    unfold cutC at h ⊢
    by_cases e : a = c
    · rw [if_pos e] at h ⊢
      injection h with h
      subst h e
      simp
    · rw [if_neg e] at h ⊢
      obtain ⟨h1, h2⟩ := cutC_some h
      refine ⟨?_, ?_⟩
      · simp only [List.cons_append]
        rw [← h1]
      · simp only [List.mem_cons, not_or]
        exact ⟨fun q => e q.symm, h2⟩
theorem cutC_hit {c : UInt8} : ∀ (a t : List UInt8), c ∉ a → cutC c (a ++ c :: t) = (a, some t)
  | [], t, _ => by simp [cutC]
  | b :: a, t, h => by
    simp only [List.mem_cons, not_or] at h
    rw [List.cons_append, cutC, if_neg (fun e => h.1 e.symm), cutC_hit a t h.2]
theorem cutC_miss {c : UInt8} : ∀ (a : List UInt8), c ∉ a → cutC c a = (a, none)
  | [], _ => by simp [cutC]
  | b :: a, h => by
    simp only [List.mem_cons, not_or] at h
    rw [cutC, if_neg (fun e => h.1 e.symm), cutC_miss a h.2]
theorem cutC_take {c : UInt8} {l t : List UInt8} (h : (cutC c l).2 = some t) : l.take (cutC c l).1.length = (cutC c l).1 ∧ l.drop ((cutC c l).1.length + 1) = t := by
  have h1 := (cutC_some h).1
  generalize (cutC c l).1 = a at h1
  subst h1
  simp
theorem index_cut (c : UInt8) : ∀ l : List UInt8, Lib.index l [c] = match (cutC c l).2 with | none => -1 | some _ => ((cutC c l).1.length : Int)
  | [] => by simp [Lib.index, cutC]
  | a :: t => by
    have ih := index_cut c t
    unfold Lib.index cutC
    by_cases e : a = c
    · subst e
      simp
    · have h1 : [c].isPrefixOf (a :: t) = false := by simp [List.isPrefixOf]; exact fun q => e q.symm
      rw [h1, if_neg e, ih]
      cases h2 : (cutC c t).2 with
      | none => simp
      | some x =>
        simp only [List.length_cons, Bool.false_eq_true, if_false]
        rw [if_neg (by simp)]
        push_cast
        rfl
theorem splitK_pcs : ∀ (k : Nat) (l : List UInt8), Lib.splitK [63] 0 k l = pcs k l
  | 0, _ => rfl
  | k + 1, l => by
    unfold Lib.splitK pcs
    rw [index_cut]
    cases h : (cutC 63 l).2 with
    | none => simp
    | some t =>
      dsimp only
      rw [if_neg (by simp)]
      have e1 : l.take (((cutC 63 l).1.length : Int).toNat + 0) = (cutC 63 l).1 := (cutC_take h).1
      have e2 : l.drop (((cutC 63 l).1.length : Int).toNat + [(63 : UInt8)].length) = t := (cutC_take h).2
      rw [e1, e2, splitK_pcs k t]
theorem pcs_len : ∀ (k : Nat) (l : List UInt8), l.length ≤ k → pcs k l = pcs l.length l
  | 0, l, h => by
    have : l = [] := List.eq_nil_of_length_eq_zero (by omega)
    subst this
    rfl
  | k + 1, l, h => by
    cases l with
    | nil => simp [pcs, cutC]
    | cons a t =>
      rw [List.length_cons]
      unfold pcs
      cases h2 : (cutC 63 (a :: t)).2 with
      | none => rfl
      | some x =>
        have h1 := congrArg List.length (cutC_some h2).1
        simp only [List.length_cons, List.length_append] at h1 h
        dsimp only
        rw [pcs_len k x (by omega), ← pcs_len t.length x (by omega)]
theorem pcs_le : ∀ (k : Nat) (l x : List UInt8), x ∈ pcs k l → x.length ≤ l.length
  | 0, l, x, h => by
    simp only [pcs, List.mem_singleton] at h
    rw [h]
    exact Nat.le_refl _
  | k + 1, l, x, h => by
    unfold pcs at h
    cases h2 : (cutC 63 l).2 with
    | none =>
      rw [h2] at h
      simp only [List.mem_singleton] at h
      rw [h]
      exact Nat.le_refl _
    | some t =>
      rw [h2] at h
      have h1 := congrArg List.length (cutC_some h2).1
      simp only [List.length_append, List.length_cons] at h1
      rcases List.mem_cons.1 h with rfl | h
      · omega
      · have := pcs_le k t x h
        omega
theorem pcs_tot : ∀ (k : Nat) (l : List UInt8), ((pcs k l).map List.length).sum + (pcs k l).length = l.length + 1
  | 0, l => by simp [pcs]
  | k + 1, l => by
    unfold pcs
    cases h2 : (cutC 63 l).2 with
    | none => simp
    | some t =>
      have h1 := congrArg List.length (cutC_some h2).1
      have ih := pcs_tot k t
      simp only [List.length_append, List.length_cons, List.map_cons, List.sum_cons] at h1 ih ⊢
      omega
theorem pcs_min (k : Nat) (l : List UInt8) : pcs (min k l.length) l = pcs k l := by
  by_cases h : k ≤ l.length
  · rw [Nat.min_eq_left h]
  · rw [Nat.min_eq_right (by omega), pcs_len k l (by omega)]
/-- strings.SplitN(s, "?", 5). -/
theorem split_pcs (s : ByteArray) : (Lib.splitB ⟨#[63]⟩ 0 (min 5 (s.size + 1) - 1) s).map (·.data.toList) = pcs 4 s.data.toList := by
  have e : min 5 (s.size + 1) - 1 = min 4 s.data.toList.length := by
    have : s.data.toList.length = s.size := by rw [Array.length_toList]; rfl
    omega
  rw [Lib.splitB_data, e]
  show Lib.splitK [63] 0 _ _ = _
  rw [splitK_pcs, pcs_min]
theorem cut_fst (c : UInt8) (l : List UInt8) : (Lib.cut l [c]).1 = (cutC c l).1 := by
  unfold Lib.cut
  rw [index_cut]
  cases h : (cutC c l).2 with
  | none => simp [(cutC_none h).1]
  | some t =>
    dsimp only
    rw [if_pos (by simp)]
    exact (cutC_take h).1
end Go.Proofs.YtdgepnfgjgbkoaaDoor
