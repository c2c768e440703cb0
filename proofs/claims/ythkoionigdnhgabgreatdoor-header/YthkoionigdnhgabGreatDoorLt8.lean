/-
  The library's IndexAny of the bytes that end a host; hostLength.
-/
import Derived.Shelf.Strings.Builder1
import Derived.Shelf.Strings.Builder2
import Derived.Shelf.Strings.OnBuilder
import Derived.Shelf.Small.Utf8
import Derived.Shelf.Small.Strs
import Derived.Shelf.Strconv.Itoa0
import Derived.Shelf.Strconv.Itoa1
import Derived.Shelf.LaysM
import Derived.Shelf.Strconv.Itoa2
import Derived.Shelf.Strconv.Itoa3
import Derived.Shelf.Strings.Search1
import Derived.Shelf.Strings.Search2
import Derived.Shelf.Strings.Search3
import Derived.Shelf.Strings.Count
import Derived.Shelf.Strings.Shaped
import Derived.Shelf.Strings.Prefix
import Derived.Shelf.Strings.Split
import Derived.Shelf.Strings.Replace
import Derived.Shelf.Strings.Runes
import Derived.Shelf.Strings.RuneCount
import Derived.Shelf.Strings.IndexAny
import Derived.Shelf.Strings.AsciiSet
import Derived.Shelf.Strings.IndexAnyAll
import Derived.Shelf.Unicode.DecodeSlow
import Derived.Shelf.Unicode.DecodeAny
import Derived.Shelf.Bytes.SlIndexSmall
import Derived.Shelf.Bytes.SlIndexAt
import Derived.Shelf.Bytes.SlSearch0
import Derived.Shelf.Bytes.SlSearch1
import Derived.Shelf.Bytes.SlSearch2
import Derived.Shelf.Bytes.SlIndexWhole
import Derived.Ground.SlbtProg
import Derived.Shelf.Bytes.SlCut
import Derived.Shelf.Bytes.Small
import Derived.Shelf.Bytes.IndexByte
import Derived.Test.YthkoionigdnhgabGreatDoorProg
import Derived.Test.YthkoionigdnhgabGreatDoorShs
import Derived.Test.YthkoionigdnhgabGreatDoorPureUp
import Derived.Test.YthkoionigdnhgabGreatDoorAdP
import Derived.Test.YthkoionigdnhgabGreatDoorRcP
import Derived.Test.YthkoionigdnhgabGreatDoorQc9
import Derived.Laws.RangeAny
import Derived.Lib.OthersKept
import Derived.Deep.DeepCutAuto
import Derived.Lib.ConvBytes
import Derived.WalkMore
import Derived.Test.YthkoionigdnhgabGreatDoorFh8
import Derived.Test.YthkoionigdnhgabGreatDoorPtL
import Derived.Lib.Replace
import Derived.Test.YthkoionigdnhgabGreatDoorZr8
import Derived.Test.YthkoionigdnhgabGreatDoorGa8
namespace Go.Proofs.YthkoionigdnhgabGreatDoor
open Go.RowKit

/-- Where the first byte stands that ends a host; -1, if none does. -/
def stI (l : List UInt8) : Int := if spB (notB stopB) l < l.length then (spB (notB stopB) l : Nat) else -1
/-- None of the first bytes ends a host. -/
def NoSt (s : ByteArray) (k : Nat) : Prop := k ≤ s.size ∧ ∀ j (h : j < s.size), j < k → stopB s[j] = false
theorem NoSt.none {s : ByteArray} (h : NoSt s s.size) : stI s.data.toList = -1 := by
  have e : spB (notB stopB) s.data.toList = s.size := spB_eq _ _ _ (by rw [len_list]; exact Nat.le_refl _) (fun j hj hlt => by
    rw [get_list]
    unfold notB
    rw [h.2 j (by rw [len_list] at hj; exact hj) hlt]
    rfl) (fun hl => by rw [len_list] at hl; exact absurd hl (Nat.lt_irrefl _))
  unfold stI
  rw [e, len_list, if_neg (Nat.lt_irrefl _)]
theorem NoSt.zero (s : ByteArray) : NoSt s 0 := ⟨Nat.zero_le _, fun j _ h => absurd h (Nat.not_lt_zero j)⟩
theorem NoSt.more {s : ByteArray} {k m : Nat} (h : NoSt s k) (hm : k + m ≤ s.size) (hs : ∀ j (hj : j < s.size), k ≤ j → j < k + m → stopB s[j] = false) : NoSt s (k + m) :=
  ⟨hm, fun j hj hlt => by
    rcases Nat.lt_or_ge j k with hl | hl
    · exact h.2 j hj hl
    · exact hs j hj hl hlt⟩

end Go.Proofs.YthkoionigdnhgabGreatDoor
/-
  The program's hostLength.
-/
namespace Go.Proofs.YthkoionigdnhgabGreatDoor
open Go.RowKit

theorem idx_sp (c : UInt8) : ∀ l : List UInt8, Lib.indexByte l c = if spB (notB (· == c)) l < l.length then (spB (notB (· == c)) l : Int) else -1
  | [] => rfl
  | x :: r => by
    rw [Lib.indexByte, idx_sp c r, spB, List.length_cons]
    have hle := spB_le (notB (· == c)) r
    by_cases h : (x == c) = true
    · have hn : ¬ notB (· == c) x = true := by
        show ¬ (!(x == c)) = true
        rw [h]
        decide
      rw [if_pos h, if_neg hn, if_pos (by omega)]
      rfl
    · have hn : notB (· == c) x = true := by
        show (!(x == c)) = true
        rw [Bool.not_eq_true] at h
        rw [h]
        rfl
      rw [if_neg h, if_pos hn]
      generalize spB (notB (· == c)) r = n at hle ⊢
      by_cases h2 : n < r.length
      · have e1 : (if n < r.length then (n : Int) else -1) = (n : Int) := if_pos h2
        have e2 : ¬ ((n : Int) == -1) = true := by rw [beq_iff_eq]; omega
        rw [e1, if_neg e2, if_pos (by omega)]
        rfl
      · have e1 : (if n < r.length then (n : Int) else -1) = -1 := if_neg h2
        rw [e1, if_pos (show ((-1 : Int) == -1) = true from rfl), if_neg (by omega)]
end Go.Proofs.YthkoionigdnhgabGreatDoor
/-
  Bytes replaced by others; how a local part is written so. Plain mathematics.
-/
namespace Go.Proofs.YthkoionigdnhgabGreatDoor

def repB (c : UInt8) (n : List UInt8) : List UInt8 → List UInt8
  | [] => []
  | x :: r => if x = c then n ++ repB c n r else x :: repB c n r
theorem repB_none (c : UInt8) (n : List UInt8) : ∀ l : List UInt8, l.count c = 0 → repB c n l = l
  | [], _ => rfl
  | x :: r, h => by
    rw [List.count_cons] at h
    by_cases hx : x = c
    · rw [hx] at h
      simp at h
    · rw [repB, if_neg hx, repB_none c n r (by omega)]
theorem rep_cut (c : UInt8) (n : List UInt8) : ∀ l : List UInt8, 0 < l.count c → spB (notB (· == c)) l < l.length ∧ repB c n l = l.take (spB (notB (· == c)) l) ++ n ++ repB c n (l.drop (spB (notB (· == c)) l + 1)) ∧ l.count c = (l.drop (spB (notB (· == c)) l + 1)).count c + 1
  | [], h => by simp at h
  | x :: r, h => by
    by_cases hx : x = c
    · have hn : ¬ notB (· == c) x = true := by
        show ¬ (!(x == c)) = true
        rw [beq_iff_eq.2 hx]
        decide
      rw [spB, if_neg hn]
      refine ⟨by simp, ?_, ?_⟩
      · rw [repB, if_pos hx]
        simp
      · rw [List.count_cons, if_pos (beq_iff_eq.2 hx)]
        simp
    · have hn : notB (· == c) x = true := by
        show (!(x == c)) = true
        rw [beq_eq_false_iff_ne.2 hx]
        rfl
      rw [List.count_cons, if_neg (by rw [beq_iff_eq]; exact hx), Nat.add_zero] at h
      obtain ⟨h1, h2, h3⟩ := rep_cut c n r h
      rw [spB, if_pos hn]
      refine ⟨by rw [List.length_cons]; omega, ?_, ?_⟩
      · rw [repB, if_neg hx, h2]
        simp
      · rw [List.count_cons, if_neg (by rw [beq_iff_eq]; exact hx), Nat.add_zero, h3]
        simp
theorem repK (c : UInt8) (n : List UInt8) : ∀ (k : Nat) (l : List UInt8), l.count c = k → Lib.replaceK [c] n k l = repB c n l
  | 0, l, h => by rw [Lib.replaceK, repB_none c n l h]
  | k + 1, l, h => by
    obtain ⟨h1, h2, h3⟩ := rep_cut c n l (by omega)
    have hi : Lib.index l [c] = (spB (notB (· == c)) l : Nat) := by
      rw [Lib.index_one, idx_sp, if_pos h1]
    rw [Lib.replaceK_hit [c] n k l _ hi, h2]
    congr 1
    exact repK c n k _ (by rw [List.length_singleton]; omega)
theorem repAll (c : UInt8) (n : List UInt8) (hn : n.length ≠ 1) (l : List UInt8) : Lib.replaceAll l [c] n = repB c n l := by
  unfold Lib.replaceAll Lib.replace Lib.replaceNum
  have h1 : ([c] == n) = false := by
    rw [beq_eq_false_iff_ne]
    intro e
    rw [← e] at hn
    exact hn rfl
  rw [h1, if_neg (by decide), if_pos (.inl (by decide)), Lib.count_one]
  exact repK c n _ l rfl
theorem esc_rep : ∀ l : List UInt8, repB 34 [92, 34] (repB 92 [92, 92] l) = escL l
  | [] => rfl
  | x :: r => by
    rw [repB, escL]
    by_cases h : x = 92
    · rw [if_pos h, if_pos (.inr h), h, List.cons_append, List.cons_append, List.nil_append, repB, if_neg (by decide), repB, if_neg (by decide), esc_rep r]
    · rw [if_neg h, repB]
      by_cases h2 : x = 34
      · rw [if_pos h2, if_pos (.inl h2), esc_rep r, h2]
        rfl
      · rw [if_neg h2, if_neg (fun hh => hh.elim h2 h), esc_rep r]
theorem repB_len (c : UInt8) (n : List UInt8) (hn : n.length = 2) : ∀ l : List UInt8, (repB c n l).length = l.length + l.count c
  | [] => rfl
  | x :: r => by
    rw [repB, List.count_cons, List.length_cons]
    by_cases h : x = c
    · rw [if_pos h, if_pos (beq_iff_eq.2 h), List.length_append, hn, repB_len c n hn r]
      omega
    · rw [if_neg h, if_neg (by rw [beq_iff_eq]; exact h), List.length_cons, repB_len c n hn r]
      omega
end Go.Proofs.YthkoionigdnhgabGreatDoor
/-
  The contract of domain.literal.
-/
namespace Go.Proofs.YthkoionigdnhgabGreatDoor
open Go.RowKit

theorem index_colon : ∀ l : List UInt8, Lib.indexByte l 58 = match colonAt l with | some k => (k : Int) | none => -1
  | [] => rfl
  | c :: r => by
    rw [Lib.indexByte, colonAt, index_colon r]
    by_cases hc : c = 58
    · rw [if_pos hc, if_pos (by rw [hc]; rfl)]
      rfl
    · rw [if_neg hc, if_neg (by simpa using hc)]
      cases colonAt r with
      | none => rfl
      | some k =>
        dsimp only [Option.map_some]
        rw [if_neg (by simp)]
        rfl
/-- The blocks of literal: the results, the place. -/
structure LtS (w : World) (a : Nat) (wr : World) : Prop where
  r1 : Lies wr w.heap.size #[.int .i64 0, .string ⟨#[]⟩, .int .u8 0, .int .u8 0, .int .u8 0, .int .u8 0, .int .u8 0, .int .u8 0, .int .u8 0, .int .u8 0, .int .u8 0, .int .u8 0, .int .u8 0, .int .u8 0, .int .u8 0, .int .u8 0, .int .u8 0, .int .u8 0] 27
  r2 : Lies wr (w.heap.size + 1) #[.int .i64 0, .int .i64 0] 41
  pa : Lies wr (w.heap.size + 2) #[.int .i64 (a : Nat)] 3
  below : Below w.heap.size w wr
theorem LtS.later {w wr wx : World} {a : Nat} (h : LtS w a wr) (hb : Below wr.heap.size wr wx) : LtS w a wx :=
  ⟨h.r1.below hb h.r1.lt, h.r2.below hb h.r2.lt, h.pa.below hb h.pa.lt, h.below.trans (hb.mono (Nat.le_of_lt h.r1.lt))⟩
theorem LtS.setA {w wr : World} {a : Nat} (h : LtS w a wr) (m : Nat) : LtS w m (wr.setCell ⟨w.heap.size + 2, 0, none⟩ (.int .i64 (m : Nat))) :=
  ⟨h.r1.set_other (a := ⟨w.heap.size + 2, 0, none⟩) (by show w.heap.size ≠ w.heap.size + 2; omega) _, h.r2.set_other (a := ⟨w.heap.size + 2, 0, none⟩) (by show w.heap.size + 1 ≠ w.heap.size + 2; omega) _, h.pa.set 0 _, h.below.setCell (p := ⟨w.heap.size + 2, 0, none⟩) (by show w.heap.size ≤ w.heap.size + 2; omega) _⟩
end Go.Proofs.YthkoionigdnhgabGreatDoor
