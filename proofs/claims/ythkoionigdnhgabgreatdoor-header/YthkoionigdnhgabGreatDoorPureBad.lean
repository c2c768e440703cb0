/-
  The program's Bad of a text and of bytes, and its checkers.
-/
import Derived.Test.YthkoionigdnhgabGreatDoorChk
import Derived.Test.YthkoionigdnhgabGreatDoorAdP
import Derived.Test.YthkoionigdnhgabGreatDoorBase
import Derived.WalkKit
import Derived.WalkSpells
import Derived.Below
namespace Go.Proofs.YthkoionigdnhgabGreatDoor
open Go.RowKit

theorem Fst.lt {w : World} (h : Fst w) : 6 < w.heap.size := by
  obtain ⟨t, fr, h⟩ := h
  exact (Array.getElem?_eq_some_iff.1 h).1
theorem Fst.below {w w' : World} {B : Nat} (h : Fst w) (hb : Below B w w') (hB : 6 < B) : Fst w' := by
  obtain ⟨t, fr, h⟩ := h
  exact ⟨t, fr, (hb.block _ hB).trans h⟩
theorem Fst.but {w w' : World} {g : Nat} (h : Fst w) (hb : But g w w') (hne : 6 ≠ g) : Fst w' := by
  have hlt := h.lt
  obtain ⟨t, fr, h⟩ := h
  exact ⟨t, fr, (hb.block _ hlt hne).trans h⟩

theorem badUA_step (q : Q) (n whole : Nat) (l : List UInt8) (k : Nat) (hk : k < l.length) :
    badUA q n whole (l.drop k) = match stepQ q l[k].toNat with
      | none => whole
      | some q' => badUA q' (n + 1) (if q'.1 = 0 then n + 1 else whole) (l.drop (k + 1)) := by
  rw [List.drop_eq_getElem_cons hk]
  rfl

set_option maxHeartbeats 2000000 in
set_option maxRecDepth 100000 in
theorem ubs_any (s : ByteArray) (w : World) (hf : Fst w) (hs : s.size ≤ 9223372036854775806) :
    Calls Tryz.prog 114 #[.string s] w fun e w' => e = .returned (.int .i64 (badU s.data.toList)) ∧ Below w.heap.size w w' := by
  have HF : Hid (Fst w) := hf
  have hlt := hf.lt
  clear hf
  go_enter Tryz.func114, Tryz.ntmps114
  go_wp2
  go_loopw [4, 8] (fun whole i wr => ∃ (k wh : Nat) (q : Q), i = .int .i64 k ∧ whole = .int .i64 wh ∧ k ≤ s.size ∧ wh ≤ k ∧ Hid (badU s.data.toList = badUA q k wh (s.data.toList.drop k)) ∧ Hid (MSt wr w.heap.size [] 209 (some q)) ∧ Hid (Below w.heap.size w wr)) (fun _ i _ => s.size - (intOf i).toNat)
  case atStart => exact ⟨0, 0, q0, rfl, rfl, Nat.zero_le _, Nat.le_refl _, rfl, ⟨0, 0, 0, false, Lies.new w _ 209, by omega, rfl, rfl, fun h => absurd rfl h⟩, (Below.refl _ _).alloc (Nat.le_refl _) _⟩
  case round =>
    obtain ⟨k, wh, q, rfl, rfl, hk, hwk, HE, HM, HB⟩ := hrel
    by_cases hlk : k < s.size
    · have hlk' : k < s.data.toList.length := by rw [len_list]; exact hlk
      have HS : Hid (_ = _) := badUA_step q k wh s.data.toList k hlk'
      have HC : Hid (∀ b : UInt8, Calls Tryz.prog 155 #[.pointer (some ⟨w.heap.size, 0, none⟩), .int .u8 (b.toNat : Int)] wr fun e w' => e = .returned (.tuple #[]) ∧ But w.heap.size wr w' ∧ MSt w' w.heap.size [] 209 (stepM (some q) b.toNat)) :=
        fun b => take_any w.heap.size [] 209 (some q) b wr HM.out (HF.out.below HB.out hlt)
      rw [at_list s k hlk] at HS
      go_wp2_with fail
      refine (HC.out _).mono ?_
      rintro e w1 ⟨rfl, b1, m1⟩
      have HB1 : Hid (Below w.heap.size w w1) := HB.out.trans (b1.below (Nat.le_refl _) HB.out.size)
      have HM1 : Hid (MSt w1 w.heap.size [] 209 (stepM (some q) s[k].toNat)) := m1
      cases hq : stepQ q s[k].toNat with
      | none =>
        simp only [hq] at HS
        simp only [stepM, Option.bind_some, hq] at m1
        obtain ⟨left, low, high, wrong, ms, ml, rfl⟩ := m1
        obtain ⟨c0, c1, c2, c3⟩ := ms.cell
        simp only [List.length_nil, Nat.zero_add] at c0 c1 c2 c3
        clear ms
        have HR : Hid (badU s.data.toList = wh) := HE.out.trans HS.out
        go_wp2
        go_ret
        exact ⟨ret_i64 (by rw [HR.out]), HB1.out⟩
      | some q' =>
        simp only [hq] at HS
        simp only [stepM, Option.bind_some, hq] at m1
        obtain ⟨left, low, high, wrong, ms, ml, rfl, mq1, mq2⟩ := m1
        obtain ⟨c0, c1, c2, c3⟩ := ms.cell
        simp only [List.length_nil, Nat.zero_add] at c0 c1 c2 c3
        simp only [stepM, Option.bind_some, hq] at HM1
        clear ms mq2
        by_cases h0 : q'.1 = 0
        · rw [if_pos h0] at HS
          have e0 : (left == 0) = true := by simp; omega
          have HN : Hid (badU s.data.toList = badUA q' (k + 1) (k + 1) (s.data.toList.drop (k + 1))) := HE.out.trans HS.out
          clear HE HS mq1
          go_wp2
          go_roundw
          case rel => exact ⟨k + 1, k + 1, q', by go_num, by go_num, by omega, by omega, HN, HM1, HB1⟩
          case measure => simp [intOf]; omega
        · rw [if_neg h0] at HS
          have e0 : (left == 0) = false := by simp; omega
          have HN : Hid (badU s.data.toList = badUA q' (k + 1) wh (s.data.toList.drop (k + 1))) := HE.out.trans HS.out
          clear HE HS mq1
          go_wp2
          go_roundw
          case rel => exact ⟨k + 1, wh, q', by go_num, rfl, by omega, by omega, HN, HM1, HB1⟩
          case measure => simp [intOf]; omega
    · have HR : Hid (badU s.data.toList = wh) := by
        show _ = _
        rw [HE.out, List.drop_eq_nil_of_le (by rw [len_list]; omega)]
        rfl
      go_wp2
      go_ret
      exact ⟨ret_i64 (by rw [HR.out]), HB.out⟩

end Go.Proofs.YthkoionigdnhgabGreatDoor
/-
  The plain mathematics of the classes of bytes: no Go in sight.
-/
namespace Go.Proofs.YthkoionigdnhgabGreatDoor

/-- A byte (as a number) stands in a row of bytes. -/
def hasB (l : List UInt8) (b : Int) : Bool := l.any fun c => (c.toNat : Int) == b

/-- A byte lies in one of the stretches of a row of pairs. -/
def inPairs : List UInt8 → Int → Bool
  | x :: y :: r, b => (decide ((x.toNat : Int) ≤ b) && decide (b ≤ (y.toNat : Int))) || inPairs r b
  | _, _ => false

theorem inPairs_drop (l : List UInt8) (b : Int) (k : Nat) (h : k + 1 < l.length) :
    inPairs (l.drop k) b = ((decide ((l[k].toNat : Int) ≤ b) && decide (b ≤ (l[k + 1].toNat : Int))) || inPairs (l.drop (k + 2)) b) := by
  rw [List.drop_eq_getElem_cons (by omega), List.drop_eq_getElem_cons h, inPairs]

theorem inPairs_end (l : List UInt8) (b : Int) (k : Nat) (h : l.length ≤ k + 1) : inPairs (l.drop k) b = false := by
  have hl : (l.drop k).length ≤ 1 := by simp; omega
  match hd : l.drop k, hl with
  | [], _ => rfl
  | [_], _ => rfl
  | _ :: _ :: _, hl => simp at hl

/-- The rows of the table, a row a class. -/
def classRows : List (List UInt8) := [[], [65, 90, 97, 122], [48, 57], [48, 57, 65, 90, 97, 122], [48, 57, 65, 70, 97, 102], [48, 57, 65, 90, 97, 122, 33, 33, 35, 39, 42, 43, 45, 45, 47, 47, 61, 61, 63, 63, 94, 96, 123, 126], [32, 33, 35, 91, 93, 126], [33, 90, 94, 126], [33, 60, 62, 126], [33, 42, 44, 60, 62, 126], [48, 57, 65, 90, 97, 122, 45, 45], [33, 57, 59, 126], [9, 9, 32, 126], [0, 127], [128, 255]]

/-- Whether a byte is of a class. -/
def isB (cl b : Int) : Bool := if cl < 0 ∨ 15 ≤ cl then false else inPairs (classRows.getD cl.toNat []) b

def caps : List UInt8 := [65, 66, 67, 68, 69, 70, 71, 72, 73, 74, 75, 76, 77, 78, 79, 80, 81, 82, 83, 84, 85, 86, 87, 88, 89, 90]
def smls : List UInt8 := [97, 98, 99, 100, 101, 102, 103, 104, 105, 106, 107, 108, 109, 110, 111, 112, 113, 114, 115, 116, 117, 118, 119, 120, 121, 122]
def odigs : List UInt8 := [48, 49, 50, 51, 52, 53, 54, 55, 56, 57]
def r1 (b : Int) : Bool := hasB caps b || hasB smls b
def r2 (b : Int) : Bool := hasB odigs b
end Go.Proofs.YthkoionigdnhgabGreatDoor
/-
  The contracts of octet.Is, and of the document's Has, shown and Is: what each answers for every class and byte.
-/
namespace Go.Proofs.YthkoionigdnhgabGreatDoor
open Go.RowKit

theorem ret_bool {a b : Bool} (h : a = b) : Ending.returned (.bool a) = .returned (.bool b) := by rw [h]

set_option maxHeartbeats 400000 in
theorem is_loop (c : Nat) (b : Int) (s : ByteArray) (w : World) (hc : c < 15) (hs : s.size ≤ 100) (hcell : w.cell? ⟨2, c, none⟩ = some (.string s)) :
    Calls Tryz.prog 95 #[.int .i64 c, .int .u8 b] w fun e w' => e = .returned (.bool (inPairs s.data.toList b)) ∧ w' = w := by
  go_enter Tryz.func95, Tryz.ntmps95
  go_wp2
  go_loop [6] (fun i => ∃ k : Nat, k ≤ s.size + 1 ∧ i = .int .i64 k ∧ Hid (inPairs s.data.toList b = inPairs (s.data.toList.drop k) b)) (fun i => s.size + 1 - (intOf i).toNat)
  case atStart => exact ⟨0, Nat.zero_le _, rfl, rfl⟩
  case round =>
    obtain ⟨k, hk, rfl, HH⟩ := hrel
    by_cases hlt : k + 1 < s.size
    · have HS : Hid (inPairs (s.data.toList.drop k) b = ((decide ((s[k].toNat : Int) ≤ b) && decide (b ≤ (s[k + 1].toNat : Int))) || inPairs (s.data.toList.drop (k + 2)) b)) := inPairs_drop s.data.toList b k (by simpa using hlt)
      by_cases h1 : (s[k].toNat : Int) ≤ b
      · by_cases h2 : b ≤ (s[k + 1].toNat : Int)
        · go_wp2
          go_ret
          exact ⟨ret_bool (by rw [HH.out, HS.out]; simp [h1, h2]), rfl⟩
        · have HN : Hid (inPairs s.data.toList b = inPairs (s.data.toList.drop (k + 2)) b) := by
            show _ = _
            rw [HH.out, HS.out, decide_eq_false h2, Bool.and_false, Bool.false_or]
          go_wp2
          go_round
          case rel => exact ⟨k + 2, by omega, by go_num, HN⟩
          case measure => simp [intOf]; omega
      · have HN : Hid (inPairs s.data.toList b = inPairs (s.data.toList.drop (k + 2)) b) := by
          show _ = _
          rw [HH.out, HS.out, decide_eq_false h1, Bool.false_and, Bool.false_or]
        go_wp2
        go_round
        case rel => exact ⟨k + 2, by omega, by go_num, HN⟩
        case measure => simp [intOf]; omega
    · go_wp2
      go_ret
      exact ⟨ret_bool (by rw [HH.out, inPairs_end _ _ _ (by simp; omega)]), rfl⟩

/-- The table, as the walks ask for it. -/
def Table (w : World) : Prop := ∀ c : Nat, c < 15 → w.cell? ⟨2, c, none⟩ = some (.string ⟨(classRows.getD c []).toArray⟩)

theorem rows_short : ∀ c : Fin 15, (classRows.getD c.val []).length ≤ 100 := by decide +kernel

theorem is_out (c b : Int) (w : World) (hc : c < 0 ∨ 15 ≤ c) :
    Calls Tryz.prog 95 #[.int .i64 c, .int .u8 b] w fun e w' => e = .returned (.bool false) ∧ w' = w := by
  rcases hc with hc | hc
  · go_enter Tryz.func95, Tryz.ntmps95
    go_wp2
    go_ret
    exact ⟨rfl, rfl⟩
  · have hn : ¬ c < 0 := by omega
    go_enter Tryz.func95, Tryz.ntmps95
    go_wp2
    go_ret
    exact ⟨rfl, rfl⟩

/-- octet.Is. -/
theorem is_any (c b : Int) (w : World) (ht : Table w) :
    Calls Tryz.prog 95 #[.int .i64 c, .int .u8 b] w fun e w' => e = .returned (.bool (isB c b)) ∧ w' = w := by
  by_cases hc : c < 0 ∨ 15 ≤ c
  · unfold isB
    rw [if_pos hc]
    exact is_out c b w hc
  · obtain ⟨n, rfl⟩ := Int.eq_ofNat_of_zero_le (show 0 ≤ c by omega)
    have hn : n < 15 := by omega
    have he : isB (n : Int) b = inPairs (classRows.getD n []) b := by unfold isB; rw [if_neg hc]; rfl
    rw [he]
    exact is_loop n b ⟨(classRows.getD n []).toArray⟩ w hn (by have := rows_short ⟨n, hn⟩; simpa [ByteArray.size] using this) (ht n hn)

end Go.Proofs.YthkoionigdnhgabGreatDoor
/-
  The plain mathematics of Bad and Span: no Go in sight.
-/
namespace Go.Proofs.YthkoionigdnhgabGreatDoor

/-- How many bytes ahead of the first that is not of the class. -/
def badN (c : Int) : List UInt8 → Nat
  | [] => 0
  | b :: r => if isB c (b.toNat : Int) = true then badN c r + 1 else 0

theorem badN_yes (c : Int) (l : List UInt8) (k : Nat) (h : k < l.length) (hb : isB c (l[k].toNat : Int) = true) : badN c (l.drop k) = badN c (l.drop (k + 1)) + 1 := by
  rw [List.drop_eq_getElem_cons h, badN, if_pos hb]
theorem badN_no (c : Int) (l : List UInt8) (k : Nat) (h : k < l.length) (hb : isB c (l[k].toNat : Int) = false) : badN c (l.drop k) = 0 := by
  rw [List.drop_eq_getElem_cons h, badN, if_neg (by rw [hb]; decide)]
theorem badN_end (c : Int) (l : List UInt8) (k : Nat) (h : l.length ≤ k) : badN c (l.drop k) = 0 := by
  rw [List.drop_eq_nil_of_le h, badN]

/-- The place behind the row of bytes of the class that begins at from. -/
def spanI (c : Int) (l : List UInt8) (f : Int) : Int := if f < 0 then f else f + (badN c (l.drop f.toNat) : Int)
theorem spanI_neg (c : Int) (l : List UInt8) (f : Int) (h : f < 0) : spanI c l f = f := if_pos h
theorem spanI_nat (c : Int) (l : List UInt8) (f : Nat) : spanI c l (f : Int) = (f : Int) + (badN c (l.drop f) : Int) := if_neg (by omega)
theorem spanI_zero (c : Int) (l : List UInt8) : spanI c l 0 = (badN c l : Int) := by
  have := spanI_nat c l 0
  simpa using this
theorem spanI_behind (c : Int) (l : List UInt8) (f : Int) (h : (l.length : Int) ≤ f) : spanI c l f = f := by
  obtain ⟨n, rfl⟩ := Int.eq_ofNat_of_zero_le (show 0 ≤ f by omega)
  rw [spanI_nat, badN_end _ _ _ (by omega)]
  omega
end Go.Proofs.YthkoionigdnhgabGreatDoor
