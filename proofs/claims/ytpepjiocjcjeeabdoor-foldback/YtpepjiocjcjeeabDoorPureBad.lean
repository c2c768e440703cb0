/-
  The plain mathematics of the classes of bytes: no Go in sight.
-/
import Derived.Test.YtpepjiocjcjeeabDoorBase
import Derived.WalkKit
import Derived.WalkSpells
import Derived.Below
namespace Go.Proofs.YtpepjiocjcjeeabDoor

/-- A byte (as a number) stands in a row of bytes. -/
def hasB (l : List UInt8) (b : Int) : Bool := l.any fun c => (c.toNat : Int) == b

theorem hasB_drop (l : List UInt8) (b : Int) (k : Nat) (h : k < l.length) : hasB (l.drop k) b = (((l[k].toNat : Int) == b) || hasB (l.drop (k + 1)) b) := by
  unfold hasB
  rw [List.drop_eq_getElem_cons h, List.any_cons]

/-- A byte lies in one of the stretches of a row of pairs. -/
def inPairs : List UInt8 → Int → Bool
  | x :: y :: r, b => (decide ((x.toNat : Int) ≤ b) && decide (b ≤ (y.toNat : Int))) || inPairs r b
  | _, _ => false

theorem inPairs_drop (l : List UInt8) (b : Int) (k : Nat) (h : k + 1 < l.length) :
    inPairs (l.drop k) b = ((decide ((l[k].toNat : Int) ≤ b) && decide (b ≤ (l[k + 1].toNat : Int))) || inPairs (l.drop (k + 2)) b) := by
  rw [List.drop_eq_getElem_cons (by omega), List.drop_eq_getElem_cons h, inPairs]

theorem inPairs_end (l : List UInt8) (b : Int) (k : Nat) (h : l.length ≤ k + 1) : inPairs (l.drop k) b = false := by
  have hl : (l.drop k).length ≤ 1 := by simp; omega
  match hd : l.drop k, hl with
  | [], _ => rfl
  | [_], _ => rfl
  | _ :: _ :: _, hl => simp at hl

/-- The rows of the table, a row a class. -/
def classRows : List (List UInt8) := [[], [65, 90, 97, 122], [48, 57], [48, 57, 65, 90, 97, 122], [48, 57, 65, 70, 97, 102], [48, 57, 65, 90, 97, 122, 33, 33, 35, 39, 42, 43, 45, 45, 47, 47, 61, 61, 63, 63, 94, 96, 123, 126], [32, 33, 35, 91, 93, 126], [33, 90, 94, 126], [33, 60, 62, 126], [33, 42, 44, 60, 62, 126], [48, 57, 65, 90, 97, 122, 45, 45], [33, 57, 59, 126], [9, 9, 32, 126], [0, 127], [128, 255]]

/-- Whether a byte is of a class. -/
def isB (cl b : Int) : Bool := if cl < 0 ∨ 15 ≤ cl then false else inPairs (classRows.getD cl.toNat []) b

def shownB (b : Int) (but : List UInt8) : Bool := decide (33 ≤ b) && decide (b ≤ 126) && !hasB but b
def caps : List UInt8 := [65, 66, 67, 68, 69, 70, 71, 72, 73, 74, 75, 76, 77, 78, 79, 80, 81, 82, 83, 84, 85, 86, 87, 88, 89, 90]
def smls : List UInt8 := [97, 98, 99, 100, 101, 102, 103, 104, 105, 106, 107, 108, 109, 110, 111, 112, 113, 114, 115, 116, 117, 118, 119, 120, 121, 122]
def odigs : List UInt8 := [48, 49, 50, 51, 52, 53, 54, 55, 56, 57]
def hexs : List UInt8 := [48, 49, 50, 51, 52, 53, 54, 55, 56, 57, 65, 66, 67, 68, 69, 70, 97, 98, 99, 100, 101, 102]
def sgns : List UInt8 := [33, 35, 36, 37, 38, 39, 42, 43, 45, 47, 61, 63, 94, 95, 123, 124, 125, 126, 96]
def r1 (b : Int) : Bool := hasB caps b || hasB smls b
def r2 (b : Int) : Bool := hasB odigs b
def r3 (b : Int) : Bool := r1 b || r2 b
/-- The document's answer. -/
def refB (cl b : Int) : Bool :=
  if cl = 1 then r1 b else if cl = 2 then r2 b else if cl = 3 then r3 b else if cl = 4 then hasB hexs b
  else if cl = 5 then r3 b || hasB sgns b else if cl = 6 then decide (b = 32) || shownB b [34, 92]
  else if cl = 7 then shownB b [91, 92, 93] else if cl = 8 then shownB b [61] else if cl = 9 then shownB b [43, 61]
  else if cl = 10 then r3 b || decide (b = 45) else if cl = 11 then shownB b [58]
  else if cl = 12 then decide (b = 9) || decide (b = 32) || shownB b []
  else if cl = 13 then decide (b < 128) else if cl = 14 then decide (128 ≤ b) else false

theorem is_ref_fin : ∀ c : Fin 15, ∀ b : Fin 256, isB (c.val : Int) (b.val : Int) = refB (c.val : Int) (b.val : Int) := by decide +kernel

theorem is_ref (c b : Int) (h0 : 0 ≤ b) (h1 : b ≤ 255) : isB c b = refB c b := by
  by_cases hc : c < 0 ∨ 15 ≤ c
  · unfold isB refB
    rw [if_pos hc]
    repeat rw [if_neg (by omega)]
  · obtain ⟨n, rfl⟩ := Int.eq_ofNat_of_zero_le (show 0 ≤ c by omega)
    obtain ⟨m, rfl⟩ := Int.eq_ofNat_of_zero_le h0
    exact is_ref_fin ⟨n, by omega⟩ ⟨m, by omega⟩
end Go.Proofs.YtpepjiocjcjeeabDoor
/-
  The contracts of octet.Is, and of the document's Has, shown and Is: what each answers for every class and byte.
-/
namespace Go.Proofs.YtpepjiocjcjeeabDoor
open Go.RowKit

theorem ret_bool {a b : Bool} (h : a = b) : Ending.returned (.bool a) = .returned (.bool b) := by rw [h]

set_option maxHeartbeats 400000 in
theorem is_loop (c : Nat) (b : Int) (s : ByteArray) (w : World) (hc : c < 15) (hs : s.size ≤ 100) (hcell : w.cell? ⟨0, c, none⟩ = some (.string s)) :
    Calls Tryd.prog 58 #[.int .i64 c, .int .u8 b] w fun e w' => e = .returned (.bool (inPairs s.data.toList b)) ∧ w' = w := by
  go_enter Tryd.func58, Tryd.ntmps58
  go_wp2
  go_loop [6] (fun i => ∃ k : Nat, k ≤ s.size + 1 ∧ i = .int .i64 k ∧ Hid (inPairs s.data.toList b = inPairs (s.data.toList.drop k) b)) (fun i => s.size + 1 - (intOf i).toNat)
  case atStart => exact ⟨0, Nat.zero_le _, rfl, rfl⟩
  case round =>
    obtain ⟨k, hk, rfl, HH⟩ := hrel
    by_cases hlt : k + 1 < s.size
    · have HS : Hid (inPairs (s.data.toList.drop k) b = ((decide ((s[k].toNat : Int) ≤ b) && decide (b ≤ (s[k + 1].toNat : Int))) || inPairs (s.data.toList.drop (k + 2)) b)) := inPairs_drop s.data.toList b k (by simpa using hlt)
      by_cases h1 : (s[k].toNat : Int) ≤ b
      · by_cases h2 : b ≤ (s[k + 1].toNat : Int)
        · go_wp2
          go_ret
          exact ⟨ret_bool (by rw [HH.out, HS.out]; simp [h1, h2]), rfl⟩
        · have HN : Hid (inPairs s.data.toList b = inPairs (s.data.toList.drop (k + 2)) b) := by
            show _ = _
            rw [HH.out, HS.out, decide_eq_false h2, Bool.and_false, Bool.false_or]
          go_wp2
          go_round
          case rel => exact ⟨k + 2, by omega, by go_num, HN⟩
          case measure => simp [intOf]; omega
      · have HN : Hid (inPairs s.data.toList b = inPairs (s.data.toList.drop (k + 2)) b) := by
          show _ = _
          rw [HH.out, HS.out, decide_eq_false h1, Bool.false_and, Bool.false_or]
        go_wp2
        go_round
        case rel => exact ⟨k + 2, by omega, by go_num, HN⟩
        case measure => simp [intOf]; omega
    · go_wp2
      go_ret
      exact ⟨ret_bool (by rw [HH.out, inPairs_end _ _ _ (by simp; omega)]), rfl⟩

/-- The table, as the walks ask for it. -/
def Table (w : World) : Prop := ∀ c : Nat, c < 15 → w.cell? ⟨0, c, none⟩ = some (.string ⟨(classRows.getD c []).toArray⟩)

theorem rows_short : ∀ c : Fin 15, (classRows.getD c.val []).length ≤ 100 := by decide +kernel

theorem is_out (c b : Int) (w : World) (hc : c < 0 ∨ 15 ≤ c) :
    Calls Tryd.prog 58 #[.int .i64 c, .int .u8 b] w fun e w' => e = .returned (.bool false) ∧ w' = w := by
  rcases hc with hc | hc
  · go_enter Tryd.func58, Tryd.ntmps58
    go_wp2
    go_ret
    exact ⟨rfl, rfl⟩
  · have hn : ¬ c < 0 := by omega
    go_enter Tryd.func58, Tryd.ntmps58
    go_wp2
    go_ret
    exact ⟨rfl, rfl⟩

/-- octet.Is. -/
theorem is_any (c b : Int) (w : World) (ht : Table w) :
    Calls Tryd.prog 58 #[.int .i64 c, .int .u8 b] w fun e w' => e = .returned (.bool (isB c b)) ∧ w' = w := by
  by_cases hc : c < 0 ∨ 15 ≤ c
  · unfold isB
    rw [if_pos hc]
    exact is_out c b w hc
  · obtain ⟨n, rfl⟩ := Int.eq_ofNat_of_zero_le (show 0 ≤ c by omega)
    have hn : n < 15 := by omega
    have he : isB (n : Int) b = inPairs (classRows.getD n []) b := by unfold isB; rw [if_neg hc]; rfl
    rw [he]
    exact is_loop n b ⟨(classRows.getD n []).toArray⟩ w hn (by have := rows_short ⟨n, hn⟩; simpa [ByteArray.size] using this) (ht n hn)

end Go.Proofs.YtpepjiocjcjeeabDoor
/-
  The plain mathematics of Bad and Span: no Go in sight.
-/
namespace Go.Proofs.YtpepjiocjcjeeabDoor

/-- How many bytes ahead of the first that is not of the class. -/
def badN (c : Int) : List UInt8 → Nat
  | [] => 0
  | b :: r => if isB c (b.toNat : Int) = true then badN c r + 1 else 0

theorem badN_le (c : Int) : ∀ l : List UInt8, badN c l ≤ l.length
  | [] => Nat.le_refl _
  | b :: r => by
    have := badN_le c r
    unfold badN
    split <;> simp <;> omega

theorem badN_yes (c : Int) (l : List UInt8) (k : Nat) (h : k < l.length) (hb : isB c (l[k].toNat : Int) = true) : badN c (l.drop k) = badN c (l.drop (k + 1)) + 1 := by
  rw [List.drop_eq_getElem_cons h, badN, if_pos hb]
theorem badN_no (c : Int) (l : List UInt8) (k : Nat) (h : k < l.length) (hb : isB c (l[k].toNat : Int) = false) : badN c (l.drop k) = 0 := by
  rw [List.drop_eq_getElem_cons h, badN, if_neg (by rw [hb]; decide)]
theorem badN_end (c : Int) (l : List UInt8) (k : Nat) (h : l.length ≤ k) : badN c (l.drop k) = 0 := by
  rw [List.drop_eq_nil_of_le h, badN]

/-- The place behind the row of bytes of the class that begins at from. -/
def spanI (c : Int) (l : List UInt8) (f : Int) : Int := if f < 0 then f else f + (badN c (l.drop f.toNat) : Int)
theorem spanI_neg (c : Int) (l : List UInt8) (f : Int) (h : f < 0) : spanI c l f = f := if_pos h
theorem spanI_nat (c : Int) (l : List UInt8) (f : Nat) : spanI c l (f : Int) = (f : Int) + (badN c (l.drop f) : Int) := if_neg (by omega)
theorem spanI_zero (c : Int) (l : List UInt8) : spanI c l 0 = (badN c l : Int) := by
  have := spanI_nat c l 0
  simpa using this
theorem spanI_behind (c : Int) (l : List UInt8) (f : Int) (h : (l.length : Int) ≤ f) : spanI c l f = f := by
  obtain ⟨n, rfl⟩ := Int.eq_ofNat_of_zero_le (show 0 ≤ f by omega)
  rw [spanI_nat, badN_end _ _ _ (by omega)]
  omega
end Go.Proofs.YtpepjiocjcjeeabDoor
