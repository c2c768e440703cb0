/-
  isBlank, room, charsetOf.
-/
import Derived.Test.YtdgepnfgjgbkoaaDoorWdP
import Derived.Test.YtdgepnfgjgbkoaaDoorUpper
import Derived.Test.YtdgepnfgjgbkoaaDoorBase2
import Derived.Test.YtdgepnfgjgbkoaaDoorBase
import Derived.WalkKit
import Derived.Below
namespace Go.Proofs.YtdgepnfgjgbkoaaDoor
open Go.RowKit

theorem u8x (c n : UInt8) (m : Int) (hm : m = (n.toNat : Int) := by rfl) : ((c.toNat : Int) == m) = (c == n) := by
  subst hm
  rw [Bool.eq_iff_iff]
  simp only [beq_iff_eq]
  exact ⟨fun h => UInt8.toNat_inj.1 (by omega), fun h => by rw [h]⟩
/-- The text of a coding: B or Q. -/
def cdS (q : Bool) : ByteArray := if q then ⟨#[81]⟩ else ⟨#[66]⟩
theorem wblank_any (c : UInt8) (w : World) : Calls Tryd.prog 38 #[.int .u8 (c.toNat : Int)] w fun e w' => e = .returned (.bool (blk c)) ∧ w' = w := by
  have k1 := u8x c 32 32
  have k2 := u8x c 9 9
  unfold blk
  cases h1 : (c == 32) <;> cases h2 : (c == 9) <;> rw [h1] at k1 <;> rw [h2] at k2 <;> clear h1 h2
  all_goals
    go_enter Tryd.func38, Tryd.ntmps38
    go_wp2
    go_ret
    exact ⟨rfl, rfl⟩
theorem wroom_any (q : Bool) (w : World) : Calls Tryd.prog 45 #[.string (cdS q)] w fun e w' => e = .returned (.int .i64 (roW q : Nat)) ∧ w' = w := by
  cases q
  all_goals
    unfold cdS roW
    go_enter Tryd.func45, Tryd.ntmps45
    go_wp2
    go_ret
    exact ⟨rfl, rfl⟩
theorem beqd (l m : List UInt8) : (l == m) = decide (l = m) := Bool.eq_iff_iff.2 ⟨fun h => decide_eq_true (beq_iff_eq.1 h), fun h => beq_iff_eq.2 (of_decide_eq_true h)⟩
theorem ups_list (s : ByteArray) : (upS s).toList = upL s.data.toList := by rw [ByteArray.toList_eq]; simp [upS]
theorem wcsof_any (s : ByteArray) (w : World) (hs : s.size ≤ maxLen) : Calls Tryd.prog 42 #[.string s] w fun e w' => e = .returned (.int .i64 (csNo s.data.toList : Nat)) ∧ Below w.heap.size w w' := by
  have hU := upper_any s w hs
  have HL := ups_list s
  obtain ⟨U, hU2⟩ : ∃ U, U = upS s := ⟨_, rfl⟩
  rw [← hU2] at hU HL
  have k1 : (U.toList == [85, 84, 70, 45, 56]) = decide (upL s.data.toList = nmU) := by rw [HL]; exact beqd _ nmU
  have k2 : (U.toList == [85, 83, 45, 65, 83, 67, 73, 73]) = decide (upL s.data.toList = nmA) := by rw [HL]; exact beqd _ nmA
  have k3 : (U.toList == [73, 83, 79, 45, 56, 56, 53, 57, 45, 49]) = decide (upL s.data.toList = nmI) := by rw [HL]; exact beqd _ nmI
  clear hU2 HL
  unfold csNo
  by_cases h1 : upL s.data.toList = nmU <;> by_cases h2 : upL s.data.toList = nmA <;> by_cases h3 : upL s.data.toList = nmI
  all_goals
    simp only [h1, h2, h3, decide_true, decide_false, if_true, if_false] at k1 k2 k3 ⊢
    try clear h1
    try clear h2
    try clear h3
    go_enter Tryd.func42, Tryd.ntmps42
    go_wp2_with fail
    refine hU.mono ?_
    rintro e w' ⟨rfl, hb⟩
    go_wp2
    go_ret
    exact ⟨rfl, hb⟩
end Go.Proofs.YtdgepnfgjgbkoaaDoor
/-
  Worlds that have grown, one behind the other.
-/
namespace Go.Proofs.YtdgepnfgjgbkoaaDoor
open Go.RowKit

theorem grown_on {w w1 w2 : World} {row row2 : Option Nat} (h1 : w.grownBy w1 row) (h2 : w1.grownBy w2 row2) (h : ∀ k, row2 = some k → some k = row ∨ w.heap.size ≤ k) : w.grownBy w2 row :=
  ⟨h2.os.trans h1.os, h2.tape.trans h1.tape, h2.output.trans h1.output, Nat.le_trans h1.size h2.size, fun k hk hne => (h2.block k (Nat.lt_of_lt_of_le hk h1.size) (fun e => by
    rcases h k e.symm with h' | h'
    · exact hne h'
    · omega)).trans (h1.block k hk hne)⟩
theorem two_alloc {w w' : World} (a b : Obj) {r : Option Nat} (h : ((w.alloc a).alloc b).grownBy w' r) : w.grownBy w' r :=
  grown_on (grown_on (World.grownBy_alloc w a r) (World.grownBy_alloc _ b r) (fun _ h => .inl h.symm)) h (fun _ h => .inl h.symm)
theorem base_le {w : World} {base base' e size n : Nat} {v : Value} {xs : List Value} (h : w.ownsRow base e size v n xs) (hb : base' ≤ base) : w.ownsRow base' e size v n xs := by
  obtain ⟨h1, h2⟩ := h
  refine ⟨h1, ?_⟩
  rcases h2 with h2 | ⟨g, cap, cur, hv, hg, r⟩
  · exact .inl h2
  · exact .inr ⟨g, cap, cur, hv, by omega, r⟩
theorem bcell {W w1 : World} (hb : Below W.heap.size W w1) : (∀ b o, b < W.heap.size → w1.cell? ⟨b, o, none⟩ = W.cell? ⟨b, o, none⟩) ∧ (∀ b o, b < W.heap.size → w1.frozen? ⟨b, o, none⟩ = W.frozen? ⟨b, o, none⟩) :=
  ⟨fun b o h => hb.cell (p := ⟨b, o, none⟩) h, fun b o h => hb.frozen (p := ⟨b, o, none⟩) h⟩
theorem own_conv {w : World} {base n : Nat} {v : Value} {l : List UInt8} (h : w.ownsRow base 5 1 v n (cellsB l)) : (convert 38 9 v).run Tryd.prog w = .ok (.string ⟨l.toArray⟩) w := by
  obtain ⟨a, cap, rfl, hb, hl, _⟩ := own_bts h
  subst hl
  exact bts_back hb cap
end Go.Proofs.YtdgepnfgjgbkoaaDoor
/-
  Bytes that lie in a row of memory.
-/
namespace Go.Proofs.YtdgepnfgjgbkoaaDoor
open Go.RowKit

/-- The bytes of s lie in block g from place o on. -/
def RowAt (s : ByteArray) (g o : Nat) (w : World) : Prop := ∀ j, (h : j < s.size) → w.cell? ⟨g, o + j, none⟩ = some (.int .u8 (s[j].toNat : Int))

theorem RowAt.below {s : ByteArray} {g o B : Nat} {w w' : World} (h : RowAt s g o w) (hb : Below B w w') (hg : g < B) : RowAt s g o w' := fun j hj =>
  (hb.cell (p := ⟨g, o + j, none⟩) hg).trans (h j hj)
end Go.Proofs.YtdgepnfgjgbkoaaDoor
