/-
  Print, its answer as one row; the document's beside it.
-/
import Derived.Test.YtpepjiocjcjeeaaDoorDg16
import Derived.Test.YtpepjiocjcjeeaaDoorOpU16
import Derived.Test.YtpepjiocjcjeeaaDoorFf16
import Derived.Test.YtpepjiocjcjeeaaDoorSpB2
namespace Go.Proofs.YtpepjiocjcjeeaaDoor
open Go.RowKit

/-- What Print tells: the text, or none. -/
def prR (l : List Fd) : List UInt8 := if prE l = 0 then prL l else []
theorem prL_tot : ∀ l : List Fd, (prL l).length = totF l + 3 * l.length
  | [] => rfl
  | p :: r => by
    have ih := prL_tot r
    have e : prL (p :: r) = wrF p ++ prL r := rfl
    rw [e, List.length_append, ih, totF_cons, List.length_cons]
    unfold wrF
    simp
    omega
theorem prR_le (l : List Fd) (h1 : l.length ≤ 1048576) (h2 : totF l ≤ 1048576) : (prR l).length ≤ 4194304 := by
  unfold prR
  split
  · rw [prL_tot]; omega
  · simp
theorem prow {w' : World} {B : Nat} {v : Value} {l : List Fd} (h1 : prE l ≠ 0 → v = .slice none 0 0) (h2 : prE l = 0 → w'.ownsRow B 5 1 v (prL l).length (cellsB (prL l))) : w'.ownsRow B 5 1 v (prR l).length (cellsB (prR l)) := by
  unfold prR
  by_cases h : prE l = 0
  · rw [if_pos h]; exact h2 h
  · rw [if_neg h, h1 h]
    exact own_nil _ _
theorem fprint_row (a : Option Addr) (cap : Nat) (l : List Fd) (w : World) (ha : Fds a l w) (hl : l.length ≤ 1048576) (ht : totF l ≤ 1048576) (hT : Table w) :
    Calls Tryd.prog 17 #[.slice a l.length cap] w fun e w' => ∃ b c, e = .returned (.tuple #[.slice b (prR l).length c, .int .i64 (prE l : Int)]) ∧ Below w.heap.size w w' ∧ w'.ownsRow w.heap.size 5 1 (.slice b (prR l).length c) (prR l).length (cellsB (prR l)) := by
  refine (fprint_any a cap l w ha (by omega) (fun p hp => by have := totF_mem l p hp; omega) hT (fun _ => by rw [prL_tot]; omega)).mono ?_
  rintro e w' ⟨v, rfl, hb, h1, h2⟩
  have h3 := prow h1 h2
  obtain ⟨b, c, rfl, -⟩ := own_bts h3
  exact ⟨b, c, rfl, hb, h3⟩
theorem uprint_row (a : Option Addr) (cap : Nat) (l : List Fd) (w : World) (ha : Fds a l w) (hl : l.length ≤ 1048576) (ht : totF l ≤ 1048576) :
    Calls Tryd.prog 14 #[.slice a l.length cap] w fun e w' => ∃ b c, e = .returned (.tuple #[.slice b (prR l).length c, .int .i64 (prE l : Int)]) ∧ Below w.heap.size w w' ∧ w'.ownsRow w.heap.size 5 1 (.slice b (prR l).length c) (prR l).length (cellsB (prR l)) := by
  refine (uprint_any a cap l w ha (by omega) (fun p hp => by have := totF_mem l p hp; omega) (by rw [prL_tot]; omega)).mono ?_
  rintro e w' ⟨v, rfl, hb, h1, h2⟩
  have h3 := prow h1 h2
  obtain ⟨b, c, rfl, -⟩ := own_bts h3
  exact ⟨b, c, rfl, hb, h3⟩
theorem fds_fore {w : World} {B n c g : Nat} {l r : List Fd} (h : w.ownsRow B 34 2 (.slice (some ⟨g, 0, none⟩) n c) n (cellsF (l ++ r))) : Fds (some ⟨g, 0, none⟩) l w := .inr ⟨g, 0, rfl, (h.lt g rfl).2, fun j u hj => by
  have := h.cells rfl j u (by
    rw [cellsF_append, List.getElem?_append_left]
    · exact hj
    · rcases Nat.lt_or_ge j (cellsF l).length with h' | h'
      · exact h'
      · rw [List.getElem?_eq_none h'] at hj; cases hj)
  rw [Addr.add_lit] at this
  exact this⟩
theorem own_capT {w : World} {B n c t k : Nat} {a : Option Addr} {xs : List Value} (h : w.ownsRow B t k (.slice a n c) n xs) : c ≤ 9223372036854775807 := by
  obtain ⟨_, ⟨h1, _⟩ | ⟨g, cap, cur, hv, _, _, _, hcm, _⟩⟩ := h
  · injection h1 with _ _ e
    omega
  · injection hv with _ _ e
    unfold maxLen at hcm
    omega
theorem own_far {w w' : World} {B n t k : Nat} {v : Value} {xs : List Value} {row : Option Nat} (h : w.ownsRow B t k v n xs) (hg : w.grownBy w' row) (hn : ∀ j, v.ownBlock = some j → row ≠ some j) : w'.ownsRow B t k v n xs := ownT_keep h (fun j hj => hg.block j (h.lt j hj).2 (fun e => hn j hj e.symm))
end Go.Proofs.YtpepjiocjcjeeaaDoor
