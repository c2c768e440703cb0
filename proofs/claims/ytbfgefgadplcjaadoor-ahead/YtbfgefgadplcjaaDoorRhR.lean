/-
  A ring in memory.
-/
import Derived.Test.YtbfgefgadplcjaaDoorWld
import Derived.Test.YtbfgefgadplcjaaDoorGrown
import Derived.Test.YtbfgefgadplcjaaDoorLate5
namespace Go.Proofs.YtbfgefgadplcjaaDoor
open Go.RowKit

/-- A thing as cells. -/
def celR (x : Rx) : List Value := [Value.int .i64 x.c, Value.int .i64 x.s.1, Value.int .i64 x.s.2.1, Value.int .i64 x.s.2.2, Value.slice x.a x.n x.k]
def valR (x : Rx) : Value := Value.agg #[.int .i64 x.c, .int .i64 x.s.1, .int .i64 x.s.2.1, .int .i64 x.s.2.2, .slice x.a x.n x.k]
theorem celR_length (x : Rx) : (celR x).length = 5 := rfl
/-- A ring that New made: its places A, the first thing's place f, how many c. -/
structure GdR (w : World) (b : Nat) (q : Option Nat) (most : Nat) (A : List Rx) (f c : Nat) : Prop where
  lies : Lies w b #[.int .i64 (most : Int), plc q A.length, .int .i64 (f : Int), .int .i64 (c : Int)] 87
  pos : 1 ≤ most
  lid : most ≤ 1048576
  room : A.length ≤ most
  cnt : c ≤ A.length
  fst : f < A.length ∨ f = 0 ∧ A = []
  non : A = [] → q = none
  som : A ≠ [] → ∃ g, q = some g ∧ Lies w g (A.flatMap celR).toArray 50
theorem GdR.cells {w : World} {b : Nat} {q : Option Nat} {most : Nat} {A : List Rx} {f c : Nat} (h : GdR w b q most A f c) :
    w.cell? ⟨b, 0, none⟩ = some (.int .i64 (most : Int)) ∧ w.cell? ⟨b, 1, none⟩ = some (plc q A.length) ∧ w.cell? ⟨b, 2, none⟩ = some (.int .i64 (f : Int)) ∧ w.cell? ⟨b, 3, none⟩ = some (.int .i64 (c : Int)) :=
  ⟨h.lies.cell 0, h.lies.cell 1, h.lies.cell 2, h.lies.cell 3⟩
theorem GdR.drewN {w : World} {b : Nat} {q : Option Nat} {most : Nat} {A : List Rx} {f c : Nat} (h : GdR w b q most A f c) (n : Nat) : GdR (w.drewN n) b q most A f c :=
  ⟨h.lies.drewN n, h.pos, h.lid, h.room, h.cnt, h.fst, h.non, fun e => by obtain ⟨g, h1, h2⟩ := h.som e; exact ⟨g, h1, h2.drewN n⟩⟩
theorem GdR.of {w w' : World} {b : Nat} {q : Option Nat} {most : Nat} {A : List Rx} {f c : Nat} (h : GdR w b q most A f c) (h1 : w'.heap[b]? = w.heap[b]?) (h2 : ∀ g, q = some g → w'.heap[g]? = w.heap[g]?) : GdR w' b q most A f c :=
  ⟨h1.trans h.lies, h.pos, h.lid, h.room, h.cnt, h.fst, h.non, fun e => by obtain ⟨g, k1, k2⟩ := h.som e; exact ⟨g, k1, (h2 g k1).trans k2⟩⟩

/-- Any ring: none, one that New did not make (most 0), or one of most things, with the things l. -/
inductive RgR (w : World) : Option Nat → Option Nat → Nat → List Rx → Prop
  | no : RgR w none none 0 []
  | zero (b : Nat) (h : Lies w b #[.int .i64 0, .slice none 0 0, .int .i64 0, .int .i64 0] 87) : RgR w (some b) none 0 []
  | made (b : Nat) (q : Option Nat) (most : Nat) (A : List Rx) (f c : Nat) (h : GdR w b q most A f c) : RgR w (some b) q most (rwA Rx.nil A f c)
theorem RgR.keep {w w' : World} {p q : Option Nat} {most : Nat} {l : List Rx} (h : RgR w p q most l) (hk : ∀ k, Fq p q k → w'.heap[k]? = w.heap[k]?) : RgR w' p q most l := by
  cases h with
  | no => exact .no
  | zero b h => exact .zero b ((hk b (.inl rfl)).trans h)
  | made b q most A f c h => exact .made b q most A f c (h.of (hk b (.inl rfl)) (fun g e => hk g (.inr e)))
theorem RgR.lt {w : World} {p q : Option Nat} {most : Nat} {l : List Rx} (h : RgR w p q most l) (k : Nat) (hk : Fq p q k) : k < w.heap.size := by
  cases h with
  | no => rcases hk with hk | hk <;> cases hk
  | zero b h => rcases hk with hk | hk <;> cases hk; exact h.lt
  | made b q most A f c h =>
    rcases hk with hk | hk
    · cases hk; exact h.lies.lt
    · by_cases e : A = []
      · rw [h.non e] at hk; cases hk
      · obtain ⟨g, k1, k2⟩ := h.som e
        rw [k1] at hk; cases hk; exact k2.lt
theorem RgR.len {w : World} {p q : Option Nat} {most : Nat} {l : List Rx} (h : RgR w p q most l) : l.length ≤ most ∧ most ≤ 1048576 := by
  cases h with
  | no => simp
  | zero b h => simp
  | made b q most A f c h => rw [rwA_length]; exact ⟨Nat.le_trans h.cnt h.room, h.lid⟩
theorem RgR.chg {w w' : World} {p q : Option Nat} {most : Nat} {l : List Rx} {F : Nat → Prop} (h : RgR w p q most l) (hc : Chg F w w') (hn : ∀ k, Fq p q k → ¬ F k) : RgR w' p q most l :=
  h.keep (fun k hk => hc.block k (h.lt k hk) (hn k hk))
theorem RgR.drewN {w : World} {p q : Option Nat} {most : Nat} {l : List Rx} (h : RgR w p q most l) (n : Nat) : RgR (w.drewN n) p q most l := h.keep (fun _ _ => rfl)
theorem RgR.below {w w' : World} {p q : Option Nat} {most : Nat} {l : List Rx} (h : RgR w p q most l) (hb : Below w.heap.size w w') : RgR w' p q most l := h.keep (fun k hk => hb.block k (h.lt k hk))

theorem thereR_any (p q : Option Nat) (most : Nat) (l : List Rx) (w : World) (h : RgR w p q most l) : Calls Tryd.prog 56 #[ptr p] w fun e w' => e = .returned (.bool (decide (0 < most))) ∧ w' = w := by
  cases h with
  | no =>
    unfold ptr
    go_enter Tryd.func56, Tryd.ntmps56
    go_wp2
    go_ret
    exact ⟨rfl, rfl⟩
  | zero b h =>
    have c0 := h.cell 0
    simp only [List.getElem?_toArray, List.getElem?_cons_zero] at c0
    clear h
    unfold ptr
    go_enter Tryd.func56, Tryd.ntmps56
    go_wp2
    go_ret
    exact ⟨rfl, rfl⟩
  | made b q most A f c h =>
    have c0 := h.cells.1
    have hp := h.pos
    clear h
    unfold ptr
    go_enter Tryd.func56, Tryd.ntmps56
    go_wp2
    go_ret
    exact ⟨ret_bool (by simp), rfl⟩
end Go.Proofs.YtbfgefgadplcjaaDoor
/-
  How many things a ring has and may have; the place of one; the pieces.
-/
namespace Go.Proofs.YtbfgefgadplcjaaDoor
open Go.RowKit

theorem lenR_any (p q : Option Nat) (most : Nat) (l : List Rx) (w : World) (h : RgR w p q most l) : Calls Tryd.prog 67 #[ptr p] w fun e w' => e = .returned (.int .i64 (l.length : Int)) ∧ w' = w := by
  have ht := thereR_any p q most l w h
  cases h with
  | no =>
    unfold ptr at ht ⊢
    go_enter Tryd.func67, Tryd.ntmps67
    go_wp2_with (go_at_call 56; refine ht.mono ?_; rintro e w' ⟨rfl, rfl⟩)
    go_ret
    exact ⟨rfl, rfl⟩
  | zero b h =>
    clear h
    unfold ptr at ht ⊢
    go_enter Tryd.func67, Tryd.ntmps67
    go_wp2_with (go_at_call 56; refine ht.mono ?_; rintro e w' ⟨rfl, rfl⟩)
    go_ret
    exact ⟨rfl, rfl⟩
  | made b q most A f c h =>
    have c3 := h.cells.2.2.2
    have hp : decide (0 < most) = true := decide_eq_true h.pos
    rw [hp] at ht
    clear h hp
    rw [rwA_length]
    unfold ptr at ht ⊢
    go_enter Tryd.func67, Tryd.ntmps67
    go_wp2_with (go_at_call 56; refine ht.mono ?_; clear ht; rintro e w' ⟨rfl, rfl⟩)
    go_ret
    exact ⟨rfl, rfl⟩
theorem roomR_any (p q : Option Nat) (most : Nat) (l : List Rx) (w : World) (h : RgR w p q most l) : Calls Tryd.prog 41 #[ptr p] w fun e w' => e = .returned (.int .i64 ((most - l.length : Nat) : Int)) ∧ ∃ n, w' = w.drewN n := by
  have ht := thereR_any p q most l w h
  cases h with
  | no =>
    unfold ptr at ht ⊢
    go_enter Tryd.func41, Tryd.ntmps41
    go_wp2_with (go_at_call 56; refine ht.mono ?_; rintro e w' ⟨rfl, rfl⟩)
    go_ret
    exact ⟨rfl, 0, rfl⟩
  | zero b h =>
    clear h
    unfold ptr at ht ⊢
    go_enter Tryd.func41, Tryd.ntmps41
    go_wp2_with (go_at_call 56; refine ht.mono ?_; rintro e w' ⟨rfl, rfl⟩)
    go_ret
    exact ⟨rfl, 0, rfl⟩
  | made b q most A f c h =>
    have c0 := h.cells.1
    have c3 := h.cells.2.2.2
    have hp : decide (0 < most) = true := decide_eq_true h.pos
    have hl := h.lid
    have hr : c ≤ most := Nat.le_trans h.cnt h.room
    rw [hp] at ht
    clear h hp
    rw [rwA_length]
    unfold ptr at ht ⊢
    go_enter Tryd.func41, Tryd.ntmps41
    go_wp2_with (go_at_call 56; refine ht.mono ?_; clear ht; rintro e w' ⟨rfl, rfl⟩)
    go_quiet (fail)
    go_wp2
    go_ret
    exact ⟨ret_i64 (by omega), _, rfl⟩
theorem placeR_any (b : Nat) (q : Option Nat) (most : Nat) (A : List Rx) (f c i : Nat) (w : World) (h : GdR w b q most A f c) (hA : A ≠ []) (hi : i ≤ 1048576) :
    Calls Tryd.prog 60 #[.pointer (some ⟨b, 0, none⟩), .int .i64 (i : Int)] w fun e w' => e = .returned (.int .i64 (((f + i) % A.length : Nat) : Int)) ∧ ∃ n, w' = w.drewN n := by
  obtain ⟨g, rfl, hg⟩ := h.som hA
  have c1 := h.cells.2.1
  have c2 := h.cells.2.2.1
  have hn : 0 < A.length := List.length_pos_iff.2 hA
  have hf : f < A.length := by rcases h.fst with h1 | h1; exact h1; exact absurd h1.2 hA
  have hr : A.length ≤ 1048576 := Nat.le_trans h.room h.lid
  have hm : ((f : Int) + (i : Int)).tmod (A.length : Int) = (((f + i) % A.length : Nat) : Int) := by rw [Int.tmod_eq_emod_of_nonneg (by omega)]; rfl
  have hm2 : ((f : Int) + (i : Int)) % (A.length : Int) = (((f + i) % A.length : Nat) : Int) := rfl
  have hb : (f + i) % A.length < A.length := Nat.mod_lt _ hn
  clear h hg hA
  unfold plc at c1
  dsimp only at c1
  generalize A.length = n at c1 hn hf hr hm hm2 hb ⊢
  generalize (f + i) % n = r at hm hm2 hb ⊢
  go_enter Tryd.func60, Tryd.ntmps60
  go_wp2_with fail
  go_quiet (fail)
  go_wp2
  go_ret
  exact ⟨rfl, _, rfl⟩
end Go.Proofs.YtbfgefgadplcjaaDoor
