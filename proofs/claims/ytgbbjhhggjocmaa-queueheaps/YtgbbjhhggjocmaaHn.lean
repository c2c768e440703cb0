/-
  A heap as the row of what was pushed, in that order.
-/
import Derived.Test.YtgbbjhhggjocmaaHo
namespace Go.Proofs.Ytgbbjhhggjocmaa
open Go.RowKit

/-- The first than which none is told ahead. -/
def lst (kk : Bool) : En → List En → En
  | e, [] => e
  | e, x :: r => if bf kk x e then lst kk x r else lst kk e r
theorem lst_mem (kk : Bool) : ∀ (M : List En) (e : En), lst kk e M ∈ e :: M
  | [], e => by simp [lst]
  | x :: r, e => by
    unfold lst
    split
    · exact List.mem_cons_of_mem _ (lst_mem kk r x)
    · rcases List.mem_cons.1 (lst_mem kk r e) with h | h
      · rw [h]; exact List.mem_cons_self
      · exact List.mem_cons_of_mem _ (List.mem_cons_of_mem _ h)
theorem lst_least (kk : Bool) : ∀ (M : List En) (e : En), ∀ y ∈ e :: M, ¬ bf kk y (lst kk e M)
  | [], e, y, hy => by
    simp at hy
    subst hy
    exact bf_irr
  | x :: r, e, y, hy => by
    unfold lst
    split
    · rename_i hb
      have ih := lst_least kk r x
      rcases List.mem_cons.1 hy with rfl | hy
      · exact bf_trans (ih x List.mem_cons_self) (bf_asym hb)
      · exact ih y hy
    · rename_i hb
      have ih := lst_least kk r e
      rcases List.mem_cons.1 hy with rfl | hy
      · exact ih y List.mem_cons_self
      · rcases List.mem_cons.1 hy with rfl | hy
        · exact bf_trans (ih e List.mem_cons_self) hb
        · exact ih y (List.mem_cons_of_mem _ hy)
/-- Pushed one behind the other. -/
def Inc (M : List En) : Prop := M.Pairwise (fun a b => a.2 < b.2)
theorem Inc.uniq {M : List En} (h : Inc M) {a b : En} (ha : a ∈ M) (hb : b ∈ M) (e : a.2 = b.2) : a = b := by
  obtain ⟨i, hi, rfl⟩ := List.mem_iff_getElem.1 ha
  obtain ⟨j, hj, rfl⟩ := List.mem_iff_getElem.1 hb
  have hp := List.pairwise_iff_getElem.1 h
  rcases Nat.lt_trichotomy i j with h1 | h1 | h1
  · have := hp i j hi hj h1; omega
  · subst h1; rfl
  · have := hp j i hj hi h1; omega
theorem top_lst {kk : Bool} {L : List En} {e : En} {M : List En} (hq : Hq kk L) (hp : L.Perm (e :: M)) (hi : Inc (e :: M)) : eA L 0 = lst kk e M := by
  have hl : 0 < L.length := by rw [hp.length_eq]; simp
  have h1 : eA L 0 ∈ e :: M := hp.mem_iff.1 (eA_mem hl)
  have h2 := lst_mem kk M e
  have h3 := lst_least kk M e _ h1
  have h4 : ¬ bf kk (lst kk e M) (eA L 0) := by
    obtain ⟨i, hi', h5⟩ := List.mem_iff_getElem.1 (hp.mem_iff.2 h2)
    rw [← h5, ← eA_get hi']
    exact hq.least i hi'
  refine hi.uniq h1 h2 ?_
  unfold bf at h3 h4
  omega
theorem inc_snoc {M : List En} {np : Nat} (h : Inc M) (hn : ∀ e ∈ M, e.2 < np) (x : Int × Int) : Inc (M ++ [(x, np)]) := by
  unfold Inc
  rw [List.pairwise_append]
  exact ⟨h, List.pairwise_singleton _ _, fun a ha b hb => by simp at hb; rw [hb]; exact hn a ha⟩
theorem inc_erase {M : List En} (h : Inc M) (e : En) : Inc (M.erase e) := h.sublist List.erase_sublist
/-- A heap's state: what was pushed and has not gone, in that order. -/
structure Ht (w : World) (b cf : Nat) (kk : Bool) (M : List En) (np : Nat) (v : Value) : Prop where
  ex : ∃ L, Hm w b cf kk L np v ∧ L.Perm M
  inc : Inc M
  num : ∀ e ∈ M, e.2 < np
theorem Ht.lt {w : World} {b cf : Nat} {kk : Bool} {M : List En} {np : Nat} {v : Value} (h : Ht w b cf kk M np v) (k : Nat) (hk : Fh b v k) : k < w.heap.size := by obtain ⟨L, h1, _⟩ := h.ex; exact h1.hp.lt k hk
theorem Ht.keep {w w' : World} {b cf : Nat} {kk : Bool} {M : List En} {np : Nat} {v : Value} (h : Ht w b cf kk M np v) (hk : ∀ k, Fh b v k → w'.heap[k]? = w.heap[k]?) : Ht w' b cf kk M np v := by obtain ⟨L, h1, h2⟩ := h.ex; exact ⟨⟨L, h1.keep hk, h2⟩, h.inc, h.num⟩
theorem Ht.chg {w w' : World} {b cf : Nat} {kk : Bool} {M : List En} {np : Nat} {v : Value} {F : Nat → Prop} (h : Ht w b cf kk M np v) (hc : Chg F w w') (hn : ∀ k, Fh b v k → ¬ F k) : Ht w' b cf kk M np v := h.keep (fun k hk => hc.block k (h.lt k hk) (hn k hk))
theorem Ht.below {w w' : World} {b cf : Nat} {kk : Bool} {M : List En} {np : Nat} {v : Value} (h : Ht w b cf kk M np v) (hb : Below w.heap.size w w') : Ht w' b cf kk M np v := h.keep (fun k hk => hb.block k (h.lt k hk))
theorem Ht.len {w : World} {b cf : Nat} {kk : Bool} {M : List En} {np : Nat} {v : Value} (h : Ht w b cf kk M np v) : M.length ≤ 1048576 := by obtain ⟨L, h1, h2⟩ := h.ex; rw [← h2.length_eq]; exact h1.lid
theorem Ht.new {w : World} {b cf : Nat} {kk : Bool} (h : Hm w b cf kk [] 0 (.slice none 0 0)) : Ht w b cf kk [] 0 (.slice none 0 0) := ⟨⟨[], h, List.Perm.refl _⟩, List.Pairwise.nil, fun e he => by cases he⟩
/-- What is told of the least. -/
def topM (kk : Bool) : List En → Int × Int
  | [] => (0, 0)
  | e :: M => (lst kk e M).1
def resM (kk : Bool) : List En → List En
  | [] => []
  | e :: M => (e :: M).erase (lst kk e M)
theorem resM_length (kk : Bool) (M : List En) : (resM kk M).length = M.length - 1 := by
  cases M with
  | nil => rfl
  | cons e M => unfold resM; rw [List.length_erase_of_mem (lst_mem kk M e)]
theorem top_eq {kk : Bool} {L M : List En} (hq : Hq kk L) (hp : L.Perm M) (hi : Inc M) : topV L = vTh (topM kk M) := by
  cases M with
  | nil => rw [hp.eq_nil]; rfl
  | cons e M =>
    have hn : L ≠ [] := fun h => by rw [h] at hp; have := hp.length_eq; simp at this
    unfold topV topM
    rw [if_neg hn, top_lst hq hp hi]
theorem emp_eq {L M : List En} (hp : L.Perm M) : L.isEmpty = M.isEmpty := by
  have := hp.length_eq
  cases L <;> cases M <;> simp at this ⊢
theorem hlen_t {w : World} {b cf : Nat} {kk : Bool} {M : List En} {np : Nat} {v : Value} (h : Ht w b cf kk M np v) : Calls Try.prog 31 #[.pointer (some ⟨b, 0, none⟩)] w fun e w' => e = .returned (.int .i64 (M.length : Int)) ∧ w' = w := by
  obtain ⟨L, h1, h2⟩ := h.ex
  rw [← h2.length_eq]
  exact hlen_any b cf L np v w h1.hp
theorem hpeek_t {w : World} {b cf : Nat} {kk : Bool} {M : List En} {np : Nat} {v : Value} (h : Ht w b cf kk M np v) : Calls Try.prog 29 #[.pointer (some ⟨b, 0, none⟩)] w fun e w' => e = .returned (.tuple #[vTh (topM kk M), .bool (!M.isEmpty)]) ∧ Below w.heap.size w w' := by
  obtain ⟨L, h1, h2⟩ := h.ex
  rw [← top_eq h1.hq h2 h.inc, ← emp_eq h2]
  exact hpeek_any b cf L np v w h1.hp
theorem hpop_t {w : World} {b cf : Nat} {kk : Bool} {M : List En} {np : Nat} {v : Value} (h : Ht w b cf kk M np v) : Calls Try.prog 27 #[.pointer (some ⟨b, 0, none⟩)] w fun e w' => e = .returned (.tuple #[vTh (topM kk M), .bool (!M.isEmpty)]) ∧ ∃ v', Ht w' b cf kk (resM kk M) np v' ∧ Chg (Fh b v) w w' ∧ v'.ownBlock = v.ownBlock := by
  obtain ⟨L, h1, h2⟩ := h.ex
  rw [← top_eq h1.hq h2 h.inc, ← emp_eq h2]
  refine (hpop_any b cf kk L np v w h1).mono (fun e w' hh => ?_)
  obtain ⟨q1, L', v', q2, q3, q4, q5, q6⟩ := hh
  refine ⟨q1, v', ?_, q5, q6⟩
  cases M with
  | nil =>
    rw [q3 h2.eq_nil] at q2
    exact ⟨⟨[], q2, List.Perm.refl _⟩, h.inc, h.num⟩
  | cons e M =>
    have hn : L ≠ [] := fun h => by rw [h] at h2; have := h2.length_eq; simp at this
    have q7 := q4 hn
    rw [top_lst h1.hq h2 h.inc] at q7
    refine ⟨⟨L', q2, ?_⟩, inc_erase h.inc _, fun x hx => h.num x (List.mem_of_mem_erase hx)⟩
    have := (q7.trans h2).erase (lst kk e M)
    rwa [List.erase_cons_head] at this
theorem hpush_t {w : World} {b cf : Nat} {kk : Bool} {M : List En} {np : Nat} {v : Value} (h : Ht w b cf kk M np v) (x : Int × Int) (hr : M.length < 1048576) (hn : np < 4611686018427387904) : Calls Try.prog 25 #[.pointer (some ⟨b, 0, none⟩), vTh x] w fun e w' => e = .returned (.int .i64 0) ∧ ∃ v', Ht w' b cf kk (M ++ [(x, np)]) (np + 1) v' ∧ Chg (Fh b v) w w' ∧ (∀ k, v'.ownBlock = some k → v.ownBlock = some k ∨ w.heap.size ≤ k) := by
  obtain ⟨L, h1, h2⟩ := h.ex
  refine (hpush_ok b cf kk L np v x w h1 (by rw [h2.length_eq]; exact hr) hn).mono (fun e w' hh => ?_)
  obtain ⟨q1, L', v', q2, q3, q4, q5⟩ := hh
  refine ⟨q1, v', ⟨⟨L', q2, q3.trans (h2.append_right _)⟩, inc_snoc h.inc h.num x, fun e he => ?_⟩, q4, q5⟩
  rcases List.mem_append.1 he with he | he
  · have := h.num e he; omega
  · simp at he; rw [he]; exact Nat.lt_succ_self _
theorem hfull_t {w : World} {b cf : Nat} {kk : Bool} {M : List En} {np : Nat} {v : Value} (h : Ht w b cf kk M np v) (x : Int × Int) (hr : M.length = 1048576) : Calls Try.prog 25 #[.pointer (some ⟨b, 0, none⟩), vTh x] w fun e w' => e = .returned (.int .i64 4) ∧ Below w.heap.size w w' := by
  obtain ⟨L, h1, h2⟩ := h.ex
  exact hpush_full b cf kk L np v x w h1 (by rw [h2.length_eq]; exact hr)
/-- A heap whose blocks all lie from N on. -/
structure Hw (N : Nat) (w0 w : World) (b cf : Nat) (kk : Bool) (M : List En) (np : Nat) (v : Value) : Prop where
  ht : Ht w b cf kk M np v
  bel : Below N w0 w
  own : ∀ k, Fh b v k → N ≤ k
  hN : N ≤ w0.heap.size
theorem Hw.later {N : Nat} {w0 w w' : World} {b cf : Nat} {kk : Bool} {M : List En} {np : Nat} {v : Value} (h : Hw N w0 w b cf kk M np v) (hb : Below w.heap.size w w') : Hw N w0 w' b cf kk M np v := ⟨h.ht.below hb, h.bel.trans (hb.mono (Nat.le_trans h.hN h.bel.size)), h.own, h.hN⟩
theorem Hw.chg {N : Nat} {w0 w w' : World} {b cf : Nat} {kk : Bool} {M M' : List En} {np np' : Nat} {v v' : Value} (h : Hw N w0 w b cf kk M np v) (hr : Ht w' b cf kk M' np' v') (hc : Chg (Fh b v) w w') (hq : ∀ k, v'.ownBlock = some k → v.ownBlock = some k ∨ w.heap.size ≤ k) : Hw N w0 w' b cf kk M' np' v' :=
  ⟨hr, h.bel.trans (hc.to_below (Nat.le_trans h.hN h.bel.size) h.own), fun k hk => by
    rcases hk with hk | hk
    · exact h.own k (.inl hk)
    · rcases hq k hk with h1 | h1
      · exact h.own k (.inr h1)
      · exact Nat.le_trans (Nat.le_trans h.hN h.bel.size) h1, h.hN⟩
theorem hpush_w {N : Nat} {w0 w : World} {b cf : Nat} {kk : Bool} {M : List En} {np : Nat} {v : Value} (h : Hw N w0 w b cf kk M np v) (x : Int × Int) (hr : M.length < 1048576) (hn : np < 4611686018427387904) : Calls Try.prog 25 #[.pointer (some ⟨b, 0, none⟩), vTh x] w fun e w' => e = .returned (.int .i64 0) ∧ ∃ v', Hw N w0 w' b cf kk (M ++ [(x, np)]) (np + 1) v' :=
  (hpush_t h.ht x hr hn).mono (fun e w' hh => by obtain ⟨q1, v', q2, q3, q4⟩ := hh; exact ⟨q1, v', h.chg q2 q3 q4⟩)
theorem hpop_w {N : Nat} {w0 w : World} {b cf : Nat} {kk : Bool} {M : List En} {np : Nat} {v : Value} (h : Hw N w0 w b cf kk M np v) : Calls Try.prog 27 #[.pointer (some ⟨b, 0, none⟩)] w fun e w' => e = .returned (.tuple #[vTh (topM kk M), .bool (!M.isEmpty)]) ∧ ∃ v', Hw N w0 w' b cf kk (resM kk M) np v' :=
  (hpop_t h.ht).mono (fun e w' hh => by obtain ⟨q1, v', q2, q3, q4⟩ := hh; exact ⟨q1, v', h.chg q2 q3 (fun k hk => .inl (by rw [← q4]; exact hk))⟩)
theorem hnew_w (N : Nat) (w0 w : World) (hN : N ≤ w0.heap.size) (hb : Below N w0 w) (cf : Nat) (kk : Bool) (hc : Cmp cf kk) : Calls Try.prog 22 #[.func (.func cf) #[] #[]] w fun e w' => e = .returned (.pointer (some ⟨w.heap.size, 0, none⟩)) ∧ Hw N w0 w' w.heap.size cf kk [] 0 (.slice none 0 0) :=
  (hnew_any cf kk hc w).mono (fun e w' hh => by
    obtain ⟨q1, q2, q3⟩ := hh
    refine ⟨q1, Ht.new q2, hb.trans (q3.mono (Nat.le_trans hN hb.size)), fun k hk => ?_, hN⟩
    rcases hk with rfl | hk
    · exact Nat.le_trans hN hb.size
    · cases hk)
set_option maxHeartbeats 2000000 in
/-- sorts: a heap tells the least. -/
theorem sorts_any (w : World) : Calls Try.prog 42 #[] w fun e w' => e = .returned (.bool true) ∧ Below w.heap.size w w' := by
  have H0 : Hid (Calls Try.prog 22 #[.func (.func 23) #[] #[]] w fun e w' => e = .returned (.pointer (some ⟨w.heap.size, 0, none⟩)) ∧ Hw w.heap.size w w' w.heap.size 23 true [] 0 (.slice none 0 0)) := hnew_w w.heap.size w w (Nat.le_refl _) (Below.refl _ _) 23 true bykey_cmp
  have H1 : Hid (∀ wx v, Hw w.heap.size w wx w.heap.size 23 true [] 0 v → Calls Try.prog 25 #[.pointer (some ⟨w.heap.size, 0, none⟩), .agg #[.int .i64 2, .int .i64 1]] wx fun e w' => e = .returned (.int .i64 0) ∧ ∃ v', Hw w.heap.size w w' w.heap.size 23 true [((2, 1), 0)] 1 v') := fun wx v h => hpush_w h (2, 1) (by decide) (by decide)
  have H2 : Hid (∀ wx v, Hw w.heap.size w wx w.heap.size 23 true [((2, 1), 0)] 1 v → Calls Try.prog 25 #[.pointer (some ⟨w.heap.size, 0, none⟩), .agg #[.int .i64 1, .int .i64 2]] wx fun e w' => e = .returned (.int .i64 0) ∧ ∃ v', Hw w.heap.size w w' w.heap.size 23 true [((2, 1), 0), ((1, 2), 1)] 2 v') := fun wx v h => hpush_w h (1, 2) (by decide) (by decide)
  have H3 : Hid (∀ wx v, Hw w.heap.size w wx w.heap.size 23 true [((2, 1), 0), ((1, 2), 1)] 2 v → Calls Try.prog 27 #[.pointer (some ⟨w.heap.size, 0, none⟩)] wx fun e w' => e = .returned (.tuple #[.agg #[.int .i64 1, .int .i64 2], .bool true]) ∧ ∃ v', Hw w.heap.size w w' w.heap.size 23 true [((2, 1), 0)] 2 v') := fun wx v h => hpop_w h
  have H4 : Hid (∀ wx v, Hw w.heap.size w wx w.heap.size 23 true [((2, 1), 0)] 2 v → Calls Try.prog 31 #[.pointer (some ⟨w.heap.size, 0, none⟩)] wx fun e w' => e = .returned (.int .i64 1) ∧ w' = wx) := fun wx v h => hlen_t h.ht
  go_enter Try.func42, Try.ntmps42
  go_wp2_with (first
    | (go_at_call 22; refine H0.out.mono ?_; clear H0; rintro e w1 ⟨rfl, hr⟩; have R0 : Hid (Hw w.heap.size w w1 w.heap.size 23 true [] 0 (.slice none 0 0)) := hr; clear hr)
    | (go_at_call 25; refine (H1.out _ _ R0.out).mono ?_; clear H1 R0; rintro e w2 ⟨rfl, v2, hr⟩; have R1 : Hid (Hw w.heap.size w w2 w.heap.size 23 true [((2, 1), 0)] 1 v2) := hr; clear hr)
    | (go_at_call 25; refine (H2.out _ _ R1.out).mono ?_; clear H2 R1; rintro e w3 ⟨rfl, v3, hr⟩; have R2 : Hid (Hw w.heap.size w w3 w.heap.size 23 true [((2, 1), 0), ((1, 2), 1)] 2 v3) := hr; clear hr)
    | (go_at_call 27; refine (H3.out _ _ R2.out).mono ?_; clear H3 R2; rintro e w4 ⟨rfl, v4, hr⟩; have R3 : Hid (Hw w.heap.size w (w4.alloc (.cells #[.int .i64 1, .int .i64 2] 31)) w.heap.size 23 true [((2, 1), 0)] 2 v4) := hr.later ((Below.refl _ _).alloc (Nat.le_refl _) _); clear hr)
    | (go_at_call 31; refine (H4.out _ _ R3.out).mono ?_; clear H4; rintro e w6 ⟨rfl, hw⟩; subst hw))
  go_ret
  exact ⟨rfl, R3.out.bel⟩
end Go.Proofs.Ytgbbjhhggjocmaa
