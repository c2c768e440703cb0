/-
  A heap's calls: NewHeap, Len, Peek, Push.
-/
import Derived.Test.YtgbbjhhggjocmaaHr
namespace Go.Proofs.Ytgbbjhhggjocmaa
open Go.RowKit

/-- A heap that NewHeap made. -/
structure Hm (w : World) (b cf : Nat) (kk : Bool) (L : List En) (np : Nat) (v : Value) : Prop where
  hp : Hp w b cf L np v
  hq : Hq kk L
  cmp : Cmp cf kk
  lid : L.length ≤ 1048576
  num : np ≤ 4611686018427387904
theorem Hm.keep {w w' : World} {b cf : Nat} {kk : Bool} {L : List En} {np : Nat} {v : Value} (h : Hm w b cf kk L np v) (hk : ∀ k, Fh b v k → w'.heap[k]? = w.heap[k]?) : Hm w' b cf kk L np v := ⟨h.hp.keep hk, h.hq, h.cmp, h.lid, h.num⟩
theorem Hm.below {w w' : World} {b cf : Nat} {kk : Bool} {L : List En} {np : Nat} {v : Value} (h : Hm w b cf kk L np v) (hb : Below w.heap.size w w') : Hm w' b cf kk L np v := ⟨h.hp.below hb, h.hq, h.cmp, h.lid, h.num⟩
theorem Hm.chg {w w' : World} {b cf : Nat} {kk : Bool} {L : List En} {np : Nat} {v : Value} {F : Nat → Prop} (h : Hm w b cf kk L np v) (hc : Chg F w w') (hn : ∀ k, Fh b v k → ¬ F k) : Hm w' b cf kk L np v := ⟨h.hp.chg hc hn, h.hq, h.cmp, h.lid, h.num⟩
theorem equalIn_func (w : World) (d : Nat) (f : Fn) (x y : Array Value) : (Op.equalIn (d + 1) 49 (.func f x y) .nilFunc).run Try.prog w = .ok false w := by
  simp [Op.equalIn, run_underlying Try.underlying49]
theorem eql_func (w : World) (f : Fn) (x y : Array Value) : (binOp .eql 49 (.func f x y) .nilFunc).run Try.prog w = .ok (.bool false) w := by
  simp only [binOp]
  simp [Op.equal, Op.maxDepth, equalIn_func w 9999 f x y]
theorem neq_func (w : World) (f : Fn) (x y : Array Value) : (binOp .neq 49 (.func f x y) .nilFunc).run Try.prog w = .ok (.bool true) w := by
  simp only [binOp]
  simp [Op.equal, Op.maxDepth, equalIn_func w 9999 f x y]
set_option maxRecDepth 20000 in
theorem hnew_any (cf : Nat) (kk : Bool) (hc : Cmp cf kk) (w : World) : Calls Try.prog 22 #[.func (.func cf) #[] #[]] w fun e w' => e = .returned (.pointer (some ⟨w.heap.size, 0, none⟩)) ∧ Hm w' w.heap.size cf kk [] 0 (.slice none 0 0) ∧ Below w.heap.size w w' := by
  have hef := eql_func
  go_enter Try.func22, Try.ntmps22
  go_wp2
  go_ret
  exact ⟨rfl, ⟨⟨Lies.new w _ _, Ow.nil _ _ _ _⟩, (fun j _ h => by cases h), hc, Nat.zero_le _, Nat.zero_le _⟩, (Below.refl _ _).alloc (Nat.le_refl _) _⟩
set_option maxRecDepth 20000 in
theorem hthere_any (b cf : Nat) (L : List En) (np : Nat) (v : Value) (w : World) (h : Hp w b cf L np v) : Calls Try.prog 54 #[.pointer (some ⟨b, 0, none⟩)] w fun e w' => e = .returned (.bool true) ∧ w' = w := by
  have c0 := h.cells.1
  clear h
  have hef := neq_func
  go_enter Try.func54, Try.ntmps54
  go_wp2
  go_ret
  exact ⟨rfl, rfl⟩
set_option maxRecDepth 20000 in
theorem hlen_any (b cf : Nat) (L : List En) (np : Nat) (v : Value) (w : World) (h : Hp w b cf L np v) : Calls Try.prog 31 #[.pointer (some ⟨b, 0, none⟩)] w fun e w' => e = .returned (.int .i64 (L.length : Int)) ∧ w' = w := by
  have ht := hthere_any b cf L np v w h
  have c1 := h.cells.2.1
  obtain ⟨a, c, rfl, _⟩ := h.own.shape
  clear h
  go_enter Try.func31, Try.ntmps31
  go_wp2_with (go_at_call 54; refine ht.mono ?_; clear ht; rintro e w ⟨rfl, rfl⟩)
  go_ret
  exact ⟨rfl, rfl⟩
/-- What Peek and Pop tell. -/
def topV (L : List En) : Value := vTh (if L = [] then (0, 0) else (eA L 0).1)
set_option maxRecDepth 20000 in
set_option maxHeartbeats 2000000 in
theorem hpeek_any (b cf : Nat) (L : List En) (np : Nat) (v : Value) (w : World) (h : Hp w b cf L np v) : Calls Try.prog 29 #[.pointer (some ⟨b, 0, none⟩)] w fun e w' => e = .returned (.tuple #[topV L, .bool (!L.isEmpty)]) ∧ Below w.heap.size w w' := by
  have hszE : (Try.prog.info? 31).map (·.size) = some (#[Value.int .i64 0, .int .i64 0] : Array Value).size := sizeT
  have hb1 : Below w.heap.size w (w.alloc (.cells #[.int .i64 0, .int .i64 0] 31)) := (Below.refl _ w).alloc (Nat.le_refl _) _
  have hln := hlen_any b cf L np v (w.alloc (.cells #[.int .i64 0, .int .i64 0] 31)) (h.below hb1)
  by_cases hL : L = []
  · have HW : Hid (Lies ((w.alloc (.cells #[.int .i64 0, .int .i64 0] 31)).alloc (.cells #[.int .i64 0, .int .i64 0] 31)) w.heap.size #[.int .i64 0, .int .i64 0] 31) := (Lies.new w _ _).alloc _
    have HB : Hid (Below w.heap.size w ((w.alloc (.cells #[.int .i64 0, .int .i64 0] 31)).alloc (.cells #[.int .i64 0, .int .i64 0] 31))) := ((Below.refl _ w).alloc (Nat.le_refl _) _).alloc (by simp) _
    subst hL
    clear h hb1
    go_enter Try.func29, Try.ntmps29
    go_wp2_with (go_at_call 31; refine hln.mono ?_; clear hln; rintro e w2 ⟨rfl, hw2⟩; subst hw2)
    exact ret_cell rfl w.heap.size 31 #[.int .i64 0, .int .i64 0] (0, 0) _ (.bool false) rfl rfl HW.out Try.underlying31 rfl hszE ⟨rfl, HB.out⟩
  · have hlen : 0 < L.length := List.length_pos_iff.2 hL
    obtain ⟨w1, hw1⟩ : ∃ w1, w1 = w.alloc (.cells #[.int .i64 0, .int .i64 0] 31) := ⟨_, rfl⟩
    rw [← hw1] at hln hb1
    have h1 := h.below hb1
    have hL1 : Lies w1 w.heap.size #[.int .i64 0, .int .i64 0] 31 := by subst hw1; exact Lies.new w _ _
    obtain ⟨g, c, rfl, hgb, g0, g1, g2⟩ := h1.at 0 hlen
    have c1 := h1.cells.2.1
    have hne3 : w.heap.size ≠ g := by have := h.lt g (.inr rfl); omega
    have hne4 : g ≠ w.heap.size := Ne.symm hne3
    have hne5 : w.heap.size ≠ b := by have := h.lt b (.inl rfl); omega
    have hne6 : b ≠ w.heap.size := Ne.symm hne5
    have e1 : topV L = .agg #[.int .i64 (eA L 0).1.1, .int .i64 (eA L 0).1.2] := by unfold topV vTh; rw [if_neg hL]
    have e2 : (!L.isEmpty) = true := by cases L with | nil => exact absurd rfl hL | cons _ _ => rfl
    rw [e1, e2]
    have y0 : w1.cell? ⟨w.heap.size, 0, none⟩ = some (.int .i64 0) := hL1.cell 0
    have y1 : w1.cell? ⟨w.heap.size, 1, none⟩ = some (.int .i64 0) := hL1.cell 1
    have z0 := hL1.frozen 0
    have z1 := hL1.frozen 1
    have HFIN : Hid (Lies ((w1.setCell ⟨w.heap.size, 0, none⟩ (.int .i64 (eA L 0).1.1)).setCell ⟨w.heap.size, 1, none⟩ (.int .i64 (eA L 0).1.2)) w.heap.size #[.int .i64 (eA L 0).1.1, .int .i64 (eA L 0).1.2] 31 ∧ Below w.heap.size w ((w1.setCell ⟨w.heap.size, 0, none⟩ (.int .i64 (eA L 0).1.1)).setCell ⟨w.heap.size, 1, none⟩ (.int .i64 (eA L 0).1.2))) := ⟨(hL1.set 0 _).set 1 _, (hb1.setCell (p := ⟨w.heap.size, 0, none⟩) (Nat.le_refl _) _).setCell (p := ⟨w.heap.size, 1, none⟩) (Nat.le_refl _) _⟩
    have HW1 : Hid (w1 = w.alloc (.cells #[.int .i64 0, .int .i64 0] 31)) := hw1
    have hn0 : ((L.length : Int) == 0) = false := by simp; omega
    have hn1 : (0 : Int) < (L.length : Int) := by omega
    clear h h1 hw1 hb1 hL1 e1 e2 hL
    simp only [Nat.zero_mul, Nat.zero_add] at g0 g1 g2
    generalize eA L 0 = x at *
    generalize L.length = n at *
    go_enter Try.func29, Try.ntmps29
    go_wp2_with (go_at_call 31; rw [← HW1.out]; refine hln.mono ?_; clear hln HW1; rintro e w2 ⟨rfl, hw2⟩; subst hw2)
    exact ret_cell rfl w.heap.size 31 #[.int .i64 x.1.1, .int .i64 x.1.2] (0, 0) _ (.bool true) rfl rfl HFIN.out.1 Try.underlying31 rfl sizeT ⟨rfl, HFIN.out.2⟩
end Go.Proofs.Ytgbbjhhggjocmaa
