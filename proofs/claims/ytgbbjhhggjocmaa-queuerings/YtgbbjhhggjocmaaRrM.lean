/-
  The document's ring in memory.
-/
import Derived.Test.YtgbbjhhggjocmaaBx7
import Derived.Test.YtgbbjhhggjocmaaRuG
import Derived.Test.YtgbbjhhggjocmaaRdG
namespace Go.Proofs.Ytgbbjhhggjocmaa
open Go.RowKit

/-- A ring of the document's: its bound, its things, its row. -/
structure Gm (w : World) (b : Nat) (most : Nat) (L : List (Int × Int)) (v : Value) : Prop where
  lies : Lies w b #[.int .i64 (most : Int), v] 76
  own : Ow celG 31 2 w v L
  pos : 1 ≤ most
  lid : most ≤ 1048576
  len : L.length ≤ most
def Fr (p : Option Nat) (v : Value) (k : Nat) : Prop := p = some k ∨ v.ownBlock = some k
theorem Gm.ne {w : World} {b most : Nat} {L : List (Int × Int)} {v : Value} (h : Gm w b most L v) (g : Nat) (hg : v.ownBlock = some g) : g ≠ b := by
  obtain ⟨_, ⟨rfl, _⟩ | ⟨g', cap, cur, rfl, _, h4, _⟩⟩ := h.own
  · cases hg
  · obtain rfl : g' = g := Option.some.inj hg
    exact lies_ne (t := 31) (u := 76) h4 h.lies (by decide)
inductive Gr (w : World) : Option Nat → Nat → List (Int × Int) → Value → Prop
  | no : Gr w none 0 [] (.slice none 0 0)
  | made (b most : Nat) (L : List (Int × Int)) (v : Value) (h : Gm w b most L v) : Gr w (some b) most L v
theorem Gr.keep {w w' : World} {p : Option Nat} {most : Nat} {L : List (Int × Int)} {v : Value} (h : Gr w p most L v) (hk : ∀ k, Fr p v k → w'.heap[k]? = w.heap[k]?) : Gr w' p most L v := by
  cases h with
  | no => exact .no
  | made b most L v h => exact .made b most L v ⟨(hk b (.inl rfl)).trans h.lies, h.own.keep (fun g hg => hk g (.inr hg)), h.pos, h.lid, h.len⟩
theorem Gr.isCells {w : World} {p : Option Nat} {most : Nat} {L : List (Int × Int)} {v : Value} (h : Gr w p most L v) (k : Nat) (hk : Fr p v k) : ∃ o, w.heap[k]? = some o ∧ o.isCells = true := by
  cases h with
  | no => rcases hk with hk | hk <;> cases hk
  | made b most L v h =>
    rcases hk with hk | hk
    · cases hk; exact ⟨_, h.lies, rfl⟩
    · obtain ⟨_, ⟨rfl, _⟩ | ⟨g', cap, cur, rfl, _, h4, _⟩⟩ := h.own
      · cases hk
      · cases hk; exact ⟨_, h4, rfl⟩
theorem Gr.lt {w : World} {p : Option Nat} {most : Nat} {L : List (Int × Int)} {v : Value} (h : Gr w p most L v) (k : Nat) (hk : Fr p v k) : k < w.heap.size := by
  obtain ⟨o, ho, _⟩ := h.isCells k hk
  exact (Array.getElem?_eq_some_iff.1 ho).1
theorem Gr.chg {w w' : World} {p : Option Nat} {most : Nat} {L : List (Int × Int)} {v : Value} {F : Nat → Prop} (h : Gr w p most L v) (hc : Chg F w w') (hn : ∀ k, Fr p v k → ¬ F k) : Gr w' p most L v := h.keep (fun k hk => hc.block k (h.lt k hk) (hn k hk))
theorem Gr.below {w w' : World} {p : Option Nat} {most : Nat} {L : List (Int × Int)} {v : Value} (h : Gr w p most L v) (hb : Below w.heap.size w w') : Gr w' p most L v := h.keep (fun k hk => hb.block k (h.lt k hk))
theorem Gr.len {w : World} {p : Option Nat} {most : Nat} {L : List (Int × Int)} {v : Value} (h : Gr w p most L v) : L.length ≤ most ∧ most ≤ 1048576 := by
  cases h with
  | no => simp
  | made b most L v h => exact ⟨h.len, h.lid⟩
theorem rnew_bad (n : Int) (hn : n < 1 ∨ 1048576 < n) (w : World) : Calls Try.prog 11 #[.int .i64 n] w fun e w' => e = .returned (.tuple #[ptr none, .int .i64 2]) ∧ w' = w := by
  unfold ptr
  rcases hn with hn | hn
  · go_enter Try.func11, Try.ntmps11
    go_wp2
    go_ret2
    exact ⟨rfl, rfl⟩
  · have hn2 : ¬ n < 1 := by omega
    go_enter Try.func11, Try.ntmps11
    go_wp2
    go_ret2
    exact ⟨rfl, rfl⟩
theorem rnew_good (n : Nat) (hn : 1 ≤ n) (hn2 : n ≤ 1048576) (w : World) : Calls Try.prog 11 #[.int .i64 (n : Int)] w fun e w' => e = .returned (.tuple #[ptr (some w.heap.size), .int .i64 0]) ∧ Gr w' (some w.heap.size) n [] (.slice none 0 0) ∧ Below w.heap.size w w' := by
  unfold ptr
  have h1 : ¬ (n : Int) < 1 := by omega
  have h2 : ¬ (1048576 : Int) < (n : Int) := by omega
  go_enter Try.func11, Try.ntmps11
  go_wp2
  go_ret2
  exact ⟨rfl, .made w.heap.size n [] _ ⟨Lies.new w _ _, Ow.nil _ _ _ _, hn, hn2, Nat.zero_le _⟩, (Below.refl _ _).alloc (Nat.le_refl _) _⟩
theorem rlen_any (p : Option Nat) (most : Nat) (L : List (Int × Int)) (v : Value) (w : World) (h : Gr w p most L v) : Calls Try.prog 15 #[ptr p] w fun e w' => e = .returned (.int .i64 (L.length : Int)) ∧ w' = w := by
  cases h with
  | no =>
    unfold ptr
    go_enter Try.func15, Try.ntmps15
    go_wp2
    go_ret
    exact ⟨rfl, rfl⟩
  | made b most L v h =>
    have c1 : w.cell? ⟨b, 1, none⟩ = some v := h.lies.cell 1
    obtain ⟨a, c, rfl, _⟩ := h.own.shape
    clear h
    unfold ptr
    go_enter Try.func15, Try.ntmps15
    go_wp2
    go_ret
    exact ⟨rfl, rfl⟩
theorem rroom_any (p : Option Nat) (most : Nat) (L : List (Int × Int)) (v : Value) (w : World) (h : Gr w p most L v) : Calls Try.prog 17 #[ptr p] w fun e w' => e = .returned (.int .i64 ((most - L.length : Nat) : Int)) ∧ ∃ n, w' = w.drewN n := by
  cases h with
  | no =>
    unfold ptr
    go_enter Try.func17, Try.ntmps17
    go_wp2
    go_ret
    exact ⟨rfl, 0, rfl⟩
  | made b most L v h =>
    have c0 : w.cell? ⟨b, 0, none⟩ = some (.int .i64 (most : Int)) := h.lies.cell 0
    have c1 : w.cell? ⟨b, 1, none⟩ = some v := h.lies.cell 1
    have hlen := h.len
    have hl := h.lid
    obtain ⟨a, c, rfl, _⟩ := h.own.shape
    clear h
    unfold ptr
    go_enter Try.func17, Try.ntmps17
    go_wp2
    go_quiet (fail)
    go_wp2
    go_ret
    exact ⟨ret_i64 (by omega), _, rfl⟩
set_option maxRecDepth 20000 in
set_option maxHeartbeats 2000000 in
theorem rat_any (p : Option Nat) (most : Nat) (L : List (Int × Int)) (v : Value) (i : Int) (w : World) (h : Gr w p most L v) :
    Calls Try.prog 44 #[ptr p, .int .i64 i] w fun e w' => e = .returned (.tuple #[valG (atXG L i), .bool (atB L.length i)]) ∧ Below w.heap.size w w' := by
  have hszE : (Try.prog.info? 31).map (·.size) = some (#[Value.int .i64 0, .int .i64 0] : Array Value).size := sizeEG
  obtain ⟨w1, hw1⟩ : ∃ w1, w1 = w.alloc (.cells #[.int .i64 0, .int .i64 0] 31) := ⟨_, rfl⟩
  have hL1 : Lies w1 w.heap.size #[.int .i64 0, .int .i64 0] 31 := by rw [hw1]; exact Lies.new w _ _
  have hb1 : Below w.heap.size w w1 := by rw [hw1]; exact (Below.refl _ w).alloc (Nat.le_refl _) _
  have y0 : w1.cell? ⟨w.heap.size, 0, none⟩ = some (.int .i64 0) := hL1.cell 0
  have y1 : w1.cell? ⟨w.heap.size, 1, none⟩ = some (.int .i64 0) := hL1.cell 1
  have z0 := hL1.frozen 0
  have z1 := hL1.frozen 1
  have HW : Hid (w.alloc (.cells #[.int .i64 0, .int .i64 0] 31) = w1) := hw1.symm
  have HF : Hid (∀ x y : Int, Lies ((w1.setCell ⟨w.heap.size, 0, none⟩ (.int .i64 x)).setCell ⟨w.heap.size, 1, none⟩ (.int .i64 y)) w.heap.size #[.int .i64 x, .int .i64 y] 31 ∧ Below w.heap.size w ((w1.setCell ⟨w.heap.size, 0, none⟩ (.int .i64 x)).setCell ⟨w.heap.size, 1, none⟩ (.int .i64 y))) := fun x y => ⟨(hL1.set 0 _).set 1 _, (hb1.setCell (p := ⟨w.heap.size, 0, none⟩) (Nat.le_refl _) _).setCell (p := ⟨w.heap.size, 1, none⟩) (Nat.le_refl _) _⟩
  have HL1 : Hid (Lies w1 w.heap.size #[.int .i64 0, .int .i64 0] 31 ∧ Below w.heap.size w w1) := ⟨hL1, hb1⟩
  have H1 := h.below hb1
  have hlt := h.lt
  clear h hw1 hL1 hb1
  cases H1 with
  | no =>
    have e1 : atXG [] i = (0, 0) := atXG_out [] i (by simp)
    have e2 : atB ([] : List (Int × Int)).length i = false := decide_eq_false (by simp)
    rw [e1, e2]
    unfold valG ptr
    go_enter Try.func44, Try.ntmps44
    go_wp2
    rw [HW.out]
    exact ret_cell rfl w.heap.size 31 #[.int .i64 0, .int .i64 0] (0, 0) _ (.bool false) rfl rfl HL1.out.1 Try.underlying31 rfl hszE ⟨rfl, HL1.out.2⟩
  | made b most L v h =>
    have c1 : w1.cell? ⟨b, 1, none⟩ = some v := h.lies.cell 1
    have hbw : b ≠ w.heap.size := by have := hlt b (.inl rfl); omega
    have hbw2 : w.heap.size ≠ b := Ne.symm hbw
    have c1a : (w.alloc (.cells #[.int .i64 0, .int .i64 0] 31)).cell? ⟨b, 1, none⟩ = some v := by rw [HW.out]; exact c1
    by_cases h0 : i < 0
    · have e1 : atXG L i = (0, 0) := atXG_out L i (by omega)
      have e2 : atB L.length i = false := decide_eq_false (by omega)
      rw [e1, e2]
      clear h hlt e1 e2 c1 c1a
      unfold valG ptr
      go_enter Try.func44, Try.ntmps44
      go_wp2
      rw [HW.out]
      exact ret_cell rfl w.heap.size 31 #[.int .i64 0, .int .i64 0] (0, 0) _ (.bool false) rfl rfl HL1.out.1 Try.underlying31 rfl hszE ⟨rfl, HL1.out.2⟩
    · by_cases h1 : (L.length : Int) ≤ i
      · have e1 : atXG L i = (0, 0) := atXG_out L i (by omega)
        have e2 : atB L.length i = false := decide_eq_false (by omega)
        rw [e1, e2]
        obtain ⟨a, c, rfl, _⟩ := h.own.shape
        clear h hlt e1 e2
        unfold valG ptr
        go_enter Try.func44, Try.ntmps44
        go_wp2
        rw [HW.out]
        exact ret_cell rfl w.heap.size 31 #[.int .i64 0, .int .i64 0] (0, 0) _ (.bool false) rfl rfl HL1.out.1 Try.underlying31 rfl hszE ⟨rfl, HL1.out.2⟩
      · obtain ⟨j, rfl⟩ : ∃ j : Nat, i = (j : Int) := ⟨i.toNat, by omega⟩
        have hj : j < L.length := by omega
        obtain ⟨x, hx⟩ : ∃ x, x = L[j] := ⟨_, rfl⟩
        have e2 : atB L.length (j : Int) = true := decide_eq_true (by omega)
        have e1 : atXG L (j : Int) = x := by
          unfold atXG
          rw [if_pos (by omega), Int.toNat_natCast, List.getD_eq_getElem?_getD, List.getElem?_eq_getElem hj, Option.getD_some, hx]
        rw [e1, e2]
        obtain ⟨a, c, rfl, hs⟩ := h.own.shape
        obtain ⟨g, rfl⟩ := hs (fun e => by rw [e] at hj; cases hj)
        have hl := flat_length celG_length L
        have f0 := flat_at celG_length L j 0 hj (by decide)
        have f1 := flat_at celG_length L j 1 hj (by decide)
        rw [← hx] at f0 f1
        have g0 : w1.cell? ⟨g, j * 2, none⟩ = some (.int .i64 x.1) := by rw [h.own.cells _ (by omega), ← Nat.add_zero (j * 2), f0]; rfl
        have g1 : w1.cell? ⟨g, j * 2 + 1, none⟩ = some (.int .i64 x.2) := by rw [h.own.cells _ (by omega), f1]; rfl
        have hgw : g ≠ w.heap.size := by have := hlt g (.inr rfl); omega
        have hgw2 : w.heap.size ≠ g := Ne.symm hgw
        have g0a : (w.alloc (.cells #[.int .i64 0, .int .i64 0] 31)).cell? ⟨g, j * 2, none⟩ = some (.int .i64 x.1) := by rw [HW.out]; exact g0
        have g1a : (w.alloc (.cells #[.int .i64 0, .int .i64 0] 31)).cell? ⟨g, j * 2 + 1, none⟩ = some (.int .i64 x.2) := by rw [HW.out]; exact g1
        have hjl : (j : Int) < (L.length : Int) := by omega
        have HN : Hid (Lies (w.alloc (.cells #[.int .i64 x.1, .int .i64 x.2] 31)) w.heap.size #[.int .i64 x.1, .int .i64 x.2] 31 ∧ Below w.heap.size w (w.alloc (.cells #[.int .i64 x.1, .int .i64 x.2] 31))) := ⟨Lies.new w _ _, (Below.refl _ _).alloc (Nat.le_refl _) _⟩
        clear h hlt e1 e2 hs hl f0 f1 hx
        unfold valG ptr
        go_enter Try.func44, Try.ntmps44
        go_wp2
        exact ret_cell rfl w.heap.size 31 #[.int .i64 x.1, .int .i64 x.2] (0, 0) _ (.bool true) rfl rfl HN.out.1 Try.underlying31 rfl hszE ⟨rfl, HN.out.2⟩
end Go.Proofs.Ytgbbjhhggjocmaa
