/-
  The program's state of a checker: what one byte more makes of it.
-/
import Derived.Test.YthkoionigdnhgabGreatDoorBase
import Derived.Test.YthkoionigdnhgabGreatDoorDmP
namespace Go.Proofs.YthkoionigdnhgabGreatDoor
open Go.RowKit

/-- The table of first bytes. -/
def fsRows : List (List Int) := [[194, 223, 1, 128, 191], [224, 224, 2, 160, 191], [225, 236, 2, 128, 191], [237, 237, 2, 128, 159], [238, 239, 2, 128, 191], [240, 240, 3, 144, 191], [241, 243, 3, 128, 191], [244, 244, 3, 128, 143]]
def fsCells : Array Value := (fsRows.flatten.map fun x => Value.int .u8 x).toArray
/-- The table lies in its variable. -/
def Fst (w : World) : Prop := ∃ t fr, w.heap[6]? = some (.cells fsCells t fr)
theorem wpList_load_rowF {P : Program} {ops : Array Oper} {rest : List Oper} {op : Oper} {a : Act} {w : World} {Q : Exit → Act → World → Prop} (hgd : op.guard = none) (ty : TypeId) (x : Operand) (ho : op.op = .load ty x)
    (g : Nat) (hx : a.eval x = .pointer (some ⟨g, 0, none⟩)) (cs : Array Value) (t : TypeId) (fr : Nat × Nat) (d : TypeDesc) (hc : w.heap[g]? = some (.cells cs t fr))
    (hu : P.underlying ty = some d) (hd : (match d with | .struct _ | .array _ _ => true | _ => false) = true) (hi : (P.info? ty).map (·.size) = some cs.size)
    (h : wpList P ops Q rest (a.put op.dst (.agg cs)) w) : wpList P ops Q (op :: rest) a w :=
  wpList_plain hgd fun _ hK => by
    unfold Oper.wp execOp
    simp only [ho, hx, Instr.loadAt, Instr.sureAddr, Sem.run_bind, Sem.run_pure, Result.andThen_ok, run_loadVar_row w g t ty cs fr d hc hu hd hi]
    exact hK _ _ h
theorem fs_size : (Tryz.prog.info? 257).map (·.size) = some fsCells.size := by kernel_rfl

/-- A state as cells. -/
def stC (left low high : Int) (wrong : Bool) : List Value := [.int .u8 left, .int .u8 low, .int .u8 high, .bool wrong]
/-- A block holds a state behind what else lies in it. -/
def StAt (w : World) (g : Nat) (p : List Value) (t : TypeId) (left low high : Int) (wrong : Bool) : Prop := Lies w g (p ++ stC left low high wrong).toArray t
theorem StAt.cell {w : World} {g : Nat} {p : List Value} {t : TypeId} {left low high : Int} {wrong : Bool} (h : StAt w g p t left low high wrong) :
    w.cell? ⟨g, p.length, none⟩ = some (.int .u8 left) ∧ w.cell? ⟨g, p.length + 1, none⟩ = some (.int .u8 low) ∧ w.cell? ⟨g, p.length + 2, none⟩ = some (.int .u8 high) ∧ w.cell? ⟨g, p.length + 3, none⟩ = some (.bool wrong) := by
  refine ⟨?_, ?_, ?_, ?_⟩
  all_goals
    rw [Lies.cell h]
    simp [stC]
theorem StAt.set {w : World} {g : Nat} {p : List Value} {t : TypeId} {left low high : Int} {wrong : Bool} (h : StAt w g p t left low high wrong) :
    (∀ x, StAt (w.setCell ⟨g, p.length, none⟩ (.int .u8 x)) g p t x low high wrong) ∧ (∀ x, StAt (w.setCell ⟨g, p.length + 1, none⟩ (.int .u8 x)) g p t left x high wrong) ∧
    (∀ x, StAt (w.setCell ⟨g, p.length + 2, none⟩ (.int .u8 x)) g p t left low x wrong) ∧ (∀ x, StAt (w.setCell ⟨g, p.length + 3, none⟩ (.bool x)) g p t left low high x) := by
  refine ⟨fun x => ?_, fun x => ?_, fun x => ?_, fun x => ?_⟩
  all_goals
    have := Lies.set h
    unfold StAt
  · have h1 := this p.length (.int .u8 x)
    rwa [List.setIfInBounds_toArray, List.set_append_right _ _ (Nat.le_refl _), Nat.sub_self] at h1
  · have h1 := this (p.length + 1) (.int .u8 x)
    rwa [List.setIfInBounds_toArray, List.set_append_right _ _ (by omega), Nat.add_sub_cancel_left] at h1
  · have h1 := this (p.length + 2) (.int .u8 x)
    rwa [List.setIfInBounds_toArray, List.set_append_right _ _ (by omega), Nat.add_sub_cancel_left] at h1
  · have h1 := this (p.length + 3) (.bool x)
    rwa [List.setIfInBounds_toArray, List.set_append_right _ _ (by omega), Nat.add_sub_cancel_left] at h1

set_option maxHeartbeats 1000000 in
set_option maxRecDepth 100000 in
theorem begin_low (g : Nat) (p : List Value) (b : Int) (hb : b < 128) (w : World) :
    Calls Tryz.prog 187 #[.pointer (some ⟨g, p.length, none⟩), .int .u8 b] w fun e w' => e = .returned (.tuple #[]) ∧ w' = w := by
  go_enter Tryz.func187, Tryz.ntmps187
  go_wp2
  (try simp only [Exit.inBlock, Exit.then])
  refine bodyPost_ret (results_none rfl _ _ _) rfl ?_
  exact ⟨rfl, rfl⟩

theorem But.alloc' {g : Nat} {w w' : World} (h : But g w w') (o : Obj) : But g w (w'.alloc o) :=
  ⟨h.os, h.tape, h.output, by simp; exact Nat.le_succ_of_le h.size, fun k hk hne => (Below.heap_alloc _ _ _ (Nat.lt_of_lt_of_le hk h.size)).trans (h.block k hk hne)⟩
theorem But.drewK {g : Nat} {w w' : World} (h : But g w w') : But g w w'.drew := ⟨h.os, h.tape, h.output, h.size, h.block⟩
/-- The row k of the table. -/
def fsAt (k i : Nat) : Int := (fsRows.getD k []).getD i 0
set_option maxRecDepth 100000 in
theorem fs_index (w : World) (k : Nat) (hk : k < 8) : (Instr.index 257 (.agg fsCells) (.int .i64 k)).run Tryz.prog w = .ok (.agg #[.int .u8 (fsAt k 0), .int .u8 (fsAt k 1), .int .u8 (fsAt k 2), .int .u8 (fsAt k 3), .int .u8 (fsAt k 4)]) w := by
  match k, hk with
  | 0, _ => rfl
  | 1, _ => rfl
  | 2, _ => rfl
  | 3, _ => rfl
  | 4, _ => rfl
  | 5, _ => rfl
  | 6, _ => rfl
  | 7, _ => rfl

set_option maxHeartbeats 1000000 in
set_option maxRecDepth 100000 in
theorem begin_rows (g : Nat) (p : List Value) (t : TypeId) (left low high : Int) (wrong : Bool) (b : Int) (h0 : ¬ b < 128) (w : World) (hst : StAt w g p t left low high wrong) (hf : Fst w) :
    Calls Tryz.prog 187 #[.pointer (some ⟨g, p.length, none⟩), .int .u8 b] w fun e w' => e = .returned (.tuple #[]) ∧ But g w w' ∧
      ((∃ k, k < 8 ∧ fsAt k 0 ≤ b ∧ b ≤ fsAt k 1 ∧ StAt w' g p t (fsAt k 2) (fsAt k 3) (fsAt k 4) wrong) ∨ ((∀ k, k < 8 → ¬ (fsAt k 0 ≤ b ∧ b ≤ fsAt k 1)) ∧ StAt w' g p t left low high true)) := by
  have HS : Hid (StAt w g p t left low high wrong) := hst
  have HI : Hid (∀ (wx : World) (k : Nat), k < 8 → (Instr.index 257 (.agg fsCells) (.int .i64 k)).run Tryz.prog wx = .ok (.agg #[.int .u8 (fsAt k 0), .int .u8 (fsAt k 1), .int .u8 (fsAt k 2), .int .u8 (fsAt k 3), .int .u8 (fsAt k 4)]) wx) := fs_index
  obtain ⟨tf, ff, hf'⟩ := hf
  clear hst
  go_enter Tryz.func187, Tryz.ntmps187
  go_wp2_with (refine wpList_load_rowF rfl 257 _ rfl _ rfl fsCells tf ff _ hf' Tryz.underlying257 rfl fs_size ?_)
  generalize fsCells = FC at HI hf' ⊢
  go_loopw [9] (fun i wr => ∃ k : Nat, i = .int .i64 k ∧ k ≤ 8 ∧ Hid (∀ j, j < k → ¬ (fsAt j 0 ≤ b ∧ b ≤ fsAt j 1)) ∧ Hid (Below w.heap.size w wr)) (fun i _ => 8 - (intOf i).toNat)
  case atStart => exact ⟨0, rfl, by omega, fun j hj => by omega, Below.refl _ _⟩
  case round =>
    obtain ⟨k, rfl, hk, HJ, HB⟩ := hrel
    have HSr : Hid (StAt wr g p t left low high wrong) := HS.out.below HB.out HS.out.lt
    have hgr : g < wr.heap.size := HSr.out.lt
    by_cases hlt : k < 8
    · have hi := HI.out wr k hlt
      go_wp2_with fail
      · obtain ⟨c0, c1, c2, c3⟩ := HSr.out.cell
        have f0 := HSr.out.frozen p.length
        have f1 := HSr.out.frozen (p.length + 1)
        have f2 := HSr.out.frozen (p.length + 2)
        clear hi
        go_region
        go_wp2
        (try simp only [Exit.inBlock, Exit.then])
        refine bodyPost_ret (results_none rfl _ _ _) rfl ?_
        refine ⟨rfl, ?_, .inl ⟨k, hlt, by assumption, by assumption, ?_⟩⟩
        · exact ((((But.of_below HB.out).set _ _).set _ _).set _ _).alloc' _ |>.drewK
        · exact ((((HSr.out.set.1 _).set.2.1 _).set.2.2.1 _)).alloc _
      · have HN : Hid (∀ j, j < k + 1 → ¬ (fsAt j 0 ≤ b ∧ b ≤ fsAt j 1)) := fun j hj => by
          by_cases e : j = k
          · subst e; omega
          · exact HJ.out j (by omega)
        go_roundw
        case rel => exact ⟨k + 1, by go_num, by omega, HN, HB.out.alloc HB.out.size _⟩
        case measure => simp [intOf]; omega
      · have HN : Hid (∀ j, j < k + 1 → ¬ (fsAt j 0 ≤ b ∧ b ≤ fsAt j 1)) := fun j hj => by
          by_cases e : j = k
          · subst e; omega
          · exact HJ.out j (by omega)
        go_roundw
        case rel => exact ⟨k + 1, by go_num, by omega, HN, HB.out.alloc HB.out.size _⟩
        case measure => simp [intOf]; omega
    · obtain ⟨c0, c1, c2, c3⟩ := HSr.out.cell
      have f3 := HSr.out.frozen (p.length + 3)
      obtain rfl : k = 8 := by omega
      go_wp2
      go_end0
      refine ⟨rfl, (But.of_below HB.out).set _ _, .inr ⟨HJ.out, HSr.out.set.2.2.2 _⟩⟩

/-- What a first byte makes of a state. -/
theorem fs_beg (b : Nat) (hb : ¬ b < 128) : (∀ k, k < 8 → fsAt k 0 ≤ (b : Int) → (b : Int) ≤ fsAt k 1 → ∃ n lo hi : Nat, begQ b = some (n, lo, hi) ∧ n ≠ 0 ∧ fsAt k 2 = n ∧ fsAt k 3 = lo ∧ fsAt k 4 = hi) ∧ ((∀ k, k < 8 → ¬ (fsAt k 0 ≤ (b : Int) ∧ (b : Int) ≤ fsAt k 1)) → begQ b = none) := by
  have e0 : fsAt 0 0 = 194 ∧ fsAt 0 1 = 223 ∧ fsAt 0 2 = 1 ∧ fsAt 0 3 = 128 ∧ fsAt 0 4 = 191 := by decide
  have e1 : fsAt 1 0 = 224 ∧ fsAt 1 1 = 224 ∧ fsAt 1 2 = 2 ∧ fsAt 1 3 = 160 ∧ fsAt 1 4 = 191 := by decide
  have e2 : fsAt 2 0 = 225 ∧ fsAt 2 1 = 236 ∧ fsAt 2 2 = 2 ∧ fsAt 2 3 = 128 ∧ fsAt 2 4 = 191 := by decide
  have e3 : fsAt 3 0 = 237 ∧ fsAt 3 1 = 237 ∧ fsAt 3 2 = 2 ∧ fsAt 3 3 = 128 ∧ fsAt 3 4 = 159 := by decide
  have e4 : fsAt 4 0 = 238 ∧ fsAt 4 1 = 239 ∧ fsAt 4 2 = 2 ∧ fsAt 4 3 = 128 ∧ fsAt 4 4 = 191 := by decide
  have e5 : fsAt 5 0 = 240 ∧ fsAt 5 1 = 240 ∧ fsAt 5 2 = 3 ∧ fsAt 5 3 = 144 ∧ fsAt 5 4 = 191 := by decide
  have e6 : fsAt 6 0 = 241 ∧ fsAt 6 1 = 243 ∧ fsAt 6 2 = 3 ∧ fsAt 6 3 = 128 ∧ fsAt 6 4 = 191 := by decide
  have e7 : fsAt 7 0 = 244 ∧ fsAt 7 1 = 244 ∧ fsAt 7 2 = 3 ∧ fsAt 7 3 = 128 ∧ fsAt 7 4 = 143 := by decide
  unfold begQ
  rw [if_neg hb]
  refine ⟨fun k hk h0 h1 => ?_, fun h => ?_⟩
  · match k, hk with
    | 0, _ => exact ⟨1, 128, 191, by rw [if_pos (by omega)], by omega, by omega, by omega, by omega⟩
    | 1, _ => exact ⟨2, 160, 191, by rw [if_neg (by omega), if_pos (by omega)], by omega, by omega, by omega, by omega⟩
    | 2, _ => exact ⟨2, 128, 191, by rw [if_neg (by omega), if_neg (by omega), if_pos (by omega)], by omega, by omega, by omega, by omega⟩
    | 3, _ => exact ⟨2, 128, 159, by rw [if_neg (by omega), if_neg (by omega), if_neg (by omega), if_pos (by omega)], by omega, by omega, by omega, by omega⟩
    | 4, _ => exact ⟨2, 128, 191, by rw [if_neg (by omega), if_neg (by omega), if_neg (by omega), if_neg (by omega), if_pos (by omega)], by omega, by omega, by omega, by omega⟩
    | 5, _ => exact ⟨3, 144, 191, by rw [if_neg (by omega), if_neg (by omega), if_neg (by omega), if_neg (by omega), if_neg (by omega), if_pos (by omega)], by omega, by omega, by omega, by omega⟩
    | 6, _ => exact ⟨3, 128, 191, by rw [if_neg (by omega), if_neg (by omega), if_neg (by omega), if_neg (by omega), if_neg (by omega), if_neg (by omega), if_pos (by omega)], by omega, by omega, by omega, by omega⟩
    | 7, _ => exact ⟨3, 128, 143, by rw [if_neg (by omega), if_neg (by omega), if_neg (by omega), if_neg (by omega), if_neg (by omega), if_neg (by omega), if_neg (by omega), if_pos (by omega)], by omega, by omega, by omega, by omega⟩
  · have h0 := h 0 (by omega)
    have h1 := h 1 (by omega)
    have h2 := h 2 (by omega)
    have h3 := h 3 (by omega)
    have h4 := h 4 (by omega)
    have h5 := h 5 (by omega)
    have h6 := h 6 (by omega)
    have h7 := h 7 (by omega)
    rw [if_neg (by omega), if_neg (by omega), if_neg (by omega), if_neg (by omega), if_neg (by omega), if_neg (by omega), if_neg (by omega), if_neg (by omega)]

/-- What a state counts for those that come. -/
def Sq (q : Q) (left low high : Int) : Prop := left = (q.1 : Int) ∧ (q.1 ≠ 0 → low = (q.2.1 : Int) ∧ high = (q.2.2 : Int))
def MSq (m : Option Q) (left low high : Int) (wrong : Bool) : Prop := match m with
  | none => wrong = true
  | some q => wrong = false ∧ Sq q left low high
/-- A state that is a machine's: none, where it is wrong. -/
def MSt (w : World) (g : Nat) (p : List Value) (t : TypeId) (m : Option Q) : Prop :=
  ∃ left low high wrong, StAt w g p t left low high wrong ∧ (0 ≤ left ∧ left < 256) ∧ MSq m left low high wrong
def stepM (m : Option Q) (b : Nat) : Option Q := m.bind fun q => stepQ q b

set_option maxHeartbeats 1000000 in
set_option maxRecDepth 100000 in
/-- One byte more. -/
theorem take_any (g : Nat) (p : List Value) (t : TypeId) (m : Option Q) (b : UInt8) (w : World) (hst : MSt w g p t m) (hf : Fst w) :
    Calls Tryz.prog 155 #[.pointer (some ⟨g, p.length, none⟩), .int .u8 (b.toNat : Int)] w fun e w' => e = .returned (.tuple #[]) ∧ But g w w' ∧ MSt w' g p t (stepM m b.toNat) := by
  obtain ⟨left, low, high, wrong, hs, ⟨hl0, hl1⟩, hm⟩ := hst
  obtain ⟨c0, c1, c2, c3⟩ := hs.cell
  have f0 := Lies.frozen hs p.length
  have f1 := Lies.frozen hs (p.length + 1)
  have f2 := Lies.frozen hs (p.length + 2)
  have f3 := Lies.frozen hs (p.length + 3)
  have HS : Hid (StAt w g p t left low high wrong) := hs
  have HM : Hid (MSq m left low high wrong) := hm
  clear hs hm
  by_cases h0 : left = 0
  · have q0 : (left == 0) = true := by simp [h0]
    by_cases hb : (b.toNat : Int) < 128
    · have HC := begin_low g p (b.toNat : Int) hb
      go_enter Tryz.func155, Tryz.ntmps155
      go_wp2_with (go_at_call 187; refine (HC _).mono ?_; rintro e w1 ⟨rfl, rfl⟩)
      go_end0
      refine ⟨rfl, But.refl _ _, left, low, high, wrong, HS.out, ⟨hl0, hl1⟩, ?_⟩
      have := HM.out
      cases m with
      | none => exact this
      | some q =>
        obtain ⟨h1, h2, h3⟩ := this
        have : q.1 = 0 := by omega
        simp only [stepM, Option.bind_some, stepQ, if_pos this, begQ_one (show b.toNat < 128 by omega)]
        exact ⟨h1, by simp [h0], fun h => absurd rfl h⟩
    · have HC := begin_rows g p t left low high wrong (b.toNat : Int) hb
      go_enter Tryz.func155, Tryz.ntmps155
      go_wp2_with (go_at_call 187; refine (HC _ HS.out hf).mono ?_; rintro e w1 ⟨rfl, b1, r1⟩)
      go_end0
      refine ⟨rfl, b1, ?_⟩
      obtain ⟨F1, F2⟩ := fs_beg b.toNat (by omega)
      rcases r1 with ⟨k, k1, k2, k3, k4⟩ | ⟨k1, k2⟩
      · obtain ⟨n, lo, hi, e1, e2, e3, e4, e5⟩ := F1 k k1 k2 k3
        have hn : n < 256 := by
          rcases begQ_cases b.toNat with h | h | h | h | h
          · omega
          · rw [h.2.2] at e1; cases e1; omega
          · obtain ⟨_, _, l, h', h, _⟩ := h; rw [h] at e1; cases e1; omega
          · obtain ⟨_, _, l, h', h, _⟩ := h; rw [h] at e1; cases e1; omega
          · rw [h.2] at e1; cases e1
        refine ⟨_, _, _, wrong, k4, by omega, ?_⟩
        have := HM.out
        cases m with
        | none => exact this
        | some q =>
          obtain ⟨h1, h2, h3⟩ := this
          have : q.1 = 0 := by omega
          simp only [stepM, Option.bind_some, stepQ, if_pos this, e1]
          exact ⟨h1, e3, fun _ => ⟨e4, e5⟩⟩
      · refine ⟨_, _, _, true, k2, ⟨hl0, hl1⟩, ?_⟩
        have := HM.out
        cases m with
        | none => rfl
        | some q =>
          obtain ⟨h1, h2, h3⟩ := this
          have : q.1 = 0 := by omega
          simp only [stepM, Option.bind_some, stepQ, if_pos this, F2 k1]
          exact rfl
  · have q0 : (left == 0) = false := by simp [h0]
    by_cases hb : (b.toNat : Int) < low
    · go_enter Tryz.func155, Tryz.ntmps155
      go_wp2
      go_end0
      refine ⟨rfl, (But.refl _ _).set _ _, _, _, _, true, HS.out.set.2.2.2 _, ⟨hl0, hl1⟩, ?_⟩
      have := HM.out
      cases m with
      | none => rfl
      | some q =>
        obtain ⟨n, lo, hi⟩ := q
        obtain ⟨h1, h2, h3⟩ := this
        simp only at h2 h3
        have hq : n ≠ 0 := by omega
        have := h3 hq
        have e : stepQ (n, lo, hi) b.toNat = none := stepQ_low hq (.inl (by omega))
        simp only [stepM, Option.bind_some, e]
        exact rfl
    by_cases hb2 : high < (b.toNat : Int)
    · go_enter Tryz.func155, Tryz.ntmps155
      go_wp2
      go_end0
      refine ⟨rfl, (But.refl _ _).set _ _, _, _, _, true, HS.out.set.2.2.2 _, ⟨hl0, hl1⟩, ?_⟩
      have := HM.out
      cases m with
      | none => rfl
      | some q =>
        obtain ⟨n, lo, hi⟩ := q
        obtain ⟨h1, h2, h3⟩ := this
        simp only at h2 h3
        have hq : n ≠ 0 := by omega
        have := h3 hq
        have e : stepQ (n, lo, hi) b.toNat = none := stepQ_low hq (.inr (by omega))
        simp only [stepM, Option.bind_some, e]
        exact rfl
    · have hw : IntKind.u8.wrap (left - 1) = left - 1 := by
        rw [IntKind.wrap_u8]
        omega
      go_enter Tryz.func155, Tryz.ntmps155
      go_wp2
      go_end0
      refine ⟨rfl, (((But.refl _ _).set _ _).set _ _).set _ _, left - 1, 128, 191, wrong, ((HS.out.set.1 _).set.2.1 _).set.2.2.1 _, by omega, ?_⟩
      have := HM.out
      cases m with
      | none => exact this
      | some q =>
        obtain ⟨n, lo, hi⟩ := q
        obtain ⟨h1, h2, h3⟩ := this
        simp only at h2 h3
        have hq : n ≠ 0 := by omega
        have := h3 hq
        by_cases h4 : n = 1
        · subst h4
          simp only [stepM, Option.bind_some]
          rw [stepQ_last (by omega) (by omega)]
          exact ⟨h1, by show left - 1 = 0; omega, fun h => absurd rfl h⟩
        · simp only [stepM, Option.bind_some]
          rw [stepQ_more (by omega) (by omega) (by omega)]
          exact ⟨h1, by show left - 1 = ((n - 1 : Nat) : Int); omega, fun _ => ⟨rfl, rfl⟩⟩
end Go.Proofs.YthkoionigdnhgabGreatDoor
