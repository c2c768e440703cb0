/-
  A liner in memory: New, there, Held, drop, keep, end.
-/
import Derived.Test.YthnjbnhmdjpfpaaLnP
import Derived.Test.YthnjbnhmdjpfpaaCm15
namespace Go.Proofs.Ythnjbnhmdjpfpaa
open Go.RowKit

/-- A liner's cells. -/
def lnC (m : Nat) (v : Value) (h : Bool) (y : Int) : List Value := [.int .i64 (m : Int), v, .bool h, .int .i64 y]
/-- A liner with this text, this half and this fault; its blocks are F. -/
structure LnC (w : World) (F : Nat → Prop) (b m : Nat) (t : List UInt8) (h : Bool) (y : Int) : Prop where
  ex : ∃ v, Lies w b (lnC m v h y).toArray 93 ∧ w.ownsRow 0 5 1 v t.length (cellsB t) ∧ (∀ k, v.ownBlock = some k → F k)
  fb : F b
  lo : 1 ≤ m
  hi : m ≤ 16777216
  le : t.length ≤ m
theorem LnC.lt {w : World} {F : Nat → Prop} {b m : Nat} {t : List UInt8} {h : Bool} {y : Int} (x : LnC w F b m t h y) : b < w.heap.size := by
  obtain ⟨v, h1, _⟩ := x.ex
  exact h1.lt
theorem LnC.mono {w : World} {F G : Nat → Prop} {b m : Nat} {t : List UInt8} {h : Bool} {y : Int} (x : LnC w F b m t h y) (hg : ∀ k, F k → k < w.heap.size → G k) : LnC w G b m t h y := by
  obtain ⟨v, h1, h2, h3⟩ := x.ex
  exact ⟨⟨v, h1, h2, fun k e => hg k (h3 k e) (h2.lt k e).2⟩, hg b x.fb h1.lt, x.lo, x.hi, x.le⟩
theorem LnC.keep {w w' : World} {F : Nat → Prop} {b m : Nat} {t : List UInt8} {h : Bool} {y : Int} (x : LnC w F b m t h y) (hk : ∀ k, F k → k < w.heap.size → w'.heap[k]? = w.heap[k]?) : LnC w' F b m t h y := by
  obtain ⟨v, h1, h2, h3⟩ := x.ex
  exact ⟨⟨v, (hk b x.fb h1.lt).trans h1, own_keep h2 (fun k e => hk k (h3 k e) (h2.lt k e).2), h3⟩, x.fb, x.lo, x.hi, x.le⟩
theorem LnC.below {w w' : World} {F : Nat → Prop} {b m : Nat} {t : List UInt8} {h : Bool} {y : Int} (x : LnC w F b m t h y) (hb : Below w.heap.size w w') : LnC w' F b m t h y := x.keep (fun k _ hl => hb.block k hl)
theorem LnC.chg {w w' : World} {F G : Nat → Prop} {b m : Nat} {t : List UInt8} {h : Bool} {y : Int} (x : LnC w F b m t h y) (hc : Chg G w w') (hn : ∀ k, F k → ¬ G k) : LnC w' F b m t h y := x.keep (fun k hf hl => hc.block k hl (hn k hf))
/-- A liner that has taken s since the last line's end. -/
def Ln (w : World) (F : Nat → Prop) (b m : Nat) (s : List UInt8) : Prop := LnC w F b m (txt m (bdy s)) (hfB s) (whyI m (bdy s))

theorem lnC_cells {w : World} {b m : Nat} {v : Value} {h : Bool} {y : Int} (hl : Lies w b (lnC m v h y).toArray 93) : w.cell? ⟨b, 0, none⟩ = some (.int .i64 (m : Int)) ∧ w.cell? ⟨b, 1, none⟩ = some v ∧ w.cell? ⟨b, 2, none⟩ = some (.bool h) ∧ w.cell? ⟨b, 3, none⟩ = some (.int .i64 y) := ⟨hl.cell 0, hl.cell 1, hl.cell 2, hl.cell 3⟩
theorem lnC_frozen {w : World} {b m : Nat} {v : Value} {h : Bool} {y : Int} (hl : Lies w b (lnC m v h y).toArray 93) : w.frozen? ⟨b, 1, none⟩ = false ∧ w.frozen? ⟨b, 2, none⟩ = false ∧ w.frozen? ⟨b, 3, none⟩ = false := ⟨hl.frozen 1, hl.frozen 2, hl.frozen 3⟩
/-- A row of nothing, in the room of another. -/
theorem own_cut {w : World} {v : Value} {n : Nat} {xs : List Value} (h : w.ownsRow 0 5 1 v n xs) : ∃ a cap, v = .slice a n cap ∧ n ≤ cap ∧ cap ≤ 9223372036854775807 ∧ (a = none → cap = 0) ∧ w.ownsRow 0 5 1 (.slice a 0 cap) 0 [] ∧ (Value.slice a 0 cap).ownBlock = v.ownBlock := by
  obtain ⟨_, ⟨rfl, h0⟩ | ⟨g, cap, cur, rfl, hg, hh, h3, h4, h5, h6⟩⟩ := h
  · exact ⟨none, 0, by rw [h0], by omega, by omega, fun _ => rfl, ⟨rfl, .inl ⟨rfl, rfl⟩⟩, rfl⟩
  · refine ⟨_, cap, rfl, h3, ?_, (fun e => by cases e), ⟨rfl, .inr ⟨g, cap, cur, rfl, hg, hh, Nat.zero_le _, h4, h5, by simp⟩⟩, rfl⟩
    unfold maxLen at h4
    omega

set_option maxHeartbeats 400000 in
theorem zthere_any (b : Nat) (w : World) (m : Nat) (h0 : 1 ≤ m) (h : w.cell? ⟨b, 0, none⟩ = some (.int .i64 (m : Int))) : Calls Try.prog 57 #[.pointer (some ⟨b, 0, none⟩)] w fun e w' => e = .returned (.bool true) ∧ w' = w := by
  have h1 : decide (0 < m) = true := by simp; omega
  clear h0
  go_enter Try.func57, Try.ntmps57
  go_wp2
  go_ret
  exact ⟨rfl, rfl⟩
set_option maxHeartbeats 400000 in
theorem zthere_nil (w : World) : Calls Try.prog 57 #[.pointer none] w fun e w' => e = .returned (.bool false) ∧ w' = w := by
  go_enter Try.func57, Try.ntmps57
  go_wp2
  go_ret
  exact ⟨rfl, rfl⟩
set_option maxHeartbeats 400000 in
theorem zthere_zero (b : Nat) (w : World) (h : w.cell? ⟨b, 0, none⟩ = some (.int .i64 0)) : Calls Try.prog 57 #[.pointer (some ⟨b, 0, none⟩)] w fun e w' => e = .returned (.bool false) ∧ w' = w := by
  go_enter Try.func57, Try.ntmps57
  go_wp2
  go_ret
  exact ⟨rfl, rfl⟩
set_option maxHeartbeats 400000 in
theorem znew_good (m : Nat) (h1 : 1 ≤ m) (h2 : m ≤ 16777216) (w : World) : Calls Try.prog 29 #[.int .i64 (m : Int)] w fun e w' => e = .returned (.tuple #[.pointer (some ⟨w.heap.size, 0, none⟩), .int .i64 0]) ∧ Ln w' (fun k => w.heap.size ≤ k) w.heap.size m [] ∧ Below w.heap.size w w' := by
  have HH : Hid (1 ≤ m ∧ m ≤ 16777216) := ⟨h1, h2⟩
  have k1 : ¬ (m : Int) < 1 := by omega
  have k2 : ¬ (16777216 : Int) < (m : Int) := by omega
  clear h1 h2
  go_enter Try.func29, Try.ntmps29
  go_wp2
  go_ret2
  exact ⟨rfl, ⟨⟨.slice none 0 0, Lies.new w _ _, ⟨rfl, .inl ⟨rfl, rfl⟩⟩, fun k e => by cases e⟩, Nat.le_refl _, HH.out.1, HH.out.2, Nat.zero_le _⟩, (Below.refl _ _).alloc (Nat.le_refl _) _⟩
set_option maxHeartbeats 400000 in
theorem znew_bad (m : Int) (h : m < 1 ∨ 16777216 < m) (w : World) : Calls Try.prog 29 #[.int .i64 m] w fun e w' => e = .returned (.tuple #[.pointer none, .int .i64 2]) ∧ w' = w := by
  by_cases h1 : m < 1
  · clear h
    go_enter Try.func29, Try.ntmps29
    go_wp2
    go_ret2
    exact ⟨rfl, rfl⟩
  · have h2 : 16777216 < m := h.resolve_left h1
    clear h
    go_enter Try.func29, Try.ntmps29
    go_wp2
    go_ret2
    exact ⟨rfl, rfl⟩
set_option maxHeartbeats 400000 in
theorem zheld_nil (w : World) : Calls Try.prog 50 #[.pointer none] w fun e w' => e = .returned (.int .i64 0) ∧ w' = w := by
  have HT := zthere_nil w
  go_enter Try.func50, Try.ntmps50
  go_wp2_with (go_at_call 57; refine HT.mono ?_; rintro e w2 ⟨rfl, rfl⟩)
  go_ret
  exact ⟨rfl, rfl⟩
set_option maxHeartbeats 400000 in
theorem zheld_zero (b : Nat) (w : World) (h : w.cell? ⟨b, 0, none⟩ = some (.int .i64 0)) : Calls Try.prog 50 #[.pointer (some ⟨b, 0, none⟩)] w fun e w' => e = .returned (.int .i64 0) ∧ w' = w := by
  have HT := zthere_zero b w h
  clear h
  go_enter Try.func50, Try.ntmps50
  go_wp2_with (go_at_call 57; refine HT.mono ?_; rintro e w2 ⟨rfl, rfl⟩)
  go_ret
  exact ⟨rfl, rfl⟩
set_option maxHeartbeats 400000 in
theorem zheld_any (F : Nat → Prop) (b m : Nat) (t : List UInt8) (h : Bool) (y : Int) (w : World) (x : LnC w F b m t h y) : Calls Try.prog 50 #[.pointer (some ⟨b, 0, none⟩)] w fun e w' => e = .returned (.int .i64 (t.length + (if h then 1 else 0) : Nat)) ∧ w' = w := by
  obtain ⟨v, h1, h2, _⟩ := x.ex
  obtain ⟨a, cap, rfl, _⟩ := own_bts h2
  obtain ⟨c0, c1, c2, -⟩ := lnC_cells h1
  have HT := zthere_any b w m x.lo c0
  have hle : t.length ≤ 16777216 := Nat.le_trans x.le x.hi
  clear x h1 c0 h2
  generalize t.length = n at *
  cases h with
  | true =>
    go_enter Try.func50, Try.ntmps50
    go_wp2_with (go_at_call 57; refine HT.mono ?_; rintro e w2 ⟨rfl, rfl⟩)
    go_ret
    exact ⟨by simp, rfl⟩
  | false =>
    go_enter Try.func50, Try.ntmps50
    go_wp2_with (go_at_call 57; refine HT.mono ?_; rintro e w2 ⟨rfl, rfl⟩)
    go_ret
    exact ⟨by simp, rfl⟩
/-- The same block with other cells. -/
theorem lnC_set {w : World} {F : Nat → Prop} {b m : Nat} {v' : Value} {h' : Bool} {y' : Int} {t : List UInt8} (w' : World) (hl' : w'.heap[b]? = some (.cells (lnC m v' h' y').toArray 93 (0, 0))) (hb : But b w w') (ho : w.ownsRow 0 5 1 v' t.length (cellsB t)) (hF : ∀ k, v'.ownBlock = some k → F k ∧ k ≠ b) (fb : F b) (lo : 1 ≤ m) (hi : m ≤ 16777216) (le : t.length ≤ m) : LnC w' F b m t h' y' :=
  ⟨⟨v', hl', own_keep ho (fun k e => hb.block k (ho.lt k e).2 (hF k e).2), fun k e => (hF k e).1⟩, fb, lo, hi, le⟩
set_option maxHeartbeats 400000 in
theorem zdrop_any (F : Nat → Prop) (b m : Nat) (t : List UInt8) (h : Bool) (y y2 : Int) (w : World) (x : LnC w F b m t h y) : Calls Try.prog 59 #[.pointer (some ⟨b, 0, none⟩), .int .i64 y2] w fun e w' => e = .returned (.tuple #[]) ∧ LnC w' F b m [] h y2 ∧ But b w w' := by
  obtain ⟨v, h1, h2, h3⟩ := x.ex
  obtain ⟨a, cap, rfl, hc1, hc2, hc3, hc4, hc5⟩ := own_cut h2
  obtain ⟨c0, c1, c2, c3⟩ := lnC_cells h1
  obtain ⟨f1, f2, f3⟩ := lnC_frozen h1
  have hap := own_apart h2 h1 (by decide)
  have HL : Hid (Lies w b (lnC m (.slice a t.length cap) h y).toArray 93) := h1
  have HO : Hid (w.ownsRow 0 5 1 (.slice a 0 cap) 0 []) := hc4
  have HX : Hid (LnC w F b m t h y) := x
  have HF : Hid (∀ k, (Value.slice a 0 cap).ownBlock = some k → F k ∧ k ≠ b) := fun k e => ⟨h3 k (by rw [← hc5]; exact e), hap k (by rw [← hc5]; exact e)⟩
  clear x h1 h2 h3 hc4 hc5 hap
  generalize t.length = n at *
  go_enter Try.func59, Try.ntmps59
  go_wp2
  go_end0
  have hB : But b w ((w.setCell ⟨b, 1, none⟩ (.slice a 0 cap)).setCell ⟨b, 3, none⟩ (.int .i64 y2)) := ((But.refl _ _).set _ _).set _ _
  exact ⟨rfl, lnC_set _ ((HL.out.set 1 _).set 3 _) hB HO.out HF.out HX.out.fb HX.out.lo HX.out.hi (Nat.zero_le _), hB⟩
theorem LnC.wide {w : World} {F : Nat → Prop} {b m B : Nat} {t : List UInt8} {h : Bool} {y : Int} (x : LnC w F b m t h y) : LnC w (fun k => F k ∨ B ≤ k) b m t h y := x.mono (fun _ h _ => .inl h)
set_option maxHeartbeats 1000000 in
set_option maxRecDepth 20000 in
theorem zkeep_any (F : Nat → Prop) (b m : Nat) (t : List UInt8) (h : Bool) (y : Int) (c : UInt8) (w : World) (x : LnC w F b m t h y) : Calls Try.prog 60 #[.pointer (some ⟨b, 0, none⟩), .int .u8 (c.toNat : Int)] w fun e w' => e = .returned (.tuple #[]) ∧ LnC w' (fun k => F k ∨ w.heap.size ≤ k) b m (kpT m t y c) h (kpY m t y) ∧ Chg F w w' := by
  have HD := zdrop_any F b m t h y 131 w.drew (x.keep (fun _ _ _ => rfl))
  obtain ⟨i0, hi0, hz0, hz1, hz2⟩ := info_parts info5
  obtain ⟨v, h1, h2, h3⟩ := x.ex
  obtain ⟨a, cap, rfl, -⟩ := own_bts h2
  obtain ⟨c0, c1, c2, c3⟩ := lnC_cells h1
  obtain ⟨f1, f2, f3⟩ := lnC_frozen h1
  have hap := own_apart h2 h1 (by decide)
  have HL : Hid (Lies w b (lnC m (.slice a t.length cap) h y).toArray 93) := h1
  have HO : Hid (w.ownsRow 0 5 1 (.slice a t.length cap) t.length (cellsB t)) := h2
  have HX : Hid (LnC w F b m t h y) := x
  have HF : Hid (∀ k, (Value.slice a t.length cap).ownBlock = some k → F k ∧ k ≠ b) := fun k e => ⟨h3 k e, hap k e⟩
  have hle := x.le
  have hhi := x.hi
  clear x h1 h2 h3 hap
  unfold kpT kpY
  by_cases hy : y = 0
  · rw [if_pos hy, if_pos hy]
    subst hy
    by_cases hl : t.length = m
    · rw [if_pos hl, if_pos hl]
      have hq : ((t.length : Int) == (m : Int)) = true := by simp [hl]
      clear hle
      generalize t.length = n at *
      go_enter Try.func60, Try.ntmps60
      go_wp2_with fail
      go_region
      go_wp2_with fail
      refine HD.mono ?_
      rintro e w2 ⟨rfl, hR, hB⟩
      have HR : Hid (LnC w2 F b m [] h 131) := hR
      have HC : Hid (Chg F w w2) := by
        have := hB.chg (F := F) hR.fb
        exact ⟨this.os, this.tape, this.output, this.size, this.block⟩
      clear hR hB HD
      go_wp2
      go_end0
      exact ⟨rfl, HR.out.wide, HC.out⟩
    · rw [if_neg hl, if_neg hl]
      have hq : ((t.length : Int) == (m : Int)) = false := by simp; omega
      have HFB : Hid (∀ j u, [Value.int .u8 (c.toNat : Int)][j]? = some u → (w.drew.alloc (.cells #[.int .u8 (c.toNat : Int)] 5)).cell? ((⟨w.heap.size, 0, none⟩ : Addr).add j) = some u) := one_new (w := w.drew) _
      have HLE : Hid (t.length < m) := Nat.lt_of_le_of_ne hle hl
      clear HD
      go_enter Try.func60, Try.ntmps60
      go_wp2_with fail
      go_region
      go_wp2_with (refine wpList_append_lies _ rfl _ _ 42 rfl 0 5 i0 (.int .u8 0) 1 1 Try.underlying42 hi0 hz0 hz1 hz2 rfl (by decide) (.slice a t.length cap) t.length (cellsB t) rfl (own_below HO.out (((Below.refl _ _).drew).alloc (Nat.le_refl _) _)) ⟨w.heap.size, 0, none⟩ 1 1 [.int .u8 (c.toNat : Int)] rfl rfl HFB.out one_one (by decide) (by unfold maxLen; omega) (by omega) (Nat.zero_le _) (w.heap.size + 1) (by simp) ?_; intro g6 cap6 w6 HO6 HG6 HW6 HS6; apply Hid.out)
      unfold Hid
      have HC6 : Hid (Chg (fun k => (Value.slice a t.length cap).ownBlock = some k) w w6) := ((Chg.refl _ w).drew.alloc _).grown HG6 (fun k e => .inl e)
      have hbn : ¬ (Value.slice a t.length cap).ownBlock = some b := fun e => (HF.out b e).2 rfl
      have HL6 : Hid (Lies w6 b (lnC m (.slice a t.length cap) h 0).toArray 93) := HC6.out.lies HL.out hbn
      obtain ⟨d0, d1, d2, d3⟩ := lnC_cells HL6.out
      obtain ⟨k1, k2, k3⟩ := lnC_frozen HL6.out
      have HGB : Hid ((F g6 ∨ w.heap.size ≤ g6) ∧ g6 ≠ b) := by
        rcases HW6 with e | e
        · exact ⟨.inl (HF.out _ e).1, (HF.out _ e).2⟩
        · have := HL.out.lt
          exact ⟨.inr (by omega), by omega⟩
      have HO7 : Hid (w6.ownsRow 0 5 1 (.slice (some ⟨g6, 0, none⟩) (t.length + 1) cap6) (t.length + 1) (cellsB t ++ [.int .u8 (c.toNat : Int)])) := HO6
      clear HO6 HG6 HW6 hbn
      go_wp2
      go_end0
      have hB : But b w6 (w6.setCell ⟨b, 1, none⟩ (.slice (some ⟨g6, 0, none⟩) (t.length + 1) cap6)) := (But.refl _ _).set _ _
      refine ⟨rfl, lnC_set _ (HL6.out.set 1 _) hB ?_ (fun k e => by cases e; exact HGB.out) (.inl HX.out.fb) HX.out.lo HX.out.hi (by simp; exact HLE.out), ((HC6.out.mono (fun k e => (HF.out k e).1)).trans (hB.chg HX.out.fb))⟩
      rw [cellsB_append, List.length_append]
      exact HO7.out
  · rw [if_neg hy, if_neg hy]
    have hq : (y == 0) = false := by simpa using hy
    clear HD
    go_enter Try.func60, Try.ntmps60
    go_wp2
    go_end0
    exact ⟨rfl, HX.out.wide, Chg.refl _ _⟩
/-- An item. -/
def itV : It → Value
  | .no => .agg #[.int .i64 0, .string ⟨#[]⟩, .slice none 0 0, .int .i64 0, .bool false]
  | .line l => .agg #[.int .i64 1, .string ⟨l.toArray⟩, .slice none 0 0, .int .i64 0, .bool false]
  | .bad y => .agg #[.int .i64 2, .string ⟨#[]⟩, .slice none 0 0, .int .i64 y, .bool false]
def endIt (t : List UInt8) (y : Int) : It := if y = 0 then .line t else .bad y
end Go.Proofs.Ythnjbnhmdjpfpaa
