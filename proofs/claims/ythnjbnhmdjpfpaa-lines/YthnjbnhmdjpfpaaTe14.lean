/-
  tell: a byte of the body is counted, and told.
-/
import Derived.Test.YthnjbnhmdjpfpaaDt14
namespace Go.Proofs.Ythnjbnhmdjpfpaa
open Go.RowKit

/-- What a reader's step leaves behind: the reader, and the row that is told, in blocks of its own. -/
structure Tl (w : World) (b t a : Nat) (s : Ds) (v : Value) (l : List UInt8) : Prop where
  rd : Rd w b t a s
  ow : w.ownsRow 0 5 1 v l.length (cellsB l)
theorem Tl.apart {w : World} {b t a : Nat} {s : Ds} {v : Value} {l : List UInt8} (x : Tl w b t a s v l) : ∀ k, v.ownBlock = some k → k ≠ b := own_apart x.ow x.rd (by decide)
theorem Tl.but {w w' : World} {b t a : Nat} {s s' : Ds} {v : Value} {l : List UInt8} (x : Tl w b t a s v l) (h : But b w w') (y : Rd w' b t a s') : Tl w' b t a s' v l :=
  ⟨y, own_keep x.ow (fun k e => h.block k (x.ow.lt k e).2 (x.apart k e))⟩
def Fb (b : Nat) (v : Value) (k : Nat) : Prop := k = b ∨ v.ownBlock = some k
/-- The row may lie elsewhere behind it. -/
def Mvd (w : World) (v v' : Value) : Prop := ∀ k, v'.ownBlock = some k → v.ownBlock = some k ∨ w.heap.size ≤ k
theorem Mvd.refl (w : World) (v : Value) : Mvd w v v := fun _ h => .inl h
set_option maxHeartbeats 1000000 in
set_option maxRecDepth 20000 in
theorem dtell_any (b t a : Nat) (s : Ds) (c : UInt8) (v : Value) (l : List UInt8) (w : World) (x : Tl w b t a s v l) (hl : l.length ≤ 70368744177664) (hz : s.size ≤ 4611686018427387904) : Calls Try.prog 62 #[.pointer (some ⟨b, 0, none⟩), .int .u8 (c.toNat : Int), v] w fun e w' => ∃ v', e = .returned v' ∧ Tl w' b t a (s.tl c) v' (l ++ s.ou a c) ∧ Mvd w v v' ∧ Chg (Fb b v) w w' := by
  obtain ⟨i0, hi0, hz0, hz1, hz2⟩ := info_parts info5
  have hap := x.apart
  obtain ⟨g, cap, rfl, hcap⟩ := own_bts x.ow
  obtain ⟨c0, c1, c2, c3, c4, c5, c6, c7⟩ := x.rd.cells
  obtain ⟨f2, f3, f4, f5, f6, f7⟩ := x.rd.frozen
  have HX : Hid (Tl w b t a s (.slice g l.length cap) l) := x
  have HAP : Hid (∀ k, (Value.slice g l.length cap).ownBlock = some k → k ≠ b) := hap
  clear x hap
  obtain ⟨p, row, size, bare, long, high⟩ := s
  unfold Ds.ou Ds.tl
  dsimp only at *
  clear c0 c2 c3 c5 c6 f2 f3 f5 f6 hcap
  cases high with
  | true =>
    have hd : (true || decide (127 < c.toNat)) = true := by rfl
    rw [hd]
    have HD : Hid (Rd ((w.setCell ⟨b, 7, none⟩ (.bool true)).setCell ⟨b, 4, none⟩ (.int .i64 ((size : Int) + 1))) b t a ⟨p, row, size + 1, bare, long, true⟩) := (HX.out.rd.set7 _).set4 _
    have HB : Hid (But b w ((w.setCell ⟨b, 7, none⟩ (.bool true)).setCell ⟨b, 4, none⟩ (.int .i64 ((size : Int) + 1)))) := ((But.refl _ _).set _ _).set _ _
    clear hd
    by_cases ha : a < size + 1
    · rw [if_pos ha, List.append_nil]
      have ha' : (a : Int) < (size : Int) + 1 := by omega
      clear ha
      go_enter Try.func62, Try.ntmps62
      go_wp2_with fail
      go_region
      go_wp2_with fail
      go_ret
      exact ⟨_, rfl, HX.out.but HB.out.drew HD.out, Mvd.refl _ _, HB.out.drew.chg (.inl rfl)⟩
    · rw [if_neg ha]
      have ha' : ¬ (a : Int) < (size : Int) + 1 := by omega
      clear ha
      go_enter Try.func62, Try.ntmps62
      go_wp2_with fail
      go_region
      have HN : Hid (((w.setCell ⟨b, 7, none⟩ (.bool true)).setCell ⟨b, 4, none⟩ (.int .i64 ((size : Int) + 1))).heap.size = w.heap.size) := by unfold Hid; simp [World.size_setCell]
      have HO : Hid (((w.setCell ⟨b, 7, none⟩ (.bool true)).setCell ⟨b, 4, none⟩ (.int .i64 ((size : Int) + 1))).drew.ownsRow 0 5 1 (.slice g l.length cap) l.length (cellsB l)) := (HX.out.but HB.out.drew HD.out).ow
      have HD2 : Hid (Rd ((w.setCell ⟨b, 7, none⟩ (.bool true)).setCell ⟨b, 4, none⟩ (.int .i64 ((size : Int) + 1))).drew b t a ⟨p, row, size + 1, bare, long, true⟩) := HD.out
      have HB2 : Hid (But b w ((w.setCell ⟨b, 7, none⟩ (.bool true)).setCell ⟨b, 4, none⟩ (.int .i64 ((size : Int) + 1))).drew) := HB.out.drew
      clear HD HB
      generalize (w.setCell ⟨b, 7, none⟩ (.bool true)).setCell ⟨b, 4, none⟩ (.int .i64 ((size : Int) + 1)) = W0 at *
      have HFB : Hid (∀ j u, [Value.int .u8 (c.toNat : Int)][j]? = some u → (W0.drew.alloc (.cells #[.int .u8 (c.toNat : Int)] 5)).cell? ((⟨W0.heap.size, 0, none⟩ : Addr).add j) = some u) := one_new (w := W0.drew) _
      go_wp2_with (refine wpList_append_lies _ rfl _ _ 42 rfl 0 5 i0 (.int .u8 0) 1 1 Try.underlying42 hi0 hz0 hz1 hz2 rfl (by decide) (.slice g l.length cap) l.length (cellsB l) rfl (own_below HO.out ((Below.refl _ _).alloc (Nat.le_refl _) _)) ⟨W0.heap.size, 0, none⟩ 1 1 [.int .u8 (c.toNat : Int)] rfl rfl HFB.out one_one (by decide) (by unfold maxLen; omega) (by omega) (Nat.zero_le _) (W0.heap.size + 1) (by simp) ?_; intro g6 cap6 w6 HO6 HG6 HW6 HS6; apply Hid.out)
      unfold Hid
      have HC6 : Hid (Chg (fun k => (Value.slice g l.length cap).ownBlock = some k) W0.drew w6) := ((Chg.refl _ W0.drew).alloc _).grown HG6 (fun k e => .inl e)
      have HR6 : Hid (Rd w6 b t a ⟨p, row, size + 1, bare, long, true⟩) := HD2.out.chg HC6.out (fun e => HAP.out b e rfl)
      have HO7 : Hid (w6.ownsRow 0 5 1 (.slice (some ⟨g6, 0, none⟩) (l.length + 1) cap6) (l.length + 1) (cellsB l ++ [.int .u8 (c.toNat : Int)])) := HO6
      have HM : Hid (Mvd w (.slice g l.length cap) (.slice (some ⟨g6, 0, none⟩) (l.length + 1) cap6)) := fun k e => by
        cases e
        rcases HW6 with h | h
        · exact .inl h
        · exact .inr (by have := HN.out; show _ ≤ g6; omega)
      clear HO6 HG6 HW6 HS6
      go_wp2_with fail
      go_ret
      refine ⟨_, rfl, ⟨HR6.out, ?_⟩, HM.out, (HB2.out.chg (F := Fb b (.slice g l.length cap)) (.inl rfl)).trans (HC6.out.mono (fun k e => .inr e))⟩
      rw [cellsB_append, List.length_append]
      exact HO7.out
  | false =>
    have hd : (false || decide (127 < c.toNat)) = decide (127 < (c.toNat : Int)) := by rw [Bool.false_or]; exact decide_eq_decide.2 (by omega)
    rw [hd]
    have HD : Hid (Rd ((w.setCell ⟨b, 7, none⟩ (.bool (decide (127 < (c.toNat : Int))))).setCell ⟨b, 4, none⟩ (.int .i64 ((size : Int) + 1))) b t a ⟨p, row, size + 1, bare, long, decide (127 < (c.toNat : Int))⟩) := (HX.out.rd.set7 _).set4 _
    have HB : Hid (But b w ((w.setCell ⟨b, 7, none⟩ (.bool (decide (127 < (c.toNat : Int))))).setCell ⟨b, 4, none⟩ (.int .i64 ((size : Int) + 1)))) := ((But.refl _ _).set _ _).set _ _
    clear hd
    by_cases ha : a < size + 1
    · rw [if_pos ha, List.append_nil]
      have ha' : (a : Int) < (size : Int) + 1 := by omega
      clear ha
      go_enter Try.func62, Try.ntmps62
      go_wp2_with fail
      go_region
      go_wp2_with fail
      go_ret
      exact ⟨_, rfl, HX.out.but HB.out.drew HD.out, Mvd.refl _ _, HB.out.drew.chg (.inl rfl)⟩
    · rw [if_neg ha]
      have ha' : ¬ (a : Int) < (size : Int) + 1 := by omega
      clear ha
      go_enter Try.func62, Try.ntmps62
      go_wp2_with fail
      go_region
      have HN : Hid (((w.setCell ⟨b, 7, none⟩ (.bool (decide (127 < (c.toNat : Int))))).setCell ⟨b, 4, none⟩ (.int .i64 ((size : Int) + 1))).heap.size = w.heap.size) := by unfold Hid; simp [World.size_setCell]
      have HO : Hid (((w.setCell ⟨b, 7, none⟩ (.bool (decide (127 < (c.toNat : Int))))).setCell ⟨b, 4, none⟩ (.int .i64 ((size : Int) + 1))).drew.ownsRow 0 5 1 (.slice g l.length cap) l.length (cellsB l)) := (HX.out.but HB.out.drew HD.out).ow
      have HD2 : Hid (Rd ((w.setCell ⟨b, 7, none⟩ (.bool (decide (127 < (c.toNat : Int))))).setCell ⟨b, 4, none⟩ (.int .i64 ((size : Int) + 1))).drew b t a ⟨p, row, size + 1, bare, long, decide (127 < (c.toNat : Int))⟩) := HD.out
      have HB2 : Hid (But b w ((w.setCell ⟨b, 7, none⟩ (.bool (decide (127 < (c.toNat : Int))))).setCell ⟨b, 4, none⟩ (.int .i64 ((size : Int) + 1))).drew) := HB.out.drew
      clear HD HB
      generalize (w.setCell ⟨b, 7, none⟩ (.bool (decide (127 < (c.toNat : Int))))).setCell ⟨b, 4, none⟩ (.int .i64 ((size : Int) + 1)) = W0 at *
      have HFB : Hid (∀ j u, [Value.int .u8 (c.toNat : Int)][j]? = some u → (W0.drew.alloc (.cells #[.int .u8 (c.toNat : Int)] 5)).cell? ((⟨W0.heap.size, 0, none⟩ : Addr).add j) = some u) := one_new (w := W0.drew) _
      go_wp2_with (refine wpList_append_lies _ rfl _ _ 42 rfl 0 5 i0 (.int .u8 0) 1 1 Try.underlying42 hi0 hz0 hz1 hz2 rfl (by decide) (.slice g l.length cap) l.length (cellsB l) rfl (own_below HO.out ((Below.refl _ _).alloc (Nat.le_refl _) _)) ⟨W0.heap.size, 0, none⟩ 1 1 [.int .u8 (c.toNat : Int)] rfl rfl HFB.out one_one (by decide) (by unfold maxLen; omega) (by omega) (Nat.zero_le _) (W0.heap.size + 1) (by simp) ?_; intro g6 cap6 w6 HO6 HG6 HW6 HS6; apply Hid.out)
      unfold Hid
      have HC6 : Hid (Chg (fun k => (Value.slice g l.length cap).ownBlock = some k) W0.drew w6) := ((Chg.refl _ W0.drew).alloc _).grown HG6 (fun k e => .inl e)
      have HR6 : Hid (Rd w6 b t a ⟨p, row, size + 1, bare, long, decide (127 < (c.toNat : Int))⟩) := HD2.out.chg HC6.out (fun e => HAP.out b e rfl)
      have HO7 : Hid (w6.ownsRow 0 5 1 (.slice (some ⟨g6, 0, none⟩) (l.length + 1) cap6) (l.length + 1) (cellsB l ++ [.int .u8 (c.toNat : Int)])) := HO6
      have HM : Hid (Mvd w (.slice g l.length cap) (.slice (some ⟨g6, 0, none⟩) (l.length + 1) cap6)) := fun k e => by
        cases e
        rcases HW6 with h | h
        · exact .inl h
        · exact .inr (by have := HN.out; show _ ≤ g6; omega)
      clear HO6 HG6 HW6 HS6
      go_wp2_with fail
      go_ret
      refine ⟨_, rfl, ⟨HR6.out, ?_⟩, HM.out, (HB2.out.chg (F := Fb b (.slice g l.length cap)) (.inl rfl)).trans (HC6.out.mono (fun k e => .inr e))⟩
      rw [cellsB_append, List.length_append]
      exact HO7.out
end Go.Proofs.Ythnjbnhmdjpfpaa
