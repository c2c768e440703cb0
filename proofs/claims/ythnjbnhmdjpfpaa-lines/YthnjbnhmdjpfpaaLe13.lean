/-
  A line's end.
-/
import Derived.Test.YthnjbnhmdjpfpaaLn13
namespace Go.Proofs.Ythnjbnhmdjpfpaa
open Go.RowKit

theorem ret_row {P : Program} {fn : Func} {p : Tmp} {ty : TypeId} (h : fn.results = #[.cell p ty]) {R : Ending → World → Prop} {tmps : Array Value} {w : World} (g : Nat) (t : TypeId) (cs : Array Value) (d : TypeDesc)
    (hp : tmps.getD p undef = .pointer (some ⟨g, 0, none⟩)) (hg : Lies w g cs t) (hu : P.underlying ty = some d) (hd : (match d with | .struct _ | .array _ _ => true | _ => false) = true) (hi : (P.info? ty).map (·.size) = some cs.size)
    (hR : R (.returned (.agg cs)) w) : bodyPost P fn R .ret { tmps := tmps, defers := [] } w :=
  bodyPost_ret (results_cell_row h tmps w g t cs (0, 0) d hp hg hu hd hi) rfl hR
theorem zend_fin {n : Nat} (w : World) (b m : Nat) (h : Bool) (y : Int) (a : Option Addr) (cap : Nat) (F : Nat → Prop) (cs ds : List Value) (hcs : cs.length = 5) (HL : Lies w b (lnC m (.slice a n cap) h y).toArray 93) (HO : w.ownsRow 0 5 1 (.slice a 0 cap) 0 []) (HF : ∀ k, (Value.slice a 0 cap).ownBlock = some k → F k ∧ k ≠ b) (fb : F b) (lo : 1 ≤ m) (hi : m ≤ 16777216) (it : It) (tmps : Array Value) (hit : itV it = .agg cs.toArray) (hp : tmps.getD 2 undef = .pointer (some ⟨w.heap.size, 0, none⟩)) :
    bodyPost Try.prog Try.f58 (fun e w' => e = .returned (itV it) ∧ LnC w' F b m [] false 0 ∧ Chg F w w') .ret { tmps := tmps, defers := [] } (((((w.setCell ⟨b, 1, none⟩ (.slice a 0 cap)).setCell ⟨b, 2, none⟩ (.bool false)).setCell ⟨b, 3, none⟩ (.int .i64 0)).alloc (.cells cs.toArray 50)).alloc (.cells ds.toArray 50)) := by
  obtain ⟨W, hW⟩ : ∃ W, W = ((w.setCell ⟨b, 1, none⟩ (.slice a 0 cap)).setCell ⟨b, 2, none⟩ (.bool false)).setCell ⟨b, 3, none⟩ (.int .i64 0) := ⟨_, rfl⟩
  have hB : But b w W := by subst hW; exact (((But.refl _ _).set _ _).set _ _).set _ _
  have hS : W.heap.size = w.heap.size := by subst hW; simp [World.size_setCell]
  have hL : Lies W b (lnC m (.slice a 0 cap) false 0).toArray 93 := by subst hW; exact ((HL.set 1 _).set 2 _).set 3 _
  have hX : LnC W F b m [] false 0 := lnC_set _ hL hB HO HF fb lo hi (Nat.zero_le _)
  rw [← hW]
  clear hW
  have hb2 : Below W.heap.size W ((W.alloc (.cells cs.toArray 50)).alloc (.cells ds.toArray 50)) := ((Below.refl _ _).alloc (Nat.le_refl _) _).alloc (by simp) _
  exact ret_row rfl W.heap.size 50 cs.toArray _ (by rw [hS]; exact hp) ((Lies.new W _ _).alloc _) Try.underlying50 rfl (by rw [infoIT]; simp [hcs]) ⟨by rw [hit], hX.below hb2, (hB.chg fb).below hb2⟩
set_option maxHeartbeats 1000000 in
theorem zend_ok (F : Nat → Prop) (b m : Nat) (t : List UInt8) (h : Bool) (w : World) (x : LnC w F b m t h 0) : Calls Try.prog 58 #[.pointer (some ⟨b, 0, none⟩)] w fun e w' => e = .returned (itV (.line t)) ∧ LnC w' F b m [] false 0 ∧ Chg F w w' := by
  obtain ⟨v, h1, h2, h3⟩ := x.ex
  have hcv := own_conv (own_below h2 (((Below.refl w.heap.size w).alloc (Nat.le_refl _) (.cells #[.int .i64 0, .string ⟨#[]⟩, .slice none 0 0, .int .i64 0, .bool false] 50)).alloc (by simp) (.cells #[.int .i64 2, .string ⟨#[]⟩, .slice none 0 0, .int .i64 0, .bool false] 50)))
  obtain ⟨a, cap, rfl, hc1, hc2, hc3, hc4, hc5⟩ := own_cut h2
  have hap := own_apart h2 h1 (by decide)
  have hlt := h1.lt
  have n1 : ¬ b = w.heap.size := by omega
  have n2 : ¬ b = w.heap.size + 1 := by omega
  have n3 : b ≠ w.heap.size := by omega
  have n4 : b ≠ w.heap.size + 1 := by omega
  obtain ⟨c0, c1, c2, c3⟩ := lnC_cells h1
  obtain ⟨f1, f2, f3⟩ := lnC_frozen h1
  have HL : Hid (Lies w b (lnC m (.slice a t.length cap) h 0).toArray 93) := h1
  have HO : Hid (w.ownsRow 0 5 1 (.slice a 0 cap) 0 []) := hc4
  have HX : Hid (LnC w F b m t h 0) := x
  have HF : Hid (∀ k, (Value.slice a 0 cap).ownBlock = some k → F k ∧ k ≠ b) := fun k e => ⟨h3 k (by rw [← hc5]; exact e), hap k (by rw [← hc5]; exact e)⟩
  clear x h1 h2 h3 hc4 hc5 hap
  generalize t.length = n at *
  go_enter Try.func58, Try.ntmps58
  go_wp2
  exact zend_fin (n := n) w b m h 0 a cap F [.int .i64 1, .string ⟨t.toArray⟩, .slice none 0 0, .int .i64 0, .bool false] [.int .i64 1, .string ⟨t.toArray⟩, .slice none 0 0, .int .i64 0, .bool false] rfl HL.out HO.out HF.out HX.out.fb HX.out.lo HX.out.hi _ _ rfl rfl
set_option maxHeartbeats 1000000 in
theorem zend_bad (F : Nat → Prop) (b m : Nat) (t : List UInt8) (h : Bool) (y : Int) (hy : ¬ y = 0) (w : World) (x : LnC w F b m t h y) : Calls Try.prog 58 #[.pointer (some ⟨b, 0, none⟩)] w fun e w' => e = .returned (itV (.bad y)) ∧ LnC w' F b m [] false 0 ∧ Chg F w w' := by
  obtain ⟨v, h1, h2, h3⟩ := x.ex
  obtain ⟨a, cap, rfl, hc1, hc2, hc3, hc4, hc5⟩ := own_cut h2
  have hap := own_apart h2 h1 (by decide)
  have hlt := h1.lt
  have n1 : ¬ b = w.heap.size := by omega
  have n2 : ¬ b = w.heap.size + 1 := by omega
  have n3 : b ≠ w.heap.size := by omega
  have n4 : b ≠ w.heap.size + 1 := by omega
  have hyb : (y == 0) = false := by simpa using hy
  obtain ⟨c0, c1, c2, c3⟩ := lnC_cells h1
  obtain ⟨f1, f2, f3⟩ := lnC_frozen h1
  have HL : Hid (Lies w b (lnC m (.slice a t.length cap) h y).toArray 93) := h1
  have HO : Hid (w.ownsRow 0 5 1 (.slice a 0 cap) 0 []) := hc4
  have HX : Hid (LnC w F b m t h y) := x
  have HF : Hid (∀ k, (Value.slice a 0 cap).ownBlock = some k → F k ∧ k ≠ b) := fun k e => ⟨h3 k (by rw [← hc5]; exact e), hap k (by rw [← hc5]; exact e)⟩
  clear x h1 h2 h3 hc4 hc5 hap
  generalize t.length = n at *
  go_enter Try.func58, Try.ntmps58
  go_wp2
  exact zend_fin (n := n) w b m h y a cap F [.int .i64 2, .string ⟨#[]⟩, .slice none 0 0, .int .i64 y, .bool false] [.int .i64 2, .string ⟨#[]⟩, .slice none 0 0, .int .i64 y, .bool false] rfl HL.out HO.out HF.out HX.out.fb HX.out.lo HX.out.hi _ _ rfl rfl
theorem zend_any (F : Nat → Prop) (b m : Nat) (t : List UInt8) (h : Bool) (y : Int) (w : World) (x : LnC w F b m t h y) : Calls Try.prog 58 #[.pointer (some ⟨b, 0, none⟩)] w fun e w' => e = .returned (itV (endIt t y)) ∧ LnC w' F b m [] false 0 ∧ Chg F w w' := by
  unfold endIt
  by_cases hy : y = 0
  · rw [if_pos hy]
    subst hy
    exact zend_ok F b m t h w x
  · rw [if_neg hy]
    exact zend_bad F b m t h y hy w x
end Go.Proofs.Ythnjbnhmdjpfpaa
