/-
  The closure that the sort of the wide runes calls.
-/
import Derived.Test.YtedgimkffkflbaaDoorWid
namespace Go.Proofs.YtedgimkffkflbaaDoor
open Go.RowKit

set_option maxHeartbeats 2000000 in
set_option maxRecDepth 100000 in
theorem clo_any (lb : Nat) (a : Option Addr) (l : List Int) (cap : Nat) (x y : Nat) (hx : x < l.length) (hy : y < l.length) (w : World) (hl : w.cell? ⟨lb, 0, none⟩ = some (.slice a l.length cap)) (hn : Nts .i32 a l w) :
    Calls Tryd.prog 69 #[.int .i64 x, .int .i64 y, .pointer (some ⟨lb, 0, none⟩)] w fun e w' => e = .returned (.int .i64 (orI (cmpI l[x] l[y]) (cmpI x y))) ∧ ∃ q os, w' = Sort.grow (w.drewN q) os := by
  obtain ⟨g, o, rfl, hg, cx⟩ := hn.cell x hx
  obtain ⟨g', o', e', _, cy⟩ := hn.cell y hy
  injection e' with e'
  injection e' with e1 e2
  subst e1 e2
  have hlb : lb < w.heap.size := World.block_lt_of_cell? w _ hl
  have hx' : (x : Int) < l.length := by omega
  have hy' : (y : Int) < l.length := by omega
  have HR : Hid (∀ wx, Calls Tryd.prog 71 #[.int .i32 l[x], .int .i32 l[y]] wx fun e w' => e = .returned (.int .i64 (cmpI l[x] l[y])) ∧ w' = wx) := fun wx => cmpr_any _ _ wx
  have HI : Hid (∀ wx, Calls Tryd.prog 72 #[.int .i64 x, .int .i64 y] wx fun e w' => e = .returned (.int .i64 (cmpI x y)) ∧ w' = wx) := fun wx => cmpi_any _ _ wx
  generalize cmpI l[x] l[y] = A at HR ⊢
  generalize cmpI x y = B at HI ⊢
  clear hn
  go_enter Tryd.func69, Tryd.ntmps69
  go_wp2_with fail
  go_region_with (first | (go_at_call 71; refine (HR.out _).mono ?_; rintro e w' ⟨rfl, rfl⟩) | (go_at_call 72; refine (HI.out _).mono ?_; rintro e w' ⟨rfl, rfl⟩) | (go_at_call 70; refine (cmpor_any _ A B _ (by simp) (by simp)).mono ?_; rintro e w' ⟨rfl, rfl⟩))
  all_goals (try simp only [Act.put, List.setIfInBounds_toArray, List.set_cons_zero, List.set_cons_succ, List.getElem_toArray, List.getElem_cons_succ, List.getElem_cons_zero])
  all_goals go_wp2
  all_goals go_ret
  all_goals exact ⟨rfl, 1, #[.cells #[.int .i64 A, .int .i64 B] 3], by rw [Sort.alloc_eq_grow]; rfl⟩
end Go.Proofs.YtedgimkffkflbaaDoor
