/-
  read: the bytes of an encoded word's text.
-/
import Derived.Test.YtdgepnfgjgbkoaaDoorWu17
import Derived.Test.YtdgepnfgjgbkoaaDoorUnb
namespace Go.Proofs.YtdgepnfgjgbkoaaDoor
open Go.RowKit

/-- The error of a text's bytes (0: none), and its place, and the bytes. -/
def reE (q : Bool) (t : List UInt8) : Nat := if q then uqE t else unbE t
def reP (q : Bool) (t : List UInt8) : Nat := if q then uqP t else unbA t
def reR (q : Bool) (t : List UInt8) : List UInt8 := if q then uqR t else unbL t
theorem wread_any (q : Bool) (s : ByteArray) (hs : s.size ≤ 1099511627776) (w : World) (ht : Table w) :
    Calls Tryd.prog 43 #[.string (cdS q), .string s] w fun e w' => ∃ v, e = .returned (.tuple #[v, .agg #[.int .i64 (reE q s.data.toList : Nat), .int .i64 (reP q s.data.toList : Nat)]]) ∧
      w'.ownsRow w.heap.size 5 1 v (reR q s.data.toList).length (cellsB (reR q s.data.toList)) ∧ Below w.heap.size w w' := by
  have HT : Hid (Table w) := ht
  have hU := unb_any s (by omega) (w.alloc (.cells #[.int .i64 0, .int .i64 0] 25))
  have hQ := wunq_any s hs (w.alloc (.cells #[.int .i64 0, .int .i64 0] 25)) (HT.out.keep ((Below.refl _ _).alloc (Nat.le_refl _) _))
  have HL : Hid (Lies (w.alloc (.cells #[.int .i64 0, .int .i64 0] 25)) w.heap.size #[.int .i64 0, .int .i64 0] 25) := Lies.new w _ _
  clear ht
  cases q
  all_goals
    unfold cdS reE reP reR
    simp only [Bool.false_eq_true, if_false, if_true]
    go_enter Tryd.func43, Tryd.ntmps43
    go_wp2_with fail
    refine (by first | exact hU | exact hQ : Calls _ _ _ _ _).mono ?_
    rintro e w2 ⟨v2, rfl, ho, hb⟩
    have hsz : (w.alloc (.cells #[.int .i64 0, .int .i64 0] 25)).heap.size = w.heap.size + 1 := by simp
    rw [hsz] at ho hb
    have HO : Hid (w2.ownsRow (w.heap.size + 1) 5 1 v2 _ (cellsB _)) := ho
    have hL2 : Lies w2 w.heap.size #[.int .i64 0, .int .i64 0] 25 := HL.out.below hb (by omega)
    have c0 := hL2.cell 0
    have c1 := hL2.cell 1
    have f0 := hL2.frozen 0
    have f1 := hL2.frozen 1
    have HB : Hid (Below w.heap.size w w2) := ((Below.refl _ w).alloc (Nat.le_refl _) _).trans (hb.mono (by omega))
    clear hL2 ho hb HL hU hQ HT hsz
    go_wp2
    refine bodyPost_ret (by simp [results, Tryd.results43, go_sem, c0, c1]; rfl) rfl ⟨_, rfl, ?_, ?_⟩
    · refine base_le (own_keep HO.out (fun q hq => ?_)) (Nat.le_succ _)
      have hne : q ≠ w.heap.size := by have := (HO.out.lt q hq).1; omega
      exact (Below.heap_setCell _ ⟨w.heap.size, 1, none⟩ _ _ hne).trans (Below.heap_setCell _ ⟨w.heap.size, 0, none⟩ _ _ hne)
    · exact (HB.out.setCell (p := ⟨w.heap.size, 0, none⟩) (Nat.le_refl _) _).setCell (p := ⟨w.heap.size, 1, none⟩) (Nat.le_refl _) _
end Go.Proofs.YtdgepnfgjgbkoaaDoor
