/-
  The program's reader of dates: what it holds; fail, stands, row, free.
-/
import Derived.Test.YtedfnebadenmdabDoorCald
import Derived.Test.YtedfnebadenmdabDoorSpan4
import Derived.Test.YtedfnebadenmdabDoorSame
import Derived.Test.YtedfnebadenmdabDoorNumb
import Derived.Test.YtedfnebadenmdabDoorPar
namespace Go.Proofs.YtedfnebadenmdabDoor
open Go.RowKit

/-- The table of zones' names. -/
def zoneRows : List (List UInt8 × Int) := [([85, 84], 0), ([71, 77, 84], 0), ([69, 83, 84], -300), ([69, 68, 84], -240), ([67, 83, 84], -360), ([67, 68, 84], -300), ([77, 83, 84], -420), ([77, 68, 84], -360), ([80, 83, 84], -480), ([80, 68, 84], -420)]
def znCells : Array Value := (zoneRows.flatMap fun r => [Value.string ⟨r.1.toArray⟩, Value.int .i16 r.2]).toArray
def Znm (w : World) : Prop := ∃ t fr, w.heap[1]? = some (.cells znCells t fr)
/-- The tables. -/
structure Tbl (w : World) : Prop where
  cl : Table w
  ah : Ahd w
  zn : Znm w
  sz : 2 < w.heap.size
theorem Tbl.but {g : Nat} {w w' : World} (h : Tbl w) (hg : 2 < g) (hb : But g w w') : Tbl w' := by
  have hs := h.sz
  have key : ∀ b o v, b ≤ 2 → w.cell? ⟨b, o, none⟩ = v → w'.cell? ⟨b, o, none⟩ = v := fun b o v hb2 he => by
    rw [← he]
    exact World.cell?_of_block (w := w) (a := ⟨b, o, none⟩) (hb.block b (by omega) (by omega))
  exact ⟨fun c hc => key _ _ _ (by decide) (h.cl c hc), fun c hc => key _ _ _ (by decide) (h.ah c hc), by
    obtain ⟨t, fr, hz⟩ := h.zn
    exact ⟨t, fr, (hb.block 1 (by omega) (by omega)).trans hz⟩, Nat.lt_of_lt_of_le h.sz hb.size⟩
theorem Tbl.below {w w' : World} (h : Tbl w) (hb : Below w.heap.size w w') : Tbl w' := h.but (g := w.heap.size) h.sz (But.of_below hb)

/-- A reader's cells. -/
def rdC (s : ByteArray) (k : Nat) (e p : Int) : Array Value := #[.string s, .int .i64 (k : Int), .int .i64 e, .int .i64 p]
/-- A reader of a text at a place, with a fault. -/
structure Rd0 (T : TypeId) (w : World) (g : Nat) (s : ByteArray) (k : Nat) (e p : Int) : Prop where
  lies : Lies w g (rdC s k e p) T
  le : k ≤ s.size
  far : 2 < g
theorem Rd0.below {T : TypeId} {w w' : World} {g k : Nat} {s : ByteArray} {e p : Int} (h : Rd0 T w g s k e p) (hb : Below w.heap.size w w') : Rd0 T w' g s k e p := ⟨h.lies.below hb h.lies.lt, h.le, h.far⟩
theorem Rd0.cells {T : TypeId} {w : World} {g k : Nat} {s : ByteArray} {e p : Int} (h : Rd0 T w g s k e p) :
    w.cell? ⟨g, 0, none⟩ = some (.string s) ∧ w.cell? ⟨g, 1, none⟩ = some (.int .i64 (k : Int)) ∧ w.cell? ⟨g, 2, none⟩ = some (.int .i64 e) ∧ w.cell? ⟨g, 3, none⟩ = some (.int .i64 p) :=
  ⟨h.lies.cell 0, h.lies.cell 1, h.lies.cell 2, h.lies.cell 3⟩
theorem Rd0.frozen {T : TypeId} {w : World} {g k : Nat} {s : ByteArray} {e p : Int} (h : Rd0 T w g s k e p) :
    w.frozen? ⟨g, 1, none⟩ = false ∧ w.frozen? ⟨g, 2, none⟩ = false ∧ w.frozen? ⟨g, 3, none⟩ = false :=
  ⟨h.lies.frozen 1, h.lies.frozen 2, h.lies.frozen 3⟩
/-- The reader goes to another place. -/
theorem Rd0.move {T : TypeId} {w : World} {g k : Nat} {s : ByteArray} {e p : Int} (h : Rd0 T w g s k e p) (m : Nat) (hm : m ≤ s.size) : Rd0 T (w.setCell ⟨g, 1, none⟩ (.int .i64 (m : Int))) g s m e p :=
  ⟨h.lies.set 1 _, hm, h.far⟩
/-- How the reader stands. -/
def stOf (s : ByteArray) (k : Nat) (e p : Int) : St := if e = 0 then .at (s.data.toList.drop k) else .bad e p
theorem Step.go {α : Type} {s : ByteArray} {f : List UInt8 → Rs α} {k m : Nat} {e p : Int} {x : α} (h : e = 0 → f (s.data.toList.drop k) = .ok x (s.data.toList.drop m)) : Step s.size f (stOf s k e p) (stOf s m e p) x := by
  unfold stOf
  by_cases c : e = 0
  · rw [if_pos c, if_pos c]
    exact Step.ok (h c)
  · rw [if_neg c, if_neg c]
    exact Step.bad _ _ _
theorem Step.fail {α : Type} {s : ByteArray} {f : List UInt8 → Rs α} {k m q : Nat} {e p e0 : Int} (v : α) (hq : q ≤ s.size) (h0 : e0 ≠ 0) (h : e = 0 → f (s.data.toList.drop k) = .bad e0 (s.data.toList.drop q)) :
    Step s.size f (stOf s k e p) (stOf s m (if e = 0 then e0 else e) (if e = 0 then (q : Int) else p)) v := by
  unfold stOf
  by_cases c : e = 0
  · rw [if_pos c, if_pos c, if_pos c, if_neg h0]
    have := Step.no (n := s.size) (h c) v
    have e1 : ((s.size : Nat) : Int) - ((s.data.toList.drop q).length : Int) = (q : Int) := by
      rw [List.length_drop, Array.length_toList]
      have : s.data.size = s.size := rfl
      omega
    rw [e1] at this
    exact this
  · rw [if_neg c, if_neg c, if_neg c, if_neg c]
    exact Step.bad _ _ _

set_option maxHeartbeats 1000000 in
theorem fail_any (g : Nat) (s : ByteArray) (k : Nat) (e p e0 q : Int) (w : World) (hr : Rd0 63 w g s k e p) :
    Calls Tryd.prog 44 #[.pointer (some ⟨g, 0, none⟩), .int .i64 e0, .int .i64 q] w fun x w' => x = .returned (.tuple #[]) ∧ Rd0 63 w' g s s.size (if e = 0 then e0 else e) (if e = 0 then q else p) ∧ But g w w' := by
  obtain ⟨c0, c1, c2, c3⟩ := hr.cells
  obtain ⟨f1, f2, f3⟩ := hr.frozen
  have HR : Hid (Rd0 63 w g s k e p) := hr
  clear hr
  by_cases c : e = 0
  · subst c
    rw [if_pos rfl, if_pos rfl]
    go_enter Tryd.func44, Tryd.ntmps44
    go_wp2
    go_end0
    exact ⟨rfl, ⟨((HR.out.lies.set 2 (.int .i64 e0)).set 3 (.int .i64 q)).set 1 (.int .i64 (s.size : Int)), Nat.le_refl _, HR.out.far⟩, (((But.refl g w).set 2 _).set 3 _).set 1 _⟩
  · rw [if_neg c, if_neg c]
    have c' : (e == 0) = false := by simpa using c
    clear c
    go_enter Tryd.func44, Tryd.ntmps44
    go_wp2
    go_end0
    exact ⟨rfl, HR.out.move s.size (Nat.le_refl _), (But.refl g w).set 1 _⟩
theorem head_drop (s : ByteArray) (k : Nat) (h : k < s.size) : (s.data.toList.drop k).head? = some s[k] := by
  rw [List.head?_drop, Array.getElem?_toList, Array.getElem?_eq_getElem h]
  rfl
theorem head_end (s : ByteArray) (k : Nat) (h : ¬ k < s.size) : (s.data.toList.drop k).head? = none := by
  rw [List.head?_drop, Array.getElem?_toList]
  exact Array.getElem?_eq_none (by have : s.data.size = s.size := rfl; omega)
theorem byte_eq (a b : UInt8) : (((a.toNat : Int) == (b.toNat : Int)) : Bool) = decide (some a = some b) := by
  rw [Bool.eq_iff_iff]
  simp only [beq_iff_eq, decide_eq_true_eq, Option.some.injEq]
  constructor
  · intro h
    exact UInt8.toNat_inj.1 (by omega)
  · intro h
    rw [h]
/-- A byte stands there. -/
def standB (s : ByteArray) (k : Nat) (b : UInt8) : Bool := decide ((s.data.toList.drop k).head? = some b)
theorem below_drewN (w : World) (n : Nat) : Below w.heap.size w (w.drewN n) := ⟨rfl, rfl, rfl, Nat.le_refl _, fun _ _ => rfl⟩
set_option maxHeartbeats 1000000 in
theorem stands_any (g : Nat) (s : ByteArray) (k : Nat) (e p : Int) (b : UInt8) (y : Int) (hy : y = (b.toNat : Int)) (w : World) (hr : Rd0 63 w g s k e p) :
    Calls Tryd.prog 46 #[.pointer (some ⟨g, 0, none⟩), .int .u8 y] w fun x w' => x = .returned (.bool (standB s k b)) ∧ Below w.heap.size w w' := by
  subst hy
  obtain ⟨c0, c1, c2, c3⟩ := hr.cells
  clear hr c2 c3
  by_cases c : k < s.size
  · have ci : (k : Int) < (s.size : Int) := by omega
    have HE : Hid ((((s[k].toNat : Int) == (b.toNat : Int)) : Bool) = standB s k b) := by
      show _ = _
      unfold standB
      rw [head_drop s k c, byte_eq]
    go_enter Tryd.func46, Tryd.ntmps46
    go_wp2
    go_quiet (fail)
    go_wp2
    go_ret
    exact ⟨ret_b HE.out, below_drewN _ _⟩
  · have ci : decide ((k : Int) < (s.size : Int)) = false := decide_eq_false (by omega)
    have HE : Hid (false = standB s k b) := by
      show _ = _
      unfold standB
      rw [head_end s k c]
      rfl
    go_enter Tryd.func46, Tryd.ntmps46
    go_wp2
    go_quiet (fail)
    go_wp2
    go_ret
    exact ⟨ret_b HE.out, below_drewN _ _⟩
end Go.Proofs.YtedfnebadenmdabDoor
