/-
  Dates that the statements make out of any numbers.
-/
import Derived.Test.YtedfnebadenmdabDoorCard6
import Derived.Test.YtedfnebadenmdabDoorCof
namespace Go.Proofs.YtedfnebadenmdabDoor
open Go.ChangeShapes Go.WideShapes Go.ChangeAt Go.RowKit

/-- What a date is made of. -/
structure Md where
  n : Int
  h : Int
  mi : Int
  s : Int
  z : Int
def mdC (o : Md) : Array Value := #[.int .i64 o.n, .int .u8 o.h, .int .u8 o.mi, .int .u8 o.s, .int .i16 o.z]
def mdV (o : Md) : Value := .agg #[.int .i64 o.n, .int .u8 o.h, .int .u8 o.mi, .int .u8 o.s, .int .i16 o.z]
structure Md.In (o : Md) : Prop where
  h0 : 0 ≤ o.h
  h1 : o.h ≤ 255
  m0 : 0 ≤ o.mi
  m1 : o.mi ≤ 255
  s0 : 0 ≤ o.s
  s1 : o.s ≤ 255
  z0 : -32768 ≤ o.z
  z1 : o.z ≤ 32767
set_option maxRecDepth 100000 in
theorem open_made {H : Type} {enc : TypeId × Value → H} {W : World} {r : Reach} {b0 : Nat} {v : Value} {d : DataW H} {ps : List MemPlace} (hv : Value.okWide Tryd.prog W r b0 32 v) (h : DataW.Trod enc Tryd.prog W 0 (fun _ => true) true 32 v d ps) :
    ∃ o : Md, v = mdV o ∧ o.In := by
  obtain ⟨cs, rfl, hsz⟩ := okWide_struct Tryd.underlying32 hv
  have c5 : Tryd.prog.cellsOf 32 = 5 := by kernel_rfl
  have k2 : Tryd.prog.cellsOf 2 = 1 := by kernel_rfl
  have k5 : Tryd.prog.cellsOf 5 = 1 := by kernel_rfl
  rw [c5] at hsz
  obtain ⟨fuel, hf⟩ := h
  obtain ⟨ys, n, _, _, hl, hyl, hfd⟩ := DataW.trod_struct Tryd.underlying32 hf
  have key : ∀ (i : Nat) (f : Field) (k : IntKind), Tryd.prog.underlying f.type = some (.int k) → Tryd.prog.cellsOf f.type = 1 → f.offset = i → DataW.trod enc Tryd.prog W 0 (fun _ => true) true n f.type (((Value.agg cs).cells.toList.drop f.offset).take (Tryd.prog.cellsOf f.type)) = ys[i]? → i < ys.length → ∃ z, cs[i]? = some (.int k z) ∧ (Lit.int k z).wf = true := by
    intro i f k hu hc ho ht hi
    rw [List.getElem?_eq_getElem hi] at ht
    obtain ⟨z, a1, _, a3⟩ := DataW.trod_int hu ht
    refine ⟨z, ?_, a3⟩
    rw [hc, ho] at a1
    have r0 := congrArg (fun l => l[0]?) a1
    simp only [List.getElem?_take, List.getElem?_drop] at r0
    simpa [Value.cells] using r0
  have hy5 : ys.length = 5 := hyl
  obtain ⟨z0, e0, w0⟩ := key 0 _ .i64 Tryd.underlying2 k2 rfl (hfd 0 _ rfl) (by omega)
  obtain ⟨z1, e1, w1⟩ := key 1 _ .u8 Tryd.underlying5 k5 rfl (hfd 1 _ rfl) (by omega)
  obtain ⟨z2, e2, w2⟩ := key 2 _ .u8 Tryd.underlying5 k5 rfl (hfd 2 _ rfl) (by omega)
  obtain ⟨z3, e3, w3⟩ := key 3 _ .u8 Tryd.underlying5 k5 rfl (hfd 3 _ rfl) (by omega)
  obtain ⟨z4, e4, w4⟩ := key 4 _ .i16 Tryd.underlying23 cells16 rfl (hfd 4 _ rfl) (by omega)
  refine ⟨⟨z0, z1, z2, z3, z4⟩, ?_, ⟨(bounds_u8 w1).1, (bounds_u8 w1).2, (bounds_u8 w2).1, (bounds_u8 w2).2, (bounds_u8 w3).1, (bounds_u8 w3).2, (bounds_i16 w4).1, (bounds_i16 w4).2⟩⟩
  unfold mdV
  congr 1
  apply Array.ext_getElem?
  intro j
  by_cases hj : j < 5
  · have hc : j = 0 ∨ j = 1 ∨ j = 2 ∨ j = 3 ∨ j = 4 := by omega
    rcases hc with rfl | rfl | rfl | rfl | rfl
    · exact e0
    · exact e1
    · exact e2
    · exact e3
    · exact e4
  · rw [Array.getElem?_eq_none (by omega), Array.getElem?_eq_none (by simp; omega)]
set_option maxHeartbeats 2000000 in
theorem made_any (o : Md) (w : World) (ht : Ahd w) (ho : o.In) :
    Calls Tryd.prog 11 #[mdV o] w fun e w' => ∃ x, e = .returned (dtV x) ∧ May x ∧ x.z = o.z.tmod 1440 ∧ Below w.heap.size w w' := by
  have HT : Hid (Ahd w) := ht
  obtain ⟨z, zq, hz, ez, z0, z1, z2, z3⟩ := tmod_parts o.z 1440 (by decide)
  obtain ⟨r, rq, hr, er, r0, r1, r2, r3⟩ := tmod_parts o.n 3652059 (by decide)
  obtain ⟨o1, o2, o3, o4, o5, o6, o7, o8⟩ := ho
  rw [hz]
  have HM : Hid (∀ D y m d, Civ D y m d → May ⟨y, m, d, o.h % 24, o.mi % 60, o.s % 60, z⟩) := fun D y m d h => ⟨h.day, by simp only []; omega, by simp only []; omega, by simp only []; omega, by simp only []; omega, by simp only []; omega, by simp only []; omega, by simp only []; omega, by simp only []; omega⟩
  have HB : Hid (Below w.heap.size w ((w.alloc (.cells (mdC o) 32)).alloc (.cells (dtC ⟨0, 0, 0, 0, 0, 0, 0⟩) 34))) := ((Below.refl _ _).alloc (Nat.le_refl _) _).alloc (by simp) _
  have HT1 := HT.out.below HB.out
  clear ez er z2 z3 r2 r3 ht
  unfold mdC dtC at HT1
  have HT1 : Hid _ := HT1
  unfold mdV
  by_cases hneg : r < 0
  · go_enter Tryd.func11, Tryd.ntmps11
    go_wp2_with fail
    refine (civil_in (r + 3652059 - 719162) _ HT1.out (by omega) (by omega)).mono ?_
    rintro e w' ⟨y, m, d, rfl, rfl, hc⟩
    have HC : Hid (Civ (r + 3652059 - 719162) y m d) := hc
    obtain ⟨y0, y1, m0, m1, d0, d1⟩ := civ_in hc
    clear hc
    go_wp2
    refine bodyPost_ret (v := .agg #[.int .i16 y, .int .i8 m, .int .i8 d, .int .i8 (o.h % 24), .int .i8 (o.mi % 60), .int .i8 (o.s % 60), .int .i16 z]) (by simp [results, Tryd.results11, go_sem]) rfl ⟨⟨y, m, d, o.h % 24, o.mi % 60, o.s % 60, z⟩, rfl, HM.out _ _ _ _ HC.out, rfl, ((Below.refl _ _).alloc (Nat.le_refl _) _).alloc (by simp) _⟩
  · go_enter Tryd.func11, Tryd.ntmps11
    go_wp2_with fail
    refine (civil_in (r - 719162) _ HT1.out (by omega) (by omega)).mono ?_
    rintro e w' ⟨y, m, d, rfl, rfl, hc⟩
    have HC : Hid (Civ (r - 719162) y m d) := hc
    obtain ⟨y0, y1, m0, m1, d0, d1⟩ := civ_in hc
    clear hc
    go_wp2
    refine bodyPost_ret (v := .agg #[.int .i16 y, .int .i8 m, .int .i8 d, .int .i8 (o.h % 24), .int .i8 (o.mi % 60), .int .i8 (o.s % 60), .int .i16 z]) (by simp [results, Tryd.results11, go_sem]) rfl ⟨⟨y, m, d, o.h % 24, o.mi % 60, o.s % 60, z⟩, rfl, HM.out _ _ _ _ HC.out, rfl, ((Below.refl _ _).alloc (Nat.le_refl _) _).alloc (by simp) _⟩
end Go.Proofs.YtedfnebadenmdabDoor
