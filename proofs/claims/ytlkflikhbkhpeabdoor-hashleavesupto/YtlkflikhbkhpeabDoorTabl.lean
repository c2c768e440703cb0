/-
  The document's tables, and words out of bytes.
-/
import Derived.Test.YtlkflikhbkhpeabDoorSmall
import Derived.Great.BuildSlice
import Derived.Laws.Cover3
import Derived.Laws.Slices
namespace Go.Proofs.YtlkflikhbkhpeabDoor
open Go.RowKit

/-- A world of which only this much is asked. -/
theorem wpList_gen {P : Program} {ops : Array Oper} {rest : List Oper} {a : Act} {w : World} {Q : Exit → Act → World → Prop} (F : World → Prop) (hF : F w) (h : ∀ w', F w' → wpList P ops Q rest a w') : wpList P ops Q rest a w := h w hF

def kZ : List Int := kL.map fun n : Nat => (n : Int)
def sZ : List Int := sL.map fun n : Nat => (n : Int)
def kCells : Array Value := (kZ.map (Value.int .u64)).toArray
def sCells : Array Value := (sZ.map (Value.int .i64)).toArray
theorem cells_at (k : IntKind) (l : List Int) (i : Nat) (h : i < l.length) : (l.map (Value.int k)).toArray[i]? = some (.int k (l.getD i 0)) := by
  simp [List.getElem?_eq_getElem h]
theorem kCells_at (i : Nat) (h : i < 64) : kCells[i]? = some (.int .u64 ((kk i).toNat : Int)) := by
  have : ∀ j : Fin 64, kZ.getD j.val 0 = ((kk j.val).toNat : Int) := by decide +kernel
  rw [← this ⟨i, h⟩]
  exact cells_at .u64 kZ i h
theorem sCells_at (i : Nat) (h : i < 64) : sCells[i / 16 * 4 + i % 4]? = some (.int .i64 (ss i : Nat)) := by
  have : ∀ j : Fin 64, sZ.getD (j.val / 16 * 4 + j.val % 4) 0 = (ss j.val : Int) := by decide +kernel
  rw [← this ⟨i, h⟩]
  exact cells_at .i64 sZ _ (show _ < 16 by omega)

set_option maxRecDepth 100000 in
theorem table_any (i : Nat) (hi : i < 64) (w : World) : Calls Tryd.prog 26 #[.int .i64 i] w fun e w' => e = .returned (.int .u64 (kk i).toNat) ∧ Below w.heap.size w w' := by
  go_enter Tryd.func26, Tryd.ntmps26
  go_wp2_with (first | (refine wpList_buildFlatArrTo rfl 60 48 64 _ rfl .u64 kZ _ rfl Tryd.underlying60 (by kernel_rfl) (by kernel_rfl) (by kernel_rfl) ?_) | (refine wpList_store_rowTo rfl 60 _ _ rfl rfl w.heap.size kCells rfl rfl 60 _ (Lies.new w _ 60) (by kernel_rfl) (by kernel_rfl) (by kernel_rfl) ?_; refine wpList_gen (fun w' => w'.cell? ⟨w.heap.size, i, none⟩ = some (.int .u64 ((kk i).toNat : Int)) ∧ Hid (Below w.heap.size w w')) ⟨((Lies.new w _ 60).row kCells).cell i |>.trans (kCells_at i hi), below_row ((Below.refl _ _).alloc (Nat.le_refl _) _) (Nat.le_refl _) _⟩ ?_; rintro w2 ⟨hc, HB⟩))
  go_ret
  exact ⟨rfl, HB.out⟩

set_option maxRecDepth 100000 in
theorem rturns_any (i : Nat) (hi : i < 64) (w : World) : Calls Tryd.prog 30 #[.int .i64 i] w fun e w' => e = .returned (.int .i64 (ss i : Nat)) ∧ Below w.heap.size w w' := by
  have HI : Hid (i < 64) := hi
  have h16 : (i : Int) / 16 * 4 + (i : Int) % 4 = ((i / 16 * 4 + i % 4 : Nat) : Int) := by omega
  have hlt : i / 16 * 4 + i % 4 < 16 := by omega
  generalize hj : i / 16 * 4 + i % 4 = j at h16 hlt
  have HJ : Hid (i / 16 * 4 + i % 4 = j) := hj
  clear hj
  go_enter Tryd.func30, Tryd.ntmps30
  go_wp2_with (first | (refine wpList_buildFlatArrTo rfl 61 3 16 _ rfl .i64 sZ _ rfl Tryd.underlying61 (by kernel_rfl) (by kernel_rfl) (by kernel_rfl) ?_) | (refine wpList_store_rowTo rfl 61 _ _ rfl rfl w.heap.size sCells rfl rfl 61 _ (Lies.new w _ 61) (by kernel_rfl) (by kernel_rfl) (by kernel_rfl) ?_; refine wpList_gen (fun w' => w'.cell? ⟨w.heap.size, j, none⟩ = some (.int .i64 (ss i : Nat)) ∧ Hid (Below w.heap.size w w')) ⟨((Lies.new w _ 61).row sCells).cell j |>.trans (by rw [← HJ.out]; exact sCells_at i HI.out), below_row ((Below.refl _ _).alloc (Nat.le_refl _) _) (Nat.le_refl _) _⟩ ?_; rintro w2 ⟨hc, HB⟩))
  go_ret
  exact ⟨rfl, HB.out⟩

/-! Bytes in memory. -/
/-- The bytes l lie in block g from place o on. -/
def RowL (l : List UInt8) (g o : Nat) (w : World) : Prop := ∀ j, (h : j < l.length) → w.cell? ⟨g, o + j, none⟩ = some (.int .u8 (l[j].toNat : Int))
/-- A list's address and what lies there. -/
def Bts (a : Option Addr) (l : List UInt8) (w : World) : Prop := l = [] ∨ ∃ g o, a = some ⟨g, o, none⟩ ∧ g < w.heap.size ∧ RowL l g o w

theorem Bts.below {a : Option Addr} {l : List UInt8} {w w' : World} (h : Bts a l w) (hb : Below w.heap.size w w') : Bts a l w' := by
  rcases h with h | ⟨g, o, e, hg, hr⟩
  · exact .inl h
  · exact .inr ⟨g, o, e, Nat.lt_of_lt_of_le hg hb.size, fun j hj => (hb.cell (p := ⟨g, o + j, none⟩) hg).trans (hr j hj)⟩
theorem Bts.belowB {a : Option Addr} {l : List UInt8} {B : Nat} {w w' : World} (h : Bts a l w) (hB : w.heap.size ≤ B) (hb : Below B w w') : Bts a l w' := h.below (hb.mono hB)
theorem Bts.nil (a : Option Addr) (w : World) : Bts a [] w := .inl rfl
theorem Bts.cell {a : Option Addr} {l : List UInt8} {w : World} (h : Bts a l w) (k : Nat) (hk : k < l.length) : ∃ g o, a = some ⟨g, o, none⟩ ∧ g < w.heap.size ∧ w.cell? ⟨g, o + k, none⟩ = some (.int .u8 (l[k].toNat : Int)) := by
  rcases h with rfl | ⟨g, o, e, hg, hr⟩
  · simp at hk
  · exact ⟨g, o, e, hg, hr k hk⟩

/-- The highest k bytes of a word. -/
def wpart (l : List UInt8) (p : Nat) : Nat → Nat
  | 0 => 0
  | k + 1 => 256 * wpart l p k + (l.getD (p + (3 - k)) 0).toNat
theorem wpart_four (l : List UInt8) (p : Nat) : wpart l p 4 = wdN l p := by
  show 256 * (256 * (256 * (256 * 0 + (l.getD (p + 3) 0).toNat) + (l.getD (p + 2) 0).toNat) + (l.getD (p + 1) 0).toNat) + (l.getD p 0).toNat = _
  unfold wdN
  omega
theorem wpart_lt (l : List UInt8) (p : Nat) : ∀ k, wpart l p k < 256 ^ k
  | 0 => by simp [wpart]
  | k + 1 => by
    have h1 := wpart_lt l p k
    have h2 := (l.getD (p + (3 - k)) 0).toNat_lt
    show 256 * wpart l p k + _ < _
    rw [Nat.pow_succ]
    omega

theorem rword_any (a : Option Addr) (l : List UInt8) (cap p : Nat) (w : World) (h : Bts a l w) (hp : p + 4 ≤ l.length) (hl : l.length ≤ maxLen) :
    Calls Tryd.prog 27 #[.slice a l.length cap, .int .i64 p] w fun e w' => e = .returned (.int .u64 (wd l p).toNat) ∧ w' = w := by
  have HH : Hid (Bts a l w) := h
  unfold maxLen at hl
  clear h
  go_enter Tryd.func27, Tryd.ntmps27
  go_wp2_with fail
  go_loop [5, 6] (fun x i => ∃ (k y : Nat), k ≤ 4 ∧ i = .int .i64 ((3 : Int) - (k : Int)) ∧ x = .int .u64 (y : Int) ∧ y < 4294967296 ∧ Hid (y = wpart l p k)) (fun _ i => ((intOf i) + 1).toNat)
  case atStart => exact ⟨0, 0, by omega, rfl, rfl, by omega, rfl⟩
  case round =>
    obtain ⟨k, y, hk, rfl, rfl, hy, HY⟩ := hrel
    by_cases hlt : k < 4
    · obtain ⟨g, o, rfl, hg, hr⟩ := HH.out.cell (p + (3 - k)) (by omega)
      have hb := l[p + (3 - k)].toNat_lt
      generalize hz : (l[p + (3 - k)]'(by omega)).toNat = z at hr hb
      have HZ : Hid ((l.getD (p + (3 - k)) 0).toNat = z) := by
        show _ = _
        rw [← hz, List.getD_eq_getElem?_getD, List.getElem?_eq_getElem (by omega)]
        rfl
      clear hz
      have hq : y < 16777216 := by
        have h1 := wpart_lt l p k
        rw [← HY.out] at h1
        have : 256 ^ k ≤ 256 ^ 3 := Nat.pow_le_pow_right (by omega) (by omega)
        omega
      have he : (p : Int) + (3 - (k : Int)) = ((p + (3 - k) : Nat) : Int) := by omega
      have hpl : p + (3 - k) < l.length := by omega
      generalize p + (3 - k) = t at hr HZ he hpl
      go_wp2
      go_round
      case rel =>
        refine ⟨k + 1, 256 * y + z, by omega, by congr 1; omega, by congr 1, by omega, ?_⟩
        show _ = 256 * wpart l p k + _
        rw [← HY.out]
        rw [show p + (3 - k) = t by omega, HZ.out]
      case measure => simp [intOf]; omega
    · obtain rfl : k = 4 := by omega
      go_wp2
      go_ret
      exact ⟨ret_u64 (by rw [HY.out, wpart_four, wd_toNat]), rfl⟩

/-! The program's words. -/
/-- Four bytes as a value. -/
theorem wd_spelt (a b c d : UInt8) : bits .or .u32 (bits .or .u32 (bits .or .u32 (a.toNat : Int) ((b.toNat : Int) * 256)) ((c.toNat : Int) * 65536)) ((d.toNat : Int) * 16777216) = ((a.toNat + 256 * (b.toNat + 256 * (c.toNat + 256 * d.toNat)) : Nat) : Int) := by
  have ha := a.toNat_lt
  have hb := b.toNat_lt
  have hc := c.toNat_lt
  have hd := d.toNat_lt
  have o1 : a.toNat ||| b.toNat * 256 = a.toNat + b.toNat * 256 := by
    have := Nat.two_pow_add_eq_or_of_lt (i := 8) (b := a.toNat) (by omega) b.toNat
    rw [show (2 : Nat) ^ 8 = 256 from rfl] at this
    rw [Nat.or_comm, Nat.mul_comm b.toNat 256]
    omega
  have o2 : a.toNat + b.toNat * 256 ||| c.toNat * 65536 = a.toNat + b.toNat * 256 + c.toNat * 65536 := by
    have := Nat.two_pow_add_eq_or_of_lt (i := 16) (b := a.toNat + b.toNat * 256) (by omega) c.toNat
    rw [show (2 : Nat) ^ 16 = 65536 from rfl] at this
    rw [Nat.or_comm, Nat.mul_comm c.toNat 65536]
    omega
  have o3 : a.toNat + b.toNat * 256 + c.toNat * 65536 ||| d.toNat * 16777216 = a.toNat + b.toNat * 256 + c.toNat * 65536 + d.toNat * 16777216 := by
    have := Nat.two_pow_add_eq_or_of_lt (i := 24) (b := a.toNat + b.toNat * 256 + c.toNat * 65536) (by omega) d.toNat
    rw [show (2 : Nat) ^ 24 = 16777216 from rfl] at this
    rw [Nat.or_comm, Nat.mul_comm d.toNat 16777216]
    omega
  have e1 := u32_or_nat a.toNat (b.toNat * 256) (by omega) (by omega)
  have e2 := u32_or_nat (a.toNat + b.toNat * 256) (c.toNat * 65536) (by omega) (by omega)
  have e3 := u32_or_nat (a.toNat + b.toNat * 256 + c.toNat * 65536) (d.toNat * 16777216) (by omega) (by omega)
  rw [show ((b.toNat : Int) * 256) = ((b.toNat * 256 : Nat) : Int) by omega, show ((c.toNat : Int) * 65536) = ((c.toNat * 65536 : Nat) : Int) by omega, show ((d.toNat : Int) * 16777216) = ((d.toNat * 16777216 : Nat) : Int) by omega, e1, o1, e2, o2, e3, o3]
  omega

theorem word_any (a b c d : UInt8) (w : World) : Calls Tryd.prog 39 #[.agg #[.int .u8 a.toNat, .int .u8 b.toNat, .int .u8 c.toNat, .int .u8 d.toNat]] w fun e w' => e = .returned (.int .u32 ((a.toNat + 256 * (b.toNat + 256 * (c.toNat + 256 * d.toNat)) : Nat) : Int)) ∧ Below w.heap.size w w' := by
  have ha := a.toNat_lt
  have hb := b.toNat_lt
  have hc := c.toNat_lt
  have hd := d.toNat_lt
  have HE := wd_spelt a b c d
  have HE' : Hid _ := HE
  clear HE
  go_enter Tryd.func39, Tryd.ntmps39
  go_wp2
  go_ret
  exact ⟨ret_u32 HE'.out, (Below.refl _ _).alloc (Nat.le_refl _) _⟩

/-- Bytes as cells. -/
def cellsB (l : List UInt8) : List Value := l.map fun b => Value.int .u8 (b.toNat : Int)
theorem cellsB_length (l : List UInt8) : (cellsB l).length = l.length := by simp [cellsB]
theorem cellsB_append (l r : List UInt8) : cellsB (l ++ r) = cellsB l ++ cellsB r := by simp [cellsB]
theorem cellsB_at (l : List UInt8) (j : Nat) (h : j < l.length) : (cellsB l)[j]? = some (.int .u8 (l[j].toNat : Int)) := by simp [cellsB, List.getElem?_eq_getElem h]
theorem cellsB_one (l : List UInt8) : ∀ v ∈ cellsB l, v.oneCell' = true := by
  intro v hv
  simp only [cellsB, List.mem_map] at hv
  obtain ⟨b, _, rfl⟩ := hv
  rfl
/-- Bytes as an array. -/
def rowV (l : List UInt8) : Array Value := (cellsB l).toArray
theorem rowV_size (l : List UInt8) : (rowV l).size = l.length := by simp [rowV, cellsB]
theorem rowV_one (l : List UInt8) : (rowV l).all (·.oneCell') = true := all_oneCell_toArray (cellsB_one l)
theorem rowV_at (l : List UInt8) (j : Nat) (h : j < l.length) : (rowV l)[j]? = some (.int .u8 (l[j].toNat : Int)) := by
  rw [rowV, List.getElem?_toArray, cellsB_at l j h]

/-- Sixteen words as an array. -/
def wdsV (l : List UInt8) : Array Value := ((List.range 16).map fun j => Value.int .u32 ((wd l (4 * j)).toNat : Int)).toArray
theorem wdsV_size (l : List UInt8) : (wdsV l).size = 16 := by simp [wdsV]
theorem wdsV_at (l : List UInt8) (j : Nat) (h : j < 16) : (wdsV l)[j]? = some (.int .u32 ((wd l (4 * j)).toNat : Int)) := by simp [wdsV, h]
theorem wdsV_one (l : List UInt8) : (wdsV l).all (·.oneCell') = true := by
  refine all_oneCell_toArray fun v hv => ?_
  simp only [List.mem_map] at hv
  obtain ⟨b, _, rfl⟩ := hv
  rfl
def zero16 : Array Value := Array.replicate 16 (.int .u32 0)
theorem zero16_spelt : (#[.int .u32 0, .int .u32 0, .int .u32 0, .int .u32 0, .int .u32 0, .int .u32 0, .int .u32 0, .int .u32 0, .int .u32 0, .int .u32 0, .int .u32 0, .int .u32 0, .int .u32 0, .int .u32 0, .int .u32 0, .int .u32 0] : Array Value) = zero16 := rfl
theorem infoW (l : List UInt8) : (Tryd.prog.info? 62).map (·.size) = some (wdsV l).size := by rw [wdsV_size]; kernel_rfl

theorem run_row_lh (w : World) (g o l h : Nat) (x y : Int) (hx : x = (l : Int)) (hy : y = (h : Int)) (h1 : l ≤ h) (h2 : h ≤ 64) (h3 : l < 64) :
    (Instr.sliceAt 38 (.pointer (some ⟨g, o, none⟩)) (some (.int .i64 x)) (some (.int .i64 y)) none).run Tryd.prog w = .ok (.slice (some ⟨g, o + l, none⟩) (h - l) (64 - l)) w := by
  subst hx hy
  have e1 : ((l : Nat) : Int) ≤ (h : Nat) := by omega
  have e2 : ((h : Nat) : Int) ≤ (64 : Nat) := by omega
  have b1 : (Instr.sliceBound (.int .i64 (h : Int)) 64 .sliceAlen).run Tryd.prog w = .ok h w := by
    rw [run_sliceBound _ _ _ _ _ (by omega) e2]
    rfl
  have b2 : (Instr.sliceBound (.int .i64 (l : Int)) h .sliceB).run Tryd.prog w = .ok l w := by
    rw [run_sliceBound _ _ _ _ _ (by omega) e1]
    rfl
  have ne : ¬ 64 = l := by omega
  simp [Instr.sliceAt, Instr.sureAddr, run_underlying Tryd.underlying38, Instr.sliceBounds, b1, b2, ne, Addr.add_mid]

set_option maxRecDepth 100000 in
theorem words_any (l : List UInt8) (hl : l.length = 64) (w : World) : Calls Tryd.prog 36 #[.agg (rowV l)] w fun e w' => e = .returned (.agg (wdsV l)) ∧ Below w.heap.size w w' := by
  have HL : Hid (l.length = 64) := hl
  clear hl
  go_enter Tryd.func36, Tryd.ntmps36
  go_wp2_with fail
  rw [zero16_spelt]
  go_loopw [5] (fun i wr => ∃ (k : Nat) (c : Array Value), k ≤ 16 ∧ i = .int .i64 k ∧ Hid (Lies wr w.heap.size (rowV l) 38) ∧ Hid (Lies wr (w.heap.size + 1) zero16 62) ∧ Hid (Lies wr (w.heap.size + 2) c 62) ∧ Hid (Below w.heap.size w wr) ∧ Hid (Upto k c (wdsV l))) (fun i _ => 16 - (intOf i).toNat)
  case atStart =>
    refine ⟨0, zero16, by omega, rfl, ?_, ?_, ?_, ?_, ?_⟩
    · exact ((Lies.new w (rowV l) 38).alloc _).alloc _
    · exact (new_one w _ _ 62).alloc _
    · exact new_two w _ _ _ 62
    · exact (((Below.refl _ _).alloc (Nat.le_refl _) _).alloc (by simp) _).alloc (by simp; omega) _
    · exact ⟨by rw [wdsV_size]; rfl, fun j h => by omega⟩
  case round =>
    obtain ⟨k, c, hk, rfl, HM, HZ, HC, HB, HU⟩ := hrel
    by_cases hlt : k < 16
    · have hkc : k < c.size := by rw [HU.out.size, wdsV_size]; exact hlt
      have g0 : 4 * k < l.length := by have := HL.out; omega
      have g1 : 4 * k + 1 < l.length := by have := HL.out; omega
      have g2 : 4 * k + 2 < l.length := by have := HL.out; omega
      have g3 : 4 * k + 3 < l.length := by have := HL.out; omega
      have HR : Hid (wr.rangeAt w.heap.size (4 * k) [.int .u8 (l[4 * k].toNat : Int), .int .u8 (l[4 * k + 1].toNat : Int), .int .u8 (l[4 * k + 2].toNat : Int), .int .u8 (l[4 * k + 3].toNat : Int)]) := by
        intro j v hv
        rw [HM.out.cell (4 * k + j)]
        match j, hv with
        | 0, hv => rw [Nat.add_zero, rowV_at l _ g0]; simpa using hv
        | 1, hv => rw [rowV_at l _ g1]; simpa using hv
        | 2, hv => rw [rowV_at l _ g2]; simpa using hv
        | 3, hv => rw [rowV_at l _ g3]; simpa using hv
      have HW : Hid (wdN l (4 * k) = l[4 * k].toNat + 256 * (l[4 * k + 1].toNat + 256 * (l[4 * k + 2].toNat + 256 * l[4 * k + 3].toNat))) := by
        show _ = _
        unfold wdN
        simp only [List.getD_eq_getElem?_getD, List.getElem?_eq_getElem g0, List.getElem?_eq_getElem g1, List.getElem?_eq_getElem g2, List.getElem?_eq_getElem g3, Option.getD_some]
      generalize l[4 * k] = b0 at HR HW
      generalize l[4 * k + 1] = b1 at HR HW
      generalize l[4 * k + 2] = b2 at HR HW
      generalize l[4 * k + 3] = b3 at HR HW
      clear g0 g1 g2 g3
      have hs := run_row_lh wr w.heap.size 0 (4 * k) (4 * k + 4) (4 * (k : Int)) (4 * (k : Int) + 4) (by omega) (by omega) (by omega) (by omega) (by omega)
      have ha := run_arrayAt (P := Tryd.prog) (w := wr) 69 5 4 (some ⟨w.heap.size, 4 * k, none⟩) 4 (64 - 4 * k) Tryd.underlying69 (by omega)
      go_wp2_with (refine wpList_load_mid rfl 69 _ rfl w.heap.size (4 * k) rfl _ _ HR.out Tryd.underlying69 rfl (by kernel_rfl) ?_)
      refine (word_any b0 b1 b2 b3 wr).mono ?_
      rintro e w1 ⟨rfl, hb1⟩
      rw [← HW.out, ← wd_toNat]
      have HB1 : Hid (Below wr.heap.size wr w1) := hb1
      have HC1 : Hid (Lies w1 (w.heap.size + 2) c 62) := HC.out.below hb1 HC.out.lt
      have hcell : w1.cell? ⟨w.heap.size + 2, k, none⟩ = some c[k] := (HC1.out.cell k).trans (Array.getElem?_eq_getElem hkc)
      have hfro := HC1.out.frozen k
      clear hb1 hs ha
      generalize hx : (wd l (4 * k)).toNat = x
      have HX : Hid ((wd l (4 * k)).toNat = x) := hx
      clear hx
      go_wp2
      clear hcell hfro
      go_roundw
      case rel => exact ⟨k + 1, _, by omega, by go_num, (HM.out.below HB1.out HM.out.lt).set_other (by simp; omega) _, (HZ.out.below HB1.out HZ.out.lt).set_other (by simp) _, HC1.out.set k _, (HB.out.trans (HB1.out.mono HB.out.size)).setCell (by simp; omega) _, HU.out.next (by rw [← HX.out]; exact wdsV_at l k hlt)⟩
      case measure => simp [intOf]; omega
    · obtain rfl : k = 16 := by omega
      obtain rfl := HU.out.all (wdsV_size _)
      clear HU
      go_wp2_with (first | (refine wpList_load_row rfl 62 _ rfl _ rfl (wdsV l) 62 _ HC.out Tryd.underlying62 rfl (infoW _) ?_) | (refine wpList_store_row rfl 62 _ _ rfl _ rfl zero16 (wdsV l) rfl 62 HZ.out (infoW _) (by rw [wdsV_size]; rfl) (wdsV_one _) rfl ?_))
      refine bodyPost_ret (v := .agg (wdsV l)) ?_ rfl ⟨rfl, below_row HB.out (by omega) _⟩
      exact results_cell_row rfl _ _ _ 62 _ (0, 0) _ rfl (HZ.out.row (wdsV l)) Tryd.underlying62 rfl (infoW _)
end Go.Proofs.YtlkflikhbkhpeabDoor
