/-
  A reader of paths: its cells; fail, next, need.
-/
import Derived.Test.YthkoionigdnhgabGreatDoorXa9
import Derived.Test.YthkoionigdnhgabGreatDoorGa8
import Derived.WalkSmall
import Derived.Test.YthkoionigdnhgabGreatDoorPureUp
import Derived.Deep.DeepCutAuto
import Derived.Test.YthkoionigdnhgabGreatDoorRowl
import Derived.Test.YthkoionigdnhgabGreatDoorAdQ
import Derived.Lib.Walk
import Derived.Lib.IfaceEq
import Derived.Lib.EndianBits
import Derived.Test.YthkoionigdnhgabGreatDoorDmP
namespace Go.Proofs.YthkoionigdnhgabGreatDoor
open Go.RowKit

def rdC (s : ByteArray) (a : Nat) (wide : Bool) (er p : Nat) : Array Value := #[.string s, .int .i64 (a : Int), .bool wide, .int .i64 (er : Int), .int .i64 (p : Int)]
/-- A reader at a place of a text. -/
structure RdAt (w : World) (b : Nat) (s : ByteArray) (a : Nat) (wide : Bool) (er p : Nat) : Prop where
  lies : Lies w b (rdC s a wide er p) 192
theorem RdAt.lt {w : World} {b : Nat} {s : ByteArray} {a : Nat} {wide : Bool} {er p : Nat} (h : RdAt w b s a wide er p) : b < w.heap.size := h.lies.lt
theorem RdAt.cells {w : World} {b : Nat} {s : ByteArray} {a : Nat} {wide : Bool} {er p : Nat} (h : RdAt w b s a wide er p) : w.cell? ⟨b, 0, none⟩ = some (.string s) ∧ w.cell? ⟨b, 1, none⟩ = some (.int .i64 (a : Int)) ∧ w.cell? ⟨b, 2, none⟩ = some (.bool wide) ∧ w.cell? ⟨b, 3, none⟩ = some (.int .i64 (er : Int)) ∧ w.cell? ⟨b, 4, none⟩ = some (.int .i64 (p : Int)) :=
  ⟨h.lies.cell 0, h.lies.cell 1, h.lies.cell 2, h.lies.cell 3, h.lies.cell 4⟩
theorem RdAt.below {w w' : World} {b : Nat} {s : ByteArray} {a : Nat} {wide : Bool} {er p : Nat} (h : RdAt w b s a wide er p) (hb : Below w.heap.size w w') : RdAt w' b s a wide er p := ⟨h.lies.below hb h.lies.lt⟩
theorem RdAt.go {w : World} {b : Nat} {s : ByteArray} {a : Nat} {wide : Bool} {er p : Nat} (h : RdAt w b s a wide er p) (n : Nat) : RdAt (w.setCell ⟨b, 1, none⟩ (.int .i64 (n : Int))) b s n wide er p := ⟨h.lies.set 1 (.int .i64 (n : Int))⟩
theorem RdAt.fault {w : World} {b : Nat} {s : ByteArray} {a : Nat} {wide : Bool} {er p : Nat} (h : RdAt w b s a wide er p) (e q : Nat) : RdAt ((w.setCell ⟨b, 3, none⟩ (.int .i64 (e : Int))).setCell ⟨b, 4, none⟩ (.int .i64 (q : Int))) b s a wide e q := ⟨(h.lies.set 3 (.int .i64 (e : Int))).set 4 (.int .i64 (q : Int))⟩
theorem RdAt.drew {w : World} {b : Nat} {s : ByteArray} {a : Nat} {wide : Bool} {er p : Nat} (h : RdAt w b s a wide er p) : RdAt w.drew b s a wide er p := ⟨h.lies.drew⟩
theorem But.drew {g : Nat} {a b : World} (h : But g a b) : But g a b.drew := ⟨h.os, h.tape, h.output, h.size, h.block⟩
/-- How a call of a reader that gives up ends. -/
def gaveUp (er : Nat) : Ending := .panicked [{ v := .iface 39 (.int .i64 (er : Int)), recovered := false }]
/-- What a reader's method comes to: a value and a place, or it gives up with a fault. -/
def Come (b : Nat) (s : ByteArray) (wide : Bool) (w : World) (X : Except (Nat × Nat) (Value × Nat)) (e : Ending) (w' : World) : Prop :=
  But b w w' ∧ match X with
    | .ok (v, n) => e = .returned v ∧ RdAt w' b s n wide 0 0
    | .error (er, p) => e = gaveUp er ∧ ∃ a, RdAt w' b s a wide er p

end Go.Proofs.YthkoionigdnhgabGreatDoor
/-
  The contracts of the library's ParseUint to the base sixteen, of a text of at most four digits; of domain's group.
-/
namespace Go.Proofs.YthkoionigdnhgabGreatDoor
open Go.RowKit

/-- A text's bytes in a row that the call made. -/
structure ByRow (s : ByteArray) (B : Nat) (w wr : World) : Prop where
  cell : ∀ j, (h : j < s.size) → wr.cell? ⟨B, j, none⟩ = some (.int .u8 (s[j].toNat : Int))
  below : Below B w wr
theorem ByRow.start (s : ByteArray) (w : World) (cap : Nat) (n : Nat) (hn : n = (bytesRow s cap).size) : ByRow s w.heap.size w (w.alloc (.cells (bytesRow s cap) 5 (n, n + 1))).drew := by
  refine ⟨fun j hj => ?_, (UpRel.start s w cap n hn).below⟩
  have := World.cell?_alloc_mark w (bytesRow s cap) 5 (n, n + 1) j
  rw [bytesRow_at s cap j hj] at this
  exact this
end Go.Proofs.YthkoionigdnhgabGreatDoor
/-
  The contract of domain.V6.
-/
namespace Go.Proofs.YthkoionigdnhgabGreatDoor
open Go.RowKit

def zero16 : List Nat := List.replicate 16 0
/-- The blocks of V6: the text, its two results, the groups, the place. -/
structure V6S (w : World) (s : ByteArray) (g : Gs) (k : Nat) (wr : World) : Prop where
  t : Lies wr w.heap.size #[.string s] 9
  r1 : Lies wr (w.heap.size + 1) (bytesV zero16) 25
  r2 : Lies wr (w.heap.size + 2) #[.int .i64 0, .int .i64 0] 41
  gr : GrAt wr (w.heap.size + 3) g
  pl : Lies wr (w.heap.size + 4) #[.int .i64 (k : Nat)] 3
  below : Below w.heap.size w wr
theorem V6S.later {w wr wx : World} {s : ByteArray} {g : Gs} {k : Nat} (h : V6S w s g k wr) (hb : Below wr.heap.size wr wx) : V6S w s g k wx :=
  ⟨h.t.below hb h.t.lt, h.r1.below hb h.r1.lt, h.r2.below hb h.r2.lt, h.gr.below hb, h.pl.below hb h.pl.lt, h.below.trans (hb.mono (Nat.le_of_lt h.t.lt))⟩
/-- V6's answer, laid into its blocks. -/
theorem V6S.ret {w wr : World} {s : ByteArray} {g : Gs} {k : Nat} (h : V6S w s g k wr) (cs ds : Array Value) (R : Ending → World → Prop) (tmps : Array Value) (hp : tmps.getD 2 undef = .pointer (some ⟨w.heap.size + 1, 0, none⟩)) (hq : tmps.getD 3 undef = .pointer (some ⟨w.heap.size + 2, 0, none⟩)) (hc : cs.size = 16) (hd : ds.size = 2)
    (hR : R (.returned (.tuple #[.agg cs, .agg ds])) ((wr.setRow (w.heap.size + 1) cs).setRow (w.heap.size + 2) ds)) : bodyPost Tryz.prog Tryz.f139 R .ret { tmps := tmps, defers := [] } ((wr.setRow (w.heap.size + 1) cs).setRow (w.heap.size + 2) ds) :=
  bodyPost_ret (results_two (p := 2) (q := 3) (by kernel_rfl) tmps _ (w.heap.size + 1) (w.heap.size + 2) 25 41 cs ds (0, 0) (0, 0) _ _ hp hq ((h.r1.row cs).row_other (by omega) ds) ((h.r2.row_other (by omega) cs).row ds) Tryz.underlying25 rfl (by rw [hc]; exact info16) Tryz.underlying41 rfl (by rw [hd]; exact infoSp)) rfl hR
end Go.Proofs.YthkoionigdnhgabGreatDoor
/-
  The contracts of domain.zeros, width and cut.
-/
namespace Go.Proofs.YthkoionigdnhgabGreatDoor
open Go.RowKit

def strsV (L : List (List UInt8)) : Array Value := (L.map fun x => Value.string ⟨x.toArray⟩).toArray
theorem info8s : (Tryz.prog.info? 204).map (·.size) = some 8 := by kernel_rfl
theorem strsV_at (L : List (List UInt8)) (k : Nat) (hk : k < L.length) : (strsV L)[k]? = some (.string ⟨(L[k]).toArray⟩) := by
  simp [strsV, List.getElem?_eq_getElem hk]
theorem strsV_size (L : List (List UInt8)) : (strsV L).size = L.length := by simp [strsV]
theorem run_index_strs (L : List (List UInt8)) (hl : L.length = 8) (k : Nat) (hk : k < L.length) (w : World) : (Instr.index 204 (.agg (strsV L)) (.int .i64 (k : Int))).run Tryz.prog w = .ok (.string ⟨(L[k]).toArray⟩) w := by
  have h9 : (Tryz.prog.info? 9).map (·.size) = some 1 := by kernel_rfl
  cases hq : Tryz.prog.info? 9 with
  | none => simp [hq] at h9
  | some i =>
    have hs : i.size = 1 := by simpa [hq] using h9
    have hat := strsV_at L k hk
    simp [Instr.index, asIntOf, run_underlying Tryz.underlying204, run_underlying Tryz.underlying9, sizeOf, typeInfo, hq, hs, part, isAgg, hat]
    intro h
    omega
theorem zrGo_step (i b f t : Nat) (x : List UInt8) (r : List (List UInt8)) (b' : Nat) (hb : b' = if x ≠ [48] then i + 1 else b) : zrGo i b f t (x :: r) = if i + 1 - b' > t - f then zrGo (i + 1) b' b' (i + 1) r else zrGo (i + 1) b' f t r := by
  rw [zrGo, ← hb]
set_option maxHeartbeats 2000000 in
set_option maxRecDepth 100000 in
theorem zeros_any (L : List (List UInt8)) (hL : L.length = 8) (w : World) : Calls Tryz.prog 154 #[.agg (strsV L)] w fun e w' => e = .returned (.tuple #[.int .i64 ((zeros L).1 : Nat), .int .i64 ((zeros L).2 : Nat)]) ∧ Below w.heap.size w w' := by
  have HL : Hid (L.length = 8) := hL
  have hsz : (strsV L).size = 8 := by rw [strsV_size, hL]
  have HA : Hid (Lies (w.alloc (.cells (strsV L) 204)) w.heap.size (strsV L) 204) := Lies.new w _ _
  have HB : Hid (Below w.heap.size w (w.alloc (.cells (strsV L) 204))) := (Below.refl _ _).alloc (Nat.le_refl _) _
  have hix := run_index_strs L hL
  clear hL
  generalize hV : strsV L = V at hsz HA HB hix ⊢
  go_enter Tryz.func154, Tryz.ntmps154
  go_wp2_with (refine wpList_load_row rfl 204 _ rfl w.heap.size rfl V 204 _ HA.out Tryz.underlying204 rfl (by rw [hsz]; exact info8s) ?_)
  go_loop [2, 3, 4, 8] (fun cf ct cb ci => ∃ f t b i : Nat, i ≤ 8 ∧ b ≤ i ∧ f ≤ t ∧ t ≤ i ∧ cf = .int .i64 f ∧ ct = .int .i64 t ∧ cb = .int .i64 b ∧ ci = .int .i64 i ∧ Hid (zeros L = zrGo i b f t (L.drop i))) (fun _ _ _ ci => 8 - (intOf ci).toNat)
  case atStart => exact ⟨0, 0, 0, 0, by omega, by omega, by omega, by omega, rfl, rfl, rfl, rfl, rfl⟩
  case round =>
    obtain ⟨f, t, b, i, hi, hb, hft, hti, rfl, rfl, rfl, rfl, HZ⟩ := hrel
    by_cases hlt : i < 8
    · have hil : i < L.length := by rw [HL.out]; exact hlt
      have hx := hix i hil
      have hd : L.drop i = L[i] :: L.drop (i + 1) := List.drop_eq_getElem_cons hil
      rw [hd] at HZ
      generalize L[i] = x at hx HZ
      clear hix hd
      have hlt' : (i : Int) < 8 := by omega
      by_cases h48 : x = [48]
      · have HZ2 : Hid (zeros L = if i + 1 - b > t - f then zrGo (i + 1) b b (i + 1) (L.drop (i + 1)) else zrGo (i + 1) b f t (L.drop (i + 1))) := by
          show _ = _
          rw [HZ.out, zrGo_step i b f t x _ b (by rw [if_neg (by simp [h48])])]
        have hne : (x == [48]) = true := by rw [h48]; rfl
        clear HZ h48
        by_cases hgt : i + 1 - b > t - f
        · have HZ3 : Hid (zeros L = zrGo (i + 1) b b (i + 1) (L.drop (i + 1))) := by
            show _ = _
            rw [HZ2.out, if_pos hgt]
          have hgt' : (t : Int) - (f : Int) < (i : Int) + 1 - (b : Int) := by omega
          clear HZ2 hgt
          go_wp2_with fail
          go_round
          case rel => exact ⟨b, i + 1, b, i + 1, by omega, by omega, by omega, by omega, rfl, by go_num, rfl, by go_num, HZ3⟩
          case measure => simp [intOf]; omega
        · have HZ3 : Hid (zeros L = zrGo (i + 1) b f t (L.drop (i + 1))) := by
            show _ = _
            rw [HZ2.out, if_neg hgt]
          have hgt' : ¬ (t : Int) - (f : Int) < (i : Int) + 1 - (b : Int) := by omega
          clear HZ2 hgt
          go_wp2_with fail
          go_round
          case rel => exact ⟨f, t, b, i + 1, by omega, by omega, by omega, by omega, rfl, rfl, rfl, by go_num, HZ3⟩
          case measure => simp [intOf]; omega
      · have HZ2 : Hid (zeros L = if i + 1 - (i + 1) > t - f then zrGo (i + 1) (i + 1) (i + 1) (i + 1) (L.drop (i + 1)) else zrGo (i + 1) (i + 1) f t (L.drop (i + 1))) := by
          show _ = _
          rw [HZ.out, zrGo_step i b f t x _ (i + 1) (by rw [if_pos h48])]
        have HZ3 : Hid (zeros L = zrGo (i + 1) (i + 1) f t (L.drop (i + 1))) := by
          show _ = _
          rw [HZ2.out, if_neg (by omega)]
        have hne : (x == [48]) = false := by rw [beq_eq_false_iff_ne]; exact h48
        clear HZ h48 HZ2
        have hgt' : ¬ (t : Int) - (f : Int) < (i : Int) + 1 - ((i : Int) + 1) := by omega
        go_wp2_with fail
        go_round
        case rel => exact ⟨f, t, i + 1, i + 1, by omega, by omega, by omega, by omega, rfl, rfl, by go_num, by go_num, HZ3⟩
        case measure => simp [intOf]; omega
    · have HN : Hid (zeros L = (f, t)) := by
        show _ = _
        rw [HZ.out, List.drop_eq_nil_of_le (by rw [HL.out]; omega)]
        rfl
      have hlt' : ¬ (i : Int) < 8 := by omega
      clear HZ
      go_wp2_with fail
      refine bodyPost_ret (v := .tuple #[.int .i64 (f : Int), .int .i64 (t : Int)]) (by simp [results, Tryz.results154, go_sem]) rfl ⟨by rw [HN.out], HB.out⟩

end Go.Proofs.YthkoionigdnhgabGreatDoor
