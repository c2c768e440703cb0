/-
  The library's contracts on digits, laid at this program.
-/
import Derived.Shelf.Strconv.Itoa0
import Derived.Shelf.Strconv.Itoa1
import Derived.Shelf.LaysM
import Derived.Shelf.Strconv.Itoa2
import Derived.Shelf.Strconv.Itoa3
import Derived.Shelf.Small.Bits
import Derived.Test.YtnlgbopdbihnjaaGreatDoorProg
import Derived.Lib.Walk
import Derived.Lib.ItoaMem
import Derived.Lib.AppendIntMem
import Derived.WalkKit
import Derived.BigCall
import Derived.BigGuard
import Derived.Laws.IdiomStrings
import Derived.Below
import Derived.Test.YtnlgbopdbihnjaaGreatDoorWd8
import Derived.Test.YtnlgbopdbihnjaaGreatDoorDmP
import Derived.Test.YtnlgbopdbihnjaaGreatDoorShs
namespace Go.Proofs

def Tryz.lays283_ren : Go.Shelf.Ren := ⟨fun | 283 => 116 | n => n, fun | 3 => 3 | 9 => 9 | 4 => 4 | n => n, fun | n => n⟩
theorem Tryz.lays283 : Go.Proofs.Lays.n283 Tryz.prog Tryz.lays283_ren := {
  mixed := by kernel_rfl
  f283 := Tryz.func116.trans (congrArg some (by kernel_rfl))
  t3 := Tryz.underlying3
  a3 := Tryz.isAgg3
  z3 := Tryz.sizeOf3
  v3 := Tryz.zeroValue3
  t4 := Tryz.underlying4
  a4 := Tryz.isAgg4
  z4 := Tryz.sizeOf4
  v4 := Tryz.zeroValue4
  t9 := Tryz.underlying9
  a9 := Tryz.isAgg9
  z9 := Tryz.sizeOf9
  v9 := Tryz.zeroValue9 }
open Go.Lib in
theorem Tryz.internal_strconv_small (i : Nat) (h : i < 100) (w : World) :
    Calls Tryz.prog 116 #[.int .i64 i] w fun e w' => e = .returned (.string ⟨(Lib.decDigits i).toArray⟩) ∧ w' = w := Any.internal_strconv_small Tryz.lays283 i h w
def Tryz.laysM284_ren : Go.Shelf.Ren := ⟨fun | 284 => 117 | 129 => 148 | 317 => 147 | 318 => 149 | n => n, fun | 53 => 74 | 3 => 3 | 212 => 175 | 0 => 0 | 4 => 4 | 46 => 70 | 5 => 5 | 9 => 9 | n => n, fun | 17 => 2 | n => n⟩
theorem Tryz.laysM284 : Go.Proofs.LaysM.n284 Tryz.prog Tryz.laysM284_ren := {
  mixed := by kernel_rfl
  f129 := Tryz.func148.trans (congrArg some (by kernel_rfl))
  f284 := Tryz.func117.trans (congrArg some (by kernel_rfl))
  f317 := Tryz.func147.trans (congrArg some (by kernel_rfl))
  f318 := Tryz.func149.trans (congrArg some (by kernel_rfl))
  t0 := Tryz.underlying0
  a0 := Tryz.isAgg0
  z0 := Tryz.sizeOf0
  v0 := Tryz.zeroValue0
  t3 := Tryz.underlying3
  a3 := Tryz.isAgg3
  z3 := Tryz.sizeOf3
  v3 := Tryz.zeroValue3
  t4 := Tryz.underlying4
  a4 := Tryz.isAgg4
  z4 := Tryz.sizeOf4
  v4 := Tryz.zeroValue4
  t5 := Tryz.underlying5
  a5 := Tryz.isAgg5
  z5 := Tryz.sizeOf5
  v5 := Tryz.zeroValue5
  t9 := Tryz.underlying9
  a9 := Tryz.isAgg9
  z9 := Tryz.sizeOf9
  v9 := Tryz.zeroValue9
  t46 := Tryz.underlying70
  a46 := Tryz.isAgg70
  z46 := Tryz.sizeOf70
  v46 := Tryz.zeroValue70
  t53 := Tryz.underlying74
  a53 := Tryz.isAgg74
  z53 := Tryz.sizeOf74
  v53 := Tryz.zeroValue74
  t212 := Tryz.underlying175
  a212 := Tryz.isAgg175
  z212 := Tryz.sizeOf175
  v212 := Tryz.zeroValue175
  g17 := by kernel_rfl
  i0 := by kernel_rfl
  i3 := by kernel_rfl
  i4 := by kernel_rfl
  i5 := by kernel_rfl
  i9 := by kernel_rfl
  i46 := by kernel_rfl
  i53 := by kernel_rfl
  i212 := by kernel_rfl
  m17 := by kernel_rfl }
open Go.Lib in
theorem Tryz.internal_strconv_numDigits (u : Nat) (h1 : 1 ≤ u) (h2 : u < 18446744073709551616) (w : World) (htab : Lib.TabIs Tryz.prog w "internal/strconv.uint64pow10" .u64 Lib.pow10Tab) :
    Calls Tryz.prog 117 #[.int .u64 u] w fun e w' => e = .returned (.int .i64 (Lib.nDigits u)) ∧ w' = w := Any.internal_strconv_numDigits Tryz.laysM284 u h1 h2 w htab
def Tryz.lays285_ren : Go.Shelf.Ren := ⟨fun | 285 => 118 | n => n, fun | 37 => 88 | 53 => 74 | 3 => 3 | 4 => 4 | 51 => 176 | 9 => 9 | 5 => 5 | 0 => 0 | n => n, fun | n => n⟩
theorem Tryz.lays285 : Go.Proofs.Lays.n285 Tryz.prog Tryz.lays285_ren := {
  mixed := by kernel_rfl
  f285 := Tryz.func118.trans (congrArg some (by kernel_rfl))
  t0 := Tryz.underlying0
  a0 := Tryz.isAgg0
  z0 := Tryz.sizeOf0
  v0 := Tryz.zeroValue0
  t3 := Tryz.underlying3
  a3 := Tryz.isAgg3
  z3 := Tryz.sizeOf3
  v3 := Tryz.zeroValue3
  t4 := Tryz.underlying4
  a4 := Tryz.isAgg4
  z4 := Tryz.sizeOf4
  v4 := Tryz.zeroValue4
  t5 := Tryz.underlying5
  a5 := Tryz.isAgg5
  z5 := Tryz.sizeOf5
  v5 := Tryz.zeroValue5
  t9 := Tryz.underlying9
  a9 := Tryz.isAgg9
  z9 := Tryz.sizeOf9
  v9 := Tryz.zeroValue9
  t37 := Tryz.underlying88
  a37 := Tryz.isAgg88
  z37 := Tryz.sizeOf88
  v37 := Tryz.zeroValue88
  t51 := Tryz.underlying176
  a51 := Tryz.isAgg176
  z51 := Tryz.sizeOf176
  v51 := Tryz.zeroValue176
  t53 := Tryz.underlying74
  a53 := Tryz.isAgg74
  z53 := Tryz.sizeOf74
  v53 := Tryz.zeroValue74 }
open Go.RowKit Go.Sort Go.Lib in
theorem Tryz.internal_strconv_formatBase10 (blk off cap : Nat) (u : Nat) (d : Array UInt8) (w : World) (hH : Holds (fun (b : UInt8) => Value.int .u8 (b.toNat : Int)) w blk off d) (hu : u < 10 ^ d.size) (hu64 : u < 18446744073709551616) (hsz : d.size < 4611686018427387904) :
    Calls Tryz.prog 118 #[.slice (some ⟨blk, off, none⟩) d.size cap, .int .u64 u] w fun e w' =>
      e = .returned (.tuple #[]) ∧ ∃ (n v' : Nat) (dk : Array UInt8), w' = (putRow (fun (b : UInt8) => Value.int .u8 (b.toNat : Int)) w blk off dk).drewN n ∧ FmtInv d.size u 0 v' dk := Any.internal_strconv_formatBase10 Tryz.lays285 blk off cap u d w hH hu hu64 hsz
end Go.Proofs
/-
  The contract of octet.Decimal: for every number of 64 bits it answers the number's digits, and nothing old has turned.
-/
namespace Go.Proofs.YtnlgbopdbihnjaaGreatDoor
open Go.RowKit Go.Sort Go.Lib

/-- The table of powers that the library reads. -/
def PowTab (w : World) : Prop := Lib.TabIs Tryz.prog w "internal/strconv.uint64pow10" .u64 Lib.pow10Tab

set_option maxHeartbeats 6400000 in
set_option maxRecDepth 100000 in
theorem ifmt_small (u : Nat) (hu : u < 100) (w : World) :
    Calls Tryz.prog 87 #[.int .u64 (u : Int), .int .i64 10] w fun e w' => e = .returned (.string ⟨(Lib.decDigits u).toArray⟩) ∧ Below w.heap.size w w' := by
  go_enter Tryz.func87, Tryz.ntmps87
  go_wp2_with (go_at_call 116; refine (Tryz.internal_strconv_small u hu _).mono ?_; rintro e w' ⟨rfl, rfl⟩)
  go_ret
  exact ⟨rfl, Below.refl _ _⟩

set_option maxHeartbeats 6400000 in
set_option maxRecDepth 100000 in
theorem ifmt_big (u : Nat) (hu : 100 ≤ u) (hu64 : u < 18446744073709551616) (w : World) (htab : PowTab w) :
    Calls Tryz.prog 87 #[.int .u64 (u : Int), .int .i64 10] w fun e w' => e = .returned (.string ⟨(Lib.decDigits u).toArray⟩) ∧ Below w.heap.size w w' := by
  have hu1 : 1 ≤ u := by omega
  have hnd20 : Lib.nDigits u ≤ 20 := by have := Lib.numDigits_eq u hu1 hu64; split at this <;> omega
  have hal : Tryz.prog.arrayLen 146 = 24 := by simp [Program.arrayLen, Tryz.underlying146]
  have hsl : ∀ W, (Instr.sliceAt 146 (.pointer (some ⟨w.heap.size, 0, none⟩)) none (some (.int .i64 (Lib.nDigits u : Int))) none).run Tryz.prog W = .ok (.slice (some ⟨w.heap.size, 0, none⟩) (Lib.nDigits u) 24) W := fun W => by
    rw [run_sliceAt_array_h W 146 ⟨w.heap.size, 0, none⟩ (by simp [Program.arrayLen, Program.elem, Tryz.underlying146]) .i64 (Lib.nDigits u : Int) (by omega) (by rw [hal]; omega)]
    go_simp
  have hH0 := Lib.holds_zero0 w 146 (Lib.nDigits u) (by omega)
  have hfmt := Tryz.internal_strconv_formatBase10 w.heap.size 0 24 u (Array.replicate (Lib.nDigits u) 0) (w.alloc (.cells Lib.zeros24 146)) hH0 (by rw [Array.size_replicate]; exact Lib.lt_pow_nDigits u) hu64 (by rw [Array.size_replicate]; omega)
  rw [Array.size_replicate] at hfmt
  have HH0 := Lib.hid hH0
  have iu : (100 : Int) ≤ (u : Int) := by omega
  clear hH0 hal
  have HTAB : Hid (PowTab w) := htab
  clear htab
  go_enter Tryz.func87, Tryz.ntmps87
  go_wp2_with (go_at_call 117; refine (Tryz.internal_strconv_numDigits u hu1 hu64 _ (Lib.tabIs_alloc HTAB.out _)).mono ?_; rintro e w' ⟨rfl, rfl⟩)
  refine hfmt.mono ?_
  rintro e w' ⟨rfl, k, v', dk, rfl, hF⟩
  have hcv : (convert 88 9 (.slice (some ⟨w.heap.size, 0, none⟩) (Lib.nDigits u) 24)).run Tryz.prog ((putRow (fun (b : UInt8) => Value.int .u8 (b.toNat : Int)) (w.alloc (.cells Lib.zeros24 146)) w.heap.size 0 dk).drewN k) = .ok (.string ⟨(Lib.decDigits u).toArray⟩) ((putRow (fun (b : UInt8) => Value.int .u8 (b.toNat : Int)) (w.alloc (.cells Lib.zeros24 146)) w.heap.size 0 dk).drewN k) := by
    have h := run_convert_bytes_back (P := Tryz.prog) ((putRow (fun (b : UInt8) => Value.int .u8 (b.toNat : Int)) (w.alloc (.cells Lib.zeros24 146)) w.heap.size 0 dk).drewN k) 88 9 5 ⟨w.heap.size, 0, none⟩ 24 (Lib.decDigits u) Tryz.underlying88 Tryz.underlying5 Tryz.underlying9 (fun j hj => by
      rw [Lib.row_is_numeral hF j hj, Lib.add_plain, World.cell?_drewN]
      exact cell?_putRow (fun (b : UInt8) => Value.int .u8 (b.toNat : Int)) _ w.heap.size 0 _ dk HH0.out (by rw [hF.size, Array.size_replicate]) j (by rw [hF.size]; rw [Lib.decDigits_length] at hj; exact hj))
    rw [Lib.decDigits_length] at h
    exact h
  obtain ⟨os, eo⟩ := Lib.fin_at w (.cells Lib.zeros24 146) dk k 0
  have HB : Hid (Below w.heap.size w ((putRow (fun (b : UInt8) => Value.int .u8 (b.toNat : Int)) (w.alloc (.cells Lib.zeros24 146)) w.heap.size 0 dk).drewN k)) := by
    show Below _ _ _
    rw [eo]
    exact Lib.below_grow w.heap.size w (Nat.le_refl _) k os
  generalize (putRow (fun (b : UInt8) => Value.int .u8 (b.toNat : Int)) (w.alloc (.cells Lib.zeros24 146)) w.heap.size 0 dk).drewN k = W2 at hcv HB ⊢
  clear eo HH0 hfmt
  go_wp2
  go_ret
  exact ⟨rfl, HB.out⟩

set_option maxHeartbeats 1000000 in
theorem decm_any (n : Nat) (hn : n < 18446744073709551616) (w : World) (htab : PowTab w) :
    Calls Tryz.prog 68 #[.int .u64 (n : Int)] w fun e w' => e = .returned (.string ⟨(Lib.decDigits n).toArray⟩) ∧ Below w.heap.size w w' := by
  have h : ∀ w, PowTab w → Calls Tryz.prog 87 #[.int .u64 (n : Int), .int .i64 10] w fun e w' => e = .returned (.string ⟨(Lib.decDigits n).toArray⟩) ∧ Below w.heap.size w w' := fun w ht => by
    by_cases hs : n < 100
    · exact ifmt_small n hs w
    · exact ifmt_big n (by omega) hn w ht
  have HTAB : Hid (PowTab w) := htab
  clear htab
  have HH : Hid (∀ w, PowTab w → Calls Tryz.prog 87 #[.int .u64 (n : Int), .int .i64 10] w fun e w' => e = .returned (.string ⟨(Lib.decDigits n).toArray⟩) ∧ Below w.heap.size w w') := h
  clear h
  go_enter Tryz.func68, Tryz.ntmps68
  go_wp2_with (first | (go_at_call 48; go_in) | (go_at_call 87; refine (HH.out _ HTAB.out).mono ?_; rintro e w' ⟨rfl, hb⟩))
  go_ret
  exact ⟨rfl, hb⟩
end Go.Proofs.YtnlgbopdbihnjaaGreatDoor
/-
  The contracts of domain.zeros, width and cut.
-/
namespace Go.Proofs.YtnlgbopdbihnjaaGreatDoor
open Go.RowKit

def strsV (L : List (List UInt8)) : Array Value := (L.map fun x => Value.string ⟨x.toArray⟩).toArray
theorem info8s : (Tryz.prog.info? 73).map (·.size) = some 8 := by kernel_rfl
theorem strsV_at (L : List (List UInt8)) (k : Nat) (hk : k < L.length) : (strsV L)[k]? = some (.string ⟨(L[k]).toArray⟩) := by
  simp [strsV, List.getElem?_eq_getElem hk]
theorem strsV_size (L : List (List UInt8)) : (strsV L).size = L.length := by simp [strsV]
theorem run_index_strs (L : List (List UInt8)) (hl : L.length = 8) (k : Nat) (hk : k < L.length) (w : World) : (Instr.index 73 (.agg (strsV L)) (.int .i64 (k : Int))).run Tryz.prog w = .ok (.string ⟨(L[k]).toArray⟩) w := by
  have h9 : (Tryz.prog.info? 9).map (·.size) = some 1 := by kernel_rfl
  cases hq : Tryz.prog.info? 9 with
  | none => simp [hq] at h9
  | some i =>
    have hs : i.size = 1 := by simpa [hq] using h9
    have hat := strsV_at L k hk
    simp [Instr.index, asIntOf, run_underlying Tryz.underlying73, run_underlying Tryz.underlying9, sizeOf, typeInfo, hq, hs, part, isAgg, hat]
    intro h
    omega
theorem zrGo_step (i b f t : Nat) (x : List UInt8) (r : List (List UInt8)) (b' : Nat) (hb : b' = if x ≠ [48] then i + 1 else b) : zrGo i b f t (x :: r) = if i + 1 - b' > t - f then zrGo (i + 1) b' b' (i + 1) r else zrGo (i + 1) b' f t r := by
  rw [zrGo, ← hb]
set_option maxHeartbeats 2000000 in
set_option maxRecDepth 100000 in
theorem zeros_any (L : List (List UInt8)) (hL : L.length = 8) (w : World) : Calls Tryz.prog 49 #[.agg (strsV L)] w fun e w' => e = .returned (.tuple #[.int .i64 ((zeros L).1 : Nat), .int .i64 ((zeros L).2 : Nat)]) ∧ Below w.heap.size w w' := by
  have HL : Hid (L.length = 8) := hL
  have hsz : (strsV L).size = 8 := by rw [strsV_size, hL]
  have HA : Hid (Lies (w.alloc (.cells (strsV L) 73)) w.heap.size (strsV L) 73) := Lies.new w _ _
  have HB : Hid (Below w.heap.size w (w.alloc (.cells (strsV L) 73))) := (Below.refl _ _).alloc (Nat.le_refl _) _
  have hix := run_index_strs L hL
  clear hL
  generalize hV : strsV L = V at hsz HA HB hix ⊢
  go_enter Tryz.func49, Tryz.ntmps49
  go_wp2_with (refine wpList_load_row rfl 73 _ rfl w.heap.size rfl V 73 _ HA.out Tryz.underlying73 rfl (by rw [hsz]; exact info8s) ?_)
  go_loop [2, 3, 4, 8] (fun cf ct cb ci => ∃ f t b i : Nat, i ≤ 8 ∧ b ≤ i ∧ f ≤ t ∧ t ≤ i ∧ cf = .int .i64 f ∧ ct = .int .i64 t ∧ cb = .int .i64 b ∧ ci = .int .i64 i ∧ Hid (zeros L = zrGo i b f t (L.drop i))) (fun _ _ _ ci => 8 - (intOf ci).toNat)
  case atStart => exact ⟨0, 0, 0, 0, by omega, by omega, by omega, by omega, rfl, rfl, rfl, rfl, rfl⟩
  case round =>
    obtain ⟨f, t, b, i, hi, hb, hft, hti, rfl, rfl, rfl, rfl, HZ⟩ := hrel
    by_cases hlt : i < 8
    · have hil : i < L.length := by rw [HL.out]; exact hlt
      have hx := hix i hil
      have hd : L.drop i = L[i] :: L.drop (i + 1) := List.drop_eq_getElem_cons hil
      rw [hd] at HZ
      generalize L[i] = x at hx HZ
      clear hix hd
      have hlt' : (i : Int) < 8 := by omega
      by_cases h48 : x = [48]
      · have HZ2 : Hid (zeros L = if i + 1 - b > t - f then zrGo (i + 1) b b (i + 1) (L.drop (i + 1)) else zrGo (i + 1) b f t (L.drop (i + 1))) := by
          show _ = _
          rw [HZ.out, zrGo_step i b f t x _ b (by rw [if_neg (by simp [h48])])]
        have hne : (x == [48]) = true := by rw [h48]; rfl
        clear HZ h48
        by_cases hgt : i + 1 - b > t - f
        · have HZ3 : Hid (zeros L = zrGo (i + 1) b b (i + 1) (L.drop (i + 1))) := by
            show _ = _
            rw [HZ2.out, if_pos hgt]
          have hgt' : (t : Int) - (f : Int) < (i : Int) + 1 - (b : Int) := by omega
          clear HZ2 hgt
          go_wp2_with fail
          go_round
          case rel => exact ⟨b, i + 1, b, i + 1, by omega, by omega, by omega, by omega, rfl, by go_num, rfl, by go_num, HZ3⟩
          case measure => simp [intOf]; omega
        · have HZ3 : Hid (zeros L = zrGo (i + 1) b f t (L.drop (i + 1))) := by
            show _ = _
            rw [HZ2.out, if_neg hgt]
          have hgt' : ¬ (t : Int) - (f : Int) < (i : Int) + 1 - (b : Int) := by omega
          clear HZ2 hgt
          go_wp2_with fail
          go_round
          case rel => exact ⟨f, t, b, i + 1, by omega, by omega, by omega, by omega, rfl, rfl, rfl, by go_num, HZ3⟩
          case measure => simp [intOf]; omega
      · have HZ2 : Hid (zeros L = if i + 1 - (i + 1) > t - f then zrGo (i + 1) (i + 1) (i + 1) (i + 1) (L.drop (i + 1)) else zrGo (i + 1) (i + 1) f t (L.drop (i + 1))) := by
          show _ = _
          rw [HZ.out, zrGo_step i b f t x _ (i + 1) (by rw [if_pos h48])]
        have HZ3 : Hid (zeros L = zrGo (i + 1) (i + 1) f t (L.drop (i + 1))) := by
          show _ = _
          rw [HZ2.out, if_neg (by omega)]
        have hne : (x == [48]) = false := by rw [beq_eq_false_iff_ne]; exact h48
        clear HZ h48 HZ2
        have hgt' : ¬ (t : Int) - (f : Int) < (i : Int) + 1 - ((i : Int) + 1) := by omega
        go_wp2_with fail
        go_round
        case rel => exact ⟨f, t, i + 1, i + 1, by omega, by omega, by omega, by omega, rfl, rfl, by go_num, by go_num, HZ3⟩
        case measure => simp [intOf]; omega
    · have HN : Hid (zeros L = (f, t)) := by
        show _ = _
        rw [HZ.out, List.drop_eq_nil_of_le (by rw [HL.out]; omega)]
        rfl
      have hlt' : ¬ (i : Int) < 8 := by omega
      clear HZ
      go_wp2_with fail
      refine bodyPost_ret (v := .tuple #[.int .i64 (f : Int), .int .i64 (t : Int)]) (by simp [results, Tryz.results49, go_sem]) rfl ⟨by rw [HN.out], HB.out⟩

set_option maxHeartbeats 1000000 in
theorem width_any (k : Int) (w : World) : Calls Tryz.prog 46 #[.int .i64 k] w fun e w' => e = .returned (.int .i64 (widthN k)) ∧ w' = w := by
  unfold widthN
  by_cases h2 : k = 2
  · subst h2
    rw [if_pos rfl]
    go_enter Tryz.func46, Tryz.ntmps46
    go_wp2_with fail
    go_ret
    exact ⟨rfl, rfl⟩
  · rw [if_neg h2]
    have h2' : (k == 2) = false := by rw [beq_eq_false_iff_ne]; exact h2
    clear h2
    by_cases h3 : k = 3
    · subst h3
      rw [if_pos rfl]
      go_enter Tryz.func46, Tryz.ntmps46
      go_wp2_with fail
      go_ret
      exact ⟨rfl, rfl⟩
    · rw [if_neg h3]
      have h3' : (k == 3) = false := by rw [beq_eq_false_iff_ne]; exact h3
      clear h3
      go_enter Tryz.func46, Tryz.ntmps46
      go_wp2_with fail
      go_ret
      exact ⟨rfl, rfl⟩
end Go.Proofs.YtnlgbopdbihnjaaGreatDoor
/-
  The contract of domain.PrintV4.
-/
namespace Go.Proofs.YtnlgbopdbihnjaaGreatDoor
open Go.RowKit

theorem PowTab.below {w w' : World} (h : PowTab w) (hb : Below w.heap.size w w') : PowTab w' := Lib.tabBelow_of_tabIs h w' hb
theorem dec_decD : ∀ n : Fin 256, Lib.decDigits n.val = decD n.val := by decide +kernel
theorem join_joinL (sep : List UInt8) : ∀ L : List (List UInt8), Lib.join L sep = joinL sep L
  | [] => rfl
  | [x] => Lib.join_one x sep
  | x :: y :: r => by
    have := join_joinL sep (y :: r)
    rw [joinL, ← this]
    unfold Lib.join
    simp [List.intercalate]
theorem info4s : (Tryz.prog.info? 99).map (·.size) = some 4 := by kernel_rfl
theorem run_index_four (l : List Nat) (hl : l.length = 4) (k : Nat) (hk : k < l.length) (w : World) : (Instr.index 46 (.agg (bytesV l)) (.int .i64 (k : Int))).run Tryz.prog w = .ok (.int .u8 (l[k] : Nat)) w := by
  have h5 : (Tryz.prog.info? 5).map (·.size) = some 1 := by kernel_rfl
  cases hq : Tryz.prog.info? 5 with
  | none => simp [hq] at h5
  | some i =>
    have hs : i.size = 1 := by simpa [hq] using h5
    have hat := bytesV_at l k hk
    simp [Instr.index, asIntOf, run_underlying Tryz.underlying46, run_underlying Tryz.underlying5, sizeOf, typeInfo, hq, hs, part, isAgg, hat]
    intro h
    omega
theorem strsV_set (L : List (List UInt8)) (k : Nat) (x : List UInt8) : (strsV L).setIfInBounds k (.string ⟨x.toArray⟩) = strsV (L.set k x) := by
  unfold strsV
  rw [List.setIfInBounds_toArray, List.map_set]
/-- The blocks of PrintV4, PrintV6: the texts so far. -/
structure PtS (w : World) (n t : Nat) (L : List (List UInt8)) (wr : World) : Prop where
  s : Lies wr (w.heap.size + 1) (strsV (L ++ List.replicate (n - L.length) [])) t
  below : Below w.heap.size w wr
theorem PtS.later {w wr wx : World} {n t : Nat} {L : List (List UInt8)} (h : PtS w n t L wr) (hb : Below wr.heap.size wr wx) : PtS w n t L wx :=
  ⟨h.s.below hb h.s.lt, h.below.trans (hb.mono (Nat.le_of_lt (Nat.lt_of_succ_lt h.s.lt)))⟩
theorem PtS.put {w wr : World} {n t : Nat} {L : List (List UInt8)} (h : PtS w n t L wr) (hl : L.length < n) (x : List UInt8) : PtS w n t (L ++ [x]) (wr.setCell ⟨w.heap.size + 1, L.length, none⟩ (.string ⟨x.toArray⟩)) := by
  refine ⟨?_, h.below.setCell (p := ⟨w.heap.size + 1, L.length, none⟩) (by show w.heap.size ≤ w.heap.size + 1; omega) _⟩
  have := h.s.set L.length (.string ⟨x.toArray⟩)
  rw [strsV_set] at this
  have e : (L ++ List.replicate (n - L.length) []).set L.length x = L ++ [x] ++ List.replicate (n - (L ++ [x]).length) [] := by
    rw [List.set_append_right _ _ (Nat.le_refl _), Nat.sub_self, show n - L.length = n - (L ++ [x]).length + 1 from by simp; omega, List.replicate_succ, List.set_cons_zero]
    simp
  rw [e] at this
  exact this
theorem PtS.cell {w wr : World} {n t : Nat} {L : List (List UInt8)} (h : PtS w n t L wr) (hl : L.length < n) : ∃ v, wr.cell? ⟨w.heap.size + 1, L.length, none⟩ = some v :=
  ⟨_, (h.s.cell L.length).trans (strsV_at _ _ (by simp; omega))⟩
theorem Lies.texts {w : World} {b t : Nat} {L : List (List UInt8)} (h : Lies w b (strsV L) t) (o : Nat) : ∀ (j : Nat) x, ((L.drop o).map fun l => (⟨l.toArray⟩ : ByteArray))[j]? = some x → w.cell? ⟨b, o + j, none⟩ = some (.string x) := fun j x hx => by
  rw [h.cell]
  unfold strsV
  rw [List.getElem?_map, List.getElem?_drop] at hx
  rw [List.getElem?_toArray, List.getElem?_map]
  cases hl : L[o + j]? with
  | none => rw [hl] at hx; cases hx
  | some y =>
    rw [hl] at hx
    injection hx with hx
    rw [← hx]
    rfl
theorem texts_back (L : List (List UInt8)) : (L.map fun l => (⟨l.toArray⟩ : ByteArray)).map (·.data.toList) = L := by
  rw [List.map_map]
  conv => rhs; rw [← List.map_id L]
  rfl
/-- strings.Join of some of the texts. -/
theorem join_some {w : World} {b t : Nat} {L : List (List UInt8)} (h : Lies w b (strsV L) t) (o n c : Nat) (sep : ByteArray) (hn : o + n ≤ L.length) (hc : n ≤ c) (hlen : (joinL sep.data.toList ((L.drop o).take n)).length ≤ 140737488355328) (hL : L.length ≤ 1000000) :
    Calls Tryz.prog 50 #[.slice (some ⟨b, o, none⟩) n c, .string sep] w fun e w' => e = .returned (.string ⟨(joinL sep.data.toList ((L.drop o).take n)).toArray⟩) ∧ Below w.heap.size w w' := by
  have hl : (((L.drop o).take n).map fun l => (⟨l.toArray⟩ : ByteArray)).length = n := by simp; omega
  have := Tryz.strings_Join b o c (((L.drop o).take n).map fun l => (⟨l.toArray⟩ : ByteArray)) sep w (fun j x hx => ?_) h.lt (by rw [hl]; omega) (by rw [hl]; exact hc) (by rw [texts_back, join_joinL]; exact hlen)
  · rw [texts_back, join_joinL, hl] at this
    exact this
  · refine h.texts o j x ?_
    rw [List.map_take, List.getElem?_take] at hx
    split at hx
    · exact hx
    · cases hx

set_option maxHeartbeats 4000000 in
set_option maxRecDepth 100000 in
theorem printv4_any (a : List Nat) (ha : a.length = 4) (hb : ∀ x ∈ a, x < 256) (w : World) (hp : PowTab w) : Calls Tryz.prog 26 #[.agg (bytesV a)] w fun e w' => e = .returned (.string ⟨(print4 a).toArray⟩) ∧ Below w.heap.size w w' := by
  have HL : Hid (a.length = 4) := ha
  have HX : Hid (∀ x ∈ a, x < 256) := hb
  have HP : Hid (∀ wx, Below w.heap.size w wx → PowTab wx) := fun wx hb => hp.below hb
  have hsz : (bytesV a).size = 4 := by rw [bytesV_size, ha]
  have HA : Hid (Lies ((w.alloc (.cells (bytesV a) 46)).alloc (.cells (strsV (List.replicate 4 [])) 99)) w.heap.size (bytesV a) 46) := (Lies.new w _ _).alloc _
  have H0 : Hid (PtS w 4 99 [] ((w.alloc (.cells (bytesV a) 46)).alloc (.cells (strsV (List.replicate 4 [])) 99))) := ⟨new_one w _ _ _, ((Below.refl _ _).alloc (Nat.le_refl _) _).alloc (by simp) _⟩
  have HIX : Hid (∀ (k : Nat) (hk : k < a.length) (w : World), (Instr.index 46 (.agg (bytesV a)) (.int .i64 (k : Int))).run Tryz.prog w = .ok (.int .u8 (a[k] : Nat)) w) := run_index_four a ha
  clear ha hb hp
  go_enter Tryz.func26, Tryz.ntmps26
  go_wp2_with (refine wpList_load_row rfl 46 _ rfl w.heap.size rfl (bytesV a) 46 _ HA.out Tryz.underlying46 rfl (by rw [hsz]; exact info4) ?_)
  go_loopw [7] (fun c wr => ∃ i : Nat, i ≤ 4 ∧ c = .int .i64 i ∧ Hid (PtS w 4 99 ((a.take i).map decD) wr)) (fun c _ => 4 - (intOf c).toNat)
  case atStart => exact ⟨0, by omega, rfl, H0⟩
  case round =>
    obtain ⟨i, hi, rfl, HS⟩ := hrel
    clear H0 HA
    by_cases hlt : i < 4
    · have hil : i < a.length := by rw [HL.out]; exact hlt
      have hlt' : (i : Int) < 4 := by omega
      have hix := HIX.out i hil
      have hx : a[i] < 256 := HX.out _ (List.getElem_mem hil)
      have HM : Hid ((a.take (i + 1)).map decD = (a.take i).map decD ++ [decD a[i]]) := by
        show _ = _
        rw [List.take_succ_eq_append_getElem hil, List.map_append]
        rfl
      have hdl := dec_decD ⟨a[i], hx⟩
      dsimp only at hdl
      generalize a[i] = x at hix hx HM hdl
      have hl : ((a.take i).map decD).length = i := by rw [List.length_map, List.length_take]; omega
      generalize (a.take i).map decD = L at HS HM hl
      subst hl
      have hx' : (x : Int) < 256 := by omega
      go_wp2_with fail
      refine (decm_any x (by omega) _ (HP.out _ HS.out.below)).mono ?_
      rintro e w2 ⟨rfl, hb2⟩
      rw [hdl]
      have HS2 := HS.out.later hb2
      obtain ⟨v, hv⟩ := HS2.cell hlt
      have hf := HS2.s.frozen L.length
      have hz := HS2.s.lt
      have HN : Hid (PtS w 4 99 ((a.take (L.length + 1)).map decD) (w2.setCell ⟨w.heap.size + 1, L.length, none⟩ (.string ⟨(decD x).toArray⟩))) := by
        have := HS2.put hlt (decD x)
        rw [← HM.out] at this
        exact this
      clear hb2 HS2 HS HM hix
      generalize decD x = d at HN ⊢
      go_wp2_with fail
      go_roundw
      case rel => exact ⟨L.length + 1, by omega, by go_num, HN⟩
      case measure => simp [intOf]; omega
    · obtain rfl : i = 4 := by omega
      have HSL : Hid (Lies wr (w.heap.size + 1) (strsV (a.map decD)) 99) := by
        have := HS.out.s
        rw [List.take_of_length_le (by rw [HL.out]; omega), List.length_map, HL.out, Nat.sub_self, List.replicate_zero, List.append_nil] at this
        exact this
      have hlm : (a.map decD).length = 4 := by rw [List.length_map, HL.out]
      have hpl : (print4 a).length ≤ 140737488355328 := by
        have := HL.out
        have h3 : ∀ n, (decD n).length ≤ 3 := fun n => by
          unfold decD
          split
          · simp
          · split <;> simp
        match a, this with
        | [p, q, r, s], _ =>
          have := h3 p
          have := h3 q
          have := h3 r
          have := h3 s
          simp [print4, joinL]
          omega
      have HJ : Hid (Calls Tryz.prog 50 #[.slice (some ⟨w.heap.size + 1, 0, none⟩) 4 4, .string ⟨#[46]⟩] wr fun e w' => e = .returned (.string ⟨(print4 a).toArray⟩) ∧ Below wr.heap.size wr w') := by
        have := join_some HSL.out 0 4 4 ⟨#[46]⟩ (by omega) (by omega) (by rw [List.drop_zero, List.take_of_length_le (by omega)]; exact hpl) (by omega)
        rw [List.drop_zero, List.take_of_length_le (by omega)] at this
        exact this
      have HB := HS.out.below
      have hz := HS.out.s.lt
      obtain ⟨pa, hpa⟩ : ∃ pa, (print4 a).toArray = pa := ⟨_, rfl⟩
      have HPA : Hid ((print4 a).toArray = pa) := hpa
      rw [hpa] at HJ
      clear hpl HSL HS hpa
      go_wp2_with (go_at_call 50; refine HJ.out.mono ?_; rintro e w2 ⟨rfl, hb2⟩)
      go_ret
      refine ⟨by rw [HPA.out]; rfl, HB.trans (Below.mono ?_ (Nat.le_of_lt (Nat.lt_of_succ_lt hz)))⟩
      assumption
end Go.Proofs.YtnlgbopdbihnjaaGreatDoor
