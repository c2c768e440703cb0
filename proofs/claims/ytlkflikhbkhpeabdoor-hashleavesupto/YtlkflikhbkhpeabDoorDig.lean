/-
  The register as bytes, and what ends the rows, the program's.
-/
import Derived.Test.YtlkflikhbkhpeabDoorBehind
import Derived.Test.YtlkflikhbkhpeabDoorBytes
namespace Go.Proofs.YtlkflikhbkhpeabDoor
open Go.RowKit

theorem infoD (l : List UInt8) (h : l.length = 16) : (Tryd.prog.info? 24).map (·.size) = some (rowV l).size := by rw [rowV_size, h]; kernel_rfl
def zeroD : Array Value := Array.replicate 16 (.int .u8 0)
theorem zeroD_spelt : (#[.int .u8 0, .int .u8 0, .int .u8 0, .int .u8 0, .int .u8 0, .int .u8 0, .int .u8 0, .int .u8 0, .int .u8 0, .int .u8 0, .int .u8 0, .int .u8 0, .int .u8 0, .int .u8 0, .int .u8 0, .int .u8 0] : Array Value) = zeroD := rfl
theorem byt_toNat (x : BitVec 32) (i : Nat) : (byt x i).toNat = x.toNat / 256 ^ i % 256 := by
  simp [byt]
theorem pow256 (j : Nat) : (2 : Nat) ^ (j * 8) = 256 ^ j := by
  rw [show (256 : Nat) = 2 ^ 8 from rfl, ← Nat.pow_mul, Nat.mul_comm]

theorem byt_spelt (x : BitVec 32) (t : Nat) : (x.toNat : Int) / 2 ^ (t * 8) % 256 = ((byt x t).toNat : Int) := by
  rw [byt_toNat, ← pow256, Int.natCast_emod, Int.natCast_ediv, Int.natCast_pow]
  rfl

set_option maxRecDepth 100000 in
theorem digest_any (r : Rg) (w : World) : Calls Tryd.prog 33 #[.agg (rgv r)] w fun e w' => e = .returned (.agg (rowV (dig r))) ∧ Below w.heap.size w w' := by
  go_enter Tryd.func33, Tryd.ntmps33
  go_wp2_with fail
  rw [zeroD_spelt]
  go_loopw [5] (fun i wr => ∃ (k : Nat) (c : Array Value), k ≤ 16 ∧ i = .int .i64 k ∧ Hid (Lies wr w.heap.size (rgv r) 43) ∧ Hid (Lies wr (w.heap.size + 1) zeroD 24) ∧ Hid (Lies wr (w.heap.size + 2) c 24) ∧ Hid (Below w.heap.size w wr) ∧ Hid (Upto k c (rowV (dig r)))) (fun i _ => 16 - (intOf i).toNat)
  case atStart =>
    refine ⟨0, zeroD, by omega, rfl, ?_, ?_, ?_, ?_, ?_⟩
    · exact ((Lies.new w (rgv r) 43).alloc _).alloc _
    · exact (new_one w _ _ 24).alloc _
    · exact new_two w _ _ _ 24
    · exact (((Below.refl _ _).alloc (Nat.le_refl _) _).alloc (by simp) _).alloc (by simp; omega) _
    · exact ⟨by rw [rowV_size, dig_length]; rfl, fun j h => by omega⟩
  case round =>
    obtain ⟨k, c, hk, rfl, HM, HZ, HC, HB, HU⟩ := hrel
    by_cases hlt : k < 16
    · have hkc : k < c.size := by rw [HU.out.size, rowV_size, dig_length]; exact hlt
      obtain ⟨q, hq⟩ : ∃ q, q = k / 4 := ⟨_, rfl⟩
      obtain ⟨t, ht⟩ : ∃ t, t = k % 4 := ⟨_, rfl⟩
      have i1 : (k : Int) / 4 = (q : Int) := by omega
      have i2 : (k : Int) % 4 = (t : Int) := by omega
      have hq4 : q < 4 := by omega
      have ht4 : t < 4 := by omega
      have h1 : wr.cell? ⟨w.heap.size, q, none⟩ = some (.int .u32 ((r.at q).toNat : Int)) := (HM.out.cell q).trans (rgv_at r q hq4)
      have hcell : wr.cell? ⟨w.heap.size + 2, k, none⟩ = some c[k] := (HC.out.cell k).trans (Array.getElem?_eq_getElem hkc)
      have hfro := HC.out.frozen k
      have HQ : Hid (q = k / 4 ∧ t = k % 4) := ⟨hq, ht⟩
      clear hq ht
      obtain ⟨v, hv⟩ : ∃ v, v = r.at q := ⟨_, rfl⟩
      rw [← hv] at h1
      have HV : Hid (v = r.at q) := hv
      clear hv
      go_wp2
      clear hcell hfro h1
      rw [byt_spelt]
      go_roundw
      case rel =>
        refine ⟨k + 1, _, by omega, by go_num, HM.out.set_other (by simp; omega) _, HZ.out.set_other (by simp) _, HC.out.set k _, HB.out.setCell (by simp; omega) _, HU.out.next ?_⟩
        rw [rowV_at _ k (by rw [dig_length]; exact hlt), dig_at, HV.out, HQ.out.1, HQ.out.2]
      case measure => simp [intOf]; omega
    · obtain rfl : k = 16 := by omega
      obtain rfl := HU.out.all (by rw [rowV_size, dig_length])
      clear HU
      go_wp2_with (first | (refine wpList_load_row rfl 24 _ rfl _ rfl (rowV (dig r)) 24 _ HC.out Tryd.underlying24 rfl (infoD _ (dig_length r)) ?_) | (refine wpList_store_row rfl 24 _ _ rfl _ rfl zeroD (rowV (dig r)) rfl 24 HZ.out (infoD _ (dig_length r)) (by rw [rowV_size, dig_length]; rfl) (rowV_one _) rfl ?_))
      refine bodyPost_ret (v := .agg (rowV (dig r))) ?_ rfl ⟨rfl, below_row HB.out (by omega) _⟩
      exact results_cell_row rfl _ _ _ 24 _ (0, 0) _ rfl (HZ.out.row _) Tryd.underlying24 rfl (infoD _ (dig_length r))

/-- What stands behind n bytes, the first k of the last eight bytes. -/
def tailK (n k : Nat) : List UInt8 := 128 :: List.replicate (nou n) 0 ++ (lenB n).take k
theorem tailK_length (n k : Nat) (h : k ≤ 8) : (tailK n k).length = nou n + 1 + k := by
  simp [tailK, lenB_length]
  omega
theorem tailK_all (n : Nat) : tailK n 8 = tailB n := by
  unfold tailK tailB
  rw [List.take_of_length_le (by rw [lenB_length]; omega)]
theorem lenB_at (n k : Nat) (h : k < (lenB n).length) : (lenB n)[k] = UInt8.ofNat (n * 8 / 256 ^ k) := by simp [lenB]
theorem tailK_step (n k : Nat) (h : k < 8) : cellsB (tailK n k) ++ [.int .u8 ((UInt8.ofNat (n * 8 / 256 ^ k)).toNat : Int)] = cellsB (tailK n (k + 1)) := by
  have h' : k < (lenB n).length := by rw [lenB_length]; exact h
  unfold tailK
  rw [List.take_succ_eq_append_getElem h', lenB_at n k h', ← List.append_assoc, cellsB_append _ [_]]
  rfl
theorem len_spelt (n k : Nat) : ((n : Int) * 8) / 2 ^ (8 * k) % 256 = ((UInt8.ofNat (n * 8 / 256 ^ k)).toNat : Int) := by
  have e : (UInt8.ofNat (n * 8 / 256 ^ k)).toNat = n * 8 / 256 ^ k % 256 := by simp
  rw [e, ← pow256, Nat.mul_comm k 8, Int.natCast_emod, Int.natCast_ediv, Int.natCast_pow, Int.natCast_mul]
  rfl

set_option maxRecDepth 100000 in
theorem ending_any (n : Nat) (hn : n ≤ 1152921504606846976) (w : World) : Calls Tryd.prog 32 #[.int .i64 n] w fun e w' => ∃ v, e = .returned v ∧ w'.ownsRow w.heap.size 5 1 v (tailB n).length (cellsB (tailB n)) ∧ Below w.heap.size w w' := by
  obtain ⟨i0, hi, hz0, hz1, hz2⟩ := info_parts info5
  obtain ⟨z, hz⟩ : ∃ z, z = nou n := ⟨_, rfl⟩
  have HZ : Hid (z = nou n) := hz
  have z64 : z < 64 := by rw [hz]; unfold nou; omega
  have zI : (119 - (n : Int) % 64) % 64 = (z : Int) := by rw [hz]; unfold nou; omega
  clear hz
  obtain ⟨w2, hmk, hown, hb2⟩ := make_room w (1 + z) (1 + z + 8) (1 + (z : Int)) (1 + (z : Int) + 8) (by omega) (by omega) (by omega) (by omega) w.heap.size (Nat.le_refl _)
  have HO2 : Hid (w2.ownsRow w.heap.size 5 1 (.slice (some ⟨w.heap.size, 0, none⟩) (1 + z) (1 + z + 8)) (1 + z) (cellsB (List.replicate (1 + z) 0))) := hown
  have HB2 : Hid (Below w.heap.size w w2) := hb2
  have c0 : w2.cell? ⟨w.heap.size, 0, none⟩ = some (.int .u8 0) := by
    have := hown.cellAt 0 (by omega)
    rw [this, cellsB_at _ 0 (by simp; omega)]
    simp
  have f0 := hown.frozenAt 0
  clear hown hb2
  go_enter Tryd.func32, Tryd.ntmps32
  go_wp2_with fail
  have HO3 : Hid ((w2.setCell ⟨w.heap.size, 0, none⟩ (.int .u8 128)).ownsRow w.heap.size 5 1 (.slice (some ⟨w.heap.size, 0, none⟩) (1 + z) (1 + z + 8)) (tailK n 0).length (cellsB (tailK n 0))) := by
    have h := (World.ownsRow.stored HO2.out 0 (.int .u8 128)).1
    have e : (cellsB (List.replicate (1 + z) 0)).set 0 (.int .u8 128) = cellsB (tailK n 0) := by
      rw [HZ.out, Nat.add_comm 1, List.replicate_succ]
      unfold tailK
      rw [List.take_zero, List.append_nil]
      rfl
    rw [e] at h
    show World.ownsRow _ _ _ _ _ _ _
    rw [tailK_length n 0 (by omega), ← HZ.out, Nat.add_zero, Nat.add_comm z 1]
    exact h
  have HB3 : Hid (Below w.heap.size w (w2.setCell ⟨w.heap.size, 0, none⟩ (.int .u8 128))) := HB2.out.setCell (by simp) _
  rw [zI]
  clear c0 f0 HO2 HB2 hmk zI
  generalize w2.setCell ⟨w.heap.size, 0, none⟩ (.int .u8 128) = w3 at HO3 HB3 ⊢
  go_loopw [4, 18] (fun u i wr => ∃ k : Nat, k ≤ 8 ∧ i = .int .i64 k ∧ Hid (wr.ownsRow w.heap.size 5 1 u (tailK n k).length (cellsB (tailK n k))) ∧ Hid (Below w.heap.size w wr)) (fun _ i _ => 8 - (intOf i).toNat)
  case atStart => exact ⟨0, by omega, rfl, HO3, HB3⟩
  case round =>
    obtain ⟨k, hk, rfl, HO, HB⟩ := hrel
    by_cases hlt : k < 8
    · have hown := HO.out
      have hsp := len_spelt n k
      obtain ⟨b, hb⟩ : ∃ b, b = UInt8.ofNat (n * 8 / 256 ^ k) := ⟨_, rfl⟩
      rw [← hb] at hsp
      have HBB : Hid (b = UInt8.ofNat (n * 8 / 256 ^ k)) := hb
      clear hb
      have HLE : Hid ((tailK n k).length = nou n + 1 + k) := tailK_length n k hk
      have HNO : Hid (nou n < 64) := by show _ < _; unfold nou; omega
      go_wp2_with (at_builtin; refine wpList_append_own _ rfl _ _ 22 rfl w.heap.size 5 i0 (.int .u8 0) 1 1 Tryd.underlying22 hi hz0 hz1 hz2 rfl (by decide) _ _ _ rfl (hown.alloc _) ⟨wr.heap.size, 0, none⟩ 1 1 [.int .u8 (b.toNat : Int)] rfl rfl (one_new _) one_one ?c3 ?c4 ?c5 ?_)
      case c3 => have := HNO.out; unfold maxLen; rw [HLE.out]; omega
      case c4 => have := HNO.out; rw [HLE.out]; omega
      case c5 => have := HB.out.size; simp; omega
      intro v' w4 hown' hgrow _
      have R : Hid (w4.ownsRow w.heap.size 5 1 v' (tailK n (k + 1)).length (cellsB (tailK n (k + 1)))) := by
        show w4.ownsRow _ _ _ _ _ _
        rw [HBB.out, tailK_step n k hlt] at hown'
        rw [tailK_length n (k + 1) (by omega)]
        rw [HLE.out] at hown'
        exact hown'
      have HB4 : Hid (Below w.heap.size w w4) := (HB.out.alloc HB.out.size _).grown hgrow (by have := HB.out.size; simp; omega) (fun q hq => (hown.lt q hq).1)
      clear hown' hgrow hown HO HB HLE
      go_wp2
      go_roundw
      case rel => exact ⟨k + 1, by omega, by go_num, R, HB4⟩
      case measure => simp [intOf]; omega
    · obtain rfl : k = 8 := by omega
      go_wp2
      go_ret
      have h := HO.out
      rw [tailK_all] at h
      exact ⟨_, rfl, h, HB.out⟩
end Go.Proofs.YtlkflikhbkhpeabDoor
