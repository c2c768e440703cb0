/-
  The statements' own lentBytes and head.
-/
import Derived.Test.YthkoionigdnhgaaHp18
namespace Go.Proofs.Ythkoionigdnhgaa
open Go.RowKit

def mkH (k : Nat) : List UInt8 := (List.range k).map fun i => UInt8.ofNat (161 + i)
theorem mkH_len (k : Nat) : (mkH k).length = k := by simp [mkH]
theorem mkH_next (k : Nat) : mkH (k + 1) = mkH k ++ [UInt8.ofNat (161 + k)] := by simp [mkH, List.range_succ]
theorem marksH (k : Nat) : (161 + (k : Int)) % 256 = ((UInt8.ofNat (161 + k)).toNat : Int) := by simp
theorem own_emptyH (w : World) (base : Nat) (hb : base ≤ w.heap.size) : (w.alloc (.cells #[] 5)).ownsRow base 5 1 (.slice (some ⟨w.heap.size, 0, none⟩) 0 0) 0 (cellsB []) :=
  ⟨rfl, .inr ⟨w.heap.size, 0, #[], rfl, hb, heap_alloc_last w _, Nat.le_refl _, by unfold maxLen; omega, rfl, rfl⟩⟩
set_option maxRecDepth 100000 in
set_option maxHeartbeats 1000000 in
theorem lentb_any (a : Option Addr) (l : List UInt8) (cap n : Nat) (w : World) (hn : n = l.length) (hb : Bts a l w) (hl : l.length ≤ 140737488351232) (hnn : a = none → cap = 0) :
    Calls Try.prog 5 #[.slice a n cap] w fun e w' => ∃ v, e = .returned v ∧ w'.ownsRow w.heap.size 5 1 v (n + 1500) (cellsB (l ++ mkH 1500)) ∧ Below w.heap.size w w' := by
  have HBT : Hid (Bts a l w) := hb
  have HN : Hid (n = l.length) := hn
  rw [← hn] at hl
  clear hb hn
  go_enter Try.func5, Try.ntmps5
  obtain ⟨W1, hW1⟩ : ∃ W1, W1 = w.alloc (.cells #[] 5) := ⟨_, rfl⟩
  have HWW : Hid (w.alloc (.cells #[] 5) = W1) := hW1.symm
  have HO1 : Hid (W1.ownsRow w.heap.size 5 1 (.slice (some ⟨w.heap.size, 0, none⟩) 0 0) 0 (cellsB [])) := by subst hW1; exact own_emptyH w _ (Nat.le_refl _)
  have HB : Hid (Below w.heap.size w W1) := by subst hW1; exact (Below.refl _ _).alloc (Nat.le_refl _) _
  clear hW1
  go_wp2_with (first | rw [HWW.out] | (at_builtin; refine wpList_append_keep rfl _ _ rfl w.heap.size _ 0 [] rfl HO1.out a l n cap rfl HN.out (HBT.out.below HB.out) hnn (by omega) HB.out.size ?_; intro v2 w2 hown2 hgrow2))
  have HB2 : Hid (Below w.heap.size w w2) := HB.out.grown hgrow2 HB.out.size (fun q hq => (HO1.out.lt q hq).1)
  have HO2 : Hid (w2.ownsRow w.heap.size 5 1 v2 (n + 0) (cellsB (l ++ mkH 0))) := by
    show w2.ownsRow _ _ _ _ _ _
    rw [show mkH 0 = [] from rfl, List.append_nil, Nat.add_zero]
    simpa using hown2
  clear hown2 hgrow2 HB HO1 HWW
  go_wp2
  go_loopw [3, 4] (fun v i wr => ∃ k : Nat, k ≤ 1500 ∧ i = .int .i64 k ∧ Hid (wr.ownsRow w.heap.size 5 1 v (n + k) (cellsB (l ++ mkH k))) ∧ Hid (Below w.heap.size w wr)) (fun _ i _ => 1500 - (intOf i).toNat)
  case atStart => exact ⟨0, Nat.zero_le _, rfl, HO2, HB2⟩
  case round =>
    clear HO2 HB2
    obtain ⟨k, hk, rfl, HO, HB⟩ := hrel
    by_cases hlt : k < 1500
    · have hltI : (k : Int) < 1500 := by omega
      go_wp2_with (at_builtin; refine wpList_append_byte rfl _ _ rfl w.heap.size _ (n + k) (l ++ mkH k) rfl (HO.out.alloc _) wr (UInt8.ofNat (161 + k)) _ (marksH k) rfl 1 rfl (by omega) HB.out.size ?_; intro v3 w3 hown3 hbel3)
      have HO3 : Hid (w3.ownsRow w.heap.size 5 1 v3 (n + (k + 1)) (cellsB (l ++ mkH (k + 1)))) := by
        show World.ownsRow _ _ _ _ _ _ _
        rw [mkH_next, ← List.append_assoc]
        exact hown3
      have HB3 : Hid (Below w.heap.size w w3) := hbel3 _ _ HB.out (Nat.le_refl _)
      clear hown3 hbel3 HO HB
      go_roundw
      case rel => exact ⟨k + 1, by omega, by go_num, HO3, HB3⟩
      case measure => simp [intOf]; omega
    · obtain rfl : k = 1500 := by omega
      go_wp2
      go_ret
      exact ⟨_, rfl, HO.out, HB.out⟩
def litH1 : List UInt8 := [114, 101, 99, 101, 105, 118, 101, 100, 58, 120, 13, 10, 83, 117, 98, 106, 101, 99, 116, 58, 32, 121, 13, 10, 13, 10, 82, 101, 99, 101, 105, 118, 101, 100, 58, 32, 122]
theorem lit_hops : hopsH litH1 = 1 := by decide +kernel
set_option maxRecDepth 100000 in
theorem head_any (m : Int) (w : World) (hm : w.cell? ⟨0, 0, none⟩ = some (.int .i64 m)) : Calls Try.prog 7 #[] w fun e w' => e = .returned (.bool true) ∧ Below w.heap.size w w' := by
  obtain ⟨W1, hW1⟩ : ∃ W1, W1 = w.alloc (.cells (rowV litH1) 5 (37, 38)) := ⟨_, rfl⟩
  have hcv : (convert 22 22 (.slice (some ⟨w.heap.size, 0, none⟩) 37 37)).run Try.prog (w.alloc (.cells #[.int .u8 114, .int .u8 101, .int .u8 99, .int .u8 101, .int .u8 105, .int .u8 118, .int .u8 101, .int .u8 100, .int .u8 58, .int .u8 120, .int .u8 13, .int .u8 10, .int .u8 83, .int .u8 117, .int .u8 98, .int .u8 106, .int .u8 101, .int .u8 99, .int .u8 116, .int .u8 58, .int .u8 32, .int .u8 121, .int .u8 13, .int .u8 10, .int .u8 13, .int .u8 10, .int .u8 82, .int .u8 101, .int .u8 99, .int .u8 101, .int .u8 105, .int .u8 118, .int .u8 101, .int .u8 100, .int .u8 58, .int .u8 32, .int .u8 122] 5)) = .ok (.slice (some ⟨w.heap.size, 0, none⟩) 37 37) W1 := by subst hW1; exact Lib.run_convert_bytes_const w 22 5 _ 37 37 Try.underlying22 Try.underlying5
  have hB1 : Below w.heap.size w W1 := by subst hW1; exact (Below.refl _ _).alloc (Nat.le_refl _) _
  have HC := hops_any (some ⟨w.heap.size, 0, none⟩) litH1 37 37 rfl (Nat.le_refl _) (fun e => by cases e) (by decide) m W1 (by subst hW1; exact litH w litH1 _) (by decide) ((hB1.cell (p := ⟨0, 0, none⟩) (lt_of_cellH hm)).trans hm)
  rw [lit_hops] at HC
  have HB1 : Hid (Below w.heap.size w W1) := hB1
  clear hW1 hB1 hm
  go_enter Try.func7, Try.ntmps7
  go_wp2_with (rw [hcv])
  refine HC.mono ?_
  rintro e w2 ⟨rfl, hB2⟩
  have HB2 : Hid (Below w.heap.size w w2) := HB1.out.trans (hB2.mono HB1.out.size)
  clear hB2 HB1 HC hcv
  go_wp2_with fail
  go_ret
  exact ⟨rfl, HB2.out⟩
end Go.Proofs.Ythkoionigdnhgaa
