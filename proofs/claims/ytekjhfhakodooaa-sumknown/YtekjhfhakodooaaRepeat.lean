/-
  slices.Repeat, as the statement on the known sums calls it: one byte 255, 32 times.
-/
import Derived.Test.YtekjhfhakodooaaOverPure
import Derived.Laws.CopyOwn
import Derived.Deep.RegionHeld3
namespace Go.Proofs.Ytekjhfhakodooaa
open Go.RowKit

/-- A row of 32 bytes whose first n are 255. -/
def rep (n : Nat) : List Value := cellsB (List.replicate n 255 ++ List.replicate (32 - n) 0)
theorem rep_length (n : Nat) (h : n ≤ 32) : (rep n).length = 32 := by
  rw [rep, cellsB_length]
  simp
  omega
theorem rep_splice (n m : Nat) : splice (rep n) n (cellsB (List.replicate m 255)) = rep (n + m) := by
  unfold splice rep
  rw [cellsB_append, List.take_append_of_le_length (by simp [cellsB]), List.take_of_length_le (by simp [cellsB]), cellsB_length, List.length_replicate,
    List.drop_append, cellsB_length, List.length_replicate, List.drop_of_length_le (by simp [cellsB]), List.nil_append, ← List.replicate_append_replicate, List.append_assoc, cellsB_append, cellsB_append]
  congr 2
  rw [show n + m - n = m by omega]
  simp [cellsB]
  omega

set_option maxRecDepth 100000 in
theorem mul_any (w : World) : Calls Try.prog 33 #[.int .u64 1, .int .u64 32] w fun e w' => e = .returned (.tuple #[.int .u64 0, .int .u64 32]) ∧ w' = w := by
  go_enter Try.func33, Try.ntmps33
  go_wp2
  refine bodyPost_ret (v := .tuple #[.int .u64 0, .int .u64 32]) (by simp [results, Try.results33, go_sem]; decide +kernel) rfl ⟨rfl, rfl⟩

set_option maxRecDepth 100000 in
set_option maxHeartbeats 1000000 in
theorem repeat_any (g : Nat) (w : World) (hc : w.cell? ⟨g, 0, none⟩ = some (.int .u8 255)) (hg : g < w.heap.size) :
    Calls Try.prog 12 #[.slice (some ⟨g, 0, none⟩) 1 1, .int .i64 32] w fun e w' => e = .returned (.slice (some ⟨w.heap.size, 0, none⟩) 32 32) ∧ Lies w' w.heap.size (rep 32).toArray 5 ∧ Below w.heap.size w w' := by
  obtain ⟨i0, hi, hz0, hz1, hz2⟩ := info_parts info5
  have HC : Hid (w.cell? ⟨g, 0, none⟩ = some (.int .u8 255)) := hc
  clear hc
  go_enter Try.func12, Try.ntmps12
  go_wp2_with fail
  refine (mul_any w).mono ?_
  rintro e w1 ⟨rfl, hw⟩
  rw [hw]
  clear hw w1
  go_wp2_with (at_make; refine wpList_make_full _ rfl _ _ 22 rfl w.heap.size 5 i0 (.int .u8 0) 1 Try.underlying22 hi hz0 hz1 .i64 .i64 _ _ 32 rfl rfl (by omega) (by omega) (by rw [hz2]; omega) (by unfold maxLen; omega) (by simp) ?_)
  intro w1 hown hgrow
  have HB1 : Hid (Below w.heap.size w w1) := (Below.refl _ _).grown hgrow (Nat.le_refl _) (fun k h => by cases h)
  have HL1 : Hid (Lies w1 w.heap.size (rep 0).toArray 5) := by
    rcases hown.2 with ⟨h', _⟩ | ⟨g', cap, cur, h', hB, hg', hn, hm, hs, ht⟩
    · cases h'
    · injection h' with e1 _ e3
      injection e1 with e2
      injection e2 with e4
      subst e3 e4
      have e5 : cur = (rep 0).toArray := by
        apply Array.ext'
        rw [made_zero] at ht
        rw [List.take_of_length_le (by rw [Array.length_toList]; omega)] at ht
        rw [ht]
        rfl
      rw [e5] at hg'
      exact hg'
  have A1 : Hid (∀ j v, (cellsB (List.replicate 1 255))[j]? = some v → w1.cell? ((⟨g, 0, none⟩ : Addr).add j) = some v) := fun j v hv => by
    match j, hv with
    | 0, hv =>
      simp [cellsB] at hv
      subst hv
      rw [Addr.add_lit]
      exact (HB1.out.cell (p := ⟨g, 0, none⟩) hg).trans HC.out
  clear hown hgrow
  go_wp2_with (refine wpList_copy_splice rfl _ _ 22 22 rfl 5 Try.underlying22 (by kernel_rfl) _ _ _ _ _ _ rfl rfl w.heap.size 0 (rep 0) 5 HL1.out (cellsB (List.replicate 1 255)) rfl (fun _ => ⟨rfl, _, rfl, A1.out⟩) (by decide) (cellsB_one _) w.heap.size w HB1.out (Nat.le_refl _) ?_)
  intro w2 hl2 hb2
  have HL2 : Hid (Lies w2 w.heap.size (rep 1).toArray 5) := by
    have := hl2.out
    rw [show splice (rep 0) 0 (cellsB [255]) = rep 1 from rep_splice 0 1] at this
    exact this
  have HB2 : Hid (Below w.heap.size w w2) := hb2
  clear hl2 hb2 A1 HL1 HB1
  rw [show ((cellsB [255]).length) = 1 from rfl]
  go_wp2_with fail
  go_loopw [8] (fun i wr => ∃ n : Nat, n ≤ 32 ∧ 0 < n ∧ i = .int .i64 n ∧ Hid (Lies wr w.heap.size (rep n).toArray 5) ∧ Hid (Below w.heap.size w wr)) (fun i _ => 32 - (intOf i).toNat)
  case atStart => exact ⟨1, by omega, by omega, rfl, HL2, HB2⟩
  case round =>
    obtain ⟨n, hn, hn0, rfl, HL, HB⟩ := hrel
    by_cases hlt : n < 32
    · obtain ⟨m, hm⟩ : ∃ m, m = Nat.min n (32 - n) := ⟨_, rfl⟩
      have hm1 : m ≤ n := by rw [hm]; exact Nat.min_le_left _ _
      have hm2 : m ≤ 32 - n := by rw [hm]; exact Nat.min_le_right _ _
      have hm0 : 0 < m := by rw [hm]; exact Nat.lt_min.2 ⟨hn0, by omega⟩
      have A0 : Hid ((cellsB (List.replicate m 255)).length = Nat.min n (32 - n)) := by show _ = _; rw [cellsB_length, List.length_replicate, hm]
      have A1 : Hid (∀ j v, (cellsB (List.replicate m 255))[j]? = some v → wr.drew.cell? ((⟨w.heap.size, 0, none⟩ : Addr).add j) = some v) := fun j v hv => by
        have hj : j < m := by
          have := (List.getElem?_eq_some_iff.1 hv).1
          simpa [cellsB] using this
        rw [Addr.add_lit, Nat.zero_add]
        have hc := HL.out.cell j
        rw [List.getElem?_toArray, rep, cellsB_append, List.getElem?_append_left (by rw [cellsB_length, List.length_replicate]; omega), cellsB_at _ _ (by rw [List.length_replicate]; omega), List.getElem_replicate] at hc
        rw [cellsB_at _ _ (by rw [List.length_replicate]; exact hj), List.getElem_replicate] at hv
        exact hc.trans hv
      have A2 : Hid (n + (cellsB (List.replicate m 255)).length ≤ (rep n).length) := by show _ ≤ _; rw [rep_length n hn, cellsB_length, List.length_replicate]; omega
      have i1 : (n : Int) < 32 := by omega
      have i0' : (0 : Int) ≤ (n : Int) := by omega
      have i2 : (n : Int) ≤ 32 := by omega
      have i3 : ¬ (32 : Nat) = n := by omega
      clear hm
      go_wp2_with fail
      go_region_held3 (fun _ => True) (trivial)
        ((refine step_copy_splice (by rfl) _ _ 22 22 (by rfl) 5 Try.underlying22 (by kernel_rfl) _ _ _ _ _ _ (by rfl) (by rfl) w.heap.size n (rep n) 5 HL.out.drew (cellsB (List.replicate m 255)) A0.out (fun _ => ⟨by rfl, _, by rfl, A1.out⟩) A2.out (cellsB_one _) w.heap.size w HB.out.drew (Nat.le_refl _) ?_; intro w3 hl3 hb3))
      have HL3 : Hid (Lies w3 w.heap.size (rep (n + m)).toArray 5) := by
        have := hl3.out
        rw [rep_splice n m] at this
        exact this
      have HB3 : Hid (Below w.heap.size w w3) := hb3
      clear hl3 hb3 A0 A1 A2 HL HB
      have hlen : (cellsB (List.replicate m 255)).length = m := by rw [cellsB_length, List.length_replicate]
      rw [hlen, show IntKind.i64.wrap ((n : Int) + (m : Int)) = ((n + m : Nat) : Int) by rw [IntKind.wrap_i64]; omega]
      clear hlen
      go_wp2
      go_roundw
      case rel => exact ⟨n + m, by omega, by omega, by go_num, HL3, HB3⟩
      case measure => simp [intOf]; omega
    · obtain rfl : n = 32 := by omega
      go_wp2
      go_ret
      exact ⟨rfl, HL.out, HB.out⟩
end Go.Proofs.Ytekjhfhakodooaa
