/-
  The least of the document's heap looked at.
-/
import Derived.Test.YtgbbjhhggjocmaaRhM
namespace Go.Proofs.Ytgbbjhhggjocmaa
open Go.RowKit

set_option maxRecDepth 20000 in
set_option maxHeartbeats 2000000 in
theorem rhpeek_any (b : Nat) (L : List (Int × Int)) (v : Value) (w : World) (h : Gh w b L v) (hlid : L.length ≤ 1048576) : Calls Try.prog 30 #[.pointer (some ⟨b, 0, none⟩)] w fun e w' => e = .returned (.tuple #[vTh (rTop L), .bool (!L.isEmpty)]) ∧ Below w.heap.size w w' := by
  have hszE : (Try.prog.info? 31).map (·.size) = some (#[Value.int .i64 0, .int .i64 0] : Array Value).size := sizeT
  obtain ⟨w1, hw1⟩ : ∃ w1, w1 = w.alloc (.cells #[.int .i64 0, .int .i64 0] 31) := ⟨_, rfl⟩
  have hb1 : Below w.heap.size w w1 := by subst hw1; exact (Below.refl _ w).alloc (Nat.le_refl _) _
  have hL1 : Lies w1 w.heap.size #[.int .i64 0, .int .i64 0] 31 := by subst hw1; exact Lies.new w _ _
  have hls := rhleast_any b L v w1 (h.below hb1) hlid
  have HW1 : Hid (w1 = w.alloc (.cells #[.int .i64 0, .int .i64 0] 31)) := hw1
  clear hw1
  by_cases hL : L = []
  · subst hL
    have hls' : Calls Try.prog 57 #[.pointer (some ⟨b, 0, none⟩)] w1 fun e w' => e = .returned (.int .i64 (-1)) ∧ Lies w' w.heap.size #[.int .i64 0, .int .i64 0] 31 ∧ Below w.heap.size w w' := hls.mono (fun e w' hh => by obtain ⟨r1, n, rfl⟩ := hh; exact ⟨r1, hL1.drewN n, hb1.trans ((below_drewN w1 n).mono hb1.size)⟩)
    clear hls h hL1 hb1
    go_enter Try.func30, Try.ntmps30
    go_wp2_with (go_at_call 57; rw [← HW1.out]; refine hls'.mono ?_; clear hls' HW1; rintro e w2 ⟨rfl, hl2, hb2⟩; have y0 : w2.cell? ⟨w.heap.size, 0, none⟩ = some (.int .i64 0) := hl2.cell 0; have y1 : w2.cell? ⟨w.heap.size, 1, none⟩ = some (.int .i64 0) := hl2.cell 1; have z0 := hl2.frozen 0; have z1 := hl2.frozen 1; have HF : Hid (Lies ((w2.setCell ⟨w.heap.size, 0, none⟩ (.int .i64 0)).setCell ⟨w.heap.size, 1, none⟩ (.int .i64 0)) w.heap.size #[.int .i64 0, .int .i64 0] 31 ∧ Below w.heap.size w ((w2.setCell ⟨w.heap.size, 0, none⟩ (.int .i64 0)).setCell ⟨w.heap.size, 1, none⟩ (.int .i64 0))) := ⟨(hl2.set 0 _).set 1 _, (hb2.setCell (p := ⟨w.heap.size, 0, none⟩) (Nat.le_refl _) _).setCell (p := ⟨w.heap.size, 1, none⟩) (Nat.le_refl _) _⟩; clear hl2 hb2)
    exact ret_cell rfl w.heap.size 31 #[.int .i64 0, .int .i64 0] (0, 0) _ (.bool false) rfl rfl HF.out.1 Try.underlying31 rfl hszE ⟨rfl, HF.out.2⟩
  · have hlen : 0 < L.length := List.length_pos_iff.2 hL
    obtain ⟨j, hj⟩ : ∃ j, j = lsN L L.length := ⟨_, rfl⟩
    have hjl : j < L.length := by rw [hj]; exact lsN_lt L _ hlen
    have hat : atI L L.length = (j : Int) := by unfold atI; rw [if_neg (by omega), hj]
    obtain ⟨x, hx⟩ : ∃ x, x = kA L j := ⟨_, rfl⟩
    have htop : vTh (rTop L) = .agg #[.int .i64 x.1, .int .i64 x.2] := by unfold rTop vTh; rw [if_neg hL, ← hj, ← hx]
    have e2 : (!L.isEmpty) = true := by cases L with | nil => exact absurd rfl hL | cons _ _ => rfl
    rw [htop, e2]
    rw [hat] at hls
    have HLT : Hid (∀ k, Fh b v k → k < w.heap.size) := h.lt
    have HLS : Hid (Calls Try.prog 57 #[.pointer (some ⟨b, 0, none⟩)] w1 fun e w' => e = .returned (.int .i64 (j : Int)) ∧ Gh w' b L v ∧ Lies w' w.heap.size #[.int .i64 0, .int .i64 0] 31 ∧ Below w.heap.size w w') := hls.mono (fun e w' hh => by obtain ⟨r1, n, rfl⟩ := hh; have hB := hb1.trans ((below_drewN w1 n).mono hb1.size); exact ⟨r1, h.below hB, hL1.drewN n, hB⟩)
    obtain ⟨g0, c, rfl, _⟩ := h.at j hjl
    have hgl := HLT.out g0 (.inr rfl)
    have hbl := HLT.out b (.inl rfl)
    have hne3 : w.heap.size ≠ g0 := by omega
    have hne4 : g0 ≠ w.heap.size := by omega
    have hne5 : w.heap.size ≠ b := by omega
    have hne6 : b ≠ w.heap.size := by omega
    have hj0 : ¬ (j : Int) < 0 := by omega
    have hji : (j : Int) < (L.length : Int) := by omega
    have HX : Hid (x = kA L j) := hx
    have HJ : Hid (j < L.length) := hjl
    clear hls h hL1 hb1 htop e2 hat hj hx hL
    go_enter Try.func30, Try.ntmps30
    go_wp2_with (go_at_call 57; rw [← HW1.out]; refine HLS.out.mono ?_; clear HLS HW1; rintro e w2 ⟨rfl, hg2, hl2, hb2⟩; have c1 : w2.cell? ⟨b, 0, none⟩ = some (.slice (some ⟨g0, 0, none⟩) L.length c) := hg2.lies.cell 0; obtain ⟨_, _, e', _, q0, q1⟩ := hg2.at j HJ.out; cases e'; rw [← HX.out] at q0 q1; have y0 : w2.cell? ⟨w.heap.size, 0, none⟩ = some (.int .i64 0) := hl2.cell 0; have y1 : w2.cell? ⟨w.heap.size, 1, none⟩ = some (.int .i64 0) := hl2.cell 1; have z0 := hl2.frozen 0; have z1 := hl2.frozen 1; have HF : Hid (Lies ((w2.setCell ⟨w.heap.size, 0, none⟩ (.int .i64 x.1)).setCell ⟨w.heap.size, 1, none⟩ (.int .i64 x.2)) w.heap.size #[.int .i64 x.1, .int .i64 x.2] 31 ∧ Below w.heap.size w ((w2.setCell ⟨w.heap.size, 0, none⟩ (.int .i64 x.1)).setCell ⟨w.heap.size, 1, none⟩ (.int .i64 x.2))) := ⟨(hl2.set 0 _).set 1 _, (hb2.setCell (p := ⟨w.heap.size, 0, none⟩) (Nat.le_refl _) _).setCell (p := ⟨w.heap.size, 1, none⟩) (Nat.le_refl _) _⟩; clear hl2 hb2 hg2)
    exact ret_cell rfl w.heap.size 31 #[.int .i64 x.1, .int .i64 x.2] (0, 0) _ (.bool true) rfl rfl HF.out.1 Try.underlying31 rfl sizeT ⟨rfl, HF.out.2⟩
end Go.Proofs.Ytgbbjhhggjocmaa
