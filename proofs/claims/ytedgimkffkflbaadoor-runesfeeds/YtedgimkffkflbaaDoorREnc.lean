/-
  The document's Encode.
-/
import Derived.Test.YtedgimkffkflbaaDoorRUt
import Derived.Test.YtedgimkffkflbaaDoorBase2
import Derived.Test.YtedgimkffkflbaaDoorGrown
namespace Go.Proofs.YtedgimkffkflbaaDoor
open Go.RowKit

theorem noR_take (l : List Int) (k : Nat) (hk : k < l.length) (h : ∀ j (hj : j < l.length), j < k → isR l[j]) (hr : ¬ isR l[k]) : noR l = k := by
  induction l generalizing k with
  | nil => simp at hk
  | cons x t ih =>
    cases k with
    | zero => simp only [noR]; rw [if_neg (by simpa using hr)]
    | succ k =>
      simp only [noR]
      rw [if_pos (show isR x from h 0 (by simp) (by omega))]
      congr 1
      exact ih k (by simpa using hk) (fun j hj hjk => h (j + 1) (by simp; omega) (by omega)) (by simpa using hr)
theorem noR_full (l : List Int) (h : ∀ j (hj : j < l.length), isR l[j]) : noR l = l.length := by
  rw [noR_all]
  intro r hr
  obtain ⟨j, hj, rfl⟩ := List.getElem_of_mem hr
  exact h j hj

theorem bts_new (w : World) (l : List UInt8) : Bts (some ⟨w.heap.size, 0, none⟩) l (w.alloc (.cells (rowV l) 5)) := by
  refine .inr ⟨w.heap.size, 0, rfl, by simp, fun j hj => ?_⟩
  rw [Nat.zero_add, (Lies.new w (rowV l) 5).cell j, rowV_at l j hj]

set_option maxHeartbeats 2000000 in
set_option maxRecDepth 100000 in
theorem denc_any (a : Option Addr) (l : List Int) (cap : Nat) (w : World) (hb : Nts .i32 a l w) (hs : l.length ≤ 35184372088000) (h32 : ∀ x ∈ l, -2147483648 ≤ x ∧ x ≤ 2147483647) :
    Calls Tryd.prog 18 #[.slice a l.length cap] w fun e w' => e = .returned (.tuple #[.string (encT l), .agg (encE l)]) ∧ Below w.heap.size w w' := by
  have HL : Hid (Nts .i32 a l w) := hb
  have HX : Hid (∀ x ∈ l, -2147483648 ≤ x ∧ x ≤ 2147483647) := h32
  have HW0 : Hid (Below w.heap.size w (w.alloc (.cells #[.int .i64 0, .int .i64 0] 33))) := (Below.refl _ w).alloc (Nat.le_refl _) _
  have HS0 : Hid (Lies (w.alloc (.cells #[.int .i64 0, .int .i64 0] 33)) w.heap.size #[.int .i64 0, .int .i64 0] 33) := Lies.new w _ 33
  clear hb h32
  go_enter Tryd.func18, Tryd.ntmps18
  go_wp2
  go_loopw [4, 9] (fun o i wr => ∃ k : Nat, i = .int .i64 k ∧ k ≤ l.length ∧ Hid (wr.ownsRow (w.heap.size + 1) 5 1 o (encL (l.take k)).length (cellsB (encL (l.take k)))) ∧ Hid (Below w.heap.size w wr) ∧ Hid (Lies wr w.heap.size #[.int .i64 0, .int .i64 0] 33) ∧ w.heap.size + 1 ≤ wr.heap.size ∧ Hid (∀ j (hj : j < l.length), j < k → isR l[j])) (fun _ i _ => l.length - (intOf i).toNat)
  case atStart => exact ⟨0, rfl, Nat.zero_le _, own_nil _ _, HW0, HS0, by simp, fun j _ h => absurd h (Nat.not_lt_zero _)⟩
  case round =>
    obtain ⟨k, rfl, hk, HO, HW, HS, hsz, HP⟩ := hrel
    by_cases hlk : k < l.length
    · obtain ⟨g, o, rfl, hg, hc⟩ := (HL.out.below HW.out).cell k hlk
      have h3 := HX.out l[k] (List.getElem_mem hlk)
      have hw3 : IntKind.i64.wrap l[k] = l[k] := by rw [IntKind.wrap_i64]; omega
      have HI := dis_any l[k] wr
      by_cases hr : isR l[k]
      · rw [decide_eq_true hr] at HI
        have HI2 : Hid (∀ wx, Calls Tryd.prog 50 #[.int .i32 l[k]] wx fun e w' => e = .returned (.slice (some ⟨wx.heap.size, 0, none⟩) (Lib.encodeRune l[k]).length (Lib.encodeRune l[k]).length) ∧ w' = wx.alloc (.cells (rowV (Lib.encodeRune l[k])) 5)) := fun wx => dwr_any l[k] hr wx
        have HPN : Hid (∀ j (hj : j < l.length), j < k + 1 → isR l[j]) := fun j hj hjk => by
          rcases Nat.lt_or_ge j k with h | h
          · exact HP.out j hj h
          · obtain rfl : j = k := by omega
            exact hr
        have HEL : Hid (encL (l.take (k + 1)) = encL (l.take k) ++ Lib.encodeRune l[k]) := encL_take l k hlk
        have h4 := encL_length (l.take k)
        rw [List.length_take] at h4
        have h5 := encL_length (l.take (k + 1))
        rw [List.length_take, HEL.out, List.length_append] at h5
        generalize encL (l.take k) = E1 at *
        generalize Lib.encodeRune l[k] = E2 at *
        go_wp2_with fail
        refine HI.mono ?_
        rintro e w1 ⟨rfl, rfl⟩
        go_wp2_with fail
        refine (HI2.out _).mono ?_
        rintro e w2 ⟨rfl, rfl⟩
        go_wp2_with (at_builtin; refine wpList_append_bts rfl _ _ rfl (w.heap.size + 1) _ E1.length E1 rfl (HO.out.alloc _) (some ⟨w1.heap.size, 0, none⟩) E2 _ rfl (bts_new w1 E2) (fun e => by cases e) (by omega) (by simp; omega) ?_; intro v4 w4 hown4 hgrow4)
        have HO4 : Hid (w4.ownsRow (w.heap.size + 1) 5 1 v4 (encL (l.take (k + 1))).length (cellsB (encL (l.take (k + 1))))) := by
          show World.ownsRow _ _ _ _ _ _ _
          rw [HEL.out, List.length_append]
          exact hown4
        have HB4 : Hid (Below w.heap.size w w4) := hgrow4 _ _ (HW.out.alloc (by omega) _) (by omega)
        have b4 := hgrow4 (w.heap.size + 1) w1 ((Below.refl _ _).alloc hsz _) (Nat.le_refl _)
        have HS4 : Hid (Lies w4 w.heap.size #[.int .i64 0, .int .i64 0] 33) := HS.out.below b4 (by omega)
        have hsz4 := Nat.le_trans hsz b4.size
        clear hown4 hgrow4 b4
        go_roundw
        case rel => exact ⟨k + 1, by go_num, by omega, HO4, HB4, HS4, hsz4, HPN⟩
        case measure => simp [intOf]; omega
      · rw [decide_eq_false hr] at HI
        have hN := noR_take l k hlk HP.out hr
        have HT : Hid (encT l = ⟨#[]⟩) := if_pos (by omega)
        have HE : Hid (encE l = #[.int .i64 50, .int .i64 (noR l)]) := if_pos (by omega)
        have c0 := HS.out.cell 0
        have c1 := HS.out.cell 1
        have f0 := HS.out.frozen 0
        have f1 := HS.out.frozen 1
        simp at c0 c1
        have HNN : Hid (noR l = k) := hN
        clear hN
        go_wp2_with fail
        refine HI.mono ?_
        rintro e w1 ⟨rfl, rfl⟩
        go_wp2
        have HZ : Hid (Lies ((w1.setCell ⟨w.heap.size, 0, none⟩ (.int .i64 50)).setCell ⟨w.heap.size, 1, none⟩ (.int .i64 k)) w.heap.size #[.int .i64 50, .int .i64 k] 33) := (HS.out.set 0 _).set 1 _
        have z0 := HZ.out.cell 0
        have z1 := HZ.out.cell 1
        simp at z0 z1
        (try simp only [Exit.inBlock, Exit.then])
        refine bodyPost_ret (v := .tuple #[.string ⟨#[]⟩, .agg #[.int .i64 50, .int .i64 k]]) (by simp [results, Tryd.results18, go_sem, z0, z1]) rfl ⟨by rw [HT.out, HE.out, HNN.out], (HW.out.setCell (p := ⟨w.heap.size, 0, none⟩) (Nat.le_refl _) _).setCell (p := ⟨w.heap.size, 1, none⟩) (Nat.le_refl _) _⟩
    · obtain rfl : k = l.length := by omega
      have hN := noR_full l (fun j hj => HP.out j hj hj)
      have HT : Hid (encT l = ⟨(encL l).toArray⟩) := if_neg (by omega)
      have HE : Hid (encE l = #[.int .i64 0, .int .i64 0]) := if_neg (by omega)
      rw [List.take_length] at HO
      have HCV : Hid ((convert 27 9 _).run Tryd.prog wr = .ok (.string ⟨(encL l).toArray⟩) wr) := own_conv HO.out
      have c0 := HS.out.cell 0
      have c1 := HS.out.cell 1
      have f0 := HS.out.frozen 0
      have f1 := HS.out.frozen 1
      simp at c0 c1
      clear hN
      have hcv := HCV.out
      go_wp2
      have HZ : Hid (Lies ((wr.setCell ⟨w.heap.size, 0, none⟩ (.int .i64 0)).setCell ⟨w.heap.size, 1, none⟩ (.int .i64 0)) w.heap.size #[.int .i64 0, .int .i64 0] 33) := (HS.out.set 0 _).set 1 _
      have z0 := HZ.out.cell 0
      have z1 := HZ.out.cell 1
      simp at z0 z1
      (try simp only [Exit.inBlock, Exit.then])
      refine bodyPost_ret (v := .tuple #[.string ⟨(encL l).toArray⟩, .agg #[.int .i64 0, .int .i64 0]]) (by simp [results, Tryd.results18, go_sem, c0, c1]) rfl ⟨by rw [HT.out, HE.out], (HW.out.setCell (p := ⟨w.heap.size, 0, none⟩) (Nat.le_refl _) _).setCell (p := ⟨w.heap.size, 1, none⟩) (Nat.le_refl _) _⟩
end Go.Proofs.YtedgimkffkflbaaDoor
