/-
  A framer: Chunk, New.
-/
import Derived.Test.YthnjbnhmdjpfpaaFd15
namespace Go.Proofs.Ythnjbnhmdjpfpaa
open Go.RowKit

set_option maxHeartbeats 1000000 in
theorem xchunk_arg (F : Nat → Prop) (b m t a : Nat) (st : Fs) (n r : Int) (w : World) (x : Fm w F b m t a st) (h : n < 0 ∨ r < 0) : Calls Try.prog 34 #[.pointer (some ⟨b, 0, none⟩), .int .i64 n, .int .i64 r] w fun e w' => e = .returned (.int .i64 2) ∧ w' = w := by
  obtain ⟨lb, rb, wn, rm, h1, h2, h3⟩ := x.ex
  obtain ⟨c0, c1, c2, c3, c4, c5, c6, c7, c8⟩ := fmC_cells h1
  obtain ⟨f, xs, hv⟩ := tkV_fun b lb rb st
  rw [hv] at c3
  have HT := xthere_any b f xs w c3
  clear c0 c1 c2 c3 c4 c5 c6 c7 c8 h1 h2 h3 x hv
  by_cases hn : n < 0
  · clear h
    go_enter Try.func34, Try.ntmps34
    go_wp2_with fail
    refine HT.mono ?_
    rintro e w2 ⟨rfl, rfl⟩
    go_wp2_with fail
    go_ret
    exact ⟨rfl, rfl⟩
  · have hr : r < 0 := h.resolve_left hn
    clear h
    go_enter Try.func34, Try.ntmps34
    go_wp2_with fail
    refine HT.mono ?_
    rintro e w2 ⟨rfl, rfl⟩
    go_wp2_with fail
    go_ret
    exact ⟨rfl, rfl⟩
set_option maxHeartbeats 1000000 in
theorem xchunk_no (F : Nat → Prop) (b m t a : Nat) (st : Fs) (n r : Int) (w : World) (x : Fm w F b m t a st) (hn : ¬ n < 0) (hr : ¬ r < 0) (hf : st.free = false) : Calls Try.prog 34 #[.pointer (some ⟨b, 0, none⟩), .int .i64 n, .int .i64 r] w fun e w' => e = .returned (.int .i64 6) ∧ w' = w := by
  obtain ⟨lb, rb, wn, rm, h1, h2, h3⟩ := x.ex
  obtain ⟨c0, c1, c2, c3, c4, c5, c6, c7, c8⟩ := fmC_cells h1
  have HF := xfree_fm b st w c2 c5
  rw [hf] at HF
  obtain ⟨f, xs, hv⟩ := tkV_fun b lb rb st
  rw [hv] at c3
  have HT := xthere_any b f xs w c3
  clear c0 c1 c2 c3 c4 c5 c6 c7 c8 h1 h2 h3 x hv hf
  go_enter Try.func34, Try.ntmps34
  go_wp2_with fail
  refine HT.mono ?_
  rintro e w2 ⟨rfl, rfl⟩
  go_wp2_with fail
  refine HF.mono ?_
  rintro e w2 ⟨rfl, rfl⟩
  go_wp2_with fail
  go_ret
  exact ⟨rfl, rfl⟩
set_option maxHeartbeats 2000000 in
theorem xchunk_ok (F : Nat → Prop) (b m t a : Nat) (n r : Nat) (hn : n ≤ 9223372036854775807) (hr : r ≤ 9223372036854775807) (w : World) (x : Fm w F b m t a (.ln [])) : Calls Try.prog 34 #[.pointer (some ⟨b, 0, none⟩), .int .i64 (n : Int), .int .i64 (r : Int)] w fun e w' => e = .returned (.int .i64 0) ∧ Fm w' F b m t a (.ch n r) ∧ Chg F w w' := by
  obtain ⟨lb, rb, wn, rm, h1, h2, h3⟩ := x.ex
  obtain ⟨c0, c1, c2, c3, c4, c5, c6, c7, c8⟩ := fmC_cells h1
  obtain ⟨f2, f3, f5, f6, f7, f8⟩ := fmC_frozen h1
  have HF := xfree_fm b (.ln []) w c2 c5
  rw [show (Fs.ln []).free = true from rfl] at HF
  have HT := xthere_any b 48 #[.pointer (some ⟨lb, 0, none⟩)] w c3
  have HX : Hid (Fm w F b m t a (.ln [])) := x
  have HL : Hid (Lies w b (fmC t a b lb rb wn rm (.ln [])).toArray 41) := h1
  have HLN : Hid (Ln w F lb m []) := h2
  have k1 : ¬ (n : Int) < 0 := by omega
  have k2 : ¬ (r : Int) < 0 := by omega
  have HNR : Hid (n ≤ 9223372036854775807 ∧ r ≤ 9223372036854775807) := ⟨hn, hr⟩
  clear h1 h2 h3 x hn hr
  go_enter Try.func34, Try.ntmps34
  go_wp2_with fail
  refine HT.mono ?_
  rintro e w2 ⟨rfl, rfl⟩
  clear HT
  go_wp2_with fail
  refine HF.mono ?_
  rintro e w2 ⟨rfl, rfl⟩
  go_wp2_with fail
  go_ret
  refine ⟨rfl, ?_⟩
  have hBut : But b w2 ((((w2.setCell ⟨b, 2, none⟩ (.int .i64 3)).setCell ⟨b, 3, none⟩ (.func (.func 49) #[.pointer (some ⟨b, 0, none⟩)] #[])).setCell ⟨b, 7, none⟩ (.int .i64 (n : Int))).setCell ⟨b, 8, none⟩ (.int .i64 (r : Int))) := ((((But.refl _ _).set _ _).set _ _).set _ _).set _ _
  have hL2 : Lies ((((w2.setCell ⟨b, 2, none⟩ (.int .i64 3)).setCell ⟨b, 3, none⟩ (.func (.func 49) #[.pointer (some ⟨b, 0, none⟩)] #[])).setCell ⟨b, 7, none⟩ (.int .i64 (n : Int))).setCell ⟨b, 8, none⟩ (.int .i64 (r : Int))) b (fmC t a b lb rb (n : Int) (r : Int) (.ch n r)).toArray 41 := (((HL.out.set 2 _).set 3 _).set 7 _).set 8 _
  have hLn : Ln _ F lb m [] := ln_new HLN.out HL.out hBut
  exact ⟨⟨⟨lb, rb, _, _, hL2, hLn, rfl, rfl, HNR.out⟩, HX.out.fb, fun k hk => Nat.lt_of_lt_of_le (HX.out.fl k hk) hBut.size, HX.out.t1, HX.out.t2, HX.out.a1, HX.out.a2⟩, hBut.chg HX.out.fb⟩
/-- Limits. -/
def limC (m t a r e h : Int) : Array Value := #[.int .i64 m, .int .i64 t, .int .i64 a, .int .i64 r, .int .i64 e, .int .i64 h]
def okL (n : Int) : Prop := 1 ≤ n ∧ n ≤ 16777216
set_option maxHeartbeats 8000000 in
set_option maxRecDepth 20000 in
theorem xnew_ok (m t a : Nat) (r e h : Int) (hm : okL m) (ht : okL t) (ha : okL a) (hr : okL r) (he : okL e) (hh : okL h) (w : World) : Calls Try.prog 12 #[.agg (limC m t a r e h)] w fun z w' => ∃ b, z = .returned (.tuple #[.pointer (some ⟨b, 0, none⟩), .int .i64 0]) ∧ Fm w' (fun k => w.heap.size ≤ k ∧ k < w'.heap.size) b m t a (.ln []) ∧ Below w.heap.size w w' := by
  obtain ⟨W, hW⟩ : ∃ W, W = w.alloc (.cells (limC m t a r e h) 23) := ⟨_, rfl⟩
  have hBW : Below w.heap.size w W := by subst hW; exact (Below.refl _ _).alloc (Nat.le_refl _) _
  have hLW : Lies W w.heap.size (limC m t a r e h) 23 := by subst hW; exact Lies.new w _ _
  have HLW : Hid (Lies W w.heap.size (limC m t a r e h) 23) := hLW
  have HBW : Hid (Below w.heap.size w W) := hBW
  have HWW : Hid (w.alloc (.cells #[.int .i64 (m : Int), .int .i64 (t : Int), .int .i64 (a : Int), .int .i64 r, .int .i64 e, .int .i64 h] 23) = W) := hW.symm
  have HZ := fun w => znew_good m (by unfold okL at hm; omega) (by unfold okL at hm; omega) w
  have c0 : W.cell? ⟨w.heap.size, 0, none⟩ = some (.int .i64 (m : Int)) := hLW.cell 0
  have c1 : W.cell? ⟨w.heap.size, 1, none⟩ = some (.int .i64 (t : Int)) := hLW.cell 1
  have c2 : W.cell? ⟨w.heap.size, 2, none⟩ = some (.int .i64 (a : Int)) := hLW.cell 2
  have c3 : W.cell? ⟨w.heap.size, 3, none⟩ = some (.int .i64 r) := hLW.cell 3
  have c4 : W.cell? ⟨w.heap.size, 4, none⟩ = some (.int .i64 e) := hLW.cell 4
  have c5 : W.cell? ⟨w.heap.size, 5, none⟩ = some (.int .i64 h) := hLW.cell 5
  have HM : Hid (okL m ∧ okL t ∧ okL a) := ⟨hm, ht, ha⟩
  unfold okL at hm ht ha hr he hh
  have k0 : ¬ (m : Int) < 1 ∧ ¬ 16777216 < (m : Int) := by omega
  have k1 : ¬ (t : Int) < 1 ∧ ¬ 16777216 < (t : Int) := by omega
  have k2 : ¬ (a : Int) < 1 ∧ ¬ 16777216 < (a : Int) := by omega
  have k3 : ¬ r < 1 ∧ ¬ 16777216 < r := by omega
  have k4 : ¬ e < 1 ∧ ¬ 16777216 < e := by omega
  have k5 : ¬ h < 1 ∧ ¬ 16777216 < h := by omega
  clear hm ht ha hr he hh hBW hLW hW
  show Calls Try.prog 12 #[.agg #[.int .i64 (m : Int), .int .i64 (t : Int), .int .i64 (a : Int), .int .i64 r, .int .i64 e, .int .i64 h]] w _
  go_enter Try.func12, Try.ntmps12
  go_wp2_with (rw [HWW.out])
  clear HWW
  go_loopw [22] (fun iv wr => ∃ k : Nat, k ≤ 6 ∧ iv = .int .i64 (k : Int) ∧ wr = W) (fun iv _ => 6 - (intOf iv).toNat)
  case atStart => exact ⟨0, by omega, rfl, rfl⟩
  case round =>
    obtain ⟨k, hk, rfl, rfl⟩ := hrel
    rcases (by omega : k = 0 ∨ k = 1 ∨ k = 2 ∨ k = 3 ∨ k = 4 ∨ k = 5 ∨ k = 6) with rfl | rfl | rfl | rfl | rfl | rfl | rfl
    · have q : (Instr.index 80 (.agg #[.int .i64 (m : Int), .int .i64 (t : Int), .int .i64 (a : Int), .int .i64 r, .int .i64 e, .int .i64 h]) (.int .i64 0)).run Try.prog wr = .ok (.int .i64 (m : Int)) wr := rfl
      clear HZ
      go_wp2_with fail
      exact ⟨⟨1, by omega, rfl, trivial⟩, by simp [intOf]⟩
    · have q : (Instr.index 80 (.agg #[.int .i64 (m : Int), .int .i64 (t : Int), .int .i64 (a : Int), .int .i64 r, .int .i64 e, .int .i64 h]) (.int .i64 1)).run Try.prog wr = .ok (.int .i64 (t : Int)) wr := rfl
      clear HZ
      go_wp2_with fail
      exact ⟨⟨2, by omega, rfl, trivial⟩, by simp [intOf]⟩
    · have q : (Instr.index 80 (.agg #[.int .i64 (m : Int), .int .i64 (t : Int), .int .i64 (a : Int), .int .i64 r, .int .i64 e, .int .i64 h]) (.int .i64 2)).run Try.prog wr = .ok (.int .i64 (a : Int)) wr := rfl
      clear HZ
      go_wp2_with fail
      exact ⟨⟨3, by omega, rfl, trivial⟩, by simp [intOf]⟩
    · have q : (Instr.index 80 (.agg #[.int .i64 (m : Int), .int .i64 (t : Int), .int .i64 (a : Int), .int .i64 r, .int .i64 e, .int .i64 h]) (.int .i64 3)).run Try.prog wr = .ok (.int .i64 r) wr := rfl
      clear HZ
      go_wp2_with fail
      exact ⟨⟨4, by omega, rfl, trivial⟩, by simp [intOf]⟩
    · have q : (Instr.index 80 (.agg #[.int .i64 (m : Int), .int .i64 (t : Int), .int .i64 (a : Int), .int .i64 r, .int .i64 e, .int .i64 h]) (.int .i64 4)).run Try.prog wr = .ok (.int .i64 e) wr := rfl
      clear HZ
      go_wp2_with fail
      exact ⟨⟨5, by omega, rfl, trivial⟩, by simp [intOf]⟩
    · have q : (Instr.index 80 (.agg #[.int .i64 (m : Int), .int .i64 (t : Int), .int .i64 (a : Int), .int .i64 r, .int .i64 e, .int .i64 h]) (.int .i64 5)).run Try.prog wr = .ok (.int .i64 h) wr := rfl
      clear HZ
      go_wp2_with fail
      exact ⟨⟨6, by omega, rfl, trivial⟩, by simp [intOf]⟩
    · go_wp2_with fail
      refine (HZ _).mono ?_
      rintro z w3 ⟨rfl, hX, hB⟩
      have hL3 : Lies w3 w.heap.size (limC m t a r e h) 23 := HLW.out.below hB HLW.out.lt
      have d1 : w3.cell? ⟨w.heap.size, 1, none⟩ = some (.int .i64 (t : Int)) := hL3.cell 1
      have d2 : w3.cell? ⟨w.heap.size, 2, none⟩ = some (.int .i64 (a : Int)) := hL3.cell 2
      have HX : Hid (Ln w3 (fun k => wr.heap.size ≤ k) wr.heap.size m []) := hX
      have HB : Hid (Below w.heap.size w w3) := HBW.out.trans (hB.mono HBW.out.size)
      have HS : Hid (w.heap.size < wr.heap.size ∧ wr.heap.size ≤ w3.heap.size) := ⟨HLW.out.lt, hB.size⟩
      clear hX hB hL3 c0 c1 c2 c3 c4 c5 HZ k0 k1 k2 k3 k4 k5
      obtain ⟨V, hV⟩ : ∃ V, V = w3.alloc (.cells #[.int .i64 (t : Int), .int .i64 (a : Int), .int .i64 0, .nilFunc, .pointer (some ⟨wr.heap.size, 0, none⟩), .bool false, .pointer none, .int .i64 0, .int .i64 0] 41) := ⟨_, rfl⟩
      have hLV : Lies V w3.heap.size #[.int .i64 (t : Int), .int .i64 (a : Int), .int .i64 0, .nilFunc, .pointer (some ⟨wr.heap.size, 0, none⟩), .bool false, .pointer none, .int .i64 0, .int .i64 0] 41 := by subst hV; exact Lies.new w3 _ _
      have HLV : Hid (Lies V w3.heap.size #[.int .i64 (t : Int), .int .i64 (a : Int), .int .i64 0, .nilFunc, .pointer (some ⟨wr.heap.size, 0, none⟩), .bool false, .pointer none, .int .i64 0, .int .i64 0] 41) := hLV
      have HBV : Hid (Below w3.heap.size w3 V) := by subst hV; exact (Below.refl _ _).alloc (Nat.le_refl _) _
      have HVS : Hid (w3.heap.size < V.heap.size) := hLV.lt
      have HTL := xtol_any w3.heap.size wr.heap.size _ V hLV rfl (hLV.cell 4)
      have HVV : Hid (w3.alloc (.cells #[.int .i64 (t : Int), .int .i64 (a : Int), .int .i64 0, .nilFunc, .pointer (some ⟨wr.heap.size, 0, none⟩), .bool false, .pointer none, .int .i64 0, .int .i64 0] 41) = V) := hV.symm
      clear hV hLV
      go_wp2_with (rw [HVV.out])
      refine HTL.mono ?_
      rintro z w4 ⟨rfl, rfl⟩
      clear HTL HVV
      go_wp2_with fail
      go_ret2
      have hs := HS.out
      have hLn := LnC.below HX.out HBV.out
      have hBut : But w3.heap.size V (((V.setCell ⟨w3.heap.size, 2, none⟩ (.int .i64 1)).setCell ⟨w3.heap.size, 3, none⟩ (.func (.func 48) #[.pointer (some ⟨wr.heap.size, 0, none⟩)] #[])).setCell ⟨w3.heap.size, 6, none⟩ (.pointer none)) := (((But.refl _ _).set _ _).set _ _).set _ _
      have hL2 : Lies (((V.setCell ⟨w3.heap.size, 2, none⟩ (.int .i64 1)).setCell ⟨w3.heap.size, 3, none⟩ (.func (.func 48) #[.pointer (some ⟨wr.heap.size, 0, none⟩)] #[])).setCell ⟨w3.heap.size, 6, none⟩ (.pointer none)) w3.heap.size (fmC t a w3.heap.size wr.heap.size 0 0 0 (.ln [])).toArray 41 := ((HLV.out.set 2 _).set 3 _).set 6 _
      have hLn2 := ln_new hLn HLV.out hBut
      have hz := hBut.size
      have hv := HVS.out
      obtain ⟨⟨m1, m2⟩, ⟨t1, t2⟩, a1, a2⟩ := HM.out
      refine ⟨_, rfl, ⟨⟨wr.heap.size, 0, 0, 0, hL2, LnC.mono hLn2 (fun k hk hl => ⟨Nat.le_trans (Nat.le_of_lt hs.1) hk, hl⟩), trivial⟩, ⟨Nat.le_trans (Nat.le_of_lt hs.1) hs.2, Nat.lt_of_lt_of_le hv hz⟩, fun k hk => hk.2, by omega, by omega, by omega, by omega⟩, ?_⟩
      exact (HB.out.trans (HBV.out.mono HB.out.size)).trans ((Chg.to_below (hBut.chg (F := fun k => k = w3.heap.size) rfl) (B := w3.heap.size) (Nat.le_of_lt hv) (fun k e => Nat.le_of_eq e.symm)).mono HB.out.size)
end Go.Proofs.Ythnjbnhmdjpfpaa
