/-
  A framer: Held, Data, Chunk, New.
-/
import Derived.Test.YthnjbnhmdjpfpaaFo15
import Derived.Deep.RegionHeld3
namespace Go.Proofs.Ythnjbnhmdjpfpaa
open Go.RowKit

theorem tkV_fun (b lb rb : Nat) (st : Fs) : ∃ f xs, tkV b lb rb st = .func (.func f) xs #[] := by cases st <;> exact ⟨_, _, rfl⟩
theorem xmode_fm (F : Nat → Prop) (b m t a : Nat) (st : Fs) (w : World) (x : Fm w F b m t a st) : Calls Try.prog 14 #[.pointer (some ⟨b, 0, none⟩)] w fun e w' => e = .returned (.int .i64 (st.md : Int)) ∧ w' = w := by
  obtain ⟨lb, rb, wn, rm, h1, h2, h3⟩ := x.ex
  obtain ⟨c0, c1, c2, c3, c4, c5, c6, c7, c8⟩ := fmC_cells h1
  obtain ⟨f, xs, hf⟩ := tkV_fun b lb rb st
  rw [hf] at c3
  exact xmode_any b f st.md xs w c3 c2
set_option maxHeartbeats 1000000 in
theorem xheld_fm (F : Nat → Prop) (b m t a : Nat) (st : Fs) (w : World) (x : Fm w F b m t a st) : Calls Try.prog 35 #[.pointer (some ⟨b, 0, none⟩)] w fun e w' => e = .returned (.int .i64 (st.held m : Nat)) ∧ w' = w := by
  obtain ⟨lb, rb, wn, rm, h1, h2, h3⟩ := x.ex
  obtain ⟨c0, c1, c2, c3, c4, c5, c6, c7, c8⟩ := fmC_cells h1
  obtain ⟨f, xs, hf⟩ := tkV_fun b lb rb st
  rw [hf] at c3
  have HT := xthere_any b f xs w c3
  clear c0 c1 c3 c5 c7 c8 hf h1 x
  cases st with
  | ln s =>
    have HH := zheld_ln F lb m s w h2
    have d2 : w.cell? ⟨b, 2, none⟩ = some (.int .i64 1) := c2
    clear h2 h3 c2 c6
    go_enter Try.func35, Try.ntmps35
    go_wp2_with fail
    refine HT.mono ?_
    rintro e w2 ⟨rfl, rfl⟩
    clear HT
    go_wp2_with fail
    refine HH.mono ?_
    rintro e w2 ⟨rfl, rfl⟩
    go_wp2_with fail
    go_ret
    exact ⟨rfl, rfl⟩
  | dt d =>
    have HH := dheld_any rb t a d w h3.2.1
    have d2 : w.cell? ⟨b, 2, none⟩ = some (.int .i64 2) := c2
    have d6 : w.cell? ⟨b, 6, none⟩ = some (.pointer (some ⟨rb, 0, none⟩)) := c6
    clear h2 h3 c2 c6
    go_enter Try.func35, Try.ntmps35
    go_wp2_with fail
    refine HT.mono ?_
    rintro e w2 ⟨rfl, rfl⟩
    clear HT
    go_wp2_with fail
    refine HH.mono ?_
    rintro e w2 ⟨rfl, rfl⟩
    go_wp2_with fail
    go_ret
    exact ⟨rfl, rfl⟩
  | ch n r =>
    have d2 : w.cell? ⟨b, 2, none⟩ = some (.int .i64 3) := c2
    clear h2 h3 c2 c6
    go_enter Try.func35, Try.ntmps35
    go_wp2_with fail
    refine HT.mono ?_
    rintro e w2 ⟨rfl, rfl⟩
    clear HT
    go_wp2_with fail
    go_ret
    exact ⟨rfl, rfl⟩
def Fs.free (st : Fs) : Bool := decide (st.md = 1) && !st.bg
theorem xfree_fm (b : Nat) (st : Fs) (w : World) (c2 : w.cell? ⟨b, 2, none⟩ = some (.int .i64 (st.md : Int))) (c5 : w.cell? ⟨b, 5, none⟩ = some (.bool st.bg)) : Calls Try.prog 37 #[.pointer (some ⟨b, 0, none⟩)] w fun e w' => e = .returned (.bool st.free) ∧ w' = w := xfree_any b st.md st.bg w c2 c5
/-- A framer that is free: no line is begun. -/
theorem Fs.free_is {st : Fs} (h : st.free = true) : st = .ln [] := by
  cases st with
  | ln s =>
    have : s = [] := by
      cases s with
      | nil => rfl
      | cons c r => cases h
    rw [this]
  | dt d => cases h
  | ch n r => cases h
set_option maxHeartbeats 1000000 in
theorem xdata_no (F : Nat → Prop) (b m t a : Nat) (st : Fs) (w : World) (x : Fm w F b m t a st) (hf : st.free = false) : Calls Try.prog 16 #[.pointer (some ⟨b, 0, none⟩)] w fun e w' => e = .returned (.int .i64 6) ∧ w' = w := by
  obtain ⟨lb, rb, wn, rm, h1, h2, h3⟩ := x.ex
  obtain ⟨c0, c1, c2, c3, c4, c5, c6, c7, c8⟩ := fmC_cells h1
  have HF := xfree_fm b st w c2 c5
  rw [hf] at HF
  obtain ⟨f, xs, hv⟩ := tkV_fun b lb rb st
  rw [hv] at c3
  have HT := xthere_any b f xs w c3
  clear c0 c1 c2 c3 c4 c5 c6 c7 c8 hf h1 h2 h3 x hv
  go_enter Try.func16, Try.ntmps16
  go_wp2_with fail
  refine HT.mono ?_
  rintro e w2 ⟨rfl, rfl⟩
  clear HT
  go_wp2_with fail
  refine HF.mono ?_
  rintro e w2 ⟨rfl, rfl⟩
  go_wp2_with fail
  go_ret
  exact ⟨rfl, rfl⟩
theorem ln_new {w : World} {F : Nat → Prop} {lb m : Nat} (x : Ln w F lb m []) {b : Nat} {cs : Array Value} (hl : Lies w b cs 41) {w' : World} (hB : But b w w') : Ln w' F lb m [] := LnC.away x hl (by decide) (by decide) (fun k h1 h2 => hB.block k h1 h2)
set_option maxHeartbeats 2000000 in
theorem xdata_ok (F : Nat → Prop) (b m t a : Nat) (w : World) (x : Fm w F b m t a (.ln [])) : Calls Try.prog 16 #[.pointer (some ⟨b, 0, none⟩)] w fun e w' => e = .returned (.int .i64 0) ∧ Fm w' (fun k => F k ∨ k = w.heap.size) b m t a (.dt Ds.new) ∧ Chg F w w' := by
  obtain ⟨lb, rb, wn, rm, h1, h2, h3⟩ := x.ex
  obtain ⟨c0, c1, c2, c3, c4, c5, c6, c7, c8⟩ := fmC_cells h1
  have HF := xfree_fm b (.ln []) w c2 c5
  rw [show (Fs.ln []).free = true from rfl] at HF
  have HT := xthere_any b 48 #[.pointer (some ⟨lb, 0, none⟩)] w c3
  have HN := fun w => dnew_good t a x.t1 x.t2 x.a1 x.a2 w
  have HX : Hid (Fm w F b m t a (.ln [])) := x
  have HK : Hid (∀ w', Below w.heap.size w.drew w' → w'.cell? ⟨b, 0, none⟩ = some (.int .i64 (t : Int)) ∧ w'.cell? ⟨b, 1, none⟩ = some (.int .i64 (a : Int))) := fun w' hb => ⟨(World.cell?_of_block (w := w) (a := ⟨b, 0, none⟩) (hb.block b x.lt)).trans c0, (World.cell?_of_block (w := w) (a := ⟨b, 1, none⟩) (hb.block b x.lt)).trans c1⟩
  have HL : Hid (Lies w b (fmC t a b lb rb wn rm (.ln [])).toArray 41) := h1
  have HLN : Hid (Ln w F lb m []) := h2
  clear c2 c3 c4 c5 c6 c7 c8 h1 h2 h3 x
  go_enter Try.func16, Try.ntmps16
  go_wp2_with fail
  refine HT.mono ?_
  rintro e w2 ⟨rfl, rfl⟩
  clear HT
  go_wp2_with fail
  refine HF.mono ?_
  rintro e w2 ⟨rfl, rfl⟩
  go_wp2_with fail
  go_region_held3 (fun w' => w'.cell? ⟨b, 0, none⟩ = some (.int .i64 (t : Int)) ∧ w'.cell? ⟨b, 1, none⟩ = some (.int .i64 (a : Int))) (first | assumption | exact ⟨c0, c1⟩ | exact HK.out _ hB) (first | (go_at_call 38; refine (HN _).mono ?_; rintro e w3 ⟨rfl, hR, hB⟩))
  have hLW : Lies w3 b (fmC t a b lb rb wn rm (.ln [])).toArray 41 := HL.out.below (show Below w2.heap.size w2 w3 from ⟨hB.os, hB.tape, hB.output, hB.size, hB.block⟩) HX.out.lt
  obtain ⟨-, -, c2, c3, c4, c5, c6, -, -⟩ := fmC_cells hLW
  obtain ⟨f2, f3, f5, f6, f7, f8⟩ := fmC_frozen hLW
  have HR : Hid (Rd w3 w2.heap.size t a Ds.new) := hR
  have HB : Hid (Below w2.heap.size w2 w3) := ⟨hB.os, hB.tape, hB.output, hB.size, hB.block⟩
  have HLW : Hid (Lies w3 b (fmC t a b lb rb wn rm (.ln [])).toArray 41) := hLW
  clear hR hB hLW HN HF c0 c1 f7 f8 HK HL
  go_wp2_with fail
  go_ret
  refine ⟨rfl, ?_⟩
  have hb := HX.out.lt
  have hB := HB.out
  have hBut : But b w3 (((w3.setCell ⟨b, 2, none⟩ (.int .i64 2)).setCell ⟨b, 3, none⟩ (.func (.func 39) #[.pointer (some ⟨w2.heap.size, 0, none⟩)] #[])).setCell ⟨b, 6, none⟩ (.pointer (some ⟨w2.heap.size, 0, none⟩))) := (((But.refl _ _).set _ _).set _ _).set _ _
  have hL2 : Lies (((w3.setCell ⟨b, 2, none⟩ (.int .i64 2)).setCell ⟨b, 3, none⟩ (.func (.func 39) #[.pointer (some ⟨w2.heap.size, 0, none⟩)] #[])).setCell ⟨b, 6, none⟩ (.pointer (some ⟨w2.heap.size, 0, none⟩))) b (fmC t a b lb w2.heap.size wn rm (.dt Ds.new)).toArray 41 := ((HLW.out.set 2 _).set 3 _).set 6 _
  have hLn : Ln _ F lb m [] := ln_new (LnC.below HLN.out hB) HLW.out hBut
  have hRd : Rd _ w2.heap.size t a Ds.new := HR.out.keep (hBut.block _ HR.out.lt (by omega))
  have hs := hBut.size
  have hs3 := hB.size
  have hr := HR.out.lt
  refine ⟨⟨⟨lb, w2.heap.size, wn, rm, hL2, LnC.mono hLn (fun k hk _ => .inl hk), .inr rfl, hRd, by decide, by decide⟩, .inl HX.out.fb, fun k hk => ?_, HX.out.t1, HX.out.t2, HX.out.a1, HX.out.a2⟩, ?_⟩
  · rcases hk with hk | rfl
    · exact Nat.lt_of_lt_of_le (HX.out.fl k hk) (Nat.le_trans hs3 hs)
    · exact Nat.lt_of_lt_of_le hr hs
  · exact (Chg.of_below hB).trans (hBut.chg HX.out.fb)
end Go.Proofs.Ythnjbnhmdjpfpaa
