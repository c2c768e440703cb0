/-
  header.fields.
-/
import Derived.Test.YtpepjiocjcjeeabDoorPc16
import Derived.Test.YtpepjiocjcjeeabDoorFe16
namespace Go.Proofs.YtpepjiocjcjeeabDoor
open Go.RowKit

def PlOk (l : List UInt8) (p : Plc) : Prop := p.f ≤ p.c ∧ p.c + 1 ≤ p.t ∧ p.t ≤ l.length
def fdOf (l : List UInt8) (p : Plc) : Fd := ⟨stE l p.f p.c, stE l (p.c + 1) p.t⟩
theorem makeF (w : World) (n : Nat) (x : Int) (hx : x = (n : Int)) (hn : n ≤ 1000000) (base : Nat) (hb : base ≤ w.heap.size) :
    ∃ w', (Instr.makeSlice 24 (.int .i64 x) (.int .i64 x)).run Tryd.prog w = .ok (.slice (some ⟨w.heap.size, 0, none⟩) n n) w' ∧
      w'.ownsRow base 32 2 (.slice (some ⟨w.heap.size, 0, none⟩) n n) n (cellsF (List.replicate n ⟨[], []⟩)) ∧ Below w.heap.size w w' := by
  subst hx
  obtain ⟨i0, hi, hz0, hz1, hz2⟩ := info_parts infoF16
  have hr := run_make (P := Tryd.prog) w 24 32 i0 (.agg #[.string ⟨#[]⟩, .string ⟨#[]⟩]) Tryd.underlying24 hi hz0 .i64 .i64 n n (by omega) (by omega) (by rw [hz2]; omega) (by omega)
  rw [hz1, Int.toNat_natCast] at hr
  refine ⟨_, hr, ?_, (Below.refl _ _).alloc (Nat.le_refl _) _⟩
  have hmf := made_flat (cel := fun p => (fdC p).toList) (k := 2) (fun _ => rfl) (by decide) (⟨[], []⟩ : Fd) n
  refine ⟨by rw [cellsF_length]; simp; omega, .inr ⟨w.heap.size, n, _, rfl, hb, heap_alloc_last w _, Nat.le_refl _, by unfold maxLen; omega, ?_, ?_⟩⟩
  · rw [size_madeCells]
  · show ((madeCells (fdC ⟨[], []⟩).toList.toArray (n * 2)).toList).take (n * 2) = _
    rw [hmf]
    show (cellsF (List.replicate n ⟨[], []⟩)).take (n * 2) = _
    rw [List.take_of_length_le (by rw [cellsF_length, List.length_replicate]; omega)]
theorem set_fd (l : List UInt8) (ps : List Plc) (k : Nat) (hlt : k < ps.length) : ((cellsF ((ps.take k).map (fdOf l) ++ List.replicate (ps.length - k) ⟨[], []⟩)).set (k * 2) (.string (tx (fdOf l ps[k]).name))).set (k * 2 + 1) (.string (tx (fdOf l ps[k]).body)) = cellsF ((ps.take (k + 1)).map (fdOf l) ++ List.replicate (ps.length - (k + 1)) ⟨[], []⟩) := by
  have hl1 : (cellsF ((ps.take k).map (fdOf l))).length = k * 2 := by rw [cellsF_length, List.length_map, List.length_take]; omega
  have e1 : ps.length - k = (ps.length - (k + 1)) + 1 := by omega
  rw [e1, List.replicate_succ, cellsF_append, List.set_append_right _ _ (by rw [hl1]; exact Nat.le_refl _), hl1, Nat.sub_self]
  rw [List.set_append_right _ _ (by rw [hl1]; omega), hl1, show k * 2 + 1 - k * 2 = 1 by omega]
  rw [List.take_succ_eq_append_getElem hlt, List.map_append, List.append_assoc, cellsF_append]
  congr 1
set_option maxRecDepth 100000 in
set_option maxHeartbeats 4000000 in
theorem hfields_any (ad : Option Addr) (l : List UInt8) (cap : Nat) (hlc : l.length ≤ cap) (ps : List Plc) (h B : Nat) (v : Value) (w : World) (hs : l.length ≤ 140737488355328) (hpl : ps.length ≤ 4096) (hok : ∀ p ∈ ps, PlOk l p) (hh : Hd B w h ps v) (hr : Bts ad l w) :
    Calls Tryd.prog 20 #[.pointer (some ⟨h, 0, none⟩), .slice ad l.length cap] w fun e w' => ∃ v, e = .returned v ∧ w'.ownsRow w.heap.size 32 2 v (ps.map (fdOf l)).length (cellsF (ps.map (fdOf l))) ∧ Below w.heap.size w w' := by
  obtain ⟨pa, pc, rfl⟩ : ∃ pa pc, v = .slice pa ps.length pc := by
    rcases hh.own.2 with ⟨rfl, h0⟩ | ⟨g, cp, cur, rfl, _⟩
    · exact ⟨none, 0, by rw [h0]⟩
    · exact ⟨_, cp, rfl⟩
  obtain ⟨w1, hmk, hO1, hB1⟩ := makeF w ps.length (ps.length : Int) rfl (by omega) w.heap.size (Nat.le_refl _)
  have c0 := hh.hd.cell 0
  rw [show (#[Value.slice pa ps.length pc] : Array Value)[0]? = some (.slice pa ps.length pc) from rfl] at c0
  have hlt := hh.hd.lt
  have c1 : w1.cell? ⟨h, 0, none⟩ = some (.slice pa ps.length pc) := (hB1.cell (p := ⟨h, 0, none⟩) hlt).trans c0
  have HB1 : Hid (Below w.heap.size w w1) := hB1
  have HO1 : Hid (w1.ownsRow w.heap.size 32 2 (.slice (some ⟨w.heap.size, 0, none⟩) ps.length ps.length) ps.length (cellsF (List.replicate ps.length ⟨[], []⟩))) := hO1
  have HPS : Hid (w.ownsRow B 70 3 (.slice pa ps.length pc) ps.length (cellsPl ps)) := hh.own
  have HOK : Hid (∀ p ∈ ps, PlOk l p) := hok
  have HBT : Hid (Bts ad l w) := hr
  have hplI : (ps.length : Int) ≤ 4096 := by omega
  clear hh hO1 hB1 hok hr
  go_enter Tryd.func20, Tryd.ntmps20
  go_wp2_with fail
  go_loopw [6, 7, 19] (fun _ _ iv wr => ∃ k : Nat, k ≤ ps.length ∧ iv = .int .i64 (k : Int) ∧ Hid (wr.ownsRow w.heap.size 32 2 (.slice (some ⟨w.heap.size, 0, none⟩) ps.length ps.length) ps.length (cellsF ((ps.take k).map (fdOf l) ++ List.replicate (ps.length - k) ⟨[], []⟩))) ∧ Hid (Below w.heap.size w wr)) (fun _ _ iv _ => ps.length - (intOf iv).toNat)
  case atStart => exact ⟨0, Nat.zero_le _, rfl, HO1.out, HB1.out⟩
  case round =>
    obtain ⟨k, hk, rfl, HO, HB⟩ := hrel
    clear HO1 HB1 c0 c1
    by_cases hlt : k < ps.length
    · have hki : (k : Int) < (ps.length : Int) := by omega
      have hok := HOK.out _ (List.getElem_mem hlt)
      obtain ⟨pg, rfl⟩ : ∃ pg, pa = some ⟨pg, 0, none⟩ := by
        rcases HPS.out.2 with ⟨e1, e2⟩ | ⟨g', cp, cur, e1, _⟩
        · omega
        · injection e1 with e1
          exact ⟨g', e1⟩
      have hpg : pg < w.heap.size := (HPS.out.lt pg rfl).2
      have hcell : ∀ j, j < 3 → wr.cell? ⟨pg, k * 3 + j, none⟩ = [Value.int .i64 (ps[k].f : Int), .int .i64 (ps[k].c : Int), .int .i64 (ps[k].t : Int)][j]? := fun j hj => by
        rw [HB.out.cell (p := ⟨pg, k * 3 + j, none⟩) hpg, HPS.out.cellAt (k * 3 + j) (by omega)]
        exact flat_at (cel := fun p : Plc => [Value.int .i64 (p.f : Int), .int .i64 (p.c : Int), .int .i64 (p.t : Int)]) (k := 3) (fun _ => rfl) ps k j hlt hj
      have d0 := hcell 0 (by decide)
      have d1 := hcell 1 (by decide)
      have d2 := hcell 2 (by decide)
      simp only [Nat.add_zero, List.getElem?_cons_zero, List.getElem?_cons_succ] at d0 d1 d2
      have HSET : Hid (∀ wx : World, wx.ownsRow w.heap.size 32 2 (.slice (some ⟨w.heap.size, 0, none⟩) ps.length ps.length) ps.length (cellsF ((ps.take k).map (fdOf l) ++ List.replicate (ps.length - k) ⟨[], []⟩)) → ((wx.setCell ⟨w.heap.size, k * 2, none⟩ (.string (tx (fdOf l ps[k]).name))).setCell ⟨w.heap.size, k * 2 + 1, none⟩ (.string (tx (fdOf l ps[k]).body))).ownsRow w.heap.size 32 2 (.slice (some ⟨w.heap.size, 0, none⟩) ps.length ps.length) ps.length (cellsF ((ps.take (k + 1)).map (fdOf l) ++ List.replicate (ps.length - (k + 1)) ⟨[], []⟩))) := fun wx hx => by
        have h1 := ((hx.stored (k * 2) (.string (tx (fdOf l ps[k]).name))).1.stored (k * 2 + 1) (.string (tx (fdOf l ps[k]).body))).1
        have e : ((cellsF ((ps.take k).map (fdOf l) ++ List.replicate (ps.length - k) ⟨[], []⟩)).set (k * 2) (.string (tx (fdOf l ps[k]).name))).set (k * 2 + 1) (.string (tx (fdOf l ps[k]).body)) = cellsF ((ps.take (k + 1)).map (fdOf l) ++ List.replicate (ps.length - (k + 1)) ⟨[], []⟩) := set_fd l ps k hlt
        rw [e] at h1
        exact h1
      have hlen2 : ((ps.take k).map (fdOf l) ++ List.replicate (ps.length - k) (⟨[], []⟩ : Fd)).length = ps.length := by simp; omega
      have hfz := fun j => HO.out.frozenAt (g := w.heap.size) j
      have hrc : ∀ j, j < ps.length * 2 → ∃ u, wr.cell? ⟨w.heap.size, j, none⟩ = some u := fun j hj => by
        rw [HO.out.cellAt j (by omega)]
        exact ⟨_, List.getElem?_eq_getElem (by rw [cellsF_length, hlen2]; omega)⟩
      have HFO : Hid (fdOf l ps[k] = ⟨stE l ps[k].f ps[k].c, stE l (ps[k].c + 1) ps[k].t⟩) := rfl
      rw [HFO.out] at HSET
      obtain ⟨u0, r0⟩ := hrc (k * 2) (by omega)
      obtain ⟨u1, r1⟩ := hrc (k * 2 + 1) (by omega)
      have z0 := hfz (k * 2)
      have z1 := hfz (k * 2 + 1)
      clear hcell hrc hfz hlen2 HFO
      unfold PlOk at hok
      obtain ⟨p, hp⟩ : ∃ p, p = ps[k] := ⟨_, rfl⟩
      rw [← hp] at d0 d1 d2 hok HSET
      clear hp
      obtain ⟨pf, pcx, pt⟩ := p
      dsimp only at d0 d1 d2 hok HSET
      obtain ⟨ok1, ok2, ok3⟩ := hok
      have hs1 := run_slh ad l.length cap pf pcx ok1 (by omega)
      have hs2 := run_slh ad l.length cap (pcx + 1) pt ok2 (by omega)
      have hcc : ((pcx + 1 : Nat) : Int) = (pcx : Int) + 1 := by omega
      rw [hcc] at hs2
      have ew : IntKind.i64.wrap ((pcx : Int) + 1) = (pcx : Int) + 1 := by rw [IntKind.wrap_i64]; omega
      have HV1 : Hid (∀ wx : World, Bts ad l wx → (convert 22 9 (.slice (sla ad pf cap) (pcx - pf) (cap - pf))).run Tryd.prog wx = .ok (.string (tx (stE l pf pcx))) wx) := fun wx hx => by
        have := bts_back (bts_cut hx cap pf pcx hlc (by omega)) (cap - pf)
        rw [stE_len l pf pcx (by omega)] at this
        exact this
      have HV2 : Hid (∀ wx : World, Bts ad l wx → (convert 22 9 (.slice (sla ad (pcx + 1) cap) (pt - (pcx + 1)) (cap - (pcx + 1)))).run Tryd.prog wx = .ok (.string (tx (stE l (pcx + 1) pt))) wx) := fun wx hx => by
        have := bts_back (bts_cut hx cap (pcx + 1) pt hlc ok3) (cap - (pcx + 1))
        rw [stE_len l (pcx + 1) pt ok3] at this
        exact this
      generalize tx (stE l pf pcx) = t1 at *
      generalize tx (stE l (pcx + 1) pt) = t2 at *
      generalize sla ad pf cap = sa1 at *
      generalize sla ad (pcx + 1) cap = sa2 at *
      have hbsz : w.heap.size < wr.heap.size := (HO.out.lt w.heap.size rfl).2
      obtain ⟨W2, hW2⟩ : ∃ W2, W2 = wr.alloc (.cells #[.int .i64 (pf : Int), .int .i64 (pcx : Int), .int .i64 (pt : Int)] 70) := ⟨_, rfl⟩
      have hbw : Below wr.heap.size wr W2 := by rw [hW2]; exact (Below.refl _ _).alloc (Nat.le_refl _) _
      have hl2 : Lies W2 wr.heap.size #[.int .i64 (pf : Int), .int .i64 (pcx : Int), .int .i64 (pt : Int)] 70 := by rw [hW2]; exact Lies.new wr _ _
      have g0 := hl2.cell 0
      have g1 := hl2.cell 1
      have g2 := hl2.cell 2
      simp only [List.getElem?_toArray, List.getElem?_cons_zero, List.getElem?_cons_succ] at g0 g1 g2
      have hbt2 : Bts ad l W2 := (HBT.out.below HB.out).below hbw
      have r0' : W2.cell? ⟨w.heap.size, k * 2, none⟩ = some u0 := (hbw.cell (p := ⟨w.heap.size, k * 2, none⟩) hbsz).trans r0
      have r1' : W2.cell? ⟨w.heap.size, k * 2 + 1, none⟩ = some u1 := (hbw.cell (p := ⟨w.heap.size, k * 2 + 1, none⟩) hbsz).trans r1
      have z0' : W2.frozen? ⟨w.heap.size, k * 2, none⟩ = false := (bcell hbw).2 _ _ hbsz ▸ z0
      have z1' : W2.frozen? ⟨w.heap.size, k * 2 + 1, none⟩ = false := (bcell hbw).2 _ _ hbsz ▸ z1
      have HW2 : Hid (wr.alloc (.cells #[.int .i64 (pf : Int), .int .i64 (pcx : Int), .int .i64 (pt : Int)] 70) = W2) := hW2.symm
      have HO2 : Hid (W2.ownsRow w.heap.size 32 2 (.slice (some ⟨w.heap.size, 0, none⟩) ps.length ps.length) ps.length (cellsF ((ps.take k).map (fdOf l) ++ List.replicate (ps.length - k) ⟨[], []⟩))) := by rw [hW2]; exact HO.out.alloc _
      have HB2 : Hid (Below w.heap.size w W2) := HB.out.trans (hbw.mono HB.out.size)
      have HQ : Hid (W2.cell? ⟨wr.heap.size, 0, none⟩ = some (.int .i64 (pf : Int)) ∧ W2.cell? ⟨wr.heap.size, 1, none⟩ = some (.int .i64 (pcx : Int)) ∧ W2.cell? ⟨wr.heap.size, 2, none⟩ = some (.int .i64 (pt : Int)) ∧ Bts ad l W2) := ⟨g0, g1, g2, hbt2⟩
      clear hW2 hbw hl2 hbt2 r0 r1 z0 z1 HO HB
      go_wp2_with (rw [HW2.out])
      refine wp_region_late (fun wx => wx.cell? ⟨wr.heap.size, 0, none⟩ = some (.int .i64 (pf : Int)) ∧ wx.cell? ⟨wr.heap.size, 1, none⟩ = some (.int .i64 (pcx : Int)) ∧ wx.cell? ⟨wr.heap.size, 2, none⟩ = some (.int .i64 (pt : Int)) ∧ Bts ad l wx) 19 (by kernel_rfl) HQ.out (fun hHeld => ?_)
      refine wpAnyE_take (i := 0) (d := some 24) (v := .slice (some ⟨w.heap.size, 0, none⟩) ps.length ps.length) rfl (by kernel_rfl) (by kernel_rfl) (by kernel_rfl) (by kernel_rfl) (fun _ _ _ h => h) rfl rfl ?hy (by first | assumption | exact hHeld) ?_
      case hy => (intro w' hSw; obtain ⟨q0, q1, q2, q3⟩ := hSw; clear q3; go_simp <;> (first | with_reducible rfl | omega | skip))
      simp only [Act.put, List.setIfInBounds_toArray, List.set_cons_zero, List.set_cons_succ]
      refine wpAnyE_take (i := 1) (d := some 25) (v := .int .i64 (k : Int)) rfl (by kernel_rfl) (by kernel_rfl) (by kernel_rfl) (by kernel_rfl) (fun _ _ _ h => h) rfl rfl ?hy (by first | assumption | exact hHeld) ?_
      case hy => (intro w' hSw; obtain ⟨q0, q1, q2, q3⟩ := hSw; clear q3; go_simp <;> (first | with_reducible rfl | omega | skip))
      simp only [Act.put, List.setIfInBounds_toArray, List.set_cons_zero, List.set_cons_succ]
      refine wpAnyE_take (i := 2) (d := some 26) (v := .slice ad l.length cap) rfl (by kernel_rfl) (by kernel_rfl) (by kernel_rfl) (by kernel_rfl) (fun _ _ _ h => h) rfl rfl ?hy (by first | assumption | exact hHeld) ?_
      case hy => (intro w' hSw; obtain ⟨q0, q1, q2, q3⟩ := hSw; clear q3; go_simp <;> (first | with_reducible rfl | omega | skip))
      simp only [Act.put, List.setIfInBounds_toArray, List.set_cons_zero, List.set_cons_succ]
      refine wpAnyE_take (i := 3) (d := some 27) (v := .pointer (some ⟨wr.heap.size, 0, none⟩)) rfl (by kernel_rfl) (by kernel_rfl) (by kernel_rfl) (by kernel_rfl) (fun _ _ _ h => h) rfl rfl ?hy (by first | assumption | exact hHeld) ?_
      case hy => (intro w' hSw; obtain ⟨q0, q1, q2, q3⟩ := hSw; clear q3; go_simp <;> (first | with_reducible rfl | omega | skip))
      simp only [Act.put, List.setIfInBounds_toArray, List.set_cons_zero, List.set_cons_succ]
      refine wpAnyE_take (i := 4) (d := some 28) (v := .int .i64 (pf : Int)) rfl (by kernel_rfl) (by kernel_rfl) (by kernel_rfl) (by kernel_rfl) (fun _ _ _ h => h) rfl rfl ?hy (by first | assumption | exact hHeld) ?_
      case hy => (intro w' hSw; obtain ⟨q0, q1, q2, q3⟩ := hSw; clear q3; go_simp <;> (first | with_reducible rfl | omega | skip))
      simp only [Act.put, List.setIfInBounds_toArray, List.set_cons_zero, List.set_cons_succ]
      refine wpAnyE_take (i := 5) (d := some 29) (v := .pointer (some ⟨wr.heap.size, 1, none⟩)) rfl (by kernel_rfl) (by kernel_rfl) (by kernel_rfl) (by kernel_rfl) (fun _ _ _ h => h) rfl rfl ?hy (by first | assumption | exact hHeld) ?_
      case hy => (intro w' hSw; obtain ⟨q0, q1, q2, q3⟩ := hSw; clear q3; go_simp <;> (first | with_reducible rfl | omega | skip))
      simp only [Act.put, List.setIfInBounds_toArray, List.set_cons_zero, List.set_cons_succ]
      refine wpAnyE_take (i := 6) (d := some 30) (v := .int .i64 (pcx : Int)) rfl (by kernel_rfl) (by kernel_rfl) (by kernel_rfl) (by kernel_rfl) (fun _ _ _ h => h) rfl rfl ?hy (by first | assumption | exact hHeld) ?_
      case hy => (intro w' hSw; obtain ⟨q0, q1, q2, q3⟩ := hSw; clear q3; go_simp <;> (first | with_reducible rfl | omega | skip))
      simp only [Act.put, List.setIfInBounds_toArray, List.set_cons_zero, List.set_cons_succ]
      refine wpAnyE_take (i := 7) (d := some 31) (v := .slice sa1 (pcx - pf) (cap - pf)) rfl (by kernel_rfl) (by kernel_rfl) (by kernel_rfl) (by kernel_rfl) (fun _ _ _ h => h) rfl rfl ?hy (by first | assumption | exact hHeld) ?_
      case hy => (intro w' hSw; obtain ⟨q0, q1, q2, q3⟩ := hSw; clear q3; go_simp <;> (first | with_reducible rfl | omega | skip))
      simp only [Act.put, List.setIfInBounds_toArray, List.set_cons_zero, List.set_cons_succ]
      refine wpAnyE_take (i := 8) (d := some 32) (v := .string t1) rfl (by kernel_rfl) (by kernel_rfl) (by kernel_rfl) (by kernel_rfl) (fun _ _ _ h => h) rfl rfl ?hy (by first | assumption | exact hHeld) ?_
      case hy => (intro w' hSw; have qv := HV1.out w' hSw.2.2.2; obtain ⟨q0, q1, q2, q3⟩ := hSw; clear q3; go_simp <;> (first | with_reducible rfl | omega | skip))
      simp only [Act.put, List.setIfInBounds_toArray, List.set_cons_zero, List.set_cons_succ]
      refine wpAnyE_take (i := 9) (d := some 33) (v := .slice ad l.length cap) rfl (by kernel_rfl) (by kernel_rfl) (by kernel_rfl) (by kernel_rfl) (fun _ _ _ h => h) rfl rfl ?hy (by first | assumption | exact hHeld) ?_
      case hy => (intro w' hSw; obtain ⟨q0, q1, q2, q3⟩ := hSw; clear q3; go_simp <;> (first | with_reducible rfl | omega | skip))
      simp only [Act.put, List.setIfInBounds_toArray, List.set_cons_zero, List.set_cons_succ]
      refine wpAnyE_take (i := 10) (d := some 34) (v := .pointer (some ⟨wr.heap.size, 1, none⟩)) rfl (by kernel_rfl) (by kernel_rfl) (by kernel_rfl) (by kernel_rfl) (fun _ _ _ h => h) rfl rfl ?hy (by first | assumption | exact hHeld) ?_
      case hy => (intro w' hSw; obtain ⟨q0, q1, q2, q3⟩ := hSw; clear q3; go_simp <;> (first | with_reducible rfl | omega | skip))
      simp only [Act.put, List.setIfInBounds_toArray, List.set_cons_zero, List.set_cons_succ]
      refine wpAnyE_take (i := 11) (d := some 35) (v := .int .i64 (pcx : Int)) rfl (by kernel_rfl) (by kernel_rfl) (by kernel_rfl) (by kernel_rfl) (fun _ _ _ h => h) rfl rfl ?hy (by first | assumption | exact hHeld) ?_
      case hy => (intro w' hSw; obtain ⟨q0, q1, q2, q3⟩ := hSw; clear q3; go_simp <;> (first | with_reducible rfl | omega | skip))
      simp only [Act.put, List.setIfInBounds_toArray, List.set_cons_zero, List.set_cons_succ]
      refine wpAnyE_take (i := 12) (d := some 36) (v := .int .i64 ((pcx : Int) + 1)) rfl (by kernel_rfl) (by kernel_rfl) (by kernel_rfl) (by kernel_rfl) (fun _ _ _ h => h) rfl rfl ?hy (by first | assumption | exact hHeld) ?_
      case hy => (intro w' hSw; obtain ⟨q0, q1, q2, q3⟩ := hSw; clear q3; go_simp <;> (first | with_reducible rfl | omega | skip))
      simp only [Act.put, List.setIfInBounds_toArray, List.set_cons_zero, List.set_cons_succ]
      refine wpAnyE_take (i := 13) (d := some 37) (v := .pointer (some ⟨wr.heap.size, 2, none⟩)) rfl (by kernel_rfl) (by kernel_rfl) (by kernel_rfl) (by kernel_rfl) (fun _ _ _ h => h) rfl rfl ?hy (by first | assumption | exact hHeld) ?_
      case hy => (intro w' hSw; obtain ⟨q0, q1, q2, q3⟩ := hSw; clear q3; go_simp <;> (first | with_reducible rfl | omega | skip))
      simp only [Act.put, List.setIfInBounds_toArray, List.set_cons_zero, List.set_cons_succ]
      refine wpAnyE_take (i := 14) (d := some 38) (v := .int .i64 (pt : Int)) rfl (by kernel_rfl) (by kernel_rfl) (by kernel_rfl) (by kernel_rfl) (fun _ _ _ h => h) rfl rfl ?hy (by first | assumption | exact hHeld) ?_
      case hy => (intro w' hSw; obtain ⟨q0, q1, q2, q3⟩ := hSw; clear q3; go_simp <;> (first | with_reducible rfl | omega | skip))
      simp only [Act.put, List.setIfInBounds_toArray, List.set_cons_zero, List.set_cons_succ]
      refine wpAnyE_take (i := 15) (d := some 39) (v := .slice sa2 (pt - (pcx + 1)) (cap - (pcx + 1))) rfl (by kernel_rfl) (by kernel_rfl) (by kernel_rfl) (by kernel_rfl) (fun _ _ _ h => h) rfl rfl ?hy (by first | assumption | exact hHeld) ?_
      case hy => (intro w' hSw; obtain ⟨q0, q1, q2, q3⟩ := hSw; clear q3; go_simp <;> (first | with_reducible rfl | omega | skip))
      simp only [Act.put, List.setIfInBounds_toArray, List.set_cons_zero, List.set_cons_succ]
      refine wpAnyE_take (i := 16) (d := some 40) (v := .string t2) rfl (by kernel_rfl) (by kernel_rfl) (by kernel_rfl) (by kernel_rfl) (fun _ _ _ h => h) rfl rfl ?hy (by first | assumption | exact hHeld) ?_
      case hy => (intro w' hSw; have qv := HV2.out w' hSw.2.2.2; obtain ⟨q0, q1, q2, q3⟩ := hSw; clear q3; go_simp <;> (first | with_reducible rfl | omega | skip))
      simp only [Act.put, List.setIfInBounds_toArray, List.set_cons_zero, List.set_cons_succ]
      refine wpAnyE_take (i := 17) (d := some 41) (v := .agg #[.string t1, .string t2]) rfl (by kernel_rfl) (by kernel_rfl) (by kernel_rfl) (by kernel_rfl) (fun _ _ _ h => h) rfl rfl ?hy (by first | assumption | exact hHeld) ?_
      case hy => (intro w' hSw; obtain ⟨q0, q1, q2, q3⟩ := hSw; clear q3; go_simp <;> (first | with_reducible rfl | omega | skip))
      simp only [Act.put, List.setIfInBounds_toArray, List.set_cons_zero, List.set_cons_succ]
      refine wpAnyE_take (i := 18) (d := some 42) (v := .pointer (some ⟨w.heap.size, k * 2, none⟩)) rfl (by kernel_rfl) (by kernel_rfl) (by kernel_rfl) (by kernel_rfl) (fun _ _ _ h => h) rfl rfl ?hy (by first | assumption | exact hHeld) ?_
      case hy => (intro w' hSw; obtain ⟨q0, q1, q2, q3⟩ := hSw; clear q3; go_simp <;> (first | with_reducible rfl | omega | skip))
      simp only [Act.put, List.setIfInBounds_toArray, List.set_cons_zero, List.set_cons_succ]
      refine wpAnyE_one (i := 19) (by kernel_rfl) rfl rfl ?_
      go_simp
      refine wpAnyE_done (by kernel_rfl) ?_ _
      have HO3 : Hid _ := HSET.out W2.drew (ownX_keep HO2.out (fun _ _ => rfl))
      have HB3 : Hid (Below w.heap.size w ((W2.drew.setCell ⟨w.heap.size, k * 2, none⟩ (.string t1)).setCell ⟨w.heap.size, k * 2 + 1, none⟩ (.string t2))) := (HB2.out.drew.setCell (p := ⟨w.heap.size, k * 2, none⟩) (Nat.le_refl _) _).setCell (p := ⟨w.heap.size, k * 2 + 1, none⟩) (Nat.le_refl _) _
      clear hHeld
      go_wp2_with fail
      go_roundw
      case rel => exact ⟨k + 1, by omega, by go_num, HO3.out, HB3.out⟩
      case measure => simp [intOf]; omega
    · obtain rfl : k = ps.length := by omega
      have HO2 : Hid (wr.ownsRow w.heap.size 32 2 (.slice (some ⟨w.heap.size, 0, none⟩) ps.length ps.length) (ps.map (fdOf l)).length (cellsF (ps.map (fdOf l)))) := by
        have := HO.out
        rw [List.take_length, Nat.sub_self, List.replicate_zero, List.append_nil] at this
        show World.ownsRow _ _ _ _ _ _ _
        rw [List.length_map]
        exact this
      go_wp2_with fail
      go_ret
      exact ⟨_, rfl, HO2.out, HB.out⟩
end Go.Proofs.YtpepjiocjcjeeabDoor
