/-
  Are these the same replies?
-/
import Derived.Test.YtbfgefgadplcjaaDoorTo12
namespace Go.Proofs.YtbfgefgadplcjaaDoor
open Go.RowKit

/-- What a reply in memory says. -/
def SaAt (w : World) (x : Rx) (r : Ry) : Prop := x.c = r.code ∧ x.s = r.st ∧ x.n = r.ls.length ∧ Txs x.a r.ls w
theorem RyAt.sa {w : World} {x : Rx} {r : Ry} (h : RyAt w x r) : SaAt w x r := by
  obtain ⟨h1, h2, h3, g, hg, hl⟩ := h
  exact ⟨h1, h2, h3, .inr ⟨g, 0, hg, hl.lt, fun j hj => by rw [Nat.zero_add, hl.cell]; exact cellsT_at _ _ _ (List.getElem?_eq_getElem hj)⟩⟩
set_option maxHeartbeats 2000000 in
set_option maxRecDepth 20000 in
theorem same_yes (x y : Rx) (r : Ry) (w : World) (hx : SaAt w x r) (hy : SaAt w y r) (hl : r.ls.length ≤ 1099511627776) : Calls Tryd.prog 14 #[rxV x, rxV y] w fun e w' => e = .returned (.bool true) ∧ Below w.heap.size w w' := by
  obtain ⟨c, s, L⟩ := r
  obtain ⟨xc, xs, xa, xn, xk⟩ := x
  obtain ⟨yc, ys, ya, yn, yk⟩ := y
  obtain ⟨e1, e2, e3, hxt⟩ := hx
  obtain ⟨f1, f2, f3, hyt⟩ := hy
  dsimp only at e1 e2 e3 hxt f1 f2 f3 hyt hl
  subst e1 e2 e3 f1 f2 f3
  have heq := eqStt' ys ys
  rw [decide_eq_true rfl] at heq
  have hgq := grdStt
  have HX : Hid (Txs xa L w) := hxt
  have HY : Hid (Txs ya L w) := hyt
  obtain ⟨W, hW⟩ : ∃ W, W = (w.alloc (.cells (rxC ⟨yc, ys, xa, L.length, xk⟩) 50)).alloc (.cells (rxC ⟨yc, ys, ya, L.length, yk⟩) 50) := ⟨_, rfl⟩
  have hB : Below w.heap.size w W := by subst hW; exact ((Below.refl _ _).alloc (Nat.le_refl _) _).alloc (by simp) _
  have hA : Lies W w.heap.size (rxC ⟨yc, ys, xa, L.length, xk⟩) 50 := by subst hW; exact (Lies.new w _ _).alloc _
  have hC : Lies W (w.heap.size + 1) (rxC ⟨yc, ys, ya, L.length, yk⟩) 50 := by
    subst hW
    have := Lies.new (w.alloc (.cells (rxC ⟨yc, ys, xa, L.length, xk⟩) 50)) (rxC ⟨yc, ys, ya, L.length, yk⟩) 50
    rwa [show (w.alloc (.cells (rxC ⟨yc, ys, xa, L.length, xk⟩) 50)).heap.size = w.heap.size + 1 by simp] at this
  have HWW : Hid ((w.alloc (.cells #[.int .i64 yc, .int .i64 ys.1, .int .i64 ys.2.1, .int .i64 ys.2.2, .slice xa L.length xk] 50)).alloc (.cells #[.int .i64 yc, .int .i64 ys.1, .int .i64 ys.2.1, .int .i64 ys.2.2, .slice ya L.length yk] 50) = W) := hW.symm
  obtain ⟨p0, p1, p2, p3, p4, -⟩ := rxC_cells hA
  obtain ⟨q0, q1, q2, q3, q4, -⟩ := rxC_cells hC
  dsimp only at p0 p1 p2 p3 p4 q0 q1 q2 q3 q4
  have HB : Hid (Below w.heap.size w W) := hB
  clear hxt hyt hW hA hC hB
  unfold rxV
  dsimp only
  go_enter Tryd.func14, Tryd.ntmps14
  go_wp2_with (rw [HWW.out]; fail)
  rw [HWW.out]
  go_loopw [5, 30] (fun _ iv wr => ∃ i n : Nat, i ≤ L.length ∧ iv = .int .i64 i ∧ wr = W.drewN n) (fun _ iv _ => L.length - (intOf iv).toNat)
  case atStart => exact ⟨0, 0, Nat.zero_le _, rfl, rfl⟩
  case round =>
    obtain ⟨i, n, hi, rfl, rfl⟩ := hrel
    by_cases hlt : i < L.length
    · have hlt' : (i : Int) < (L.length : Int) := by omega
      obtain ⟨ga, oa, rfl, hga, hca⟩ := (HX.out.below HB.out).cell i hlt
      obtain ⟨gb, ob, rfl, hgb, hcb⟩ := (HY.out.below HB.out).cell i hlt
      generalize tx L[i] = Z at *
      go_wp2_with fail
      go_quiet (fail)
      go_wp2_with fail
      go_round
      case rel => exact ⟨i + 1, _, hlt, by go_num, rfl⟩
      case measure => simp [intOf]; omega
    · have hlt' : ¬ (i : Int) < (L.length : Int) := by omega
      go_wp2_with fail
      go_ret
      exact ⟨rfl, below_dN HB.out _⟩
theorem ow_elem {w : World} {g n c : Nat} {l : List Rx} (h : Ow celR 50 5 w (.slice (some ⟨g, 0, none⟩) n c) l) (i : Nat) (hi : i < l.length) : w.cell? ⟨g, i * 5, none⟩ = some (.int .i64 l[i].c) ∧ w.cell? ⟨g, i * 5 + 1, none⟩ = some (.int .i64 l[i].s.1) ∧ w.cell? ⟨g, i * 5 + 2, none⟩ = some (.int .i64 l[i].s.2.1) ∧ w.cell? ⟨g, i * 5 + 3, none⟩ = some (.int .i64 l[i].s.2.2) ∧ w.cell? ⟨g, i * 5 + 4, none⟩ = some (.slice l[i].a l[i].n l[i].k) := by
  have hl : (l.flatMap celR).length = l.length * 5 := flat_length celR_length l
  have hm : i * 5 + 5 ≤ l.length * 5 := by omega
  refine ⟨?_, ?_, ?_, ?_, ?_⟩
  · rw [h.cells (i * 5) (by omega)]; exact flat_at celR_length l i 0 hi (by decide)
  · rw [h.cells (i * 5 + 1) (by omega)]; exact flat_at celR_length l i 1 hi (by decide)
  · rw [h.cells (i * 5 + 2) (by omega)]; exact flat_at celR_length l i 2 hi (by decide)
  · rw [h.cells (i * 5 + 3) (by omega)]; exact flat_at celR_length l i 3 hi (by decide)
  · rw [h.cells (i * 5 + 4) (by omega)]; exact flat_at celR_length l i 4 hi (by decide)
set_option maxHeartbeats 2000000 in
set_option maxRecDepth 20000 in
theorem sameall_yes (va vb : Value) (xs ys : List Rx) (o : List Ry) (w : World) (ha : Ow celR 50 5 w va xs) (hb : Ow celR 50 5 w vb ys) (hx : Rys w xs o) (hy : Rys w ys o) (hl : o.length ≤ 1099511627776) (hll : ∀ r ∈ o, r.ls.length ≤ 1099511627776) : Calls Tryd.prog 23 #[va, vb] w fun e w' => e = .returned (.bool true) ∧ Below w.heap.size w w' := by
  obtain ⟨aa, ac, rfl, has⟩ := ha.shape
  obtain ⟨ba, bc, rfl, hbs⟩ := hb.shape
  have hxl := hx.1
  have hyl := hy.1
  have HA : Hid (Ow celR 50 5 w (.slice aa xs.length ac) xs) := ha
  have HBB : Hid (Ow celR 50 5 w (.slice ba ys.length bc) ys) := hb
  have HX : Hid (Rys w xs o) := hx
  have HY : Hid (Rys w ys o) := hy
  have HLL : Hid (∀ r ∈ o, r.ls.length ≤ 1099511627776) := hll
  have HAS : Hid (xs ≠ [] → ∃ g, aa = some ⟨g, 0, none⟩) := has
  have HBS : Hid (ys ≠ [] → ∃ g, ba = some ⟨g, 0, none⟩) := hbs
  have HYL : Hid (ys.length = xs.length) := by show _ = _; omega
  have hyx : (ys.length : Int) = (xs.length : Int) := by omega
  have hne : (((xs.length : Int)) != (ys.length : Int)) = false := by rw [hyx, bne]; simp
  have hxm : xs.length ≤ 1099511627776 := by omega
  clear ha hb hx hy hll has hbs hxl hyl
  rw [HYL.out] at HBB ⊢
  clear hyx hne
  go_enter Tryd.func23, Tryd.ntmps23
  go_wp2_with fail
  go_loopw [5, 13] (fun _ iv wr => ∃ i : Nat, i ≤ xs.length ∧ iv = .int .i64 i ∧ Hid (Below w.heap.size w wr)) (fun _ iv _ => xs.length - (intOf iv).toNat)
  case atStart => exact ⟨0, Nat.zero_le _, rfl, Below.refl _ _⟩
  case round =>
    obtain ⟨i, hi, rfl, HB⟩ := hrel
    by_cases hlt : i < xs.length
    · have hlt' : (i : Int) < (xs.length : Int) := by omega
      obtain ⟨ga, rfl⟩ := HAS.out (fun e => by rw [e] at hlt; cases hlt)
      obtain ⟨gb, rfl⟩ := HBS.out (fun e => by have := HYL.out; rw [e] at this; simp at this; omega)
      have hly : i < ys.length := by rw [HYL.out]; exact hlt
      have hlo : i < o.length := by rw [← HX.out.1]; exact hlt
      have HSS : Hid (∀ wx, Below w.heap.size w wx → (wx.cell? ⟨ga, i * 5, none⟩ = some (.int .i64 xs[i].c) ∧ wx.cell? ⟨ga, i * 5 + 1, none⟩ = some (.int .i64 xs[i].s.1) ∧ wx.cell? ⟨ga, i * 5 + 2, none⟩ = some (.int .i64 xs[i].s.2.1) ∧ wx.cell? ⟨ga, i * 5 + 3, none⟩ = some (.int .i64 xs[i].s.2.2) ∧ wx.cell? ⟨ga, i * 5 + 4, none⟩ = some (.slice xs[i].a xs[i].n xs[i].k) ∧ wx.cell? ⟨gb, i * 5, none⟩ = some (.int .i64 ys[i].c) ∧ wx.cell? ⟨gb, i * 5 + 1, none⟩ = some (.int .i64 ys[i].s.1) ∧ wx.cell? ⟨gb, i * 5 + 2, none⟩ = some (.int .i64 ys[i].s.2.1) ∧ wx.cell? ⟨gb, i * 5 + 3, none⟩ = some (.int .i64 ys[i].s.2.2) ∧ wx.cell? ⟨gb, i * 5 + 4, none⟩ = some (.slice ys[i].a ys[i].n ys[i].k))) := fun wx hb => by
        obtain ⟨a1, a2, a3, a4, a5⟩ := ow_elem (HA.out.below hb) i hlt
        obtain ⟨b1, b2, b3, b4, b5⟩ := ow_elem (HBB.out.below hb) i hly
        exact ⟨a1, a2, a3, a4, a5, b1, b2, b3, b4, b5⟩
      have HSM : Hid (∀ wx, Below w.heap.size w wx → Calls Tryd.prog 14 #[.agg #[.int .i64 xs[i].c, .int .i64 xs[i].s.1, .int .i64 xs[i].s.2.1, .int .i64 xs[i].s.2.2, .slice xs[i].a xs[i].n xs[i].k], .agg #[.int .i64 ys[i].c, .int .i64 ys[i].s.1, .int .i64 ys[i].s.2.1, .int .i64 ys[i].s.2.2, .slice ys[i].a ys[i].n ys[i].k]] wx fun e w' => e = .returned (.bool true) ∧ Below wx.heap.size wx w') := fun wx hb =>
        same_yes xs[i] ys[i] o[i] wx ((HX.out.2 i hlt hlo).keep (fun ad e => hb.block _ ((HX.out.2 i hlt hlo).lt ad e))).sa ((HY.out.2 i hly hlo).keep (fun ad e => hb.block _ ((HY.out.2 i hly hlo).lt ad e))).sa (HLL.out _ (List.getElem_mem hlo))
      have hS0 := HSS.out wr HB.out
      generalize xs[i] = x at *
      generalize ys[i] = y at *
      go_wp2_with fail
      refine wp_region_late (fun wx => wx.cell? ⟨ga, i * 5, none⟩ = some (.int .i64 x.c) ∧ wx.cell? ⟨ga, i * 5 + 1, none⟩ = some (.int .i64 x.s.1) ∧ wx.cell? ⟨ga, i * 5 + 2, none⟩ = some (.int .i64 x.s.2.1) ∧ wx.cell? ⟨ga, i * 5 + 3, none⟩ = some (.int .i64 x.s.2.2) ∧ wx.cell? ⟨ga, i * 5 + 4, none⟩ = some (.slice x.a x.n x.k) ∧ wx.cell? ⟨gb, i * 5, none⟩ = some (.int .i64 y.c) ∧ wx.cell? ⟨gb, i * 5 + 1, none⟩ = some (.int .i64 y.s.1) ∧ wx.cell? ⟨gb, i * 5 + 2, none⟩ = some (.int .i64 y.s.2.1) ∧ wx.cell? ⟨gb, i * 5 + 3, none⟩ = some (.int .i64 y.s.2.2) ∧ wx.cell? ⟨gb, i * 5 + 4, none⟩ = some (.slice y.a y.n y.k)) 10 (by kernel_rfl) hS0 (fun hHeld => ?_)
      refine wpAnyE_tk (i := 0) (d := some 16) (v := ?_) rfl (by kernel_rfl) (by kernel_rfl) (by kernel_rfl) rfl (fun _ _ _ h => h) rfl rfl ?hy (by first | assumption | go_simp) ?_
      case hy => (intro w' hSw; (try dsimp only at hSw); go_simp <;> (first | with_reducible rfl | omega | skip))
      simp only [Act.put, List.setIfInBounds_toArray, List.set_cons_zero, List.set_cons_succ]
      refine wpAnyE_tk (i := 1) (d := some 17) (v := ?_) rfl (by kernel_rfl) (by kernel_rfl) (by kernel_rfl) rfl (fun _ _ _ h => h) rfl rfl ?hy (by first | assumption | go_simp) ?_
      case hy => (intro w' hSw; (try dsimp only at hSw); go_simp <;> (first | with_reducible rfl | omega | skip))
      simp only [Act.put, List.setIfInBounds_toArray, List.set_cons_zero, List.set_cons_succ]
      refine wpAnyE_tk (i := 2) (d := some 18) (v := .pointer (some ⟨ga, i * 5, none⟩)) rfl (by kernel_rfl) (by kernel_rfl) (by kernel_rfl) rfl (fun _ _ _ h => h) rfl rfl ?hy (by first | assumption | go_simp) ?_
      case hy => (intro w' hSw; (try dsimp only at hSw); go_simp <;> (first | with_reducible rfl | omega | skip))
      simp only [Act.put, List.setIfInBounds_toArray, List.set_cons_zero, List.set_cons_succ]
      refine wpAnyE_tk (i := 3) (d := some 19) (v := .agg #[.int .i64 x.c, .int .i64 x.s.1, .int .i64 x.s.2.1, .int .i64 x.s.2.2, .slice x.a x.n x.k]) rfl (by kernel_rfl) (by kernel_rfl) (by kernel_rfl) rfl (fun _ _ _ h => h) rfl rfl ?hy (by first | assumption | go_simp) ?_
      case hy => (intro w' hSw; (try dsimp only at hSw); go_simp <;> (first | with_reducible rfl | omega | skip))
      simp only [Act.put, List.setIfInBounds_toArray, List.set_cons_zero, List.set_cons_succ]
      refine wpAnyE_tk (i := 4) (d := some 20) (v := ?_) rfl (by kernel_rfl) (by kernel_rfl) (by kernel_rfl) rfl (fun _ _ _ h => h) rfl rfl ?hy (by first | assumption | go_simp) ?_
      case hy => (intro w' hSw; (try dsimp only at hSw); go_simp <;> (first | with_reducible rfl | omega | skip))
      simp only [Act.put, List.setIfInBounds_toArray, List.set_cons_zero, List.set_cons_succ]
      refine wpAnyE_tk (i := 5) (d := some 21) (v := ?_) rfl (by kernel_rfl) (by kernel_rfl) (by kernel_rfl) rfl (fun _ _ _ h => h) rfl rfl ?hy (by first | assumption | go_simp) ?_
      case hy => (intro w' hSw; (try dsimp only at hSw); go_simp <;> (first | with_reducible rfl | omega | skip))
      simp only [Act.put, List.setIfInBounds_toArray, List.set_cons_zero, List.set_cons_succ]
      refine wpAnyE_tk (i := 6) (d := some 22) (v := .pointer (some ⟨gb, i * 5, none⟩)) rfl (by kernel_rfl) (by kernel_rfl) (by kernel_rfl) rfl (fun _ _ _ h => h) rfl rfl ?hy (by first | assumption | go_simp) ?_
      case hy => (intro w' hSw; (try dsimp only at hSw); go_simp <;> (first | with_reducible rfl | omega | skip))
      simp only [Act.put, List.setIfInBounds_toArray, List.set_cons_zero, List.set_cons_succ]
      refine wpAnyE_tk (i := 7) (d := some 23) (v := .agg #[.int .i64 y.c, .int .i64 y.s.1, .int .i64 y.s.2.1, .int .i64 y.s.2.2, .slice y.a y.n y.k]) rfl (by kernel_rfl) (by kernel_rfl) (by kernel_rfl) rfl (fun _ _ _ h => h) rfl rfl ?hy (by first | assumption | go_simp) ?_
      case hy => (intro w' hSw; (try dsimp only at hSw); go_simp <;> (first | with_reducible rfl | omega | skip))
      simp only [Act.put, List.setIfInBounds_toArray, List.set_cons_zero, List.set_cons_succ]
      refine wpAnyE_on (i := 8) (by kernel_rfl) rfl rfl ?_
      go_simp
      refine Calls.mono (HSM.out wr.drew (HB.out.drew)) ?_
      rintro e w2 ⟨rfl, hB2⟩
      have HB2 : Hid (Below w.heap.size w w2) := (HB.out.drew).trans (hB2.mono HB.out.size)
      have hS2 := HSS.out w2 HB2.out
      clear hB2 hS0
      refine ⟨hS2, ?_⟩
      refine wpAnyE_tk (i := 9) (d := some 25) (v := .bool false) rfl (by kernel_rfl) (by kernel_rfl) (by kernel_rfl) rfl (fun _ _ _ h => h) rfl rfl ?hy (by first | assumption | go_simp) ?_
      case hy => (intro w' hSw; (try dsimp only at hSw); go_simp <;> (first | with_reducible rfl | omega | skip))
      simp only [Act.put, List.setIfInBounds_toArray, List.set_cons_zero, List.set_cons_succ]
      refine wpAnyE_done (by kernel_rfl) ?_ _
      clear hHeld hS2
      go_wp2_with fail
      go_round
      case rel => exact ⟨i + 1, hlt, by go_num, HB2.out⟩
      case measure => simp [intOf]; omega
    · have hlt' : ¬ (i : Int) < (xs.length : Int) := by omega
      go_wp2_with fail
      go_ret
      exact ⟨rfl, HB.out⟩
end Go.Proofs.YtbfgefgadplcjaaDoor
