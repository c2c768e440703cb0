/-
  Rows of replies compared, wherever their lines lie.
-/
import Derived.Test.YtbfgefgadplcjaaDoorSa12
import Derived.Test.YtbfgefgadplcjaaDoorWld
import Derived.Test.YtbfgefgadplcjaaDoorPp12
import Derived.Test.YtbfgefgadplcjaaDoorMdR
namespace Go.Proofs.YtbfgefgadplcjaaDoor
open Go.RowKit

theorem SaAt.below {w w' : World} {x : Rx} {r : Ry} (h : SaAt w x r) (hb : Below w.heap.size w w') : SaAt w' x r := ⟨h.1, h.2.1, h.2.2.1, h.2.2.2.below hb⟩
theorem SaAt.keep {w w' : World} {x : Rx} {r : Ry} (h : SaAt w x r) (hs : w.heap.size ≤ w'.heap.size) (hk : ∀ ad, x.a = some ad → w'.heap[ad.block]? = w.heap[ad.block]?) : SaAt w' x r := ⟨h.1, h.2.1, h.2.2.1, h.2.2.2.keep hs hk⟩
def Sas (w : World) (l : List Rx) (o : List Ry) : Prop := l.length = o.length ∧ ∀ i (h : i < l.length) (h2 : i < o.length), SaAt w l[i] o[i]
theorem Rys.sas {w : World} {l : List Rx} {o : List Ry} (h : Rys w l o) : Sas w l o := ⟨h.1, fun i h1 h2 => (h.2 i h1 h2).sa⟩
theorem Sas.below {w w' : World} {l : List Rx} {o : List Ry} (h : Sas w l o) (hb : Below w.heap.size w w') : Sas w' l o := ⟨h.1, fun i h1 h2 => (h.2 i h1 h2).below hb⟩
theorem Sas.nil (w : World) : Sas w [] [] := ⟨rfl, fun _ h => absurd h (Nat.not_lt_zero _)⟩
theorem Sas.snoc {w : World} {l : List Rx} {o : List Ry} (h : Sas w l o) {x : Rx} {r : Ry} (hx : SaAt w x r) : Sas w (l ++ [x]) (o ++ [r]) := by
  refine ⟨by simp [h.1], fun i h1 h2 => ?_⟩
  by_cases hi : i < l.length
  · rw [List.getElem_append_left hi, List.getElem_append_left (by rw [← h.1]; exact hi)]
    exact h.2 i hi (by rw [← h.1]; exact hi)
  · have he : i = l.length := by simp at h1; omega
    subst he
    have h3 := h.1
    simp only [List.getElem_concat_length]
    rw [show (o ++ [r])[l.length] = r from by simp [h3]]
    exact hx
set_option maxHeartbeats 2000000 in
set_option maxRecDepth 20000 in
theorem sameall_sa (va vb : Value) (xs ys : List Rx) (o : List Ry) (w : World) (ha : Ow celR 50 5 w va xs) (hb : Ow celR 50 5 w vb ys) (hx : Sas w xs o) (hy : Sas w ys o) (hl : o.length ≤ 1099511627776) (hll : ∀ r ∈ o, r.ls.length ≤ 1099511627776) : Calls Tryd.prog 23 #[va, vb] w fun e w' => e = .returned (.bool true) ∧ Below w.heap.size w w' := by
  obtain ⟨aa, ac, rfl, has⟩ := ha.shape
  obtain ⟨ba, bc, rfl, hbs⟩ := hb.shape
  have hxl := hx.1
  have hyl := hy.1
  have HA : Hid (Ow celR 50 5 w (.slice aa xs.length ac) xs) := ha
  have HBB : Hid (Ow celR 50 5 w (.slice ba ys.length bc) ys) := hb
  have HX : Hid (Sas w xs o) := hx
  have HY : Hid (Sas w ys o) := hy
  have HLL : Hid (∀ r ∈ o, r.ls.length ≤ 1099511627776) := hll
  have HAS : Hid (xs ≠ [] → ∃ g, aa = some ⟨g, 0, none⟩) := has
  have HBS : Hid (ys ≠ [] → ∃ g, ba = some ⟨g, 0, none⟩) := hbs
  have HYL : Hid (ys.length = xs.length) := by show _ = _; omega
  have hyx : (ys.length : Int) = (xs.length : Int) := by omega
  have hne : (((xs.length : Int)) != (ys.length : Int)) = false := by rw [hyx, bne]; simp
  have hxm : xs.length ≤ 1099511627776 := by omega
  clear ha hb hx hy hll has hbs hxl hyl
  rw [HYL.out] at HBB ⊢
  clear hyx hne
  go_enter Tryd.func23, Tryd.ntmps23
  go_wp2_with fail
  go_loopw [5, 13] (fun _ iv wr => ∃ i : Nat, i ≤ xs.length ∧ iv = .int .i64 i ∧ Hid (Below w.heap.size w wr)) (fun _ iv _ => xs.length - (intOf iv).toNat)
  case atStart => exact ⟨0, Nat.zero_le _, rfl, Below.refl _ _⟩
  case round =>
    obtain ⟨i, hi, rfl, HB⟩ := hrel
    by_cases hlt : i < xs.length
    · have hlt' : (i : Int) < (xs.length : Int) := by omega
      obtain ⟨ga, rfl⟩ := HAS.out (fun e => by rw [e] at hlt; cases hlt)
      obtain ⟨gb, rfl⟩ := HBS.out (fun e => by have := HYL.out; rw [e] at this; simp at this; omega)
      have hly : i < ys.length := by rw [HYL.out]; exact hlt
      have hlo : i < o.length := by rw [← HX.out.1]; exact hlt
      have HSS : Hid (∀ wx, Below w.heap.size w wx → (wx.cell? ⟨ga, i * 5, none⟩ = some (.int .i64 xs[i].c) ∧ wx.cell? ⟨ga, i * 5 + 1, none⟩ = some (.int .i64 xs[i].s.1) ∧ wx.cell? ⟨ga, i * 5 + 2, none⟩ = some (.int .i64 xs[i].s.2.1) ∧ wx.cell? ⟨ga, i * 5 + 3, none⟩ = some (.int .i64 xs[i].s.2.2) ∧ wx.cell? ⟨ga, i * 5 + 4, none⟩ = some (.slice xs[i].a xs[i].n xs[i].k) ∧ wx.cell? ⟨gb, i * 5, none⟩ = some (.int .i64 ys[i].c) ∧ wx.cell? ⟨gb, i * 5 + 1, none⟩ = some (.int .i64 ys[i].s.1) ∧ wx.cell? ⟨gb, i * 5 + 2, none⟩ = some (.int .i64 ys[i].s.2.1) ∧ wx.cell? ⟨gb, i * 5 + 3, none⟩ = some (.int .i64 ys[i].s.2.2) ∧ wx.cell? ⟨gb, i * 5 + 4, none⟩ = some (.slice ys[i].a ys[i].n ys[i].k))) := fun wx hb => by
        obtain ⟨a1, a2, a3, a4, a5⟩ := ow_elem (HA.out.below hb) i hlt
        obtain ⟨b1, b2, b3, b4, b5⟩ := ow_elem (HBB.out.below hb) i hly
        exact ⟨a1, a2, a3, a4, a5, b1, b2, b3, b4, b5⟩
      have HSM : Hid (∀ wx, Below w.heap.size w wx → Calls Tryd.prog 14 #[.agg #[.int .i64 xs[i].c, .int .i64 xs[i].s.1, .int .i64 xs[i].s.2.1, .int .i64 xs[i].s.2.2, .slice xs[i].a xs[i].n xs[i].k], .agg #[.int .i64 ys[i].c, .int .i64 ys[i].s.1, .int .i64 ys[i].s.2.1, .int .i64 ys[i].s.2.2, .slice ys[i].a ys[i].n ys[i].k]] wx fun e w' => e = .returned (.bool true) ∧ Below wx.heap.size wx w') := fun wx hb =>
        same_yes xs[i] ys[i] o[i] wx ((HX.out.2 i hlt hlo).below hb) ((HY.out.2 i hly hlo).below hb) (HLL.out _ (List.getElem_mem hlo))
      have hS0 := HSS.out wr HB.out
      generalize xs[i] = x at *
      generalize ys[i] = y at *
      go_wp2_with fail
      refine wp_region_late (fun wx => wx.cell? ⟨ga, i * 5, none⟩ = some (.int .i64 x.c) ∧ wx.cell? ⟨ga, i * 5 + 1, none⟩ = some (.int .i64 x.s.1) ∧ wx.cell? ⟨ga, i * 5 + 2, none⟩ = some (.int .i64 x.s.2.1) ∧ wx.cell? ⟨ga, i * 5 + 3, none⟩ = some (.int .i64 x.s.2.2) ∧ wx.cell? ⟨ga, i * 5 + 4, none⟩ = some (.slice x.a x.n x.k) ∧ wx.cell? ⟨gb, i * 5, none⟩ = some (.int .i64 y.c) ∧ wx.cell? ⟨gb, i * 5 + 1, none⟩ = some (.int .i64 y.s.1) ∧ wx.cell? ⟨gb, i * 5 + 2, none⟩ = some (.int .i64 y.s.2.1) ∧ wx.cell? ⟨gb, i * 5 + 3, none⟩ = some (.int .i64 y.s.2.2) ∧ wx.cell? ⟨gb, i * 5 + 4, none⟩ = some (.slice y.a y.n y.k)) 10 (by kernel_rfl) hS0 (fun hHeld => ?_)
      refine wpAnyE_tk (i := 0) (d := some 16) (v := ?_) rfl (by kernel_rfl) (by kernel_rfl) (by kernel_rfl) rfl (fun _ _ _ h => h) rfl rfl ?hy (by first | assumption | go_simp) ?_
      case hy => (intro w' hSw; (try dsimp only at hSw); go_simp <;> (first | with_reducible rfl | omega | skip))
      simp only [Act.put, List.setIfInBounds_toArray, List.set_cons_zero, List.set_cons_succ]
      refine wpAnyE_tk (i := 1) (d := some 17) (v := ?_) rfl (by kernel_rfl) (by kernel_rfl) (by kernel_rfl) rfl (fun _ _ _ h => h) rfl rfl ?hy (by first | assumption | go_simp) ?_
      case hy => (intro w' hSw; (try dsimp only at hSw); go_simp <;> (first | with_reducible rfl | omega | skip))
      simp only [Act.put, List.setIfInBounds_toArray, List.set_cons_zero, List.set_cons_succ]
      refine wpAnyE_tk (i := 2) (d := some 18) (v := .pointer (some ⟨ga, i * 5, none⟩)) rfl (by kernel_rfl) (by kernel_rfl) (by kernel_rfl) rfl (fun _ _ _ h => h) rfl rfl ?hy (by first | assumption | go_simp) ?_
      case hy => (intro w' hSw; (try dsimp only at hSw); go_simp <;> (first | with_reducible rfl | omega | skip))
      simp only [Act.put, List.setIfInBounds_toArray, List.set_cons_zero, List.set_cons_succ]
      refine wpAnyE_tk (i := 3) (d := some 19) (v := .agg #[.int .i64 x.c, .int .i64 x.s.1, .int .i64 x.s.2.1, .int .i64 x.s.2.2, .slice x.a x.n x.k]) rfl (by kernel_rfl) (by kernel_rfl) (by kernel_rfl) rfl (fun _ _ _ h => h) rfl rfl ?hy (by first | assumption | go_simp) ?_
      case hy => (intro w' hSw; (try dsimp only at hSw); go_simp <;> (first | with_reducible rfl | omega | skip))
      simp only [Act.put, List.setIfInBounds_toArray, List.set_cons_zero, List.set_cons_succ]
      refine wpAnyE_tk (i := 4) (d := some 20) (v := ?_) rfl (by kernel_rfl) (by kernel_rfl) (by kernel_rfl) rfl (fun _ _ _ h => h) rfl rfl ?hy (by first | assumption | go_simp) ?_
      case hy => (intro w' hSw; (try dsimp only at hSw); go_simp <;> (first | with_reducible rfl | omega | skip))
      simp only [Act.put, List.setIfInBounds_toArray, List.set_cons_zero, List.set_cons_succ]
      refine wpAnyE_tk (i := 5) (d := some 21) (v := ?_) rfl (by kernel_rfl) (by kernel_rfl) (by kernel_rfl) rfl (fun _ _ _ h => h) rfl rfl ?hy (by first | assumption | go_simp) ?_
      case hy => (intro w' hSw; (try dsimp only at hSw); go_simp <;> (first | with_reducible rfl | omega | skip))
      simp only [Act.put, List.setIfInBounds_toArray, List.set_cons_zero, List.set_cons_succ]
      refine wpAnyE_tk (i := 6) (d := some 22) (v := .pointer (some ⟨gb, i * 5, none⟩)) rfl (by kernel_rfl) (by kernel_rfl) (by kernel_rfl) rfl (fun _ _ _ h => h) rfl rfl ?hy (by first | assumption | go_simp) ?_
      case hy => (intro w' hSw; (try dsimp only at hSw); go_simp <;> (first | with_reducible rfl | omega | skip))
      simp only [Act.put, List.setIfInBounds_toArray, List.set_cons_zero, List.set_cons_succ]
      refine wpAnyE_tk (i := 7) (d := some 23) (v := .agg #[.int .i64 y.c, .int .i64 y.s.1, .int .i64 y.s.2.1, .int .i64 y.s.2.2, .slice y.a y.n y.k]) rfl (by kernel_rfl) (by kernel_rfl) (by kernel_rfl) rfl (fun _ _ _ h => h) rfl rfl ?hy (by first | assumption | go_simp) ?_
      case hy => (intro w' hSw; (try dsimp only at hSw); go_simp <;> (first | with_reducible rfl | omega | skip))
      simp only [Act.put, List.setIfInBounds_toArray, List.set_cons_zero, List.set_cons_succ]
      refine wpAnyE_on (i := 8) (by kernel_rfl) rfl rfl ?_
      go_simp
      refine Calls.mono (HSM.out wr.drew (HB.out.drew)) ?_
      rintro e w2 ⟨rfl, hB2⟩
      have HB2 : Hid (Below w.heap.size w w2) := (HB.out.drew).trans (hB2.mono HB.out.size)
      have hS2 := HSS.out w2 HB2.out
      clear hB2 hS0
      refine ⟨hS2, ?_⟩
      refine wpAnyE_tk (i := 9) (d := some 25) (v := .bool false) rfl (by kernel_rfl) (by kernel_rfl) (by kernel_rfl) rfl (fun _ _ _ h => h) rfl rfl ?hy (by first | assumption | go_simp) ?_
      case hy => (intro w' hSw; (try dsimp only at hSw); go_simp <;> (first | with_reducible rfl | omega | skip))
      simp only [Act.put, List.setIfInBounds_toArray, List.set_cons_zero, List.set_cons_succ]
      refine wpAnyE_done (by kernel_rfl) ?_ _
      clear hHeld hS2
      go_wp2_with fail
      go_round
      case rel => exact ⟨i + 1, hlt, by go_num, HB2.out⟩
      case measure => simp [intOf]; omega
    · have hlt' : ¬ (i : Int) < (xs.length : Int) := by omega
      go_wp2_with fail
      go_ret
      exact ⟨rfl, HB.out⟩
end Go.Proofs.YtbfgefgadplcjaaDoor
/-
  The statements' own within.
-/
namespace Go.Proofs.YtbfgefgadplcjaaDoor
open Go.RowKit
set_option maxRecDepth 100000 in
theorem within_any (n : Int) (w : World) : Calls Tryd.prog 33 #[.int .i64 n] w fun e w' => e = .returned (.int .i64 (wiN 1000 n)) ∧ w' = w := by
  have h1 := Int.lt_tmod_of_pos n (show (0 : Int) < 1000 by decide)
  have h2 := Int.tmod_lt_of_pos n (show (0 : Int) < 1000 by decide)
  unfold wiN
  generalize hm : n.tmod 1000 = m at *
  have hw : IntKind.i64.wrap m = m := by rw [IntKind.wrap_i64]; omega
  have hw2 : IntKind.i64.wrap (m + 1000) = m + 1000 := by rw [IntKind.wrap_i64]; omega
  by_cases h0 : m < 0
  · rw [if_pos h0]
    go_enter Tryd.func33, Tryd.ntmps33
    go_wp2
    go_ret
    exact ⟨rfl, rfl⟩
  · rw [if_neg h0]
    go_enter Tryd.func33, Tryd.ntmps33
    go_wp2
    go_ret
    exact ⟨rfl, rfl⟩
end Go.Proofs.YtbfgefgadplcjaaDoor
