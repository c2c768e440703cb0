/-
  Rows of replies compared, wherever they lie, and parts of rows.
-/
import Derived.Test.YtbfgefgadplcjaaDoorWi12
import Derived.Test.YtbfgefgadplcjaaDoorMd12
namespace Go.Proofs.YtbfgefgadplcjaaDoor
open Go.RowKit

def RwR (a : Option Addr) (xs : List Rx) (w : World) : Prop := xs = [] ∨ ∃ g o, a = some ⟨g, o, none⟩ ∧ g < w.heap.size ∧ ∀ i (h : i < xs.length), w.cell? ⟨g, o + i * 5, none⟩ = some (.int .i64 xs[i].c) ∧ w.cell? ⟨g, o + i * 5 + 1, none⟩ = some (.int .i64 xs[i].s.1) ∧ w.cell? ⟨g, o + i * 5 + 2, none⟩ = some (.int .i64 xs[i].s.2.1) ∧ w.cell? ⟨g, o + i * 5 + 3, none⟩ = some (.int .i64 xs[i].s.2.2) ∧ w.cell? ⟨g, o + i * 5 + 4, none⟩ = some (.slice xs[i].a xs[i].n xs[i].k)
theorem RwR.below {a : Option Addr} {xs : List Rx} {w w' : World} (h : RwR a xs w) (hb : Below w.heap.size w w') : RwR a xs w' := by
  rcases h with h | ⟨g, o, e, hg, hr⟩
  · exact .inl h
  · refine .inr ⟨g, o, e, Nat.lt_of_lt_of_le hg hb.size, fun j hj => ?_⟩
    obtain ⟨h0, h1, h2, h3, h4⟩ := hr j hj
    exact ⟨(hb.cell (p := ⟨g, _, none⟩) hg).trans h0, (hb.cell (p := ⟨g, _, none⟩) hg).trans h1, (hb.cell (p := ⟨g, _, none⟩) hg).trans h2, (hb.cell (p := ⟨g, _, none⟩) hg).trans h3, (hb.cell (p := ⟨g, _, none⟩) hg).trans h4⟩
theorem rw_elem {w : World} {g o : Nat} {xs : List Rx} (h : RwR (some ⟨g, o, none⟩) xs w) (i : Nat) (hi : i < xs.length) : w.cell? ⟨g, o + i * 5, none⟩ = some (.int .i64 xs[i].c) ∧ w.cell? ⟨g, o + i * 5 + 1, none⟩ = some (.int .i64 xs[i].s.1) ∧ w.cell? ⟨g, o + i * 5 + 2, none⟩ = some (.int .i64 xs[i].s.2.1) ∧ w.cell? ⟨g, o + i * 5 + 3, none⟩ = some (.int .i64 xs[i].s.2.2) ∧ w.cell? ⟨g, o + i * 5 + 4, none⟩ = some (.slice xs[i].a xs[i].n xs[i].k) := by
  rcases h with h | ⟨g', o', e, _, hr⟩
  · subst h; cases hi
  · cases e
    exact hr i hi
theorem Ow.rw {w : World} {a : Option Addr} {n c : Nat} {l : List Rx} (h : Ow celR 50 5 w (.slice a n c) l) : RwR a l w := by
  by_cases h0 : l = []
  · exact .inl h0
  · obtain ⟨a', c', e, hs⟩ := h.shape
    obtain ⟨g, rfl⟩ := hs h0
    cases e
    refine .inr ⟨g, 0, rfl, h.lt g rfl, fun i hi => ?_⟩
    rw [Nat.zero_add]
    exact ow_elem h i hi
def slV (a : Option Addr) (k cap : Nat) : Option Addr := if cap = k then a else a.map (·.add (k * 5))
theorem RwR.take {a : Option Addr} {xs : List Rx} {w : World} (h : RwR a xs w) (n : Nat) : RwR a (xs.take n) w := by
  rcases h with rfl | ⟨g, o, e, hg, hr⟩
  · exact .inl (by simp)
  · refine .inr ⟨g, o, e, hg, fun i hi => ?_⟩
    have hi' : i < xs.length := by rw [List.length_take] at hi; omega
    rw [List.getElem_take]
    exact hr i hi'
theorem RwR.cut {a : Option Addr} {xs : List Rx} {w : World} (h : RwR a xs w) (p cap : Nat) (hc : xs.length ≤ cap) : RwR (slV a p cap) (xs.drop p) w := by
  unfold slV
  split
  · refine .inl (List.drop_eq_nil_of_le (by omega))
  · rcases h with rfl | ⟨g, o, rfl, hg, hr⟩
    · exact .inl (by simp)
    · refine .inr ⟨g, o + p * 5, by simp [Addr.add], hg, fun j hj => ?_⟩
      rw [List.length_drop] at hj
      have := hr (p + j) (by omega)
      rw [List.getElem_drop, show o + p * 5 + j * 5 = o + (p + j) * 5 by omega]
      exact this
theorem Sas.take {w : World} {l : List Rx} {o : List Ry} (h : Sas w l o) (n : Nat) : Sas w (l.take n) (o.take n) := by
  have hl := h.1
  refine ⟨by rw [List.length_take, List.length_take, hl], fun i h1 h2 => ?_⟩
  rw [List.length_take] at h1 h2
  rw [List.getElem_take, List.getElem_take]
  exact h.2 i (by omega) (by omega)
theorem Sas.drop {w : World} {l : List Rx} {o : List Ry} (h : Sas w l o) (n : Nat) : Sas w (l.drop n) (o.drop n) := by
  have hl := h.1
  refine ⟨by rw [List.length_drop, List.length_drop, hl], fun i h1 h2 => ?_⟩
  rw [List.length_drop] at h1 h2
  rw [List.getElem_drop, List.getElem_drop]
  exact h.2 (n + i) (by omega) (by omega)
/-- What a reader told ahead stays ahead. -/
theorem run_ahead : ∀ (l : List UInt8) (p : Plc) (h : List UInt8) (o0 o : List Ry) (b : Bool), Sr.run ⟨p, h, o0 ++ o, b⟩ l = ⟨(Sr.run ⟨p, h, o, b⟩ l).p, (Sr.run ⟨p, h, o, b⟩ l).h, o0 ++ (Sr.run ⟨p, h, o, b⟩ l).o, (Sr.run ⟨p, h, o, b⟩ l).b⟩
  | [], p, h, o0, o, b => rfl
  | c :: t, p, h, o0, o, b => by
    rw [run_cons, run_cons]
    unfold Sr.on
    dsimp only
    by_cases hb : b = true
    · rw [if_pos hb, if_pos hb]
      exact run_ahead t p h o0 o b
    · rw [if_neg hb, if_neg hb]
      by_cases h2 : (stepP p c).2 = 2
      · rw [if_pos h2, if_pos h2]
        exact run_ahead t _ _ o0 o true
      · rw [if_neg h2, if_neg h2]
        by_cases h1 : (stepP p c).2 = 1
        · rw [if_pos h1, if_pos h1, List.append_assoc]
          exact run_ahead t _ _ o0 _ false
        · rw [if_neg h1, if_neg h1]
          exact run_ahead t _ _ o0 o false
theorem run_both (os : List Ry) (hm : ∀ r ∈ os, MayR r) (B : List UInt8) : Sr.nil.run (os.flatMap prL ++ B) = ⟨(Sr.nil.run B).p, (Sr.nil.run B).h, os ++ (Sr.nil.run B).o, (Sr.nil.run B).b⟩ := by
  have h := run_all os [] hm
  rw [List.nil_append] at h
  rw [run_append, show Sr.nil = ⟨Plc.nil, [], [], false⟩ from rfl, h]
  have := run_ahead B Plc.nil [] os [] false
  rwa [List.append_nil] at this
set_option maxRecDepth 100000 in
theorem infoTER5 : (Tryd.prog.info? 50).map (fun i => (i.size, i.bytes)) = some (5, 56) := by kernel_rfl
set_option maxRecDepth 100000 in
theorem run_slV (a : Option Addr) (n cap p : Nat) (h1 : p ≤ n) (w : World) : (Instr.sliceAt 29 (.slice a n cap) (some (.int .i64 (p : Int))) none none).run Tryd.prog w = .ok (.slice (slV a p cap) (n - p) (cap - p)) w := by
  have hu : Tryd.prog.underlying 29 = some (.slice (Tryd.prog.elem 29)) := Tryd.underlying29
  have hs : (sizeOf (Tryd.prog.elem 29)).run Tryd.prog w = .ok 5 w := by
    obtain ⟨i0, hi0, hz0, hz1, hz2⟩ := info_parts infoER
    have : (sizeOf 50).run Tryd.prog w = .ok 5 w := by go_simp
    exact this
  rw [run_sliceAt_slice (h := hu), run_slice_l (ht := hu) (h0 := by omega) (h1 := by omega), hs]
  simp [Result.andThen, sliced, slV]
set_option maxHeartbeats 2000000 in
set_option maxRecDepth 20000 in
theorem sameall_rw (aa ba : Option Addr) (ac bc : Nat) (xs ys : List Rx) (o : List Ry) (w : World) (ha : RwR aa xs w) (hb : RwR ba ys w) (hx : Sas w xs o) (hy : Sas w ys o) (hl : o.length ≤ 1099511627776) (hll : ∀ r ∈ o, r.ls.length ≤ 1099511627776) : Calls Tryd.prog 23 #[.slice aa xs.length ac, .slice ba ys.length bc] w fun e w' => e = .returned (.bool true) ∧ Below w.heap.size w w' := by
  have hxl := hx.1
  have hyl := hy.1
  have HA : Hid (RwR aa xs w) := ha
  have HBB : Hid (RwR ba ys w) := hb
  have HX : Hid (Sas w xs o) := hx
  have HY : Hid (Sas w ys o) := hy
  have HLL : Hid (∀ r ∈ o, r.ls.length ≤ 1099511627776) := hll
  have HYL : Hid (ys.length = xs.length) := by show _ = _; omega
  have hxm : xs.length ≤ 1099511627776 := by omega
  clear ha hb hx hy hll hxl hyl
  rw [HYL.out]
  go_enter Tryd.func23, Tryd.ntmps23
  go_wp2_with fail
  go_loopw [5, 13] (fun _ iv wr => ∃ i : Nat, i ≤ xs.length ∧ iv = .int .i64 i ∧ Hid (Below w.heap.size w wr)) (fun _ iv _ => xs.length - (intOf iv).toNat)
  case atStart => exact ⟨0, Nat.zero_le _, rfl, Below.refl _ _⟩
  case round =>
    obtain ⟨i, hi, rfl, HB⟩ := hrel
    by_cases hlt : i < xs.length
    · have hlt' : (i : Int) < (xs.length : Int) := by omega
      have hly : i < ys.length := by rw [HYL.out]; exact hlt
      rcases HA.out with h | ⟨ga, oa, hea, -, hca⟩
      · exfalso; rw [h] at hlt; cases hlt
      rcases HBB.out with h | ⟨gb, ob, heb, -, hcb⟩
      · exfalso; rw [h] at hly; cases hly
      clear hca hcb
      subst hea heb
      have hlo : i < o.length := by rw [← HX.out.1]; exact hlt
      have HSS : Hid (∀ wx, Below w.heap.size w wx → (wx.cell? ⟨ga, oa + i * 5, none⟩ = some (.int .i64 xs[i].c) ∧ wx.cell? ⟨ga, oa + i * 5 + 1, none⟩ = some (.int .i64 xs[i].s.1) ∧ wx.cell? ⟨ga, oa + i * 5 + 2, none⟩ = some (.int .i64 xs[i].s.2.1) ∧ wx.cell? ⟨ga, oa + i * 5 + 3, none⟩ = some (.int .i64 xs[i].s.2.2) ∧ wx.cell? ⟨ga, oa + i * 5 + 4, none⟩ = some (.slice xs[i].a xs[i].n xs[i].k) ∧ wx.cell? ⟨gb, ob + i * 5, none⟩ = some (.int .i64 ys[i].c) ∧ wx.cell? ⟨gb, ob + i * 5 + 1, none⟩ = some (.int .i64 ys[i].s.1) ∧ wx.cell? ⟨gb, ob + i * 5 + 2, none⟩ = some (.int .i64 ys[i].s.2.1) ∧ wx.cell? ⟨gb, ob + i * 5 + 3, none⟩ = some (.int .i64 ys[i].s.2.2) ∧ wx.cell? ⟨gb, ob + i * 5 + 4, none⟩ = some (.slice ys[i].a ys[i].n ys[i].k))) := fun wx hb => by
        obtain ⟨a1, a2, a3, a4, a5⟩ := rw_elem (HA.out.below hb) i hlt
        obtain ⟨b1, b2, b3, b4, b5⟩ := rw_elem (HBB.out.below hb) i hly
        exact ⟨a1, a2, a3, a4, a5, b1, b2, b3, b4, b5⟩
      have HSM : Hid (∀ wx, Below w.heap.size w wx → Calls Tryd.prog 14 #[.agg #[.int .i64 xs[i].c, .int .i64 xs[i].s.1, .int .i64 xs[i].s.2.1, .int .i64 xs[i].s.2.2, .slice xs[i].a xs[i].n xs[i].k], .agg #[.int .i64 ys[i].c, .int .i64 ys[i].s.1, .int .i64 ys[i].s.2.1, .int .i64 ys[i].s.2.2, .slice ys[i].a ys[i].n ys[i].k]] wx fun e w' => e = .returned (.bool true) ∧ Below wx.heap.size wx w') := fun wx hb =>
        same_yes xs[i] ys[i] o[i] wx ((HX.out.2 i hlt hlo).below hb) ((HY.out.2 i hly hlo).below hb) (HLL.out _ (List.getElem_mem hlo))
      have hS0 := HSS.out wr HB.out
      generalize xs[i] = x at *
      generalize ys[i] = y at *
      go_wp2_with fail
      refine wp_region_late (fun wx => wx.cell? ⟨ga, oa + i * 5, none⟩ = some (.int .i64 x.c) ∧ wx.cell? ⟨ga, oa + i * 5 + 1, none⟩ = some (.int .i64 x.s.1) ∧ wx.cell? ⟨ga, oa + i * 5 + 2, none⟩ = some (.int .i64 x.s.2.1) ∧ wx.cell? ⟨ga, oa + i * 5 + 3, none⟩ = some (.int .i64 x.s.2.2) ∧ wx.cell? ⟨ga, oa + i * 5 + 4, none⟩ = some (.slice x.a x.n x.k) ∧ wx.cell? ⟨gb, ob + i * 5, none⟩ = some (.int .i64 y.c) ∧ wx.cell? ⟨gb, ob + i * 5 + 1, none⟩ = some (.int .i64 y.s.1) ∧ wx.cell? ⟨gb, ob + i * 5 + 2, none⟩ = some (.int .i64 y.s.2.1) ∧ wx.cell? ⟨gb, ob + i * 5 + 3, none⟩ = some (.int .i64 y.s.2.2) ∧ wx.cell? ⟨gb, ob + i * 5 + 4, none⟩ = some (.slice y.a y.n y.k)) 10 (by kernel_rfl) hS0 (fun hHeld => ?_)
      refine wpAnyE_tk (i := 0) (d := some 16) (v := ?_) rfl (by kernel_rfl) (by kernel_rfl) (by kernel_rfl) rfl (fun _ _ _ h => h) rfl rfl ?hy (by first | assumption | go_simp) ?_
      case hy => (intro w' hSw; (try dsimp only at hSw); go_simp <;> (first | with_reducible rfl | omega | skip))
      simp only [Act.put, List.setIfInBounds_toArray, List.set_cons_zero, List.set_cons_succ]
      refine wpAnyE_tk (i := 1) (d := some 17) (v := ?_) rfl (by kernel_rfl) (by kernel_rfl) (by kernel_rfl) rfl (fun _ _ _ h => h) rfl rfl ?hy (by first | assumption | go_simp) ?_
      case hy => (intro w' hSw; (try dsimp only at hSw); go_simp <;> (first | with_reducible rfl | omega | skip))
      simp only [Act.put, List.setIfInBounds_toArray, List.set_cons_zero, List.set_cons_succ]
      refine wpAnyE_tk (i := 2) (d := some 18) (v := .pointer (some ⟨ga, oa + i * 5, none⟩)) rfl (by kernel_rfl) (by kernel_rfl) (by kernel_rfl) rfl (fun _ _ _ h => h) rfl rfl ?hy (by first | assumption | go_simp) ?_
      case hy => (intro w' hSw; (try dsimp only at hSw); go_simp <;> (first | with_reducible rfl | omega | skip))
      simp only [Act.put, List.setIfInBounds_toArray, List.set_cons_zero, List.set_cons_succ]
      refine wpAnyE_tk (i := 3) (d := some 19) (v := .agg #[.int .i64 x.c, .int .i64 x.s.1, .int .i64 x.s.2.1, .int .i64 x.s.2.2, .slice x.a x.n x.k]) rfl (by kernel_rfl) (by kernel_rfl) (by kernel_rfl) rfl (fun _ _ _ h => h) rfl rfl ?hy (by first | assumption | go_simp) ?_
      case hy => (intro w' hSw; (try dsimp only at hSw); go_simp <;> (first | with_reducible rfl | omega | skip))
      simp only [Act.put, List.setIfInBounds_toArray, List.set_cons_zero, List.set_cons_succ]
      refine wpAnyE_tk (i := 4) (d := some 20) (v := ?_) rfl (by kernel_rfl) (by kernel_rfl) (by kernel_rfl) rfl (fun _ _ _ h => h) rfl rfl ?hy (by first | assumption | go_simp) ?_
      case hy => (intro w' hSw; (try dsimp only at hSw); go_simp <;> (first | with_reducible rfl | omega | skip))
      simp only [Act.put, List.setIfInBounds_toArray, List.set_cons_zero, List.set_cons_succ]
      refine wpAnyE_tk (i := 5) (d := some 21) (v := ?_) rfl (by kernel_rfl) (by kernel_rfl) (by kernel_rfl) rfl (fun _ _ _ h => h) rfl rfl ?hy (by first | assumption | go_simp) ?_
      case hy => (intro w' hSw; (try dsimp only at hSw); go_simp <;> (first | with_reducible rfl | omega | skip))
      simp only [Act.put, List.setIfInBounds_toArray, List.set_cons_zero, List.set_cons_succ]
      refine wpAnyE_tk (i := 6) (d := some 22) (v := .pointer (some ⟨gb, ob + i * 5, none⟩)) rfl (by kernel_rfl) (by kernel_rfl) (by kernel_rfl) rfl (fun _ _ _ h => h) rfl rfl ?hy (by first | assumption | go_simp) ?_
      case hy => (intro w' hSw; (try dsimp only at hSw); go_simp <;> (first | with_reducible rfl | omega | skip))
      simp only [Act.put, List.setIfInBounds_toArray, List.set_cons_zero, List.set_cons_succ]
      refine wpAnyE_tk (i := 7) (d := some 23) (v := .agg #[.int .i64 y.c, .int .i64 y.s.1, .int .i64 y.s.2.1, .int .i64 y.s.2.2, .slice y.a y.n y.k]) rfl (by kernel_rfl) (by kernel_rfl) (by kernel_rfl) rfl (fun _ _ _ h => h) rfl rfl ?hy (by first | assumption | go_simp) ?_
      case hy => (intro w' hSw; (try dsimp only at hSw); go_simp <;> (first | with_reducible rfl | omega | skip))
      simp only [Act.put, List.setIfInBounds_toArray, List.set_cons_zero, List.set_cons_succ]
      refine wpAnyE_on (i := 8) (by kernel_rfl) rfl rfl ?_
      go_simp
      refine Calls.mono (HSM.out wr.drew (HB.out.drew)) ?_
      rintro e w2 ⟨rfl, hB2⟩
      have HB2 : Hid (Below w.heap.size w w2) := (HB.out.drew).trans (hB2.mono HB.out.size)
      have hS2 := HSS.out w2 HB2.out
      clear hB2 hS0
      refine ⟨hS2, ?_⟩
      refine wpAnyE_tk (i := 9) (d := some 25) (v := .bool false) rfl (by kernel_rfl) (by kernel_rfl) (by kernel_rfl) rfl (fun _ _ _ h => h) rfl rfl ?hy (by first | assumption | go_simp) ?_
      case hy => (intro w' hSw; (try dsimp only at hSw); go_simp <;> (first | with_reducible rfl | omega | skip))
      simp only [Act.put, List.setIfInBounds_toArray, List.set_cons_zero, List.set_cons_succ]
      refine wpAnyE_done (by kernel_rfl) ?_ _
      clear hHeld hS2
      go_wp2_with fail
      go_round
      case rel => exact ⟨i + 1, hlt, by go_num, HB2.out⟩
      case measure => simp [intOf]; omega
    · have hlt' : ¬ (i : Int) < (xs.length : Int) := by omega
      go_wp2_with fail
      go_ret
      exact ⟨rfl, HB.out⟩
end Go.Proofs.YtbfgefgadplcjaaDoor
