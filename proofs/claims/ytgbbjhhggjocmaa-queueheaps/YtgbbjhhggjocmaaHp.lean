/-
  A heap in memory; the order; which of two is told ahead.
-/
import Derived.Test.YtgbbjhhggjocmaaOwn7
import Derived.Test.YtgbbjhhggjocmaaLate7
import Derived.Test.YtgbbjhhggjocmaaHpP
import Derived.Shelf.Abstract
namespace Go.Proofs.Ytgbbjhhggjocmaa
open Go.RowKit

/-- A struct of two numbers as a value. -/
def vTh (x : Int × Int) : Value := .agg #[.int .i64 x.1, .int .i64 x.2]
def celE (e : En) : List Value := [.int .i64 e.1.1, .int .i64 e.1.2, .int .u64 (e.2 : Int)]
theorem celE_length (e : En) : (celE e).length = 3 := rfl
theorem oneE : ∀ x, ∀ v ∈ celE x, v.oneCell' = true := by
  intro x v hv
  unfold celE at hv
  simp at hv
  rcases hv with rfl | rfl | rfl <;> rfl
theorem infoE : (Try.prog.info? 88).map (fun i => (i.zero, i.size, i.bytes)) = some (some (Value.agg #[.int .i64 0, .int .i64 0, .int .u64 0]), 3, 24) := by kernel_rfl
theorem sizeE : (Try.prog.info? 88).map (·.size) = some 3 := by kernel_rfl
theorem sizeT : (Try.prog.info? 31).map (·.size) = some 2 := by kernel_rfl
theorem zeroE_run (w : World) : (zeroValue 88).run Try.prog w = .ok (Value.agg #[.int .i64 0, .int .i64 0, .int .u64 0]) w := by kernel_rfl
structure Hp (w : World) (b cf : Nat) (L : List En) (np : Nat) (v : Value) : Prop where
  lies : Lies w b #[.func (.func cf) #[] #[], v, .int .u64 (np : Int)] 84
  own : Ow celE 88 3 w v L
theorem Hp.cells {w : World} {b cf : Nat} {L : List En} {np : Nat} {v : Value} (h : Hp w b cf L np v) : w.cell? ⟨b, 0, none⟩ = some (.func (.func cf) #[] #[]) ∧ w.cell? ⟨b, 1, none⟩ = some v ∧ w.cell? ⟨b, 2, none⟩ = some (.int .u64 (np : Int)) := ⟨h.lies.cell 0, h.lies.cell 1, h.lies.cell 2⟩
theorem Hp.ne {w : World} {b cf : Nat} {L : List En} {np : Nat} {v : Value} (h : Hp w b cf L np v) (g : Nat) (hg : v.ownBlock = some g) : g ≠ b := by
  obtain ⟨_, ⟨rfl, _⟩ | ⟨g', cap, cur, rfl, _, h4, _⟩⟩ := h.own
  · cases hg
  · obtain rfl : g' = g := Option.some.inj hg
    exact lies_ne (t := 88) (u := 84) h4 h.lies (by decide)
theorem Hp.below {w w' : World} {b cf : Nat} {L : List En} {np : Nat} {v : Value} (h : Hp w b cf L np v) (hb : Below w.heap.size w w') : Hp w' b cf L np v := ⟨h.lies.below hb h.lies.lt, h.own.below hb⟩
/-- A heap's blocks. -/
def Fh (b : Nat) (v : Value) (k : Nat) : Prop := k = b ∨ v.ownBlock = some k
theorem Hp.keep {w w' : World} {b cf : Nat} {L : List En} {np : Nat} {v : Value} (h : Hp w b cf L np v) (hk : ∀ k, Fh b v k → w'.heap[k]? = w.heap[k]?) : Hp w' b cf L np v := ⟨(hk b (.inl rfl)).trans h.lies, h.own.keep (fun g hg => hk g (.inr hg))⟩
theorem Hp.lt {w : World} {b cf : Nat} {L : List En} {np : Nat} {v : Value} (h : Hp w b cf L np v) (k : Nat) (hk : Fh b v k) : k < w.heap.size := by
  rcases hk with rfl | hk
  · exact h.lies.lt
  · exact h.own.lt k hk
theorem Hp.chg {w w' : World} {b cf : Nat} {L : List En} {np : Nat} {v : Value} {F : Nat → Prop} (h : Hp w b cf L np v) (hc : Chg F w w') (hn : ∀ k, Fh b v k → ¬ F k) : Hp w' b cf L np v := h.keep (fun k hk => hc.block k (h.lt k hk) (hn k hk))
/-- The thing at place i, cell by cell. -/
theorem Hp.at {w : World} {b cf : Nat} {L : List En} {np : Nat} {v : Value} (h : Hp w b cf L np v) (i : Nat) (hi : i < L.length) : ∃ g c, v = .slice (some ⟨g, 0, none⟩) L.length c ∧ g ≠ b ∧ w.cell? ⟨g, i * 3, none⟩ = some (.int .i64 (eA L i).1.1) ∧ w.cell? ⟨g, i * 3 + 1, none⟩ = some (.int .i64 (eA L i).1.2) ∧ w.cell? ⟨g, i * 3 + 2, none⟩ = some (.int .u64 ((eA L i).2 : Int)) := by
  obtain ⟨a, c, rfl, hs⟩ := h.own.shape
  obtain ⟨g, rfl⟩ := hs (fun e => by rw [e] at hi; cases hi)
  have hl := flat_length celE_length L
  have ha := eA_get hi
  have e0 := flat_at celE_length L i 0 hi (by decide)
  have e1 := flat_at celE_length L i 1 hi (by decide)
  have e2 := flat_at celE_length L i 2 hi (by decide)
  rw [← ha] at e0 e1 e2
  exact ⟨g, c, rfl, h.ne g rfl, by rw [h.own.cells _ (by omega), ← Nat.add_zero (i * 3), e0]; rfl, by rw [h.own.cells _ (by omega), e1]; rfl, by rw [h.own.cells _ (by omega), e2]; rfl⟩
/-- The order that a function is. -/
structure Cmp (cf : Nat) (kk : Bool) : Prop where
  ent : ∀ args w, (callFunc cf args).run Try.prog w = .ok (.enter cf args) w
  tells : ∀ (a b : Int × Int) (w : World), Calls Try.prog cf #[vTh a, vTh b] w fun e w' => ∃ c : Int, e = .returned (.int .i64 c) ∧ (c < 0 ↔ kap kk a < kap kk b) ∧ (c = 0 ↔ kap kk a = kap kk b) ∧ Below w.heap.size w w'
theorem bykey_cmp : Cmp 23 true := by
  refine ⟨Go.Proofs.enters_of Try.func23 (by kernel_rfl) rfl, fun a b w => ?_⟩
  have HB : Hid (Below w.heap.size w ((w.alloc (.cells #[.int .i64 a.1, .int .i64 a.2] 31)).alloc (.cells #[.int .i64 b.1, .int .i64 b.2] 31))) := ((Below.refl _ _).alloc (Nat.le_refl _) _).alloc (by simp) _
  unfold vTh kap
  by_cases h1 : a.1 < b.1
  · go_enter Try.func23, Try.ntmps23
    go_wp2
    go_ret
    exact ⟨-1, rfl, by simp, by simp; omega, HB.out⟩
  · by_cases h2 : b.1 < a.1
    · go_enter Try.func23, Try.ntmps23
      go_wp2
      go_ret
      exact ⟨1, rfl, by simp; omega, by simp; omega, HB.out⟩
    · go_enter Try.func23, Try.ntmps23
      go_wp2
      go_ret
      exact ⟨0, rfl, by simp; omega, by simp; omega, HB.out⟩
set_option maxRecDepth 20000 in
set_option maxHeartbeats 4000000 in
theorem ahead_any (b cf : Nat) (kk : Bool) (L : List En) (np : Nat) (v : Value) (i j : Nat) (w : World) (h : Hp w b cf L np v) (hc : Cmp cf kk) (hi : i < L.length) (hj : j < L.length) :
    Calls Try.prog 67 #[.pointer (some ⟨b, 0, none⟩), .int .i64 (i : Int), .int .i64 (j : Int)] w fun e w' => e = .returned (.bool (decide (bf kk (eA L i) (eA L j)))) ∧ Below w.heap.size w w' := by
  obtain ⟨g, c, rfl, hgb, g0, g1, g2⟩ := h.at i hi
  obtain ⟨g', c', e', _, k0, k1, k2⟩ := h.at j hj
  cases e'
  have c0 := h.cells.1
  have c1 := h.cells.2.1
  have hlt := h.lies.lt
  have hglt := h.own.lt g rfl
  have HC : Hid (Cmp cf kk) := hc
  have hent := hc.ent
  have hbg : b ≠ g := Ne.symm hgb
  have hii : (i : Int) < (L.length : Int) := by omega
  have hjj : (j : Int) < (L.length : Int) := by omega
  clear h hc
  generalize eA L i = x at *
  generalize eA L j = y at *
  generalize L.length = n at *
  go_enter Try.func67, Try.ntmps67
  go_wp2_with fail
  refine wp_region_late (fun wx => wx.cell? ⟨b, 1, none⟩ = some (.slice (some ⟨g, 0, none⟩) n c) ∧ wx.cell? ⟨b, 0, none⟩ = some (.func (.func cf) #[] #[]) ∧ wx.cell? ⟨g, i * 3, none⟩ = some (.int .i64 x.1.1) ∧ wx.cell? ⟨g, i * 3 + 1, none⟩ = some (.int .i64 x.1.2) ∧ wx.cell? ⟨g, i * 3 + 2, none⟩ = some (.int .u64 (x.2 : Int)) ∧ wx.cell? ⟨g, j * 3, none⟩ = some (.int .i64 y.1.1) ∧ wx.cell? ⟨g, j * 3 + 1, none⟩ = some (.int .i64 y.1.2) ∧ wx.cell? ⟨g, j * 3 + 2, none⟩ = some (.int .u64 (y.2 : Int))) 18 (by kernel_rfl) ⟨c1, c0, g0, g1, g2, k0, k1, k2⟩ (fun hHeld => ?_)
  refine wpAnyE_tk (i := 0) (d := some 10) (v := ?_) rfl (by kernel_rfl) (by kernel_rfl) (by kernel_rfl) rfl (fun _ _ _ h => h) rfl rfl ?hy (by first | assumption | go_simp) ?_
  case hy => (intro w' hSw; (try dsimp only at hSw); go_simp <;> (first | with_reducible rfl | omega | skip))
  simp only [Act.put, List.setIfInBounds_toArray, List.set_cons_zero, List.set_cons_succ]
  refine wpAnyE_tk (i := 1) (d := some 11) (v := ?_) rfl (by kernel_rfl) (by kernel_rfl) (by kernel_rfl) rfl (fun _ _ _ h => h) rfl rfl ?hy (by first | assumption | go_simp) ?_
  case hy => (intro w' hSw; (try dsimp only at hSw); go_simp <;> (first | with_reducible rfl | omega | skip))
  simp only [Act.put, List.setIfInBounds_toArray, List.set_cons_zero, List.set_cons_succ]
  refine wpAnyE_tk (i := 2) (d := some 12) (v := ?_) rfl (by kernel_rfl) (by kernel_rfl) (by kernel_rfl) rfl (fun _ _ _ h => h) rfl rfl ?hy (by first | assumption | go_simp) ?_
  case hy => (intro w' hSw; (try dsimp only at hSw); go_simp <;> (first | with_reducible rfl | omega | skip))
  simp only [Act.put, List.setIfInBounds_toArray, List.set_cons_zero, List.set_cons_succ]
  refine wpAnyE_tk (i := 3) (d := some 13) (v := ?_) rfl (by kernel_rfl) (by kernel_rfl) (by kernel_rfl) rfl (fun _ _ _ h => h) rfl rfl ?hy (by first | assumption | go_simp) ?_
  case hy => (intro w' hSw; (try dsimp only at hSw); go_simp <;> (first | with_reducible rfl | omega | skip))
  simp only [Act.put, List.setIfInBounds_toArray, List.set_cons_zero, List.set_cons_succ]
  refine wpAnyE_tk (i := 4) (d := some 14) (v := ?_) rfl (by kernel_rfl) (by kernel_rfl) (by kernel_rfl) rfl (fun _ _ _ h => h) rfl rfl ?hy (by first | assumption | go_simp) ?_
  case hy => (intro w' hSw; (try dsimp only at hSw); go_simp <;> (first | with_reducible rfl | omega | skip))
  simp only [Act.put, List.setIfInBounds_toArray, List.set_cons_zero, List.set_cons_succ]
  refine wpAnyE_tk (i := 5) (d := some 15) (v := .pointer (some ⟨g, i * 3, none⟩)) rfl (by kernel_rfl) (by kernel_rfl) (by kernel_rfl) rfl (fun _ _ _ h => h) rfl rfl ?hy (by first | assumption | go_simp) ?_
  case hy => (intro w' hSw; (try dsimp only at hSw); go_simp <;> (first | with_reducible rfl | omega | skip))
  simp only [Act.put, List.setIfInBounds_toArray, List.set_cons_zero, List.set_cons_succ]
  refine wpAnyE_tk (i := 6) (d := some 16) (v := .agg #[.int .i64 x.1.1, .int .i64 x.1.2, .int .u64 (x.2 : Int)]) rfl (by kernel_rfl) (by kernel_rfl) (by kernel_rfl) rfl (fun _ _ _ h => h) rfl rfl ?hy (by first | assumption | go_simp) ?_
  case hy => (intro w' hSw; (try dsimp only at hSw); go_simp <;> (first | with_reducible rfl | omega | skip))
  simp only [Act.put, List.setIfInBounds_toArray, List.set_cons_zero, List.set_cons_succ]
  refine wpAnyE_tk (i := 7) (d := some 17) (v := ?_) rfl (by kernel_rfl) (by kernel_rfl) (by kernel_rfl) rfl (fun _ _ _ h => h) rfl rfl ?hy (by first | assumption | go_simp) ?_
  case hy => (intro w' hSw; (try dsimp only at hSw); go_simp <;> (first | with_reducible rfl | omega | skip))
  simp only [Act.put, List.setIfInBounds_toArray, List.set_cons_zero, List.set_cons_succ]
  refine wpAnyE_tk (i := 8) (d := some 18) (v := ?_) rfl (by kernel_rfl) (by kernel_rfl) (by kernel_rfl) rfl (fun _ _ _ h => h) rfl rfl ?hy (by first | assumption | go_simp) ?_
  case hy => (intro w' hSw; (try dsimp only at hSw); go_simp <;> (first | with_reducible rfl | omega | skip))
  simp only [Act.put, List.setIfInBounds_toArray, List.set_cons_zero, List.set_cons_succ]
  refine wpAnyE_tk (i := 9) (d := some 19) (v := ?_) rfl (by kernel_rfl) (by kernel_rfl) (by kernel_rfl) rfl (fun _ _ _ h => h) rfl rfl ?hy (by first | assumption | go_simp) ?_
  case hy => (intro w' hSw; (try dsimp only at hSw); go_simp <;> (first | with_reducible rfl | omega | skip))
  simp only [Act.put, List.setIfInBounds_toArray, List.set_cons_zero, List.set_cons_succ]
  refine wpAnyE_tk (i := 10) (d := some 20) (v := ?_) rfl (by kernel_rfl) (by kernel_rfl) (by kernel_rfl) rfl (fun _ _ _ h => h) rfl rfl ?hy (by first | assumption | go_simp) ?_
  case hy => (intro w' hSw; (try dsimp only at hSw); go_simp <;> (first | with_reducible rfl | omega | skip))
  simp only [Act.put, List.setIfInBounds_toArray, List.set_cons_zero, List.set_cons_succ]
  refine wpAnyE_tk (i := 11) (d := some 21) (v := ?_) rfl (by kernel_rfl) (by kernel_rfl) (by kernel_rfl) rfl (fun _ _ _ h => h) rfl rfl ?hy (by first | assumption | go_simp) ?_
  case hy => (intro w' hSw; (try dsimp only at hSw); go_simp <;> (first | with_reducible rfl | omega | skip))
  simp only [Act.put, List.setIfInBounds_toArray, List.set_cons_zero, List.set_cons_succ]
  refine wpAnyE_tk (i := 12) (d := some 22) (v := .pointer (some ⟨g, j * 3, none⟩)) rfl (by kernel_rfl) (by kernel_rfl) (by kernel_rfl) rfl (fun _ _ _ h => h) rfl rfl ?hy (by first | assumption | go_simp) ?_
  case hy => (intro w' hSw; (try dsimp only at hSw); go_simp <;> (first | with_reducible rfl | omega | skip))
  simp only [Act.put, List.setIfInBounds_toArray, List.set_cons_zero, List.set_cons_succ]
  refine wpAnyE_tk (i := 13) (d := some 23) (v := .agg #[.int .i64 y.1.1, .int .i64 y.1.2, .int .u64 (y.2 : Int)]) rfl (by kernel_rfl) (by kernel_rfl) (by kernel_rfl) rfl (fun _ _ _ h => h) rfl rfl ?hy (by first | assumption | go_simp) ?_
  case hy => (intro w' hSw; (try dsimp only at hSw); go_simp <;> (first | with_reducible rfl | omega | skip))
  simp only [Act.put, List.setIfInBounds_toArray, List.set_cons_zero, List.set_cons_succ]
  refine wpAnyE_two (i := 14) (j := 15) (by kernel_rfl) rfl rfl rfl rfl ?_ ?_
  · go_simp
    refine wpAnyE_on (i := 15) (by kernel_rfl) rfl rfl ?_
    go_simp
    refine wpAnyE_on (i := 16) (by kernel_rfl) rfl rfl ?_
    go_simp
    refine wpAnyE_on (i := 17) (by kernel_rfl) rfl rfl ?_
    go_simp
    refine wpAnyE_done (by kernel_rfl) ?_ _
    clear hHeld
    obtain ⟨w2, hw2⟩ : ∃ w2, w2 = ((w.alloc (.cells #[Value.int .i64 x.1.1, .int .i64 x.1.2, .int .u64 (x.2 : Int)] 88)).alloc (.cells #[Value.int .i64 y.1.1, .int .i64 y.1.2, .int .u64 (y.2 : Int)] 88)) := ⟨_, rfl⟩
    rw [← hw2]
    have hbl : Below w.heap.size w w2 := by rw [hw2]; exact ((Below.refl _ _).alloc (Nat.le_refl _) _).alloc (by simp) _
    have hsz : w2.heap.size = w.heap.size + 2 := by rw [hw2]; simp
    have LA : Lies w2 w.heap.size #[Value.int .i64 x.1.1, .int .i64 x.1.2, .int .u64 (x.2 : Int)] 88 := by rw [hw2]; exact (Lies.new w _ _).alloc _
    have LB : Lies w2 (w.heap.size + 1) #[Value.int .i64 y.1.1, .int .i64 y.1.2, .int .u64 (y.2 : Int)] 88 := by rw [hw2]; have := Lies.new (w.alloc (.cells #[Value.int .i64 x.1.1, .int .i64 x.1.2, .int .u64 (x.2 : Int)] 88)) #[Value.int .i64 y.1.1, .int .i64 y.1.2, .int .u64 (y.2 : Int)] 88; rwa [World.size_alloc] at this
    have d0 : w2.cell? ⟨b, 0, none⟩ = some (.func (.func cf) #[] #[]) := (hbl.cell (p := ⟨b, 0, none⟩) hlt).trans c0
    have HBL : Hid (Below w.heap.size w w2) := hbl
    clear hw2 c0 c1 g0 g1 g2 k0 k1 k2 hbl
    obtain ⟨P0, hP0⟩ : ∃ P0, P0 = w.heap.size := ⟨_, rfl⟩
    obtain ⟨P1, hP1⟩ : ∃ P1, P1 = w.heap.size + 1 := ⟨_, rfl⟩
    rw [← hP1] at LB ⊢
    rw [← hP0] at LA ⊢
    obtain ⟨P7, rfl⟩ : ∃ P7, P7 = P0 := ⟨_, rfl⟩
    obtain ⟨P8, rfl⟩ : ∃ P8, P8 = P1 := ⟨_, rfl⟩
    have LX := LA
    have LY := LB
    have x0 : w2.cell? ⟨P7, 0, none⟩ = some (.int .i64 x.1.1) := LX.cell 0
    have x1 : w2.cell? ⟨P7, 1, none⟩ = some (.int .i64 x.1.2) := LX.cell 1
    have y0 : w2.cell? ⟨P8, 0, none⟩ = some (.int .i64 y.1.1) := LY.cell 0
    have y1 : w2.cell? ⟨P8, 1, none⟩ = some (.int .i64 y.1.2) := LY.cell 1
    have HLX : Hid (Lies w2 P7 #[Value.int .i64 x.1.1, .int .i64 x.1.2, .int .u64 (x.2 : Int)] 88) := LX
    have HLY : Hid (Lies w2 P8 #[Value.int .i64 y.1.1, .int .i64 y.1.2, .int .u64 (y.2 : Int)] 88) := LY
    have HT : Hid (∀ m, Calls Try.prog cf #[.agg #[.int .i64 x.1.1, .int .i64 x.1.2], .agg #[.int .i64 y.1.1, .int .i64 y.1.2]] (w2.drewN m) fun e w' => ∃ c : Int, e = .returned (.int .i64 c) ∧ (c < 0 ↔ kap kk x.1 < kap kk y.1) ∧ (c = 0 ↔ kap kk x.1 = kap kk y.1) ∧ Below w2.heap.size w2 w') := fun m => (HC.out.tells x.1 y.1 (w2.drewN m)).mono (fun e w' hh => by obtain ⟨c, q1, q2, q3, q4⟩ := hh; exact ⟨c, q1, q2, q3, (below_drewN w2 m).trans q4⟩)
    have HBB : Hid (b < w2.heap.size) := by unfold Hid; omega
    clear LX LY LA LB hP0 hP1 hsz
    go_wp2_with fail
    refine wp_region_late (fun wx => wx.cell? ⟨b, 0, none⟩ = some (.func (.func cf) #[] #[]) ∧ wx.cell? ⟨P7, 0, none⟩ = some (.int .i64 x.1.1) ∧ wx.cell? ⟨P7, 1, none⟩ = some (.int .i64 x.1.2) ∧ wx.cell? ⟨P8, 0, none⟩ = some (.int .i64 y.1.1) ∧ wx.cell? ⟨P8, 1, none⟩ = some (.int .i64 y.1.2)) 10 (by kernel_rfl) ⟨d0, x0, x1, y0, y1⟩ (fun hHeld => ?_)
    refine wpAnyE_tk (i := 0) (d := some 24) (v := ?_) rfl (by kernel_rfl) (by kernel_rfl) (by kernel_rfl) rfl (fun _ _ _ h => h) rfl rfl ?hy (by first | assumption | go_simp) ?_
    case hy => (intro w' hSw; (try dsimp only at hSw); go_simp <;> (first | with_reducible rfl | omega | skip))
    simp only [Act.put, List.setIfInBounds_toArray, List.set_cons_zero, List.set_cons_succ]
    refine wpAnyE_tk (i := 1) (d := some 25) (v := ?_) rfl (by kernel_rfl) (by kernel_rfl) (by kernel_rfl) rfl (fun _ _ _ h => h) rfl rfl ?hy (by first | assumption | go_simp) ?_
    case hy => (intro w' hSw; (try dsimp only at hSw); go_simp <;> (first | with_reducible rfl | omega | skip))
    simp only [Act.put, List.setIfInBounds_toArray, List.set_cons_zero, List.set_cons_succ]
    refine wpAnyE_tk (i := 2) (d := some 26) (v := ?_) rfl (by kernel_rfl) (by kernel_rfl) (by kernel_rfl) rfl (fun _ _ _ h => h) rfl rfl ?hy (by first | assumption | go_simp) ?_
    case hy => (intro w' hSw; (try dsimp only at hSw); go_simp <;> (first | with_reducible rfl | omega | skip))
    simp only [Act.put, List.setIfInBounds_toArray, List.set_cons_zero, List.set_cons_succ]
    refine wpAnyE_tk (i := 3) (d := some 27) (v := ?_) rfl (by kernel_rfl) (by kernel_rfl) (by kernel_rfl) rfl (fun _ _ _ h => h) rfl rfl ?hy (by first | assumption | go_simp) ?_
    case hy => (intro w' hSw; (try dsimp only at hSw); go_simp <;> (first | with_reducible rfl | omega | skip))
    simp only [Act.put, List.setIfInBounds_toArray, List.set_cons_zero, List.set_cons_succ]
    refine wpAnyE_tk (i := 4) (d := some 28) (v := ?_) rfl (by kernel_rfl) (by kernel_rfl) (by kernel_rfl) rfl (fun _ _ _ h => h) rfl rfl ?hy (by first | assumption | go_simp) ?_
    case hy => (intro w' hSw; (try dsimp only at hSw); go_simp <;> (first | with_reducible rfl | omega | skip))
    simp only [Act.put, List.setIfInBounds_toArray, List.set_cons_zero, List.set_cons_succ]
    refine wpAnyE_tk (i := 5) (d := some 29) (v := .agg #[.int .i64 x.1.1, .int .i64 x.1.2]) rfl (by kernel_rfl) (by kernel_rfl) (by kernel_rfl) rfl (fun _ _ _ h => h) rfl rfl ?hy (by first | assumption | go_simp) ?_
    case hy => (intro w' hSw; (try dsimp only at hSw); go_simp <;> (first | with_reducible rfl | omega | skip))
    simp only [Act.put, List.setIfInBounds_toArray, List.set_cons_zero, List.set_cons_succ]
    refine wpAnyE_tk (i := 6) (d := some 30) (v := ?_) rfl (by kernel_rfl) (by kernel_rfl) (by kernel_rfl) rfl (fun _ _ _ h => h) rfl rfl ?hy (by first | assumption | go_simp) ?_
    case hy => (intro w' hSw; (try dsimp only at hSw); go_simp <;> (first | with_reducible rfl | omega | skip))
    simp only [Act.put, List.setIfInBounds_toArray, List.set_cons_zero, List.set_cons_succ]
    refine wpAnyE_tk (i := 7) (d := some 31) (v := .agg #[.int .i64 y.1.1, .int .i64 y.1.2]) rfl (by kernel_rfl) (by kernel_rfl) (by kernel_rfl) rfl (fun _ _ _ h => h) rfl rfl ?hy (by first | assumption | go_simp) ?_
    case hy => (intro w' hSw; (try dsimp only at hSw); go_simp <;> (first | with_reducible rfl | omega | skip))
    simp only [Act.put, List.setIfInBounds_toArray, List.set_cons_zero, List.set_cons_succ]
    refine wpAnyE_on (i := 8) (by kernel_rfl) rfl rfl ?_
    go_simp
    refine Calls.mono (HT.out 2) ?_
    rintro e w3 ⟨cc, rfl, q1, q2, hb3⟩
    have HB3 : Hid (Below w.heap.size w w3) := HBL.out.trans (hb3.mono HBL.out.size)
    have e0 := (hb3.cell (p := ⟨b, 0, none⟩) HBB.out).trans d0
    have L7 := HLX.out.below hb3 HLX.out.lt
    have L8 := HLY.out.below hb3 HLY.out.lt
    have f0 : w3.cell? ⟨P7, 0, none⟩ = some (.int .i64 x.1.1) := L7.cell 0
    have f1 : w3.cell? ⟨P7, 1, none⟩ = some (.int .i64 x.1.2) := L7.cell 1
    have f2 : w3.cell? ⟨P7, 2, none⟩ = some (.int .u64 (x.2 : Int)) := L7.cell 2
    have h0 : w3.cell? ⟨P8, 0, none⟩ = some (.int .i64 y.1.1) := L8.cell 0
    have h1 : w3.cell? ⟨P8, 1, none⟩ = some (.int .i64 y.1.2) := L8.cell 1
    have h2 : w3.cell? ⟨P8, 2, none⟩ = some (.int .u64 (y.2 : Int)) := L8.cell 2
    clear hHeld
    refine ⟨⟨e0, f0, f1, h0, h1⟩, ?_⟩
    have hHeld : w3.cell? ⟨b, 0, none⟩ = some (.func (.func cf) #[] #[]) ∧ w3.cell? ⟨P7, 0, none⟩ = some (.int .i64 x.1.1) ∧ w3.cell? ⟨P7, 1, none⟩ = some (.int .i64 x.1.2) ∧ w3.cell? ⟨P8, 0, none⟩ = some (.int .i64 y.1.1) ∧ w3.cell? ⟨P8, 1, none⟩ = some (.int .i64 y.1.2) := ⟨e0, f0, f1, h0, h1⟩
    clear L7 L8 d0 x0 x1 y0 y1 hb3
    refine wpAnyE_tk (i := 9) (d := some 9) (v := ?_) rfl (by kernel_rfl) (by kernel_rfl) (by kernel_rfl) rfl (fun _ _ _ h => h) rfl rfl ?hy (by first | assumption | go_simp) ?_
    case hy => (intro w' hSw; (try dsimp only at hSw); go_simp <;> (first | with_reducible rfl | omega | skip))
    simp only [Act.put, List.setIfInBounds_toArray, List.set_cons_zero, List.set_cons_succ]
    refine wpAnyE_done (by kernel_rfl) ?_ _
    clear hHeld e0 f0 f1 h0 h1
    have HQ1 : Hid (cc < 0 ↔ kap kk x.1 < kap kk y.1) := q1
    have HQ2 : Hid (cc = 0 ↔ kap kk x.1 = kap kk y.1) := q2
    clear q1 q2
    by_cases hn : cc < 0
    · have HF : Hid (decide (bf kk x y) = true) := decide_eq_true (.inl (HQ1.out.1 hn))
      go_wp2
      go_ret
      exact ⟨ret_bool HF.out.symm, HB3.out⟩
    · by_cases hz : cc = 0
      · subst hz
        have hk := HQ2.out.1 rfl
        by_cases hxy : (x.2 : Int) < (y.2 : Int)
        · have HF : Hid (decide (bf kk x y) = true) := decide_eq_true (.inr ⟨hk, by omega⟩)
          clear hk
          go_wp2
          go_ret
          exact ⟨ret_bool HF.out.symm, HB3.out⟩
        · have HF : Hid (decide (bf kk x y) = false) := decide_eq_false (by unfold bf; omega)
          clear hk
          go_wp2
          go_ret
          exact ⟨ret_bool HF.out.symm, HB3.out⟩
      · have HF : Hid (decide (bf kk x y) = false) := decide_eq_false (by
          unfold bf
          have k1 := HQ1.out
          have k2 := HQ2.out
          omega)
        have hz2 : (cc == 0) = false := by simpa using hz
        clear hz
        go_wp2
        go_ret
        exact ⟨ret_bool HF.out.symm, HB3.out⟩
  · go_simp
    refine wpAnyE_on (i := 14) (by kernel_rfl) rfl rfl ?_
    go_simp
    refine wpAnyE_on (i := 16) (by kernel_rfl) rfl rfl ?_
    go_simp
    refine wpAnyE_on (i := 17) (by kernel_rfl) rfl rfl ?_
    go_simp
    refine wpAnyE_done (by kernel_rfl) ?_ _
    clear hHeld
    obtain ⟨w2, hw2⟩ : ∃ w2, w2 = ((w.alloc (.cells #[Value.int .i64 y.1.1, .int .i64 y.1.2, .int .u64 (y.2 : Int)] 88)).alloc (.cells #[Value.int .i64 x.1.1, .int .i64 x.1.2, .int .u64 (x.2 : Int)] 88)) := ⟨_, rfl⟩
    rw [← hw2]
    have hbl : Below w.heap.size w w2 := by rw [hw2]; exact ((Below.refl _ _).alloc (Nat.le_refl _) _).alloc (by simp) _
    have hsz : w2.heap.size = w.heap.size + 2 := by rw [hw2]; simp
    have LA : Lies w2 w.heap.size #[Value.int .i64 y.1.1, .int .i64 y.1.2, .int .u64 (y.2 : Int)] 88 := by rw [hw2]; exact (Lies.new w _ _).alloc _
    have LB : Lies w2 (w.heap.size + 1) #[Value.int .i64 x.1.1, .int .i64 x.1.2, .int .u64 (x.2 : Int)] 88 := by rw [hw2]; have := Lies.new (w.alloc (.cells #[Value.int .i64 y.1.1, .int .i64 y.1.2, .int .u64 (y.2 : Int)] 88)) #[Value.int .i64 x.1.1, .int .i64 x.1.2, .int .u64 (x.2 : Int)] 88; rwa [World.size_alloc] at this
    have d0 : w2.cell? ⟨b, 0, none⟩ = some (.func (.func cf) #[] #[]) := (hbl.cell (p := ⟨b, 0, none⟩) hlt).trans c0
    have HBL : Hid (Below w.heap.size w w2) := hbl
    clear hw2 c0 c1 g0 g1 g2 k0 k1 k2 hbl
    obtain ⟨P0, hP0⟩ : ∃ P0, P0 = w.heap.size := ⟨_, rfl⟩
    obtain ⟨P1, hP1⟩ : ∃ P1, P1 = w.heap.size + 1 := ⟨_, rfl⟩
    rw [← hP1] at LB ⊢
    rw [← hP0] at LA ⊢
    obtain ⟨P8, rfl⟩ : ∃ P8, P8 = P0 := ⟨_, rfl⟩
    obtain ⟨P7, rfl⟩ : ∃ P7, P7 = P1 := ⟨_, rfl⟩
    have LX := LB
    have LY := LA
    have x0 : w2.cell? ⟨P7, 0, none⟩ = some (.int .i64 x.1.1) := LX.cell 0
    have x1 : w2.cell? ⟨P7, 1, none⟩ = some (.int .i64 x.1.2) := LX.cell 1
    have y0 : w2.cell? ⟨P8, 0, none⟩ = some (.int .i64 y.1.1) := LY.cell 0
    have y1 : w2.cell? ⟨P8, 1, none⟩ = some (.int .i64 y.1.2) := LY.cell 1
    have HLX : Hid (Lies w2 P7 #[Value.int .i64 x.1.1, .int .i64 x.1.2, .int .u64 (x.2 : Int)] 88) := LX
    have HLY : Hid (Lies w2 P8 #[Value.int .i64 y.1.1, .int .i64 y.1.2, .int .u64 (y.2 : Int)] 88) := LY
    have HT : Hid (∀ m, Calls Try.prog cf #[.agg #[.int .i64 x.1.1, .int .i64 x.1.2], .agg #[.int .i64 y.1.1, .int .i64 y.1.2]] (w2.drewN m) fun e w' => ∃ c : Int, e = .returned (.int .i64 c) ∧ (c < 0 ↔ kap kk x.1 < kap kk y.1) ∧ (c = 0 ↔ kap kk x.1 = kap kk y.1) ∧ Below w2.heap.size w2 w') := fun m => (HC.out.tells x.1 y.1 (w2.drewN m)).mono (fun e w' hh => by obtain ⟨c, q1, q2, q3, q4⟩ := hh; exact ⟨c, q1, q2, q3, (below_drewN w2 m).trans q4⟩)
    have HBB : Hid (b < w2.heap.size) := by unfold Hid; omega
    clear LX LY LA LB hP0 hP1 hsz
    go_wp2_with fail
    refine wp_region_late (fun wx => wx.cell? ⟨b, 0, none⟩ = some (.func (.func cf) #[] #[]) ∧ wx.cell? ⟨P7, 0, none⟩ = some (.int .i64 x.1.1) ∧ wx.cell? ⟨P7, 1, none⟩ = some (.int .i64 x.1.2) ∧ wx.cell? ⟨P8, 0, none⟩ = some (.int .i64 y.1.1) ∧ wx.cell? ⟨P8, 1, none⟩ = some (.int .i64 y.1.2)) 10 (by kernel_rfl) ⟨d0, x0, x1, y0, y1⟩ (fun hHeld => ?_)
    refine wpAnyE_tk (i := 0) (d := some 24) (v := ?_) rfl (by kernel_rfl) (by kernel_rfl) (by kernel_rfl) rfl (fun _ _ _ h => h) rfl rfl ?hy (by first | assumption | go_simp) ?_
    case hy => (intro w' hSw; (try dsimp only at hSw); go_simp <;> (first | with_reducible rfl | omega | skip))
    simp only [Act.put, List.setIfInBounds_toArray, List.set_cons_zero, List.set_cons_succ]
    refine wpAnyE_tk (i := 1) (d := some 25) (v := ?_) rfl (by kernel_rfl) (by kernel_rfl) (by kernel_rfl) rfl (fun _ _ _ h => h) rfl rfl ?hy (by first | assumption | go_simp) ?_
    case hy => (intro w' hSw; (try dsimp only at hSw); go_simp <;> (first | with_reducible rfl | omega | skip))
    simp only [Act.put, List.setIfInBounds_toArray, List.set_cons_zero, List.set_cons_succ]
    refine wpAnyE_tk (i := 2) (d := some 26) (v := ?_) rfl (by kernel_rfl) (by kernel_rfl) (by kernel_rfl) rfl (fun _ _ _ h => h) rfl rfl ?hy (by first | assumption | go_simp) ?_
    case hy => (intro w' hSw; (try dsimp only at hSw); go_simp <;> (first | with_reducible rfl | omega | skip))
    simp only [Act.put, List.setIfInBounds_toArray, List.set_cons_zero, List.set_cons_succ]
    refine wpAnyE_tk (i := 3) (d := some 27) (v := ?_) rfl (by kernel_rfl) (by kernel_rfl) (by kernel_rfl) rfl (fun _ _ _ h => h) rfl rfl ?hy (by first | assumption | go_simp) ?_
    case hy => (intro w' hSw; (try dsimp only at hSw); go_simp <;> (first | with_reducible rfl | omega | skip))
    simp only [Act.put, List.setIfInBounds_toArray, List.set_cons_zero, List.set_cons_succ]
    refine wpAnyE_tk (i := 4) (d := some 28) (v := ?_) rfl (by kernel_rfl) (by kernel_rfl) (by kernel_rfl) rfl (fun _ _ _ h => h) rfl rfl ?hy (by first | assumption | go_simp) ?_
    case hy => (intro w' hSw; (try dsimp only at hSw); go_simp <;> (first | with_reducible rfl | omega | skip))
    simp only [Act.put, List.setIfInBounds_toArray, List.set_cons_zero, List.set_cons_succ]
    refine wpAnyE_tk (i := 5) (d := some 29) (v := .agg #[.int .i64 x.1.1, .int .i64 x.1.2]) rfl (by kernel_rfl) (by kernel_rfl) (by kernel_rfl) rfl (fun _ _ _ h => h) rfl rfl ?hy (by first | assumption | go_simp) ?_
    case hy => (intro w' hSw; (try dsimp only at hSw); go_simp <;> (first | with_reducible rfl | omega | skip))
    simp only [Act.put, List.setIfInBounds_toArray, List.set_cons_zero, List.set_cons_succ]
    refine wpAnyE_tk (i := 6) (d := some 30) (v := ?_) rfl (by kernel_rfl) (by kernel_rfl) (by kernel_rfl) rfl (fun _ _ _ h => h) rfl rfl ?hy (by first | assumption | go_simp) ?_
    case hy => (intro w' hSw; (try dsimp only at hSw); go_simp <;> (first | with_reducible rfl | omega | skip))
    simp only [Act.put, List.setIfInBounds_toArray, List.set_cons_zero, List.set_cons_succ]
    refine wpAnyE_tk (i := 7) (d := some 31) (v := .agg #[.int .i64 y.1.1, .int .i64 y.1.2]) rfl (by kernel_rfl) (by kernel_rfl) (by kernel_rfl) rfl (fun _ _ _ h => h) rfl rfl ?hy (by first | assumption | go_simp) ?_
    case hy => (intro w' hSw; (try dsimp only at hSw); go_simp <;> (first | with_reducible rfl | omega | skip))
    simp only [Act.put, List.setIfInBounds_toArray, List.set_cons_zero, List.set_cons_succ]
    refine wpAnyE_on (i := 8) (by kernel_rfl) rfl rfl ?_
    go_simp
    refine Calls.mono (HT.out 2) ?_
    rintro e w3 ⟨cc, rfl, q1, q2, hb3⟩
    have HB3 : Hid (Below w.heap.size w w3) := HBL.out.trans (hb3.mono HBL.out.size)
    have e0 := (hb3.cell (p := ⟨b, 0, none⟩) HBB.out).trans d0
    have L7 := HLX.out.below hb3 HLX.out.lt
    have L8 := HLY.out.below hb3 HLY.out.lt
    have f0 : w3.cell? ⟨P7, 0, none⟩ = some (.int .i64 x.1.1) := L7.cell 0
    have f1 : w3.cell? ⟨P7, 1, none⟩ = some (.int .i64 x.1.2) := L7.cell 1
    have f2 : w3.cell? ⟨P7, 2, none⟩ = some (.int .u64 (x.2 : Int)) := L7.cell 2
    have h0 : w3.cell? ⟨P8, 0, none⟩ = some (.int .i64 y.1.1) := L8.cell 0
    have h1 : w3.cell? ⟨P8, 1, none⟩ = some (.int .i64 y.1.2) := L8.cell 1
    have h2 : w3.cell? ⟨P8, 2, none⟩ = some (.int .u64 (y.2 : Int)) := L8.cell 2
    clear hHeld
    refine ⟨⟨e0, f0, f1, h0, h1⟩, ?_⟩
    have hHeld : w3.cell? ⟨b, 0, none⟩ = some (.func (.func cf) #[] #[]) ∧ w3.cell? ⟨P7, 0, none⟩ = some (.int .i64 x.1.1) ∧ w3.cell? ⟨P7, 1, none⟩ = some (.int .i64 x.1.2) ∧ w3.cell? ⟨P8, 0, none⟩ = some (.int .i64 y.1.1) ∧ w3.cell? ⟨P8, 1, none⟩ = some (.int .i64 y.1.2) := ⟨e0, f0, f1, h0, h1⟩
    clear L7 L8 d0 x0 x1 y0 y1 hb3
    refine wpAnyE_tk (i := 9) (d := some 9) (v := ?_) rfl (by kernel_rfl) (by kernel_rfl) (by kernel_rfl) rfl (fun _ _ _ h => h) rfl rfl ?hy (by first | assumption | go_simp) ?_
    case hy => (intro w' hSw; (try dsimp only at hSw); go_simp <;> (first | with_reducible rfl | omega | skip))
    simp only [Act.put, List.setIfInBounds_toArray, List.set_cons_zero, List.set_cons_succ]
    refine wpAnyE_done (by kernel_rfl) ?_ _
    clear hHeld e0 f0 f1 h0 h1
    have HQ1 : Hid (cc < 0 ↔ kap kk x.1 < kap kk y.1) := q1
    have HQ2 : Hid (cc = 0 ↔ kap kk x.1 = kap kk y.1) := q2
    clear q1 q2
    by_cases hn : cc < 0
    · have HF : Hid (decide (bf kk x y) = true) := decide_eq_true (.inl (HQ1.out.1 hn))
      go_wp2
      go_ret
      exact ⟨ret_bool HF.out.symm, HB3.out⟩
    · by_cases hz : cc = 0
      · subst hz
        have hk := HQ2.out.1 rfl
        by_cases hxy : (x.2 : Int) < (y.2 : Int)
        · have HF : Hid (decide (bf kk x y) = true) := decide_eq_true (.inr ⟨hk, by omega⟩)
          clear hk
          go_wp2
          go_ret
          exact ⟨ret_bool HF.out.symm, HB3.out⟩
        · have HF : Hid (decide (bf kk x y) = false) := decide_eq_false (by unfold bf; omega)
          clear hk
          go_wp2
          go_ret
          exact ⟨ret_bool HF.out.symm, HB3.out⟩
      · have HF : Hid (decide (bf kk x y) = false) := decide_eq_false (by
          unfold bf
          have k1 := HQ1.out
          have k2 := HQ2.out
          omega)
        have hz2 : (cc == 0) = false := by simpa using hz
        clear hz
        go_wp2
        go_ret
        exact ⟨ret_bool HF.out.symm, HB3.out⟩
end Go.Proofs.Ytgbbjhhggjocmaa
