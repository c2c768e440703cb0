/-
  Two things of a heap change their places.
-/
import Derived.Test.YtgbbjhhggjocmaaHp
namespace Go.Proofs.Ytgbbjhhggjocmaa
open Go.RowKit

/-- A thing written at place i of a row. -/
theorem Ow.put {α : Type} {cel : α → List Value} {t k : Nat} (hk : ∀ x, (cel x).length = k) {w : World} {g n c : Nat} {l : List α} (h : Ow cel t k w (.slice (some ⟨g, 0, none⟩) n c) l) (i : Nat) (hi : i < l.length) (x : α) :
    Ow cel t k (w.setCells g (i * k) (cel x)) (.slice (some ⟨g, 0, none⟩) n c) (l.set i x) := by
  obtain ⟨h1, ⟨h2, _⟩ | ⟨g', cap, cur, h2, h3, h4, h5, h6, h7, h8⟩⟩ := h
  · cases h2
  · cases h2
    have hle : i * k + (cel x).length ≤ cur.toList.length := by
      rw [hk, Array.length_toList, h7]
      have : (i + 1) * k ≤ c * k := Nat.mul_le_mul_right _ (by omega)
      rw [Nat.succ_mul] at this
      exact this
    have hL : Lies (w.setCells g (i * k) (cel x)) g (putL cur.toList (i * k) (cel x)).toArray t := by
      refine Lies.sets (cel x) (i * k) cur.toList w ?_ hle
      rw [Array.toArray_toList]
      exact h4
    refine ⟨by rw [flat_length hk, List.length_set], .inr ⟨g, c, _, by rw [List.length_set], h3, hL, by rw [List.length_set]; exact h5, h6, ?_, ?_⟩⟩
    · rw [List.size_toArray, putL_length _ _ _ hle, Array.length_toList, h7]
    · rw [List.length_set, flat_set hk _ _ _ hi, ← h8]
      unfold putL
      have hik : (i + 1) * k ≤ l.length * k := Nat.mul_le_mul_right _ hi
      rw [Nat.succ_mul] at hik
      rw [hk, List.take_append, List.take_append, List.length_append, List.length_take, Nat.min_eq_left (by rw [Array.length_toList, h7]; have : i * k ≤ c * k := Nat.mul_le_mul_right _ (by omega); omega), hk]
      rw [List.take_of_length_le (l := List.take (i * k) cur.toList) (by rw [List.length_take]; omega), List.take_of_length_le (l := cel x) (by rw [hk]; omega), List.take_take, Nat.min_eq_left (by omega), List.drop_take]
/-- Three cells of a thing. -/
def putE (w : World) (g i : Nat) (e : En) : World := ((w.setCell ⟨g, i * 3, none⟩ (.int .i64 e.1.1)).setCell ⟨g, i * 3 + 1, none⟩ (.int .i64 e.1.2)).setCell ⟨g, i * 3 + 2, none⟩ (.int .u64 (e.2 : Int))
theorem putE_sets (w : World) (g i : Nat) (e : En) : putE w g i e = w.setCells g (i * 3) (celE e) := rfl
theorem Hp.put {w : World} {b cf : Nat} {L : List En} {np g n c : Nat} (h : Hp w b cf L np (.slice (some ⟨g, 0, none⟩) n c)) (i : Nat) (hi : i < L.length) (e : En) : Hp (putE w g i e) b cf (L.set i e) np (.slice (some ⟨g, 0, none⟩) n c) ∧ Chg (· = g) w (putE w g i e) := by
  rw [putE_sets]
  have hc : Chg (· = g) w (w.setCells g (i * 3) (celE e)) := Chg.sets (F := (· = g)) (.inl rfl) _ _ _ (Chg.refl _ _)
  exact ⟨⟨hc.lies h.lies (Ne.symm (h.ne g rfl)), h.own.put celE_length i hi e⟩, hc⟩
set_option maxRecDepth 20000 in
set_option maxHeartbeats 4000000 in
theorem swap_any (b cf : Nat) (L : List En) (np g n c : Nat) (i j : Nat) (w : World) (h : Hp w b cf L np (.slice (some ⟨g, 0, none⟩) n c)) (hi : i < L.length) (hj : j < L.length) :
    Calls Try.prog 68 #[.pointer (some ⟨b, 0, none⟩), .int .i64 (i : Int), .int .i64 (j : Int)] w fun e w' => e = .returned (.tuple #[]) ∧ Hp w' b cf (swL L i j) np (.slice (some ⟨g, 0, none⟩) n c) ∧ Chg (· = g) w w' := by
  obtain ⟨g', c', e', hgb, g0, g1, g2⟩ := h.at i hi
  cases e'
  obtain ⟨g', c', e', _, k0, k1, k2⟩ := h.at j hj
  cases e'
  have c1 := h.cells.2.1
  have hbg : b ≠ g := Ne.symm hgb
  have hii : (i : Int) < (L.length : Int) := by omega
  have hjj : (j : Int) < (L.length : Int) := by omega
  have HTH : ∀ k, k < L.length → ∀ m, (w.drewN m).there g (k * 3) 3 := fun k hk m q hq => by
    obtain ⟨_, _, e, _, r0, r1, r2⟩ := h.at k hk
    cases e
    refine ⟨?_, h.own.frozen _⟩
    match q, hq with
    | 0, _ => show (w.cell? _).isSome = true; rw [Nat.add_zero, r0]; rfl
    | 1, _ => show (w.cell? _).isSome = true; rw [r1]; rfl
    | 2, _ => show (w.cell? _).isSome = true; rw [r2]; rfl
  have HFIN : Hid (∀ m, Hp (putE (putE (w.drewN m) g i (eA L j)) g j (eA L i)) b cf (swL L i j) np (.slice (some ⟨g, 0, none⟩) L.length c) ∧ Chg (· = g) w (putE (putE (w.drewN m) g i (eA L j)) g j (eA L i))) := fun m => by
    have h0 : Hp (w.drewN m) b cf L np (.slice (some ⟨g, 0, none⟩) L.length c) := h.below (below_drewN w m)
    obtain ⟨h1, q1⟩ := h0.put i hi (eA L j)
    obtain ⟨h2, q2⟩ := h1.put j (by rw [List.length_set]; exact hj) (eA L i)
    exact ⟨h2, (((Chg.refl _ w).drewN m).trans q1).trans q2⟩
  have HFIN2 : Hid (∀ m, Hp (((w.drewN m).setCells g (i * 3) (celE (eA L j))).setCells g (j * 3) (celE (eA L i))) b cf (swL L i j) np (.slice (some ⟨g, 0, none⟩) L.length c) ∧ Chg (· = g) w (((w.drewN m).setCells g (i * 3) (celE (eA L j))).setCells g (j * 3) (celE (eA L i)))) := HFIN
  have TH1 : Hid (∀ m, (w.drewN m).there g (i * 3) 3) := HTH i hi
  have TH2 : Hid (∀ m, ((w.drewN m).setCells g (i * 3) (celE (eA L j))).there g (j * 3) 3) := fun m => World.there_setCells (HTH j hj m) _ _ _
  have C2 : Hid (∀ m, ((w.drewN m).setCells g (i * 3) (celE (eA L j))).cell? ⟨b, 1, none⟩ = some (.slice (some ⟨g, 0, none⟩) L.length c)) := fun m => (World.cell?_setCells_out _ _ _ _ _ (fun e => absurd e hbg)).trans c1
  have C3 : Hid (∀ m, (((w.drewN m).setCells g (i * 3) (celE (eA L j))).setCells g (j * 3) (celE (eA L i))).cell? ⟨b, 1, none⟩ = some (.slice (some ⟨g, 0, none⟩) L.length c)) := fun m => (World.cell?_setCells_out _ _ _ _ _ (fun e => absurd e hbg)).trans (C2.out m)
  clear h HFIN HTH
  have HFIN := HFIN2
  clear HFIN2
  unfold celE at HFIN TH2 C2 C3
  generalize eA L i = x at *
  generalize eA L j = y at *
  generalize swL L i j = L2 at *
  generalize L.length = n at *
  go_enter Try.func68, Try.ntmps68
  go_wp2_with fail
  refine wp_region_late (fun wx => wx.cell? ⟨b, 1, none⟩ = some (.slice (some ⟨g, 0, none⟩) n c)) 28 (by kernel_rfl) c1 (fun hHeld => ?_)
  refine wpAnyE_tk (i := 0) (d := some 6) (v := ?_) rfl (by kernel_rfl) (by kernel_rfl) (by kernel_rfl) rfl (fun _ _ _ h => h) rfl rfl ?hy (by first | assumption | go_simp) ?_
  case hy => (intro w' hSw; (try dsimp only at hSw); go_simp <;> (first | with_reducible rfl | omega | skip))
  simp only [Act.put, List.setIfInBounds_toArray, List.set_cons_zero, List.set_cons_succ]
  refine wpAnyE_tk (i := 1) (d := some 7) (v := ?_) rfl (by kernel_rfl) (by kernel_rfl) (by kernel_rfl) rfl (fun _ _ _ h => h) rfl rfl ?hy (by first | assumption | go_simp) ?_
  case hy => (intro w' hSw; (try dsimp only at hSw); go_simp <;> (first | with_reducible rfl | omega | skip))
  simp only [Act.put, List.setIfInBounds_toArray, List.set_cons_zero, List.set_cons_succ]
  refine wpAnyE_tk (i := 2) (d := some 8) (v := ?_) rfl (by kernel_rfl) (by kernel_rfl) (by kernel_rfl) rfl (fun _ _ _ h => h) rfl rfl ?hy (by first | assumption | go_simp) ?_
  case hy => (intro w' hSw; (try dsimp only at hSw); go_simp <;> (first | with_reducible rfl | omega | skip))
  simp only [Act.put, List.setIfInBounds_toArray, List.set_cons_zero, List.set_cons_succ]
  refine wpAnyE_tk (i := 3) (d := some 9) (v := ?_) rfl (by kernel_rfl) (by kernel_rfl) (by kernel_rfl) rfl (fun _ _ _ h => h) rfl rfl ?hy (by first | assumption | go_simp) ?_
  case hy => (intro w' hSw; (try dsimp only at hSw); go_simp <;> (first | with_reducible rfl | omega | skip))
  simp only [Act.put, List.setIfInBounds_toArray, List.set_cons_zero, List.set_cons_succ]
  refine wpAnyE_tk (i := 4) (d := some 10) (v := ?_) rfl (by kernel_rfl) (by kernel_rfl) (by kernel_rfl) rfl (fun _ _ _ h => h) rfl rfl ?hy (by first | assumption | go_simp) ?_
  case hy => (intro w' hSw; (try dsimp only at hSw); go_simp <;> (first | with_reducible rfl | omega | skip))
  simp only [Act.put, List.setIfInBounds_toArray, List.set_cons_zero, List.set_cons_succ]
  refine wpAnyE_tk (i := 5) (d := some 11) (v := ?_) rfl (by kernel_rfl) (by kernel_rfl) (by kernel_rfl) rfl (fun _ _ _ h => h) rfl rfl ?hy (by first | assumption | go_simp) ?_
  case hy => (intro w' hSw; (try dsimp only at hSw); go_simp <;> (first | with_reducible rfl | omega | skip))
  simp only [Act.put, List.setIfInBounds_toArray, List.set_cons_zero, List.set_cons_succ]
  refine wpAnyE_tk (i := 6) (d := some 12) (v := ?_) rfl (by kernel_rfl) (by kernel_rfl) (by kernel_rfl) rfl (fun _ _ _ h => h) rfl rfl ?hy (by first | assumption | go_simp) ?_
  case hy => (intro w' hSw; (try dsimp only at hSw); go_simp <;> (first | with_reducible rfl | omega | skip))
  simp only [Act.put, List.setIfInBounds_toArray, List.set_cons_zero, List.set_cons_succ]
  refine wpAnyE_tk (i := 7) (d := some 13) (v := ?_) rfl (by kernel_rfl) (by kernel_rfl) (by kernel_rfl) rfl (fun _ _ _ h => h) rfl rfl ?hy (by first | assumption | go_simp) ?_
  case hy => (intro w' hSw; (try dsimp only at hSw); go_simp <;> (first | with_reducible rfl | omega | skip))
  simp only [Act.put, List.setIfInBounds_toArray, List.set_cons_zero, List.set_cons_succ]
  refine wpAnyE_tk (i := 8) (d := some 14) (v := ?_) rfl (by kernel_rfl) (by kernel_rfl) (by kernel_rfl) rfl (fun _ _ _ h => h) rfl rfl ?hy (by first | assumption | go_simp) ?_
  case hy => (intro w' hSw; (try dsimp only at hSw); go_simp <;> (first | with_reducible rfl | omega | skip))
  simp only [Act.put, List.setIfInBounds_toArray, List.set_cons_zero, List.set_cons_succ]
  refine wpAnyE_tk (i := 9) (d := some 15) (v := ?_) rfl (by kernel_rfl) (by kernel_rfl) (by kernel_rfl) rfl (fun _ _ _ h => h) rfl rfl ?hy (by first | assumption | go_simp) ?_
  case hy => (intro w' hSw; (try dsimp only at hSw); go_simp <;> (first | with_reducible rfl | omega | skip))
  simp only [Act.put, List.setIfInBounds_toArray, List.set_cons_zero, List.set_cons_succ]
  refine wpAnyE_tk (i := 10) (d := some 16) (v := ?_) rfl (by kernel_rfl) (by kernel_rfl) (by kernel_rfl) rfl (fun _ _ _ h => h) rfl rfl ?hy (by first | assumption | go_simp) ?_
  case hy => (intro w' hSw; (try dsimp only at hSw); go_simp <;> (first | with_reducible rfl | omega | skip))
  simp only [Act.put, List.setIfInBounds_toArray, List.set_cons_zero, List.set_cons_succ]
  refine wpAnyE_tk (i := 11) (d := some 17) (v := ?_) rfl (by kernel_rfl) (by kernel_rfl) (by kernel_rfl) rfl (fun _ _ _ h => h) rfl rfl ?hy (by first | assumption | go_simp) ?_
  case hy => (intro w' hSw; (try dsimp only at hSw); go_simp <;> (first | with_reducible rfl | omega | skip))
  simp only [Act.put, List.setIfInBounds_toArray, List.set_cons_zero, List.set_cons_succ]
  refine wpAnyE_tk (i := 12) (d := some 18) (v := ?_) rfl (by kernel_rfl) (by kernel_rfl) (by kernel_rfl) rfl (fun _ _ _ h => h) rfl rfl ?hy (by first | assumption | go_simp) ?_
  case hy => (intro w' hSw; (try dsimp only at hSw); go_simp <;> (first | with_reducible rfl | omega | skip))
  simp only [Act.put, List.setIfInBounds_toArray, List.set_cons_zero, List.set_cons_succ]
  refine wpAnyE_tk (i := 13) (d := some 19) (v := ?_) rfl (by kernel_rfl) (by kernel_rfl) (by kernel_rfl) rfl (fun _ _ _ h => h) rfl rfl ?hy (by first | assumption | go_simp) ?_
  case hy => (intro w' hSw; (try dsimp only at hSw); go_simp <;> (first | with_reducible rfl | omega | skip))
  simp only [Act.put, List.setIfInBounds_toArray, List.set_cons_zero, List.set_cons_succ]
  refine wpAnyE_tk (i := 14) (d := some 20) (v := ?_) rfl (by kernel_rfl) (by kernel_rfl) (by kernel_rfl) rfl (fun _ _ _ h => h) rfl rfl ?hy (by first | assumption | go_simp) ?_
  case hy => (intro w' hSw; (try dsimp only at hSw); go_simp <;> (first | with_reducible rfl | omega | skip))
  simp only [Act.put, List.setIfInBounds_toArray, List.set_cons_zero, List.set_cons_succ]
  refine wpAnyE_tk (i := 15) (d := some 21) (v := .pointer (some ⟨g, j * 3, none⟩)) rfl (by kernel_rfl) (by kernel_rfl) (by kernel_rfl) rfl (fun _ _ _ h => h) rfl rfl ?hy (by first | assumption | go_simp) ?_
  case hy => (intro w' hSw; (try dsimp only at hSw); go_simp <;> (first | with_reducible rfl | omega | skip))
  simp only [Act.put, List.setIfInBounds_toArray, List.set_cons_zero, List.set_cons_succ]
  refine wpAnyE_tk (i := 17) (d := some 23) (v := ?_) rfl (by kernel_rfl) (by kernel_rfl) (by kernel_rfl) rfl (fun _ _ _ h => h) rfl rfl ?hy (by first | assumption | go_simp) ?_
  case hy => (intro w' hSw; (try dsimp only at hSw); go_simp <;> (first | with_reducible rfl | omega | skip))
  simp only [Act.put, List.setIfInBounds_toArray, List.set_cons_zero, List.set_cons_succ]
  refine wpAnyE_tk (i := 18) (d := some 24) (v := ?_) rfl (by kernel_rfl) (by kernel_rfl) (by kernel_rfl) rfl (fun _ _ _ h => h) rfl rfl ?hy (by first | assumption | go_simp) ?_
  case hy => (intro w' hSw; (try dsimp only at hSw); go_simp <;> (first | with_reducible rfl | omega | skip))
  simp only [Act.put, List.setIfInBounds_toArray, List.set_cons_zero, List.set_cons_succ]
  refine wpAnyE_tk (i := 19) (d := some 25) (v := ?_) rfl (by kernel_rfl) (by kernel_rfl) (by kernel_rfl) rfl (fun _ _ _ h => h) rfl rfl ?hy (by first | assumption | go_simp) ?_
  case hy => (intro w' hSw; (try dsimp only at hSw); go_simp <;> (first | with_reducible rfl | omega | skip))
  simp only [Act.put, List.setIfInBounds_toArray, List.set_cons_zero, List.set_cons_succ]
  refine wpAnyE_tk (i := 20) (d := some 26) (v := ?_) rfl (by kernel_rfl) (by kernel_rfl) (by kernel_rfl) rfl (fun _ _ _ h => h) rfl rfl ?hy (by first | assumption | go_simp) ?_
  case hy => (intro w' hSw; (try dsimp only at hSw); go_simp <;> (first | with_reducible rfl | omega | skip))
  simp only [Act.put, List.setIfInBounds_toArray, List.set_cons_zero, List.set_cons_succ]
  refine wpAnyE_tk (i := 21) (d := some 27) (v := ?_) rfl (by kernel_rfl) (by kernel_rfl) (by kernel_rfl) rfl (fun _ _ _ h => h) rfl rfl ?hy (by first | assumption | go_simp) ?_
  case hy => (intro w' hSw; (try dsimp only at hSw); go_simp <;> (first | with_reducible rfl | omega | skip))
  simp only [Act.put, List.setIfInBounds_toArray, List.set_cons_zero, List.set_cons_succ]
  refine wpAnyE_tk (i := 22) (d := some 28) (v := .pointer (some ⟨g, i * 3, none⟩)) rfl (by kernel_rfl) (by kernel_rfl) (by kernel_rfl) rfl (fun _ _ _ h => h) rfl rfl ?hy (by first | assumption | go_simp) ?_
  case hy => (intro w' hSw; (try dsimp only at hSw); go_simp <;> (first | with_reducible rfl | omega | skip))
  simp only [Act.put, List.setIfInBounds_toArray, List.set_cons_zero, List.set_cons_succ]
  refine wpAnyE_two (i := 16) (j := 23) (by kernel_rfl) rfl rfl rfl rfl ?_ ?_
  · go_simp
    refine wpAnyE_on (i := 23) (by kernel_rfl) rfl rfl ?_
    go_simp
    refine wpAnyE_tk (i := 24) (d := some 30) (v := .pointer (some ⟨g, i * 3, none⟩)) rfl (by kernel_rfl) (by kernel_rfl) (by kernel_rfl) rfl (fun _ _ _ h => h) rfl rfl ?hy (by first | assumption | go_simp) ?_
    case hy => (intro w' hSw; (try dsimp only at hSw); go_simp <;> (first | with_reducible rfl | omega | skip))
    simp only [Act.put, List.setIfInBounds_toArray, List.set_cons_zero, List.set_cons_succ]
    refine wpAnyE_on (i := 25) (by kernel_rfl) rfl rfl ?_
    refine wp_store_mid 88 _ _ rfl g (i * 3) #[.int .i64 y.1.1, .int .i64 y.1.2, .int .u64 (y.2 : Int)] rfl rfl (TH1.out 1) sizeE (all_oneCell_toArray (oneE y)) ?_
    refine ⟨.inr (C2.out 1), ?_⟩
    simp only [Act.put, List.setIfInBounds_toArray]
    refine wpAnyE_tk (i := 26) (d := some 31) (v := .pointer (some ⟨g, j * 3, none⟩)) rfl (by kernel_rfl) (by kernel_rfl) (by kernel_rfl) rfl (fun _ _ _ h => h) rfl rfl ?hy (C2.out 1) ?_
    case hy => (intro w' hSw; (try dsimp only at hSw); go_simp <;> (first | with_reducible rfl | omega | skip))
    simp only [Act.put]
    refine wpAnyE_on (i := 27) (by kernel_rfl) rfl rfl ?_
    refine wp_store_mid 88 _ _ rfl g (j * 3) #[.int .i64 x.1.1, .int .i64 x.1.2, .int .u64 (x.2 : Int)] rfl rfl (TH2.out 1) sizeE (all_oneCell_toArray (oneE x)) ?_
    refine ⟨.inr (C3.out 1), ?_⟩
    refine wpAnyE_done (by kernel_rfl) ?_ _
    clear hHeld
    simp only [Act.put]
    go_end0
    exact ⟨rfl, HFIN.out 1⟩
  · go_simp
    refine wpAnyE_on (i := 16) (by kernel_rfl) rfl rfl ?_
    go_simp
    refine wpAnyE_tk (i := 24) (d := some 30) (v := .pointer (some ⟨g, i * 3, none⟩)) rfl (by kernel_rfl) (by kernel_rfl) (by kernel_rfl) rfl (fun _ _ _ h => h) rfl rfl ?hy (by first | assumption | go_simp) ?_
    case hy => (intro w' hSw; (try dsimp only at hSw); go_simp <;> (first | with_reducible rfl | omega | skip))
    simp only [Act.put, List.setIfInBounds_toArray, List.set_cons_zero, List.set_cons_succ]
    refine wpAnyE_on (i := 25) (by kernel_rfl) rfl rfl ?_
    refine wp_store_mid 88 _ _ rfl g (i * 3) #[.int .i64 y.1.1, .int .i64 y.1.2, .int .u64 (y.2 : Int)] rfl rfl (TH1.out 1) sizeE (all_oneCell_toArray (oneE y)) ?_
    refine ⟨.inr (C2.out 1), ?_⟩
    simp only [Act.put, List.setIfInBounds_toArray]
    refine wpAnyE_tk (i := 26) (d := some 31) (v := .pointer (some ⟨g, j * 3, none⟩)) rfl (by kernel_rfl) (by kernel_rfl) (by kernel_rfl) rfl (fun _ _ _ h => h) rfl rfl ?hy (C2.out 1) ?_
    case hy => (intro w' hSw; (try dsimp only at hSw); go_simp <;> (first | with_reducible rfl | omega | skip))
    simp only [Act.put]
    refine wpAnyE_on (i := 27) (by kernel_rfl) rfl rfl ?_
    refine wp_store_mid 88 _ _ rfl g (j * 3) #[.int .i64 x.1.1, .int .i64 x.1.2, .int .u64 (x.2 : Int)] rfl rfl (TH2.out 1) sizeE (all_oneCell_toArray (oneE x)) ?_
    refine ⟨.inr (C3.out 1), ?_⟩
    refine wpAnyE_done (by kernel_rfl) ?_ _
    clear hHeld
    simp only [Act.put]
    go_end0
    exact ⟨rfl, HFIN.out 1⟩
end Go.Proofs.Ytgbbjhhggjocmaa
