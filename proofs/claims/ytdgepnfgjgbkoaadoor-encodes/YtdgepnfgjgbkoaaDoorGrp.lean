/-
  The program's groupOf: the four letters of one to three bytes.
-/
import Derived.Test.YtdgepnfgjgbkoaaDoorUnb
import Derived.Test.YtdgepnfgjgbkoaaDoorLate5
import Derived.Laws.CopyOwn
namespace Go.Proofs.YtdgepnfgjgbkoaaDoor
open Go.RowKit

theorem g_and4 : ∀ p : Fin 256, bits .and .u8 ((p.val : Int) * 16 % 256) 63 = (p.val : Int) % 4 * 16 := by decide +kernel
theorem g_and2 : ∀ p : Fin 256, bits .and .u8 ((p.val : Int) * 4 % 256) 63 = (p.val : Int) % 16 * 4 := by decide +kernel
theorem g_and0 : ∀ p : Fin 256, bits .and .u8 (p.val : Int) 63 = (p.val : Int) % 64 := by decide +kernel
theorem g_or4 : ∀ (a : Fin 4) (b : Fin 16), bits .or .u8 ((a.val : Int) * 16) (b.val : Int) = (a.val : Int) * 16 + (b.val : Int) := by decide +kernel
theorem g_or2 : ∀ (a : Fin 16) (b : Fin 4), bits .or .u8 ((a.val : Int) * 4) (b.val : Int) = (a.val : Int) * 4 + (b.val : Int) := by decide +kernel
theorem w_and4 : ∀ p : Fin 256, bits .and .u8 (IntKind.u8.wrap ((p.val : Int) * 16)) 63 = (p.val : Int) % 4 * 16 := by decide +kernel
theorem w_and2 : ∀ p : Fin 256, bits .and .u8 (IntKind.u8.wrap ((p.val : Int) * 4)) 63 = (p.val : Int) % 16 * 4 := by decide +kernel
theorem w_div : ∀ p : Fin 256, IntKind.u8.wrap ((p.val : Int) / 4) = (p.val : Int) / 4 ∧ IntKind.u8.wrap ((p.val : Int) / 16) = (p.val : Int) / 16 ∧ IntKind.u8.wrap ((p.val : Int) / 64) = (p.val : Int) / 64 := by decide +kernel
theorem ltr_at (i : Int) (n : Nat) (h : i = (n : Int)) (hn : n < 64) : ((letS[i.toNat]'(by rw [h]; exact hn)).toNat : Int) = ((ltr n).toNat : Int) := by
  subst h
  have := let_at ⟨n, hn⟩
  have e : ((n : Int).toNat) = n := Int.toNat_natCast n
  rw [show letS[((n : Int)).toNat]'(by rw [e]; exact hn) = letS[n]'hn from by congr 1]
  rw [this]

theorem lt64 {i : Int} (b0 : 0 ≤ i) (b1 : i < 64) : i.toNat < letS.size := by
  have : i.toNat < 64 := by omega
  exact this
theorem ltr_at' (i : Int) (n : Nat) (b0 : 0 ≤ i) (b1 : i < 64) (h : i = (n : Int)) : ((letS[i.toNat]'(lt64 b0 b1)).toNat : Int) = ((ltr n).toNat : Int) := ltr_at i n h (by omega)

/-- Three bytes, noughts for those that are not there. -/
def pad3 (l : List UInt8) : List UInt8 := l ++ List.replicate (3 - l.length) 0

theorem enc_pad (l : List UInt8) (h0 : 0 < l.length) (h3 : l.length ≤ 3) (p q r : UInt8) (hp : pad3 l = [p, q, r]) :
    e64L l = ([ltr (p.toNat / 4), ltr (p.toNat % 4 * 16 + q.toNat / 16), ltr (q.toNat % 16 * 4 + r.toNat / 64), ltr (r.toNat % 64)].take (l.length + 1)) ++ List.replicate (3 - l.length) 61 := by
  match l, h0, h3 with
  | [a], _, _ =>
    simp [pad3] at hp
    obtain ⟨rfl, rfl, rfl⟩ := hp
    simp [e64L]
  | [a, b], _, _ =>
    simp [pad3] at hp
    obtain ⟨rfl, rfl, rfl⟩ := hp
    simp [e64L]
  | [a, b, c], _, _ =>
    simp [pad3] at hp
    obtain ⟨rfl, rfl, rfl⟩ := hp
    simp [e64L]

/-- Three cells. -/
structure S3 (w : World) (g P Q R : Nat) : Prop where
  e0 : w.cell? ⟨g, 0, none⟩ = some (.int .u8 (P : Int))
  e1 : w.cell? ⟨g, 1, none⟩ = some (.int .u8 (Q : Int))
  e2 : w.cell? ⟨g, 2, none⟩ = some (.int .u8 (R : Int))

set_option maxHeartbeats 4000000 in
set_option maxRecDepth 100000 in
theorem groupof_any (a : Option Addr) (l : List UInt8) (cap n : Nat) (w : World) (hn : n = l.length) (h0 : 0 < l.length) (h3 : l.length ≤ 3) (hb : Bts a l w) :
    Calls Tryd.prog 104 #[.slice a n cap] w fun e w' => e = .returned (.agg (rowV (e64L l))) ∧ Below w.heap.size w w' := by
  obtain ⟨p, q, r, hpad⟩ : ∃ p q r, pad3 l = [p, q, r] := by
    have : (pad3 l).length = 3 := by unfold pad3; simp; omega
    match h : pad3 l, this with
    | [p, q, r], _ => exact ⟨p, q, r, rfl⟩
  have HE : Hid _ := enc_pad l h0 h3 p q r hpad
  have HP : Hid (pad3 l = [p, q, r]) := hpad
  have HB : Hid (Bts a l w) := hb
  have HN : Hid (n = l.length) := hn
  rw [← hn] at h0 h3
  have hp := p.toNat_lt
  have hq := q.toNat_lt
  have hr := r.toNat_lt
  clear hpad hb hn
  go_enter Tryd.func104, Tryd.ntmps104
  go_wp2_with (refine wpList_copy_splice rfl _ _ 38 38 rfl 5 Tryd.underlying38 (by kernel_rfl) _ _ _ _ _ _ rfl rfl (w.heap.size + 1) 0 [.int .u8 0, .int .u8 0, .int .u8 0] 141 ?h1 (cellsB l) ?h2 ?h3 ?h4 (cellsB_one l) (w.heap.size + 1) (w.alloc (.cells #[.int .u8 0, .int .u8 0, .int .u8 0, .int .u8 0] 128)) ?h5 (Nat.le_refl _) ?_)
  case h1 => exact new_one w _ _ _
  case h2 => rw [cellsB_length, ← HN.out]; exact (Nat.min_eq_left h3).symm
  case h3 =>
    intro _
    rcases HB.out with rfl | ⟨g, o, rfl, hg, hrow⟩
    · have hnn := HN.out
      simp at hnn
      omega
    · refine ⟨_, rfl, bts_news ?_⟩
      exact (Bts.below (.inr ⟨g, o, rfl, hg, hrow⟩) ((Below.refl _ _).alloc (Nat.le_refl _) _)).below ((Below.refl _ _).alloc (Nat.le_refl _) _)
  case h4 => rw [cellsB_length, ← HN.out]; simpa using h3
  case h5 => exact (Below.refl _ _).alloc (by simp) _
  intro w1 hl1 hb1
  have HL1 : Hid (Lies w1 (w.heap.size + 1) #[.int .u8 (p.toNat : Int), .int .u8 (q.toNat : Int), .int .u8 (r.toNat : Int)] 141) := by
    have h := hl1.out
    have e : splice [Value.int .u8 0, .int .u8 0, .int .u8 0] 0 (cellsB l) = cellsB (pad3 l) := by
      unfold splice pad3
      rw [cellsB_append, cellsB_length, Nat.zero_add, List.take_zero, List.nil_append]
      congr 1
      have hl := HN.out
      have h33 : l.length = 1 ∨ l.length = 2 ∨ l.length = 3 := by omega
      rcases h33 with h | h | h <;> rw [h] <;> rfl
    rw [e, HP.out] at h
    exact h
  have HLR : Hid (Lies w1 w.heap.size #[.int .u8 0, .int .u8 0, .int .u8 0, .int .u8 0] 128) := (Lies.new w _ _).below hb1 (by simp)
  have HB1 : Hid (Below w.heap.size w w1) := ((Below.refl _ _).alloc (Nat.le_refl _) _).trans (hb1.mono (by omega))
  have hz1 : w.heap.size + 2 ≤ w1.heap.size := by have := HL1.out.lt; omega
  rw [cellsB_length, ← HN.out]
  clear hl1 hb1
  have hc0 : w1.cell? ⟨w.heap.size + 1, 0, none⟩ = some (.int .u8 (p.toNat : Int)) := HL1.out.cell 0
  have hc1 : w1.cell? ⟨w.heap.size + 1, 1, none⟩ = some (.int .u8 (q.toNat : Int)) := HL1.out.cell 1
  have hc2 : w1.cell? ⟨w.heap.size + 1, 2, none⟩ = some (.int .u8 (r.toNat : Int)) := HL1.out.cell 2
  obtain ⟨P, hP⟩ : ∃ P, P = p.toNat := ⟨_, rfl⟩
  obtain ⟨Q, hQ⟩ : ∃ Q, Q = q.toNat := ⟨_, rfl⟩
  obtain ⟨R, hR⟩ : ∃ R, R = r.toNat := ⟨_, rfl⟩
  rw [← hP] at hp hc0
  rw [← hQ] at hq hc1
  rw [← hR] at hr hc2
  rw [← hP, ← hQ, ← hR] at HE HL1
  clear hP hQ hR
  have a4 := g_and4 ⟨P, hp⟩
  have a2 := g_and2 ⟨Q, hq⟩
  have a0 := g_and0 ⟨R, hr⟩
  have x4 := w_and4 ⟨P, hp⟩
  have x2 := w_and2 ⟨Q, hq⟩
  obtain ⟨y4, _, _⟩ := w_div ⟨P, hp⟩
  obtain ⟨_, y16, _⟩ := w_div ⟨Q, hq⟩
  obtain ⟨_, _, y64⟩ := w_div ⟨R, hr⟩
  simp only at x4 x2 y4 y16 y64
  have o4 := g_or4 ⟨P % 4, by omega⟩ ⟨Q / 16, by omega⟩
  have o2 := g_or2 ⟨Q % 16, by omega⟩ ⟨R / 64, by omega⟩
  simp only [Int.natCast_emod, Int.natCast_ediv, Int.cast_ofNat_Int] at a4 a2 a0 o4 o2
  have d1 := ltr_at ((P : Int) / 4) (P / 4) (by omega) (by omega)
  have d2 := ltr_at ((P : Int) % 4 * 16 + (Q : Int) / 16) (P % 4 * 16 + Q / 16) (by omega) (by omega)
  have d3 := ltr_at ((Q : Int) % 16 * 4 + (R : Int) / 64) (Q % 16 * 4 + R / 64) (by omega) (by omega)
  have d4 := ltr_at ((R : Int) % 64) (R % 64) (by omega) (by omega)
  unfold letS at d1 d2 d3 d4
  dsimp only at d1 d2 d3 d4
  have b1 : (0 : Int) ≤ (P : Int) / 4 := by omega
  have b2 : (P : Int) / 4 < 64 := by omega
  have b3 : (0 : Int) ≤ (P : Int) % 4 * 16 + (Q : Int) / 16 := by omega
  have b4 : (P : Int) % 4 * 16 + (Q : Int) / 16 < 64 := by omega
  have b5 : (0 : Int) ≤ (Q : Int) % 16 * 4 + (R : Int) / 64 := by omega
  have b6 : (Q : Int) % 16 * 4 + (R : Int) / 64 < 64 := by omega
  have b7 : (0 : Int) ≤ (R : Int) % 64 := by omega
  have b8 : (R : Int) % 64 < 64 := by omega
  go_wp2_with fail
  have HS : Hid (∀ w', Below (w.heap.size + 2) w1 w' → S3 w' (w.heap.size + 1) P Q R) := fun w' hb => ⟨(hb.cell (p := ⟨w.heap.size + 1, 0, none⟩) (by simp)).trans hc0, (hb.cell (p := ⟨w.heap.size + 1, 1, none⟩) (by simp)).trans hc1, (hb.cell (p := ⟨w.heap.size + 1, 2, none⟩) (by simp)).trans hc2⟩
  have hB0 : Below (w.heap.size + 2) w1 w1.drew := (Below.refl _ _).drew
  refine wp_region_late (fun w' => S3 w' (w.heap.size + 1) P Q R) 28 (by kernel_rfl) (HS.out _ hB0) (fun hHeld => ?_)
  refine wpAnyE_take (i := 0) (d := some 10) (v := ?_) rfl (by kernel_rfl) (by kernel_rfl) (by kernel_rfl) (by kernel_rfl) (fun _ _ _ h => h) rfl rfl ?hy (by assumption) ?_
  case hy => (intro w' hSw; obtain ⟨e0, e1, e2⟩ := hSw; go_simp <;> (try with_reducible rfl))
  simp only [Act.put, List.setIfInBounds_toArray, List.set_cons_zero, List.set_cons_succ]
  refine wpAnyE_take (i := 1) (d := some 11) (v := ?_) rfl (by kernel_rfl) (by kernel_rfl) (by kernel_rfl) (by kernel_rfl) (fun _ _ _ h => h) rfl rfl ?hy (by assumption) ?_
  case hy => (intro w' hSw; obtain ⟨e0, e1, e2⟩ := hSw; go_simp <;> (try with_reducible rfl))
  simp only [Act.put, List.setIfInBounds_toArray, List.set_cons_zero, List.set_cons_succ]
  refine wpAnyE_take (i := 2) (d := some 12) (v := ?_) rfl (by kernel_rfl) (by kernel_rfl) (by kernel_rfl) (by kernel_rfl) (fun _ _ _ h => h) rfl rfl ?hy (by assumption) ?_
  case hy => (intro w' hSw; obtain ⟨e0, e1, e2⟩ := hSw; go_simp <;> (try with_reducible rfl))
  simp only [Act.put, List.setIfInBounds_toArray, List.set_cons_zero, List.set_cons_succ]
  refine wpAnyE_take (i := 3) (d := some 13) (v := ?_) rfl (by kernel_rfl) (by kernel_rfl) (by kernel_rfl) (by kernel_rfl) (fun _ _ _ h => h) rfl rfl ?hy (by assumption) ?_
  case hy => (intro w' hSw; obtain ⟨e0, e1, e2⟩ := hSw; go_simp <;> (try with_reducible rfl))
  simp only [Act.put, List.setIfInBounds_toArray, List.set_cons_zero, List.set_cons_succ]
  refine wpAnyE_take (i := 4) (d := some 14) (v := ?_) rfl (by kernel_rfl) (by kernel_rfl) (by kernel_rfl) (by kernel_rfl) (fun _ _ _ h => h) rfl rfl ?hy (by assumption) ?_
  case hy => (intro w' hSw; obtain ⟨e0, e1, e2⟩ := hSw; go_simp <;> (try with_reducible rfl))
  simp only [Act.put, List.setIfInBounds_toArray, List.set_cons_zero, List.set_cons_succ]
  refine wpAnyE_take (i := 5) (d := some 15) (v := ?_) rfl (by kernel_rfl) (by kernel_rfl) (by kernel_rfl) (by kernel_rfl) (fun _ _ _ h => h) rfl rfl ?hy (by assumption) ?_
  case hy => (intro w' hSw; obtain ⟨e0, e1, e2⟩ := hSw; go_simp <;> (try with_reducible rfl))
  simp only [Act.put, List.setIfInBounds_toArray, List.set_cons_zero, List.set_cons_succ]
  refine wpAnyE_take (i := 6) (d := some 16) (v := ?_) rfl (by kernel_rfl) (by kernel_rfl) (by kernel_rfl) (by kernel_rfl) (fun _ _ _ h => h) rfl rfl ?hy (by assumption) ?_
  case hy => (intro w' hSw; obtain ⟨e0, e1, e2⟩ := hSw; go_simp <;> (try with_reducible rfl))
  simp only [Act.put, List.setIfInBounds_toArray, List.set_cons_zero, List.set_cons_succ]
  refine wpAnyE_take (i := 7) (d := some 17) (v := ?_) rfl (by kernel_rfl) (by kernel_rfl) (by kernel_rfl) (by kernel_rfl) (fun _ _ _ h => h) rfl rfl ?hy (by assumption) ?_
  case hy => (intro w' hSw; obtain ⟨e0, e1, e2⟩ := hSw; go_simp <;> (try with_reducible rfl))
  simp only [Act.put, List.setIfInBounds_toArray, List.set_cons_zero, List.set_cons_succ]
  refine wpAnyE_take (i := 8) (d := some 18) (v := ?_) rfl (by kernel_rfl) (by kernel_rfl) (by kernel_rfl) (by kernel_rfl) (fun _ _ _ h => h) rfl rfl ?hy (by assumption) ?_
  case hy => (intro w' hSw; obtain ⟨e0, e1, e2⟩ := hSw; go_simp <;> (try with_reducible rfl))
  simp only [Act.put, List.setIfInBounds_toArray, List.set_cons_zero, List.set_cons_succ]
  refine wpAnyE_take (i := 9) (d := some 19) (v := ?_) rfl (by kernel_rfl) (by kernel_rfl) (by kernel_rfl) (by kernel_rfl) (fun _ _ _ h => h) rfl rfl ?hy (by assumption) ?_
  case hy => (intro w' hSw; obtain ⟨e0, e1, e2⟩ := hSw; go_simp <;> (try with_reducible rfl))
  simp only [Act.put, List.setIfInBounds_toArray, List.set_cons_zero, List.set_cons_succ]
  refine wpAnyE_take (i := 10) (d := some 20) (v := ?_) rfl (by kernel_rfl) (by kernel_rfl) (by kernel_rfl) (by kernel_rfl) (fun _ _ _ h => h) rfl rfl ?hy (by assumption) ?_
  case hy => (intro w' hSw; obtain ⟨e0, e1, e2⟩ := hSw; go_simp <;> (try with_reducible rfl))
  simp only [Act.put, List.setIfInBounds_toArray, List.set_cons_zero, List.set_cons_succ]
  refine wpAnyE_take (i := 11) (d := some 21) (v := ?_) rfl (by kernel_rfl) (by kernel_rfl) (by kernel_rfl) (by kernel_rfl) (fun _ _ _ h => h) rfl rfl ?hy (by assumption) ?_
  case hy => (intro w' hSw; obtain ⟨e0, e1, e2⟩ := hSw; go_simp <;> (try with_reducible rfl))
  simp only [Act.put, List.setIfInBounds_toArray, List.set_cons_zero, List.set_cons_succ]
  refine wpAnyE_take (i := 12) (d := some 22) (v := ?_) rfl (by kernel_rfl) (by kernel_rfl) (by kernel_rfl) (by kernel_rfl) (fun _ _ _ h => h) rfl rfl ?hy (by assumption) ?_
  case hy => (intro w' hSw; obtain ⟨e0, e1, e2⟩ := hSw; go_simp <;> (try with_reducible rfl))
  simp only [Act.put, List.setIfInBounds_toArray, List.set_cons_zero, List.set_cons_succ]
  refine wpAnyE_take (i := 13) (d := some 23) (v := ?_) rfl (by kernel_rfl) (by kernel_rfl) (by kernel_rfl) (by kernel_rfl) (fun _ _ _ h => h) rfl rfl ?hy (by assumption) ?_
  case hy => (intro w' hSw; obtain ⟨e0, e1, e2⟩ := hSw; go_simp <;> (try with_reducible rfl))
  simp only [Act.put, List.setIfInBounds_toArray, List.set_cons_zero, List.set_cons_succ]
  refine wpAnyE_take (i := 14) (d := some 24) (v := ?_) rfl (by kernel_rfl) (by kernel_rfl) (by kernel_rfl) (by kernel_rfl) (fun _ _ _ h => h) rfl rfl ?hy (by assumption) ?_
  case hy => (intro w' hSw; obtain ⟨e0, e1, e2⟩ := hSw; go_simp <;> (try with_reducible rfl))
  simp only [Act.put, List.setIfInBounds_toArray, List.set_cons_zero, List.set_cons_succ]
  refine wpAnyE_take (i := 15) (d := some 25) (v := ?_) rfl (by kernel_rfl) (by kernel_rfl) (by kernel_rfl) (by kernel_rfl) (fun _ _ _ h => h) rfl rfl ?hy (by assumption) ?_
  case hy => (intro w' hSw; obtain ⟨e0, e1, e2⟩ := hSw; go_simp <;> (try with_reducible rfl))
  simp only [Act.put, List.setIfInBounds_toArray, List.set_cons_zero, List.set_cons_succ]
  refine wpAnyE_take (i := 16) (d := some 26) (v := ?_) rfl (by kernel_rfl) (by kernel_rfl) (by kernel_rfl) (by kernel_rfl) (fun _ _ _ h => h) rfl rfl ?hy (by assumption) ?_
  case hy => (intro w' hSw; obtain ⟨e0, e1, e2⟩ := hSw; go_simp <;> (try with_reducible rfl))
  simp only [Act.put, List.setIfInBounds_toArray, List.set_cons_zero, List.set_cons_succ]
  refine wpAnyE_take (i := 17) (d := some 27) (v := ?_) rfl (by kernel_rfl) (by kernel_rfl) (by kernel_rfl) (by kernel_rfl) (fun _ _ _ h => h) rfl rfl ?hy (by assumption) ?_
  case hy => (intro w' hSw; obtain ⟨e0, e1, e2⟩ := hSw; go_simp <;> (try with_reducible rfl))
  simp only [Act.put, List.setIfInBounds_toArray, List.set_cons_zero, List.set_cons_succ]
  refine wpAnyE_take (i := 18) (d := some 28) (v := ?_) rfl (by kernel_rfl) (by kernel_rfl) (by kernel_rfl) (by kernel_rfl) (fun _ _ _ h => h) rfl rfl ?hy (by assumption) ?_
  case hy => (intro w' hSw; obtain ⟨e0, e1, e2⟩ := hSw; go_simp <;> (try with_reducible rfl))
  simp only [Act.put, List.setIfInBounds_toArray, List.set_cons_zero, List.set_cons_succ]
  refine wpAnyE_take (i := 19) (d := some 29) (v := ?_) rfl (by kernel_rfl) (by kernel_rfl) (by kernel_rfl) (by kernel_rfl) (fun _ _ _ h => h) rfl rfl ?hy (by assumption) ?_
  case hy => (intro w' hSw; obtain ⟨e0, e1, e2⟩ := hSw; go_simp <;> (try with_reducible rfl))
  simp only [Act.put, List.setIfInBounds_toArray, List.set_cons_zero, List.set_cons_succ]
  refine wpAnyE_take (i := 20) (d := some 30) (v := ?_) rfl (by kernel_rfl) (by kernel_rfl) (by kernel_rfl) (by kernel_rfl) (fun _ _ _ h => h) rfl rfl ?hy (by assumption) ?_
  case hy => (intro w' hSw; obtain ⟨e0, e1, e2⟩ := hSw; go_simp <;> (try with_reducible rfl))
  simp only [Act.put, List.setIfInBounds_toArray, List.set_cons_zero, List.set_cons_succ]
  refine wpAnyE_take (i := 21) (d := some 31) (v := ?_) rfl (by kernel_rfl) (by kernel_rfl) (by kernel_rfl) (by kernel_rfl) (fun _ _ _ h => h) rfl rfl ?hy (by assumption) ?_
  case hy => (intro w' hSw; obtain ⟨e0, e1, e2⟩ := hSw; go_simp <;> (try with_reducible rfl))
  simp only [Act.put, List.setIfInBounds_toArray, List.set_cons_zero, List.set_cons_succ]
  refine wpAnyE_take (i := 22) (d := some 32) (v := ?_) rfl (by kernel_rfl) (by kernel_rfl) (by kernel_rfl) (by kernel_rfl) (fun _ _ _ h => h) rfl rfl ?hy (by assumption) ?_
  case hy => (intro w' hSw; obtain ⟨e0, e1, e2⟩ := hSw; go_simp <;> (try with_reducible rfl))
  simp only [Act.put, List.setIfInBounds_toArray, List.set_cons_zero, List.set_cons_succ]
  refine wpAnyE_take (i := 23) (d := some 33) (v := ?_) rfl (by kernel_rfl) (by kernel_rfl) (by kernel_rfl) (by kernel_rfl) (fun _ _ _ h => h) rfl rfl ?hy (by assumption) ?_
  case hy => (intro w' hSw; obtain ⟨e0, e1, e2⟩ := hSw; go_simp <;> (try with_reducible rfl))
  simp only [Act.put, List.setIfInBounds_toArray, List.set_cons_zero, List.set_cons_succ]
  refine wpAnyE_take (i := 24) (d := some 34) (v := ?_) rfl (by kernel_rfl) (by kernel_rfl) (by kernel_rfl) (by kernel_rfl) (fun _ _ _ h => h) rfl rfl ?hy (by assumption) ?_
  case hy => (intro w' hSw; obtain ⟨e0, e1, e2⟩ := hSw; go_simp <;> (try with_reducible rfl))
  simp only [Act.put, List.setIfInBounds_toArray, List.set_cons_zero, List.set_cons_succ]
  refine wpAnyE_take (i := 25) (d := some 35) (v := ?_) rfl (by kernel_rfl) (by kernel_rfl) (by kernel_rfl) (by kernel_rfl) (fun _ _ _ h => h) rfl rfl ?hy (by assumption) ?_
  case hy => (intro w' hSw; obtain ⟨e0, e1, e2⟩ := hSw; go_simp <;> (try with_reducible rfl))
  simp only [Act.put, List.setIfInBounds_toArray, List.set_cons_zero, List.set_cons_succ]
  refine wpAnyE_take (i := 26) (d := some 36) (v := ?_) rfl (by kernel_rfl) (by kernel_rfl) (by kernel_rfl) (by kernel_rfl) (fun _ _ _ h => h) rfl rfl ?hy (by assumption) ?_
  case hy => (intro w' hSw; obtain ⟨e0, e1, e2⟩ := hSw; go_simp <;> (try with_reducible rfl))
  simp only [Act.put, List.setIfInBounds_toArray, List.set_cons_zero, List.set_cons_succ]
  have hB1 : Below (w.heap.size + 2) w1 (w1.drew.alloc (.cells #[.int .u8 0, .int .u8 0, .int .u8 0, .int .u8 0] 128)) := hB0.alloc (by simpa using hz1) _
  refine wpAnyE_one (i := 27) (by kernel_rfl) rfl rfl ?_
  go_simp
  refine ⟨HS.out _ hB1, ?_⟩
  refine wpAnyE_one (i := 28) (by kernel_rfl) rfl rfl ?_
  go_simp
  refine wpAnyE_done (by kernel_rfl) ?_ _
  clear a4 a2 a0 x4 x2 y4 y16 y64 o4 o2 d1 d2 d3 d4 b1 b2 b3 b4 b5 b6 b7 b8 hc0 hc1 hc2 hHeld HS
  generalize ltr (P / 4) = L0 at HE ⊢
  generalize ltr (P % 4 * 16 + Q / 16) = L1 at HE ⊢
  generalize ltr (Q % 16 * 4 + R / 64) = L2 at HE ⊢
  generalize ltr (R % 64) = L3 at HE ⊢
  go_wp2_with fail
  have HLA : Hid (∀ o : Obj, Lies (w1.alloc o).drew w.heap.size #[.int .u8 0, .int .u8 0, .int .u8 0, .int .u8 0] 128) := fun o => (HLR.out.alloc o).drew
  have HBA : Hid (∀ (o : Obj) (cs : Array Value), Below w.heap.size w ((w1.alloc o).drew.setRow w.heap.size cs)) := fun o cs => below_row ((HB1.out.alloc HB1.out.size o).drew) (Nat.le_refl _) cs
  have h123 : n = 1 ∨ n = 2 ∨ n = 3 := by omega
  rcases h123 with rfl | rfl | rfl
  · have HV : Hid (e64L l = [L0, L1, 61, 61]) := by
      show _ = _
      rw [HE.out, ← HN.out]
      rfl
    refine wp_loop_rounds 3 ?_
    rw [rounds_succ]
    go_wp2_with fail
    rw [rounds_succ]
    go_wp2_with fail
    rw [rounds_succ]
    go_wp2_with (refine wpList_store_row rfl 128 _ _ rfl w.heap.size rfl #[.int .u8 0, .int .u8 0, .int .u8 0, .int .u8 0] (rowV [L0, L1, 61, 61]) rfl 128 (HLA.out _) (by rw [rowV_size]; kernel_rfl) (by rw [rowV_size]; rfl) (rowV_one _) rfl ?_)
    refine bodyPost_ret (v := .agg (rowV [L0, L1, 61, 61])) ?_ rfl ⟨by rw [HV.out], HBA.out _ _⟩
    exact results_cell_row rfl _ _ _ 128 _ (0, 0) _ rfl ((HLA.out _).row _) Tryd.underlying128 rfl (by rw [rowV_size]; kernel_rfl)
  · have HV : Hid (e64L l = [L0, L1, L2, 61]) := by
      show _ = _
      rw [HE.out, ← HN.out]
      rfl
    refine wp_loop_rounds 2 ?_
    rw [rounds_succ]
    go_wp2_with fail
    rw [rounds_succ]
    go_wp2_with (refine wpList_store_row rfl 128 _ _ rfl w.heap.size rfl #[.int .u8 0, .int .u8 0, .int .u8 0, .int .u8 0] (rowV [L0, L1, L2, 61]) rfl 128 (HLA.out _) (by rw [rowV_size]; kernel_rfl) (by rw [rowV_size]; rfl) (rowV_one _) rfl ?_)
    refine bodyPost_ret (v := .agg (rowV [L0, L1, L2, 61])) ?_ rfl ⟨by rw [HV.out], HBA.out _ _⟩
    exact results_cell_row rfl _ _ _ 128 _ (0, 0) _ rfl ((HLA.out _).row _) Tryd.underlying128 rfl (by rw [rowV_size]; kernel_rfl)
  · have HV : Hid (e64L l = [L0, L1, L2, L3]) := by
      show _ = _
      rw [HE.out, ← HN.out]
      rfl
    refine wp_loop_rounds 1 ?_
    rw [rounds_succ]
    go_wp2_with (refine wpList_store_row rfl 128 _ _ rfl w.heap.size rfl #[.int .u8 0, .int .u8 0, .int .u8 0, .int .u8 0] (rowV [L0, L1, L2, L3]) rfl 128 (HLA.out _) (by rw [rowV_size]; kernel_rfl) (by rw [rowV_size]; rfl) (rowV_one _) rfl ?_)
    refine bodyPost_ret (v := .agg (rowV [L0, L1, L2, L3])) ?_ rfl ⟨by rw [HV.out], HBA.out _ _⟩
    exact results_cell_row rfl _ _ _ 128 _ (0, 0) _ rfl ((HLA.out _).row _) Tryd.underlying128 rfl (by rw [rowV_size]; kernel_rfl)
end Go.Proofs.YtdgepnfgjgbkoaaDoor
