/-
  A ring's places laid anew, more of them, out of those that it had.
-/
import Derived.Test.YtbfgefgadplcjaaDoorRwR
namespace Go.Proofs.YtbfgefgadplcjaaDoor
open Go.RowKit

set_option maxRecDepth 20000 in
set_option maxHeartbeats 2000000 in
theorem growR_some (b g most : Nat) (A : List Rx) (f : Nat) (w : World) (h : GdR w b (some g) most A f A.length) (hroom : A.length < most) (M : Nat) (hM : M = min (2 * A.length) most) :
    Calls Tryd.prog 59 #[.pointer (some ⟨b, 0, none⟩)] w fun e w' => e = .returned (.tuple #[]) ∧ GdR w' b (some w.heap.size) most (rwA Rx.nil A f A.length ++ List.replicate (M - A.length) Rx.nil) 0 A.length ∧ Chg (· = b) w w' := by
  have hlt := h.lies.lt
  have c0 := h.cells.1
  have c1 := h.cells.2.1
  have hl := h.lid
  have hpos := h.pos
  unfold plc at c1
  dsimp only at c1
  obtain ⟨w1, hw1⟩ : ∃ w1, w1 = (w.alloc (.cells (zerR M) 50)).drew := ⟨_, rfl⟩
  have hmk : ∀ w, (Instr.makeSlice 29 (.int .i64 (M : Int)) (.int .i64 (M : Int))).run Tryd.prog w = .ok (.slice (some ⟨w.heap.size, 0, none⟩) M M) (w.alloc (.cells (zerR M) 50)) := makeR_run M (by omega)
  have h1 : GdR w1 b (some g) most A f A.length := by subst hw1; exact h.of (Below.heap_alloc _ _ _ hlt) (fun g e => Below.heap_alloc _ _ _ ((RgR.made b _ most A f _ h).lt g (.inr e)))
  have hG1 : Lies w1 w.heap.size ((List.replicate M (Rx.nil : Rx)).flatMap celR).toArray 50 := by subst hw1; exact Lies.new w (zerR M) _
  have HC : Hid (Chg (· = b) w w1) := by subst hw1; exact ((Chg.refl _ _).alloc _).drew
  have hne : Hid (b ≠ w.heap.size) := Nat.ne_of_lt hlt
  have HZ : Hid (w1.heap.size = w.heap.size + 1) := by subst hw1; exact World.size_alloc _ _
  have hA : A ≠ [] := fun e => by have := h.non e; cases this
  have hf : f < A.length := by rcases h.fst with h1 | h1; exact h1; exact absurd h1.2 hA
  obtain ⟨L1, hL1⟩ := h1.som hA
  cases hL1.1
  have hgl := hL1.2
  obtain ⟨H, hH⟩ : ∃ H, H = min (f + A.length) A.length := ⟨_, rfl⟩
  obtain ⟨a1, ha1⟩ : ∃ a1, a1 = H - f := ⟨_, rfl⟩
  obtain ⟨a2, ha2⟩ : ∃ a2, a2 = A.length - a1 := ⟨_, rfl⟩
  have HP : Hid (Calls Tryd.prog 68 #[.pointer (some ⟨b, 0, none⟩), .int .i64 (A.length : Int)] w1 fun e w' => e = .returned (.tuple #[.slice (some ⟨g, f * 5, none⟩) a1 (A.length - f), .slice (some ⟨g, 0, none⟩) a2 A.length]) ∧ ∃ n, w' = w1.drewN n) := by
    have := piecesR_any b g most A f A.length A.length w1 h1 (Nat.le_refl _) H hH
    rw [← ha1, ← ha2] at this
    exact this
  have hgG : Hid (g ≠ w.heap.size) := by have := (RgR.made b _ most A f _ h).lt g (.inr rfl); unfold Hid; omega
  have hglt : Hid (g < w1.heap.size) := by have := (RgR.made b _ most A f _ h).lt g (.inr rfl); have := HZ.out; unfold Hid; omega
  have HS1 : Hid (∀ wx : World, wx.heap[g]? = w1.heap[g]? → Sg celR (some ⟨g, f * 5, none⟩) ((A.drop f).take a1) wx) := fun wx hx => Sg.of_lies celR_length (hx.trans hgl) f a1 _ (by simp)
  have HS2 : Hid (∀ wx : World, wx.heap[g]? = w1.heap[g]? → Sg celR (some ⟨g, 0, none⟩) (A.take a2) wx) := fun wx hx => by
    have := Sg.of_lies celR_length (hx.trans hgl) 0 a2 0 (by simp)
    rwa [List.drop_zero] at this
  have hN : 0 < A.length := by omega
  have hMN : A.length < M := by omega
  have h11 : a1 + a2 = A.length := by omega
  have HR : Hid ((A.drop f).take a1 ++ A.take a2 = rwA Rx.nil A f A.length) := by
    have := rwA_pieces (Rx.nil : Rx) A f A.length hf (Nat.le_refl _)
    rwa [← hH, ← ha1, ← ha2] at this
  have HLa : Hid (a1 = ((A.drop f).take a1).length) := by unfold Hid; rw [List.length_take, List.length_drop]; omega
  have HLb : Hid (a2 = (A.take a2).length) := by unfold Hid; rw [List.length_take]; omega
  have hmx : max (1 : Int) (2 * (A.length : Int)) = 2 * (A.length : Int) := by omega
  have hm : min (2 * (A.length : Int)) (most : Int) = (M : Int) := by omega
  have hw0 : IntKind.i64.wrap (2 * (A.length : Int)) = 2 * (A.length : Int) := by rw [IntKind.wrap_i64]; omega
  have hMa : ¬ M = a1 := by omega
  have HF1 : Hid (((A.drop f).take a1).length ≤ M) := by rw [← HLa.out]; unfold Hid; omega
  have HF2 : Hid (0 + ((A.drop f).take a1).length ≤ (List.replicate M (Rx.nil : Rx)).length) := by rw [← HLa.out, List.length_replicate]; unfold Hid; omega
  have HF3 : Hid ((A.take a2).length ≤ M - a1) := by rw [← HLb.out]; unfold Hid; omega
  have HF4 : Hid (a1 + (A.take a2).length ≤ ((List.replicate M (Rx.nil : Rx)).take 0 ++ (A.drop f).take a1 ++ (List.replicate M (Rx.nil : Rx)).drop (0 + ((A.drop f).take a1).length)).length) := by
    rw [← HLb.out]
    have e := HLa.out
    simp only [List.length_append, List.length_take, List.length_drop, List.length_replicate] at e ⊢
    unfold Hid
    omega
  have hMa2 : a1 ≤ M := by omega
  have H11 : Hid (a1 + a2 = A.length) := h11
  have HMm : Hid (M ≤ most) := by unfold Hid; omega
  clear h11 hM
  have HG1 : Hid (Lies w1 w.heap.size ((List.replicate M (Rx.nil : Rx)).flatMap celR).toArray 50) := hG1
  have C01 : w1.cell? ⟨b, 1, none⟩ = some (plc (some g) A.length) ∧ w1.cell? ⟨b, 0, none⟩ = some (.int .i64 (most : Int)) := ⟨h1.cells.2.1, h1.cells.1⟩
  unfold plc at C01
  dsimp only at C01
  have C3 : w1.cell? ⟨b, 3, none⟩ = some (.int .i64 (A.length : Int)) := h1.cells.2.2.2
  have HB1 : Hid (Lies w1 b #[.int .i64 (most : Int), plc (some g) A.length, .int .i64 (f : Int), .int .i64 (A.length : Int)] 87) := h1.lies
  have HGD := h
  clear h1 hG1 h hA hgl hL1 hH ha1 ha2
  obtain ⟨N, hNN⟩ : ∃ N, N = A.length := ⟨_, rfl⟩
  have HN : Hid (N = A.length) := hNN
  simp only [← hNN] at *
  go_enter Tryd.func59, Tryd.ntmps59
  go_wp2_with fail
  refine wp_region_late (fun wx => wx.cell? ⟨b, 1, none⟩ = some (.slice (some ⟨g, 0, none⟩) N N) ∧ wx.cell? ⟨b, 0, none⟩ = some (.int .i64 (most : Int))) 14 (by kernel_rfl) ⟨c1, c0⟩ (fun hHeld => ?_)
  refine wpAnyE_tk (i := 0) (d := some 5) (v := ?_) rfl (by kernel_rfl) (by kernel_rfl) (by kernel_rfl) rfl (fun _ _ _ h => h) rfl rfl ?hy (by first | assumption | go_simp) ?_
  case hy => (intro w' hSw; (try dsimp only at hSw); go_simp <;> (first | with_reducible rfl | omega | skip))
  simp only [Act.put, List.setIfInBounds_toArray, List.set_cons_zero, List.set_cons_succ]
  refine wpAnyE_tk (i := 1) (d := some 6) (v := ?_) rfl (by kernel_rfl) (by kernel_rfl) (by kernel_rfl) rfl (fun _ _ _ h => h) rfl rfl ?hy (by first | assumption | go_simp) ?_
  case hy => (intro w' hSw; (try dsimp only at hSw); go_simp <;> (first | with_reducible rfl | omega | skip))
  simp only [Act.put, List.setIfInBounds_toArray, List.set_cons_zero, List.set_cons_succ]
  refine wpAnyE_tk (i := 2) (d := some 7) (v := ?_) rfl (by kernel_rfl) (by kernel_rfl) (by kernel_rfl) rfl (fun _ _ _ h => h) rfl rfl ?hy (by first | assumption | go_simp) ?_
  case hy => (intro w' hSw; (try dsimp only at hSw); go_simp <;> (first | with_reducible rfl | omega | skip))
  simp only [Act.put, List.setIfInBounds_toArray, List.set_cons_zero, List.set_cons_succ]
  refine wpAnyE_tk (i := 3) (d := some 8) (v := ?_) rfl (by kernel_rfl) (by kernel_rfl) (by kernel_rfl) rfl (fun _ _ _ h => h) rfl rfl ?hy (by first | assumption | go_simp) ?_
  case hy => (intro w' hSw; (try dsimp only at hSw); go_simp <;> (first | with_reducible rfl | omega | skip))
  simp only [Act.put, List.setIfInBounds_toArray, List.set_cons_zero, List.set_cons_succ]
  refine wpAnyE_tk (i := 4) (d := some 9) (v := ?_) rfl (by kernel_rfl) (by kernel_rfl) (by kernel_rfl) rfl (fun _ _ _ h => h) rfl rfl ?hy (by first | assumption | go_simp) ?_
  case hy => (intro w' hSw; (try dsimp only at hSw); go_simp <;> (first | with_reducible rfl | omega | skip))
  simp only [Act.put, List.setIfInBounds_toArray, List.set_cons_zero, List.set_cons_succ]
  refine wpAnyE_tk (i := 5) (d := some 10) (v := .int .i64 (2 * (N : Int))) rfl (by kernel_rfl) (by kernel_rfl) (by kernel_rfl) rfl (fun _ _ _ h => h) rfl rfl ?hy (by first | assumption | go_simp) ?_
  case hy => (intro w' hSw; (try dsimp only at hSw); go_simp <;> (first | with_reducible rfl | omega | skip))
  simp only [Act.put, List.setIfInBounds_toArray, List.set_cons_zero, List.set_cons_succ]
  refine wpAnyE_tk (i := 6) (d := some 11) (v := .int .i64 (2 * (N : Int))) rfl (by kernel_rfl) (by kernel_rfl) (by kernel_rfl) rfl (fun _ _ _ h => h) rfl rfl ?hy (by first | assumption | go_simp) ?_
  case hy => (intro w' hSw; (try dsimp only at hSw); go_simp <;> (first | with_reducible rfl | omega | skip))
  simp only [Act.put, List.setIfInBounds_toArray, List.set_cons_zero, List.set_cons_succ]
  refine wpAnyE_tk (i := 7) (d := some 12) (v := ?_) rfl (by kernel_rfl) (by kernel_rfl) (by kernel_rfl) rfl (fun _ _ _ h => h) rfl rfl ?hy (by first | assumption | go_simp) ?_
  case hy => (intro w' hSw; (try dsimp only at hSw); go_simp <;> (first | with_reducible rfl | omega | skip))
  simp only [Act.put, List.setIfInBounds_toArray, List.set_cons_zero, List.set_cons_succ]
  refine wpAnyE_tk (i := 8) (d := some 13) (v := ?_) rfl (by kernel_rfl) (by kernel_rfl) (by kernel_rfl) rfl (fun _ _ _ h => h) rfl rfl ?hy (by first | assumption | go_simp) ?_
  case hy => (intro w' hSw; (try dsimp only at hSw); go_simp <;> (first | with_reducible rfl | omega | skip))
  simp only [Act.put, List.setIfInBounds_toArray, List.set_cons_zero, List.set_cons_succ]
  refine wpAnyE_tk (i := 9) (d := some 14) (v := ?_) rfl (by kernel_rfl) (by kernel_rfl) (by kernel_rfl) rfl (fun _ _ _ h => h) rfl rfl ?hy (by first | assumption | go_simp) ?_
  case hy => (intro w' hSw; (try dsimp only at hSw); go_simp <;> (first | with_reducible rfl | omega | skip))
  simp only [Act.put, List.setIfInBounds_toArray, List.set_cons_zero, List.set_cons_succ]
  refine wpAnyE_tk (i := 10) (d := some 15) (v := ?_) rfl (by kernel_rfl) (by kernel_rfl) (by kernel_rfl) rfl (fun _ _ _ h => h) rfl rfl ?hy (by first | assumption | go_simp) ?_
  case hy => (intro w' hSw; (try dsimp only at hSw); go_simp <;> (first | with_reducible rfl | omega | skip))
  simp only [Act.put, List.setIfInBounds_toArray, List.set_cons_zero, List.set_cons_succ]
  refine wpAnyE_tk (i := 11) (d := some 16) (v := .int .i64 (M : Int)) rfl (by kernel_rfl) (by kernel_rfl) (by kernel_rfl) rfl (fun _ _ _ h => h) rfl rfl ?hy (by first | assumption | go_simp) ?_
  case hy => (intro w' hSw; (try dsimp only at hSw); go_simp <;> (first | with_reducible rfl | omega | skip))
  simp only [Act.put, List.setIfInBounds_toArray, List.set_cons_zero, List.set_cons_succ]
  refine wpAnyE_on (i := 12) (by kernel_rfl) rfl rfl ?_
  go_simp
  rw [← hw1]
  clear hHeld hmk c0 c1 hw1
  refine wpAnyE_tk (i := 13) (d := some 2) (v := ?_) rfl (by kernel_rfl) (by kernel_rfl) (by kernel_rfl) rfl (fun _ _ _ h => h) rfl rfl ?hy (by first | assumption | go_simp) ?_
  case hy => (intro w' hSw; (try dsimp only at hSw); go_simp <;> (first | with_reducible rfl | omega | skip))
  simp only [Act.put, List.setIfInBounds_toArray, List.set_cons_zero, List.set_cons_succ]
  refine wpAnyE_done (by kernel_rfl) ?_ _
  clear C01
  go_wp2_with (first
    | (go_at_call 68; refine HP.out.mono ?_; rintro e w2 ⟨rfl, nd, rfl⟩)
    | (refine wpList_copy_k celR_length oneR rfl _ _ 29 29 50 rfl Tryd.underlying29 sizeER w.heap.size 0 0 M M (List.replicate M Rx.nil) 50 rfl rfl (Lies.drewN HG1.out _) (some ⟨g, f * 5, none⟩) a1 (N - f) ((A.drop f).take a1) rfl HLa.out HF1.out HF2.out (HS1.out _ rfl) ?_; intro w3 HG2 HC2; clear HG1; have HS3 : Hid (Sg celR (some ⟨g, 0, none⟩) (A.take a2) w3) := HS2.out w3 (HC2.block g hglt.out hgG.out); clear HS1 HS2)
    | (refine wpList_copy_k celR_length oneR rfl _ _ 29 29 50 rfl Tryd.underlying29 sizeER w.heap.size a1 (a1 * 5) (M - a1) (M - a1) _ 50 rfl rfl HG2 (some ⟨g, 0, none⟩) a2 N (A.take a2) rfl HLb.out HF3.out HF4.out HS3.out ?_; intro w4 HG3 HC3; clear HG2; have HG4 : Hid (Lies w4 w.heap.size _ 50) := HG3; clear HG3; have HB4 : Hid (Lies w4 b #[.int .i64 (most : Int), plc (some g) N, .int .i64 (f : Int), .int .i64 (N : Int)] 87) := HC3.lies (HC2.lies (HB1.out.drewN _) hne.out) hne.out; have HC4 : Hid (Chg (· = b) w w4) := ((HC.out.drewN nd).then HC2 (fun i e => .inr (by omega))).then HC3 (fun i e => .inr (by omega)); clear HC2 HC3; have d1 := HB4.out.cell 1; have d2 := HB4.out.cell 2; have z1 := HB4.out.frozen 1; have z2 := HB4.out.frozen 2; simp only [List.getElem?_toArray, List.getElem?_cons_zero, List.getElem?_cons_succ] at d1 d2))
  go_end0
  have e1 := grown_list (Rx.nil : Rx) M a1 a2 ((A.drop f).take a1) (A.take a2) HLa.out HLb.out (by have := H11.out; omega)
  have e2 := HG4.out
  rw [e1, HR.out, H11.out] at e2
  have hlen : (rwA (Rx.nil : Rx) A f N ++ List.replicate (M - N) Rx.nil).length = M := by rw [List.length_append, rwA_length, List.length_replicate]; omega
  refine ⟨rfl, ⟨?_, hpos, hl, by rw [hlen]; exact HMm.out, by rw [hlen]; omega, .inl (by rw [hlen]; omega), (fun e => by rw [e] at hlen; simp at hlen; omega), fun _ => ⟨_, rfl, (e2.set_other (Ne.symm hne.out) _).set_other (Ne.symm hne.out) _⟩⟩, (HC4.out.set (.inl rfl) _).set (.inl rfl) _⟩
  rw [hlen]
  exact (HB4.out.set 1 _).set 2 _
end Go.Proofs.YtbfgefgadplcjaaDoor
