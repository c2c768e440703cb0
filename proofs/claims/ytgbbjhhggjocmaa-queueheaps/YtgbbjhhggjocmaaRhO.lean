/-
  The least of the document's heap taken.
-/
import Derived.Test.YtgbbjhhggjocmaaRhK
import Derived.Test.YtgbbjhhggjocmaaRhU
namespace Go.Proofs.Ytgbbjhhggjocmaa
open Go.RowKit

/-- append of several things that lie somewhere. -/
theorem wp_append_seg {α : Type} {cel : α → List Value} {t k : Nat} (hk : ∀ x, (cel x).length = k) (hk0 : 0 < k) (h1 : ∀ x, ∀ v ∈ cel x, v.oneCell' = true) {P : Program} {op : Oper} {a : Act} {w : World} {K : Act → World → Prop} {Q : Exit → Act → World → Prop} (s x : Operand) (st : TypeId)
    (ho : op.op = .call { callee := .builtin .append, args := #[s, x], argTypes := #[st, st] }) (hu : P.underlying st = some (.slice t)) (z : Value) (bytes : Nat) (hinfo : (P.info? t).map (fun i => (i.zero, i.size, i.bytes)) = some (some z, k, bytes)) (hz : z.cells.size = k)
    (v : Value) (l : List α) (hs : a.eval s = v) (hown : Ow cel t k w v l) (g o : Nat) (m c : Nat) (ys : List α) (hm : ys.length = m) (hx : a.eval x = .slice (some ⟨g, o, none⟩) m c) (hy : ∀ j u, (ys.flatMap cel)[j]? = some u → w.cell? ⟨g, o + j, none⟩ = some u) (hb : (l.length + m) * bytes ≤ 140737488355328) (hb2 : l.length + m ≤ 281474976710656)
    (h : ∀ v' w', Ow cel t k w' v' (l ++ ys) → Chg (fun k => v.ownBlock = some k) w w' → (v'.ownBlock = v.ownBlock ∨ v'.ownBlock = some w.heap.size) → K (a.put op.dst v') w') : op.wp P a w K Q := by
  obtain ⟨i, hi, hz0, hz1, hz2⟩ := info_parts hinfo
  have hone : ∀ u ∈ ys.flatMap cel, u.oneCell' = true := fun u hu => by obtain ⟨y, _, hy2⟩ := List.mem_flatMap.1 hu; exact h1 y u hy2
  obtain ⟨v', w', hr, h2, h3, _, h5⟩ := run_append_own_at (P := P) w 0 st op.type t i z k bytes hu hi hz0 hz1 hz2 hz hk0 v l.length _ hown ⟨g, o, none⟩ m c (ys.flatMap cel) (by rw [flat_length hk, hm]) (fun j u hu => by rw [addr_add]; exact hy j u hu) hone (by unfold maxLen; omega) hb (Nat.zero_le _)
  unfold Oper.wp execOp
  simp only [ho, resolve, invoke, builtin, Sem.run_bind, Sem.run_pure, Result.andThen_ok, List.map_toArray, List.map_cons, List.map_nil, hs, hx, hr]
  refine h v' w' ?_ ⟨h3.os, h3.tape, h3.output, h3.size, fun k hk hn => h3.block k hk (fun e => hn e.symm)⟩ h5
  unfold Ow
  rw [List.flatMap_append, List.length_append, hm]
  exact h2
/-- A row of no things that was made. -/
theorem Ow.made0 {α : Type} (cel : α → List Value) (t k : Nat) (w : World) (g : Nat) (h : Lies w g #[] t) : Ow cel t k w (.slice (some ⟨g, 0, none⟩) 0 0) ([] : List α) := ⟨by simp, .inr ⟨g, 0, #[], rfl, Nat.zero_le _, h, Nat.le_refl _, by unfold maxLen; omega, by simp, by simp⟩⟩
theorem Ow.seg {α : Type} {cel : α → List Value} {t k : Nat} (hk : ∀ x, (cel x).length = k) {w : World} {g n c : Nat} {l : List α} (h : Ow cel t k w (.slice (some ⟨g, 0, none⟩) n c) l) (o m : Nat) (j : Nat) (u : Value) (hj : (((l.drop o).take m).flatMap cel)[j]? = some u) : w.cell? ⟨g, o * k + j, none⟩ = some u := by
  have hl := (List.getElem?_eq_some_iff.1 hj).1
  rw [flat_take hk, flat_drop hk, List.length_take, List.length_drop] at hl
  rw [h.cells _ (by omega), ← hj, flat_take hk, flat_drop hk, List.getElem?_take, List.getElem?_drop, if_pos (by omega)]
set_option maxRecDepth 20000 in
set_option maxHeartbeats 4000000 in
theorem rhpop_any (b : Nat) (L : List (Int × Int)) (v : Value) (w : World) (h : Gh w b L v) (hlid : L.length ≤ 1048576) : Calls Try.prog 28 #[.pointer (some ⟨b, 0, none⟩)] w fun e w' => e = .returned (.tuple #[vTh (rTop L), .bool (!L.isEmpty)]) ∧ ∃ v', Gh w' b (rRes L) v' ∧ Chg (Fh b v) w w' ∧ (∀ k, v'.ownBlock = some k → v.ownBlock = some k ∨ w.heap.size ≤ k) := by
  have hszE : (Try.prog.info? 31).map (·.size) = some (#[Value.int .i64 0, .int .i64 0] : Array Value).size := sizeT
  obtain ⟨w1, hw1⟩ : ∃ w1, w1 = w.alloc (.cells #[.int .i64 0, .int .i64 0] 31) := ⟨_, rfl⟩
  have hb1 : Below w.heap.size w w1 := by subst hw1; exact (Below.refl _ w).alloc (Nat.le_refl _) _
  have hL1 : Lies w1 w.heap.size #[.int .i64 0, .int .i64 0] 31 := by subst hw1; exact Lies.new w _ _
  have hls := rhleast_any b L v w1 (h.below hb1) hlid
  have HW1 : Hid (w1 = w.alloc (.cells #[.int .i64 0, .int .i64 0] 31)) := hw1
  clear hw1
  by_cases hL : L = []
  · subst hL
    have HH : Hid (Gh w b [] v) := h
    have hls' : Calls Try.prog 57 #[.pointer (some ⟨b, 0, none⟩)] w1 fun e w' => e = .returned (.int .i64 (-1)) ∧ Lies w' w.heap.size #[.int .i64 0, .int .i64 0] 31 ∧ Below w.heap.size w w' := hls.mono (fun e w' hh => by obtain ⟨r1, n, rfl⟩ := hh; exact ⟨r1, hL1.drewN n, hb1.trans ((below_drewN w1 n).mono hb1.size)⟩)
    clear hls h hL1 hb1
    go_enter Try.func28, Try.ntmps28
    go_wp2_with (go_at_call 57; rw [← HW1.out]; refine hls'.mono ?_; clear hls' HW1; rintro e w2 ⟨rfl, hl2, hb2⟩; have y0 : w2.cell? ⟨w.heap.size, 0, none⟩ = some (.int .i64 0) := hl2.cell 0; have y1 : w2.cell? ⟨w.heap.size, 1, none⟩ = some (.int .i64 0) := hl2.cell 1; have z0 := hl2.frozen 0; have z1 := hl2.frozen 1; have HF : Hid (Lies ((w2.setCell ⟨w.heap.size, 0, none⟩ (.int .i64 0)).setCell ⟨w.heap.size, 1, none⟩ (.int .i64 0)) w.heap.size #[.int .i64 0, .int .i64 0] 31 ∧ Below w.heap.size w ((w2.setCell ⟨w.heap.size, 0, none⟩ (.int .i64 0)).setCell ⟨w.heap.size, 1, none⟩ (.int .i64 0))) := ⟨(hl2.set 0 _).set 1 _, (hb2.setCell (p := ⟨w.heap.size, 0, none⟩) (Nat.le_refl _) _).setCell (p := ⟨w.heap.size, 1, none⟩) (Nat.le_refl _) _⟩; clear hl2 hb2)
    exact ret_cell rfl w.heap.size 31 #[.int .i64 0, .int .i64 0] (0, 0) _ (.bool false) rfl rfl HF.out.1 Try.underlying31 rfl hszE ⟨rfl, v, HH.out.below HF.out.2, Chg.of_below HF.out.2, fun k hk => .inl hk⟩
  · have hlen : 0 < L.length := List.length_pos_iff.2 hL
    obtain ⟨j, hj⟩ : ∃ j, j = lsN L L.length := ⟨_, rfl⟩
    have hjl : j < L.length := by rw [hj]; exact lsN_lt L _ hlen
    have hat : atI L L.length = (j : Int) := by unfold atI; rw [if_neg (by omega), hj]
    obtain ⟨x, hx⟩ : ∃ x, x = kA L j := ⟨_, rfl⟩
    have htop : vTh (rTop L) = .agg #[.int .i64 x.1, .int .i64 x.2] := by unfold rTop vTh; rw [if_neg hL, ← hj, ← hx]
    have hres : rRes L = L.take j ++ L.drop (j + 1) := by unfold rRes; rw [if_neg hL, ← hj, List.eraseIdx_eq_take_drop_succ]
    have e2 : (!L.isEmpty) = true := by cases L with | nil => exact absurd rfl hL | cons _ _ => rfl
    rw [htop, e2, hres]
    rw [hat] at hls
    have HLT : Hid (∀ k, Fh b v k → k < w.heap.size) := h.lt
    have HLS : Hid (Calls Try.prog 57 #[.pointer (some ⟨b, 0, none⟩)] w1 fun e w' => e = .returned (.int .i64 (j : Int)) ∧ Gh w' b L v ∧ Lies w' w.heap.size #[.int .i64 0, .int .i64 0] 31 ∧ Below w.heap.size w w') := hls.mono (fun e w' hh => by obtain ⟨r1, n, rfl⟩ := hh; have hB := hb1.trans ((below_drewN w1 n).mono hb1.size); exact ⟨r1, h.below hB, hL1.drewN n, hB⟩)
    obtain ⟨g0, c, rfl, _⟩ := h.at j hjl
    have hcap := h.own.cap.2
    have hgl := HLT.out g0 (.inr rfl)
    have hbl := HLT.out b (.inl rfl)
    have hgb := h.ne g0 rfl
    have hne3 : w.heap.size ≠ g0 := by omega
    have hne4 : g0 ≠ w.heap.size := by omega
    have hne5 : w.heap.size ≠ b := by omega
    have hne6 : b ≠ w.heap.size := by omega
    have hj0 : ¬ (j : Int) < 0 := by omega
    have hji : (j : Int) < (L.length : Int) := by omega
    have HX : Hid (x = kA L j) := hx
    have HJ : Hid (j < L.length) := hjl
    have HCP : Hid (L.length ≤ c) := hcap
    have HLI : Hid (L.length ≤ 1048576) := hlid
    clear hls h hL1 hb1 htop e2 hat hj hx hL hres hlen hlid hszE
    go_enter Try.func28, Try.ntmps28
    go_wp2_with (go_at_call 57; rw [← HW1.out]; refine HLS.out.mono ?_; clear HLS HW1; rintro e w2 ⟨rfl, hg2, hl2, hb2⟩; have c1 : w2.cell? ⟨b, 0, none⟩ = some (.slice (some ⟨g0, 0, none⟩) L.length c) := hg2.lies.cell 0; obtain ⟨_, _, e', _, q0, q1⟩ := hg2.at j HJ.out; cases e'; rw [← HX.out] at q0 q1; have HG2 : Hid (Gh w2 b L (.slice (some ⟨g0, 0, none⟩) L.length c)) := hg2; have HL2 : Hid (Lies w2 w.heap.size #[.int .i64 0, .int .i64 0] 31) := hl2; have HB2 : Hid (Below w.heap.size w w2) := hb2; clear hl2 hb2 hg2)
    obtain ⟨w3, hw3⟩ : ∃ w3, w3 = w2.alloc (.cells #[.int .i64 x.1, .int .i64 x.2] 31) := ⟨_, rfl⟩
    have hB3 : Below w2.heap.size w2 w3 := by rw [hw3]; exact (Below.refl _ _).alloc (Nat.le_refl _) _
    have hG3 : Gh w3 b L (.slice (some ⟨g0, 0, none⟩) L.length c) := HG2.out.below hB3
    have hR3 : Lies w3 w.heap.size #[.int .i64 0, .int .i64 0] 31 := HL2.out.below hB3 HL2.out.lt
    have hV3 : Lies w3 w2.heap.size #[.int .i64 x.1, .int .i64 x.2] 31 := by rw [hw3]; exact Lies.new w2 _ _
    have hbel3 : Below w.heap.size w w3 := HB2.out.trans (hB3.mono HB2.out.size)
    have hR2 := HL2.out.lt
    rw [← hw3]
    obtain ⟨V, hV⟩ : ∃ V, V = w2.heap.size := ⟨_, rfl⟩
    rw [← hV] at hV3 hR2 ⊢
    clear hw3 hB3 HG2 HL2 HB2 hV c1 q0 q1 w2
    have c3 : w3.cell? ⟨b, 0, none⟩ = some (.slice (some ⟨g0, 0, none⟩) L.length c) := hG3.lies.cell 0
    have hcI : (L.length : Int) ≤ (c : Int) := by omega
    have hli := HLI.out
    have hw18 : IntKind.i64.wrap ((j : Int) + 1) = (j : Int) + 1 := by rw [IntKind.wrap_i64]; omega
    clear hli
    have hjc : j ≤ c := by omega
    have hjc1 : j + 1 ≤ L.length := by omega
    have hjc2 : (j : Int) + 1 ≤ (L.length : Int) := by omega
    obtain ⟨A, hA0⟩ : ∃ A, A = if c = j + 1 then 0 else (j + 1) * 2 := ⟨_, rfl⟩
    have hA : (if c = j + 1 then some ⟨g0, 0, none⟩ else some ⟨g0, (j + 1) * 2, none⟩ : Option Addr) = some ⟨g0, A, none⟩ := by rw [hA0]; split <;> rfl
    have HA : Hid (A = if c = j + 1 then 0 else (j + 1) * 2) := hA0
    clear hA0
    refine wp_region_late (fun wx => wx.cell? ⟨b, 0, none⟩ = some (.slice (some ⟨g0, 0, none⟩) L.length c)) 19 (by kernel_rfl) c3 (fun hHeld => ?_)
    refine wpAnyE_take (i := 0) (d := some 18) (v := ?_) rfl (by kernel_rfl) (by kernel_rfl) (by kernel_rfl) (by kernel_rfl) (fun _ _ _ h => h) rfl rfl ?hy (by first | assumption | go_simp) ?_
    case hy => (intro w' hSw; (try dsimp only at hSw); go_simp <;> (first | with_reducible rfl | omega | skip))
    simp only [Act.put, List.setIfInBounds_toArray, List.set_cons_zero, List.set_cons_succ]
    refine wpAnyE_take (i := 2) (d := some 20) (v := ?_) rfl (by kernel_rfl) (by kernel_rfl) (by kernel_rfl) (by kernel_rfl) (fun _ _ _ h => h) rfl rfl ?hy (by first | assumption | go_simp) ?_
    case hy => (intro w' hSw; (try dsimp only at hSw); go_simp <;> (first | with_reducible rfl | omega | skip))
    simp only [Act.put, List.setIfInBounds_toArray, List.set_cons_zero, List.set_cons_succ]
    refine wpAnyE_take (i := 3) (d := some 21) (v := ?_) rfl (by kernel_rfl) (by kernel_rfl) (by kernel_rfl) (by kernel_rfl) (fun _ _ _ h => h) rfl rfl ?hy (by first | assumption | go_simp) ?_
    case hy => (intro w' hSw; (try dsimp only at hSw); go_simp <;> (first | with_reducible rfl | omega | skip))
    simp only [Act.put, List.setIfInBounds_toArray, List.set_cons_zero, List.set_cons_succ]
    refine wpAnyE_take (i := 4) (d := some 22) (v := ?_) rfl (by kernel_rfl) (by kernel_rfl) (by kernel_rfl) (by kernel_rfl) (fun _ _ _ h => h) rfl rfl ?hy (by first | assumption | go_simp) ?_
    case hy => (intro w' hSw; (try dsimp only at hSw); go_simp <;> (first | with_reducible rfl | omega | skip))
    simp only [Act.put, List.setIfInBounds_toArray, List.set_cons_zero, List.set_cons_succ]
    refine wpAnyE_take (i := 5) (d := some 23) (v := ?_) rfl (by kernel_rfl) (by kernel_rfl) (by kernel_rfl) (by kernel_rfl) (fun _ _ _ h => h) rfl rfl ?hy (by first | assumption | go_simp) ?_
    case hy => (intro w' hSw; (try dsimp only at hSw); go_simp <;> (first | with_reducible rfl | omega | skip))
    simp only [Act.put, List.setIfInBounds_toArray, List.set_cons_zero, List.set_cons_succ]
    refine wpAnyE_take (i := 6) (d := some 24) (v := ?_) rfl (by kernel_rfl) (by kernel_rfl) (by kernel_rfl) (by kernel_rfl) (fun _ _ _ h => h) rfl rfl ?hy (by first | assumption | go_simp) ?_
    case hy => (intro w' hSw; (try dsimp only at hSw); go_simp <;> (first | with_reducible rfl | omega | skip))
    simp only [Act.put, List.setIfInBounds_toArray, List.set_cons_zero, List.set_cons_succ]
    refine wpAnyE_take (i := 7) (d := some 25) (v := ?_) rfl (by kernel_rfl) (by kernel_rfl) (by kernel_rfl) (by kernel_rfl) (fun _ _ _ h => h) rfl rfl ?hy (by first | assumption | go_simp) ?_
    case hy => (intro w' hSw; (try dsimp only at hSw); go_simp <;> (first | with_reducible rfl | omega | skip))
    simp only [Act.put, List.setIfInBounds_toArray, List.set_cons_zero, List.set_cons_succ]
    refine wpAnyE_take (i := 9) (d := some 27) (v := ?_) rfl (by kernel_rfl) (by kernel_rfl) (by kernel_rfl) (by kernel_rfl) (fun _ _ _ h => h) rfl rfl ?hy (by first | assumption | go_simp) ?_
    case hy => (intro w' hSw; (try dsimp only at hSw); go_simp <;> (first | with_reducible rfl | omega | skip))
    simp only [Act.put, List.setIfInBounds_toArray, List.set_cons_zero, List.set_cons_succ]
    refine wpAnyE_take (i := 10) (d := some 28) (v := ?_) rfl (by kernel_rfl) (by kernel_rfl) (by kernel_rfl) (by kernel_rfl) (fun _ _ _ h => h) rfl rfl ?hy (by first | assumption | go_simp) ?_
    case hy => (intro w' hSw; (try dsimp only at hSw); go_simp <;> (first | with_reducible rfl | omega | skip))
    simp only [Act.put, List.setIfInBounds_toArray, List.set_cons_zero, List.set_cons_succ]
    refine wpAnyE_take (i := 11) (d := some 29) (v := ?_) rfl (by kernel_rfl) (by kernel_rfl) (by kernel_rfl) (by kernel_rfl) (fun _ _ _ h => h) rfl rfl ?hy (by first | assumption | go_simp) ?_
    case hy => (intro w' hSw; (try dsimp only at hSw); go_simp <;> (first | with_reducible rfl | omega | skip))
    simp only [Act.put, List.setIfInBounds_toArray, List.set_cons_zero, List.set_cons_succ]
    refine wpAnyE_take (i := 12) (d := some 30) (v := ?_) rfl (by kernel_rfl) (by kernel_rfl) (by kernel_rfl) (by kernel_rfl) (fun _ _ _ h => h) rfl rfl ?hy (by first | assumption | go_simp) ?_
    case hy => (intro w' hSw; (try dsimp only at hSw); go_simp <;> (first | with_reducible rfl | omega | skip))
    simp only [Act.put, List.setIfInBounds_toArray, List.set_cons_zero, List.set_cons_succ]
    refine wpAnyE_take (i := 13) (d := some 31) (v := ?_) rfl (by kernel_rfl) (by kernel_rfl) (by kernel_rfl) (by kernel_rfl) (fun _ _ _ h => h) rfl rfl ?hy (by first | assumption | go_simp) ?_
    case hy => (intro w' hSw; (try dsimp only at hSw); go_simp <;> (first | with_reducible rfl | omega | skip))
    simp only [Act.put, List.setIfInBounds_toArray, List.set_cons_zero, List.set_cons_succ]
    refine wpAnyE_take (i := 14) (d := some 32) (v := ?_) rfl (by kernel_rfl) (by kernel_rfl) (by kernel_rfl) (by kernel_rfl) (fun _ _ _ h => h) rfl rfl ?hy (by first | assumption | go_simp) ?_
    case hy => (intro w' hSw; (try dsimp only at hSw); go_simp <;> (first | with_reducible rfl | omega | skip))
    simp only [Act.put, List.setIfInBounds_toArray, List.set_cons_zero, List.set_cons_succ]
    refine wpAnyE_take (i := 15) (d := some 33) (v := .slice (some ⟨g0, A, none⟩) (L.length - (j + 1)) (c - (j + 1))) rfl (by kernel_rfl) (by kernel_rfl) (by kernel_rfl) (by kernel_rfl) (fun _ _ _ h => h) rfl rfl ?hy (by first | assumption | go_simp) ?_
    case hy => (intro w' hSw; (try dsimp only at hSw); go_simp <;> (first | with_reducible rfl | omega | skip))
    simp only [Act.put, List.setIfInBounds_toArray, List.set_cons_zero, List.set_cons_succ]
    refine wpAnyE_one (i := 1) (by kernel_rfl) rfl rfl ?_
    go_simp
    have hwA : Below w3.heap.size w3 (w3.alloc (.cells #[] 31)).drew := ((Below.refl _ _).alloc (Nat.le_refl _) _).drew
    have hEA : Lies (w3.alloc (.cells #[] 31)).drew w3.heap.size #[] 31 := Lies.new w3 _ _
    have hzA : (w3.alloc (.cells #[] 31)).drew.heap.size = w3.heap.size + 1 := by simp [World.drew]
    have SA : (w3.alloc (.cells #[] 31)).cell? ⟨b, 0, none⟩ = some (.slice (some ⟨g0, 0, none⟩) L.length c) := (hG3.below hwA).lies.cell 0
    refine ⟨SA, ?_⟩
    generalize (w3.alloc (.cells #[] 31)).drew = wA at *
    have hGA : Gh wA b L (.slice (some ⟨g0, 0, none⟩) L.length c) := hG3.below hwA
    have hRA := hR3.below hwA hR3.lt
    have hVA := hV3.below hwA hV3.lt
    have hV3l := hV3.lt
    have hbelA : Below w.heap.size w wA := hbel3.trans (hwA.mono hbel3.size)
    have hli := HLI.out
    refine wpAnyE_one (i := 8) (by kernel_rfl) rfl rfl ?_
    refine wp_append_seg celG_length (by decide) oneG _ _ 57 rfl Try.underlying57 _ 16 infoG7 rfl (.slice (some ⟨w3.heap.size, 0, none⟩) 0 0) [] rfl (Ow.made0 celG 31 2 wA w3.heap.size hEA) g0 0 j c (L.take j) (by rw [List.length_take]; omega) rfl (fun i u hu => by have := hGA.own.seg celG_length 0 j i u (by rw [List.drop_zero]; exact hu); rw [Nat.zero_mul] at this; exact this) (by rw [List.length_nil]; omega) (by rw [List.length_nil]; omega) ?_
    intro v8 w8 ho8 hc8 hv8
    rw [List.nil_append] at ho8
    have hv8n : ∀ k, v8.ownBlock = some k → w3.heap.size ≤ k := fun k hk => by
      rcases hv8 with e | e
      · rw [e] at hk; cases hk; exact Nat.le_refl _
      · rw [e] at hk; cases hk; omega
    have hn8 : ∀ k, k < w3.heap.size → ¬ (Value.slice (some ⟨w3.heap.size, 0, none⟩) 0 0).ownBlock = some k := fun k hk e => by have e2 : w3.heap.size = k := Option.some.inj e; omega
    have hGl : ∀ k, Fh b (.slice (some ⟨g0, 0, none⟩) L.length c) k → k < w3.heap.size := hG3.lt
    have hG8 : Gh w8 b L (.slice (some ⟨g0, 0, none⟩) L.length c) := hGA.chg hc8 (fun k hk => hn8 k (hGl k hk))
    have hR8 := hc8.lies hRA (hn8 _ hR3.lt)
    have hV8 := hc8.lies hVA (hn8 _ hV3l)
    have hCA : Chg (Fh b (.slice (some ⟨g0, 0, none⟩) L.length c)) w w8 := (Chg.of_below hbelA).then hc8 (fun k hk => .inr (by have e2 : w3.heap.size = k := Option.some.inj hk; omega))
    have d1 : w8.cell? ⟨b, 0, none⟩ = some (.slice (some ⟨g0, 0, none⟩) L.length c) := hG8.lies.cell 0
    have hz8 : w3.heap.size ≤ w8.heap.size := by have := hc8.size; omega
    refine ⟨.inr d1, ?_⟩
    simp only [Act.put, List.setIfInBounds_toArray]
    refine wpAnyE_one (i := 16) (by kernel_rfl) rfl rfl ?_
    refine wp_append_seg celG_length (by decide) oneG _ _ 57 rfl Try.underlying57 _ 16 infoG7 rfl v8 (L.take j) rfl ho8 g0 A (L.length - (j + 1)) (c - (j + 1)) (L.drop (j + 1)) (by rw [List.length_drop]) rfl (fun i u hu => by
      by_cases e : c = j + 1
      · rw [List.drop_eq_nil_of_le (by omega)] at hu; simp at hu
      · have := hG8.own.seg celG_length (j + 1) (L.length - (j + 1)) i u (by rw [List.take_of_length_le (by rw [List.length_drop]; exact Nat.le_refl _)]; exact hu)
        rw [HA.out, if_neg e]
        exact this) (by rw [List.length_take]; omega) (by rw [List.length_take]; omega) ?_
    intro v16 w16 ho16 hc16 hv16
    obtain ⟨a16, c16, rfl, _⟩ := ho16.shape
    generalize hN16 : (L.take j ++ L.drop (j + 1)).length = n16 at *
    have hv16n : ∀ k, (Value.slice a16 n16 c16).ownBlock = some k → w3.heap.size ≤ k := fun k hk => by
      rcases hv16 with e | e
      · rw [e] at hk; exact hv8n k hk
      · rw [e] at hk; cases hk; exact hz8
    have hn16 : ∀ k, k < w3.heap.size → ¬ v8.ownBlock = some k := fun k hk e => by have := hv8n k e; omega
    have hL16 : Lies w16 b #[.slice (some ⟨g0, 0, none⟩) L.length c] 86 := hc16.lies hG8.lies (hn16 b (hGl b (.inl rfl)))
    have hR16 := hc16.lies hR8 (hn16 _ hR3.lt)
    have hV16 := hc16.lies hV8 (hn16 _ hV3l)
    have hC16 : Chg (Fh b (.slice (some ⟨g0, 0, none⟩) L.length c)) w w16 := hCA.then hc16 (fun k hk => .inr (by have := hv8n k hk; omega))
    have f1 : w16.cell? ⟨b, 0, none⟩ = some (.slice (some ⟨g0, 0, none⟩) L.length c) := hL16.cell 0
    have zf := hL16.frozen 0
    have y0 : w16.cell? ⟨w.heap.size, 0, none⟩ = some (.int .i64 0) := hR16.cell 0
    have y1 : w16.cell? ⟨w.heap.size, 1, none⟩ = some (.int .i64 0) := hR16.cell 1
    have z0 := hR16.frozen 0
    have z1 := hR16.frozen 1
    have k0 : w16.cell? ⟨V, 0, none⟩ = some (.int .i64 x.1) := hV16.cell 0
    have k1 : w16.cell? ⟨V, 1, none⟩ = some (.int .i64 x.2) := hV16.cell 1
    have hVb : V ≠ b := by omega
    have hbV : b ≠ V := by omega
    have hVR : V ≠ w.heap.size := by omega
    have hRV : w.heap.size ≠ V := by omega
    have HF : Hid (Lies (((w16.setCell ⟨b, 0, none⟩ (.slice a16 n16 c16)).setCell ⟨w.heap.size, 0, none⟩ (.int .i64 x.1)).setCell ⟨w.heap.size, 1, none⟩ (.int .i64 x.2)) w.heap.size #[.int .i64 x.1, .int .i64 x.2] 31 ∧ Gh (((w16.setCell ⟨b, 0, none⟩ (.slice a16 n16 c16)).setCell ⟨w.heap.size, 0, none⟩ (.int .i64 x.1)).setCell ⟨w.heap.size, 1, none⟩ (.int .i64 x.2)) b (L.take j ++ L.drop (j + 1)) (.slice a16 n16 c16) ∧ Chg (Fh b (.slice (some ⟨g0, 0, none⟩) L.length c)) w (((w16.setCell ⟨b, 0, none⟩ (.slice a16 n16 c16)).setCell ⟨w.heap.size, 0, none⟩ (.int .i64 x.1)).setCell ⟨w.heap.size, 1, none⟩ (.int .i64 x.2)) ∧ (∀ k, (Value.slice a16 n16 c16).ownBlock = some k → (Value.slice (some ⟨g0, 0, none⟩) L.length c).ownBlock = some k ∨ w.heap.size ≤ k)) := by
      refine ⟨((hR16.set_other (a := ⟨b, 0, none⟩) hne5 _).set 0 _).set 1 _, ⟨((hL16.set 0 _).set_other (a := ⟨w.heap.size, 0, none⟩) hne6 _).set_other (a := ⟨w.heap.size, 1, none⟩) hne6 _, ho16.keep (fun k hk => ?_)⟩, ((hC16.set (.inl (.inl rfl)) _).set (.inr (Nat.le_refl _)) _).set (.inr (Nat.le_refl _)) _, fun k hk => .inr (by have := hv16n k hk; omega)⟩
      have := hv16n k hk
      exact (Below.heap_setCell _ _ _ _ (by simp; omega)).trans ((Below.heap_setCell _ _ _ _ (by simp; omega)).trans (Below.heap_setCell _ _ _ _ (by simp; omega)))
    clear hHeld hEA hzA SA hwA hGA hRA hVA hbelA hli ho8 hc8 hv8 hv8n hn8 hGl hG8 hR8 hV8 hCA ho16 hc16 hv16 hN16 hv16n hn16 hL16 hR16 hV16 hC16 hz8 hV3l d1 hG3 hR3 hV3 hbel3 c3 HLT HX HJ HCP HLI HA hA
    refine ⟨.inr f1, ?_⟩
    simp only [Act.put]
    refine wpAnyE_one (i := 17) (by kernel_rfl) rfl rfl ?_
    go_simp
    refine wpAnyE_one (i := 18) (by kernel_rfl) rfl rfl ?_
    go_simp
    refine wpAnyE_one (i := 19) (by kernel_rfl) rfl rfl ?_
    go_simp
    refine wpAnyE_done (by kernel_rfl) ?_ _
    go_wp2
    exact ret_cell rfl w.heap.size 31 #[.int .i64 x.1, .int .i64 x.2] (0, 0) _ (.bool true) rfl rfl HF.out.1 Try.underlying31 rfl sizeT ⟨rfl, _, HF.out.2.1, HF.out.2.2.1, HF.out.2.2.2⟩
end Go.Proofs.Ytgbbjhhggjocmaa
