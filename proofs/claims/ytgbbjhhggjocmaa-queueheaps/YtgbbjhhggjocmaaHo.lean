/-
  The least of a heap taken.
-/
import Derived.Test.YtgbbjhhggjocmaaHu
namespace Go.Proofs.Ytgbbjhhggjocmaa
open Go.RowKit

theorem Hid.intro7 {p : Prop} (h : p) : Hid p := h
theorem wpList_clear_cells {α : Type} {cel : α → List Value} {k : Nat} (hk : ∀ x, (cel x).length = k) (hk0 : 0 < k) (h1 : ∀ x, ∀ v ∈ cel x, v.oneCell' = true) (z : α) {P : Program} {ops : Array Oper} {rest : List Oper} {op : Oper} {a : Act} {w : World} {Q : Exit → Act → World → Prop} (hgd : op.guard = none) (s : Operand) (dT elem : TypeId)
    (ho : op.op = .call { callee := .builtin .clear, args := #[s], argTypes := #[dT] }) (hu : P.underlying dT = some (.slice elem)) (zv : Value) (hz : ∀ w, (zeroValue elem).run P w = .ok zv w) (hzc : zv.cells = (cel z).toArray)
    (G off cap : Nat) (hs : a.eval s = .slice (some ⟨G, off, none⟩) 1 cap) (ht : w.there G off k)
    (h : wpList P ops Q rest (a.put op.dst (.tuple #[])) (w.setCells G off (cel z))) : wpList P ops Q (op :: rest) a w := by
  refine wpList_plain hgd fun K hK => ?_
  have hst := run_storeCells_cells (P := P) G off (cel z) 0 w (fun j hj => (ht j (by rw [← hk z]; exact hj)).1) (fun j hj => (ht j (by rw [← hk z]; exact hj)).2) (h1 z)
  simp only [Nat.add_zero] at hst
  have hzz := zero_flat hk hk0 z 1
  simp only [List.replicate_one, List.flatMap_cons, List.flatMap_nil, List.append_nil] at hzz
  have hrun : (Builtin.clear_ #[dT] op.type #[.slice (some ⟨G, off, none⟩) 1 cap]).run P w = .ok (.tuple #[]) (w.setCells G off (cel z)) := by
    simp [Builtin.clear_, run_underlying hu, hz, hzc, hzz, hst]
  unfold Oper.wp
  simp [execOp, ho, resolve, invoke, builtin, hs, hrun, Result.andThen]
  exact hK _ _ h
theorem Ow.take {α : Type} {cel : α → List Value} {t k : Nat} (hk : ∀ x, (cel x).length = k) {w : World} {g n c : Nat} {l : List α} (h : Ow cel t k w (.slice (some ⟨g, 0, none⟩) n c) l) (m : Nat) (hm : m ≤ l.length) : Ow cel t k w (.slice (some ⟨g, 0, none⟩) m c) (l.take m) := by
  obtain ⟨h1, ⟨h2, _⟩ | ⟨g', cap, cur, h2, h3, h4, h5, h6, h7, h8⟩⟩ := h
  · cases h2
  · cases h2
    have hl : (l.take m).length = m := by rw [List.length_take]; omega
    refine ⟨by rw [flat_length hk], .inr ⟨g, c, cur, by rw [hl], h3, h4, by rw [hl]; omega, h6, h7, ?_⟩⟩
    rw [hl, flat_take hk, ← h8, List.take_take, Nat.min_eq_left (Nat.mul_le_mul_right _ hm)]
theorem Hp.there {w : World} {b cf : Nat} {L : List En} {np g n c : Nat} (h : Hp w b cf L np (.slice (some ⟨g, 0, none⟩) n c)) (k : Nat) (hk : k < L.length) : w.there g (k * 3) 3 := fun q hq => by
  obtain ⟨_, _, e, _, r0, r1, r2⟩ := h.at k hk
  cases e
  refine ⟨?_, h.own.frozen _⟩
  match q, hq with
  | 0, _ => rw [Nat.add_zero, r0]; rfl
  | 1, _ => rw [r1]; rfl
  | 2, _ => rw [r2]; rfl
theorem take_set_last (L : List En) (z : En) : ((L.set 0 (eA L (L.length - 1))).set (L.length - 1) z).take (L.length - 1) = popL L := by
  unfold popL
  rw [List.take_set_of_le (Nat.le_refl _)]
set_option maxRecDepth 20000 in
set_option maxHeartbeats 4000000 in
theorem hpop_any (b cf : Nat) (kk : Bool) (L : List En) (np : Nat) (v : Value) (w : World) (h : Hm w b cf kk L np v) :
    Calls Try.prog 27 #[.pointer (some ⟨b, 0, none⟩)] w fun e w' => e = .returned (.tuple #[topV L, .bool (!L.isEmpty)]) ∧ ∃ L' v', Hm w' b cf kk L' np v' ∧ (L = [] → L' = []) ∧ (L ≠ [] → (eA L 0 :: L').Perm L) ∧ Chg (Fh b v) w w' ∧ v'.ownBlock = v.ownBlock := by
  obtain ⟨w1, hw1⟩ : ∃ w1, w1 = w.alloc (.cells #[.int .i64 0, .int .i64 0] 31) := ⟨_, rfl⟩
  have hb1 : Below w.heap.size w w1 := by subst hw1; exact (Below.refl _ w).alloc (Nat.le_refl _) _
  have hL1 : Lies w1 w.heap.size #[.int .i64 0, .int .i64 0] 31 := by subst hw1; exact Lies.new w _ _
  have hpk := hpeek_any b cf L np v w1 (h.hp.below hb1)
  obtain ⟨x, hx⟩ : ∃ x : Int × Int, x = if L = [] then (0, 0) else (eA L 0).1 := ⟨_, rfl⟩
  have htop : topV L = .agg #[.int .i64 x.1, .int .i64 x.2] := by unfold topV vTh; rw [← hx]
  rw [htop] at hpk ⊢
  have HLT : Hid (∀ k, Fh b v k → k < w.heap.size) := h.hp.lt
  have HW1 : Hid (w1 = w.alloc (.cells #[.int .i64 0, .int .i64 0] 31)) := hw1
  have HB1 : Hid (Below w.heap.size w w1) := hb1
  have HL1 : Hid (Lies w1 w.heap.size #[.int .i64 0, .int .i64 0] 31) := hL1
  have HH : Hid (Hm w b cf kk L np v) := h
  have HX : Hid (x = if L = [] then (0, 0) else (eA L 0).1) := hx
  clear h hw1 hb1 hL1 htop hx
  generalize hbb : (!L.isEmpty) = bb at *
  have HBB : Hid ((!L.isEmpty) = bb) := hbb
  clear hbb
  go_enter Try.func27, Try.ntmps27
  go_wp2_with (go_at_call 29; rw [← HW1.out]; refine hpk.mono ?_; clear hpk HW1; rintro e w2 ⟨rfl, HB2⟩; apply Hid.out)
  unfold Hid
  obtain ⟨V, hV⟩ : ∃ V, V = w2.heap.size := ⟨_, rfl⟩
  obtain ⟨w3, hw3⟩ : ∃ w3, w3 = w2.alloc (.cells #[.int .i64 x.1, .int .i64 x.2] 31) := ⟨_, rfl⟩
  have HB2' : Below w.heap.size w w2 := HB1.out.trans (HB2.mono HB1.out.size)
  have HV : Hid (w.heap.size < V) := by
    have h1 := HL1.out.lt
    have h2 := HB2.size
    unfold Hid
    omega
  have HB3 : Hid (Below w.heap.size w w3) := by rw [hw3]; exact HB2'.alloc HB2'.size _
  have HLV : Hid (Lies w3 V #[.int .i64 x.1, .int .i64 x.2] 31) := by rw [hw3, hV]; exact Lies.new w2 _ _
  have HLB : Hid (Lies w3 w.heap.size #[.int .i64 0, .int .i64 0] 31) := by rw [hw3]; exact (HL1.out.below HB2 HL1.out.lt).alloc _
  have HW3 : Hid (w2.alloc (.cells #[.int .i64 x.1, .int .i64 x.2] 31) = w3) := hw3.symm
  have HVV : Hid (w2.heap.size = V) := hV.symm
  clear hw3 hV HB2 HB2' HB1 HL1
  have HH3 : Hid (Hm w3 b cf kk L np v) := HH.out.below HB3.out
  by_cases hL : L = []
  · subst hL
    obtain rfl : bb = false := HBB.out.symm
    obtain rfl : x = (0, 0) := HX.out
    have y0 : (w2.alloc (.cells #[.int .i64 0, .int .i64 0] 31)).cell? ⟨w.heap.size, 0, none⟩ = some (.int .i64 0) := by rw [HW3.out]; exact HLB.out.cell 0
    have y1 : (w2.alloc (.cells #[.int .i64 0, .int .i64 0] 31)).cell? ⟨w.heap.size, 1, none⟩ = some (.int .i64 0) := by rw [HW3.out]; exact HLB.out.cell 1
    have z0 : (w2.alloc (.cells #[.int .i64 0, .int .i64 0] 31)).frozen? ⟨w.heap.size, 0, none⟩ = false := by rw [HW3.out]; exact HLB.out.frozen 0
    have z1 : (w2.alloc (.cells #[.int .i64 0, .int .i64 0] 31)).frozen? ⟨w.heap.size, 1, none⟩ = false := by rw [HW3.out]; exact HLB.out.frozen 1
    have HFW : Hid (Lies (((w2.alloc (.cells #[.int .i64 0, .int .i64 0] 31)).setCell ⟨w.heap.size, 0, none⟩ (.int .i64 0)).setCell ⟨w.heap.size, 1, none⟩ (.int .i64 0)) w.heap.size #[.int .i64 0, .int .i64 0] 31 ∧ Below w.heap.size w (((w2.alloc (.cells #[.int .i64 0, .int .i64 0] 31)).setCell ⟨w.heap.size, 0, none⟩ (.int .i64 0)).setCell ⟨w.heap.size, 1, none⟩ (.int .i64 0))) := by rw [HW3.out]; exact ⟨(HLB.out.set 0 _).set 1 _, (HB3.out.setCell (p := ⟨w.heap.size, 0, none⟩) (Nat.le_refl _) _).setCell (p := ⟨w.heap.size, 1, none⟩) (Nat.le_refl _) _⟩
    go_wp2
    exact ret_cell rfl w.heap.size 31 #[.int .i64 0, .int .i64 0] (0, 0) _ (.bool false) rfl rfl HFW.out.1 Try.underlying31 rfl sizeT ⟨rfl, [], v, HH.out.below HFW.out.2, rfl, Chg.of_below HFW.out.2, rfl⟩
  · have hlen : 0 < L.length := List.length_pos_iff.2 hL
    obtain rfl : bb = true := by rw [← HBB.out]; cases L with | nil => exact absurd rfl hL | cons _ _ => rfl
    obtain ⟨g, c, rfl, hgb, k0, k1, k2⟩ := HH3.out.hp.at (L.length - 1) (by omega)
    obtain ⟨l, hl⟩ : ∃ l, L.length = l + 1 := ⟨L.length - 1, by omega⟩
    have HN : Hid (L.length = l + 1) := hl
    have hl2 : L.length - 1 = l := by omega
    rw [hl2] at k0 k1 k2
    rw [hl] at HH3 HLT HH
    have hcap := (HH3.out.hp.own.cap).2
    have c1 := HH3.out.hp.cells.2.1
    have hHg : ∀ k, Fh b (.slice (some ⟨g, 0, none⟩) (l + 1) c) k → k < w.heap.size := HLT.out
    have hgl := hHg g (.inr rfl)
    have hbl := hHg b (.inl rfl)
    have c1a : (w2.alloc (.cells #[.int .i64 x.1, .int .i64 x.2] 31)).cell? ⟨b, 1, none⟩ = some (.slice (some ⟨g, 0, none⟩) (l + 1) c) := by rw [HW3.out]; exact c1
    obtain ⟨y, hy⟩ : ∃ y, y = eA L l := ⟨_, rfl⟩
    rw [← hy] at k0 k1 k2
    obtain ⟨h4, q4⟩ := (HH3.out.hp.below (below_drewN w3 1)).put 0 hlen y
    obtain ⟨w4, hw4⟩ : ∃ w4, w4 = (w3.drew).setCells g 0 (celE y) := ⟨_, rfl⟩
    have h4' : Hp w4 b cf (L.set 0 y) np (.slice (some ⟨g, 0, none⟩) (l + 1) c) := by rw [hw4]; rw [putE_sets, Nat.zero_mul] at h4; exact h4
    have q4' : Chg (· = g) w3 w4 := by rw [hw4]; exact Chg.sets (F := (· = g)) (.inl rfl) _ _ _ (Chg.refl _ _).drew
    have hl4 : (L.set 0 y).length = l + 1 := by rw [List.length_set, hl]
    obtain ⟨h5, q5⟩ := h4'.put l (by rw [hl4]; omega) ((0, 0), 0)
    obtain ⟨w5, hw5⟩ : ∃ w5, w5 = w4.setCells g (l * 3) (celE ((0, 0), 0)) := ⟨_, rfl⟩
    rw [putE_sets, ← hw5] at h5 q5
    have hpop : ((L.set 0 y).set l ((0, 0), 0)).take l = popL L := by have := take_set_last L ((0, 0), 0); rw [hl2, ← hy] at this; exact this
    have hpl : (popL L).length = l := by rw [popL_length, hl2]
    have h6 : Hp (w5.setCell ⟨b, 1, none⟩ (.slice (some ⟨g, 0, none⟩) l c)) b cf (popL L) np (.slice (some ⟨g, 0, none⟩) l c) := ⟨h5.lies.set 1 _, by
      rw [← hpop]
      exact (h5.own.take celE_length l (by rw [List.length_set, hl4]; omega)).keep (fun k hk => by
        obtain rfl : g = k := Option.some.inj hk
        exact Below.heap_setCell _ _ _ _ hgb)⟩
    have HC6 : Hid (Chg (Fh b (.slice (some ⟨g, 0, none⟩) (l + 1) c)) w3 (w5.setCell ⟨b, 1, none⟩ (.slice (some ⟨g, 0, none⟩) l c))) := ((q4'.trans q5).mono (fun k e => .inr (by rw [e]; rfl))).set (.inl (.inl rfl)) _
    have HSK : Hid (Calls Try.prog 56 #[.pointer (some ⟨b, 0, none⟩), .int .i64 0] (w5.setCell ⟨b, 1, none⟩ (.slice (some ⟨g, 0, none⟩) l c)) fun e w' => e = .returned (.tuple #[]) ∧ ∃ L', Hp w' b cf L' np (.slice (some ⟨g, 0, none⟩) l c) ∧ Hq kk L' ∧ L'.Perm (popL L) ∧ Chg (Fh b (.slice (some ⟨g, 0, none⟩) (l + 1) c)) w3 w') := by
      have := sink_any b cf kk (popL L) np g c _ (by rw [hpl]; exact h6) HH3.out.cmp HH3.out.hq.popped (by rw [hpl]; have := HH3.out.lid; omega)
      rw [hpl] at this
      exact this.mono (fun e w' hh => by obtain ⟨r1, L', r2, r3, r4, r5⟩ := hh; exact ⟨r1, L', r2, r3, r4, HC6.out.trans (r5.mono (fun k e => .inr (by rw [e]; rfl)))⟩)
    have c4 : w4.cell? ⟨b, 1, none⟩ = some (.slice (some ⟨g, 0, none⟩) (l + 1) c) := h4'.cells.2.1
    have c5 : w5.cell? ⟨b, 1, none⟩ = some (.slice (some ⟨g, 0, none⟩) (l + 1) c) := h5.cells.2.1
    have z5 := h5.lies.frozen 1
    have HC5 : Hid (w5.cell? ⟨b, 1, none⟩ = some (.slice (some ⟨g, 0, none⟩) (l + 1) c) ∧ w5.frozen? ⟨b, 1, none⟩ = false) := ⟨c5, z5⟩
    have HC4 : Hid (w4.cell? ⟨b, 1, none⟩ = some (.slice (some ⟨g, 0, none⟩) (l + 1) c)) := c4
    have HT3 : Hid ((w3.drew).there g 0 3) := by have := (HH3.out.hp.below (below_drewN w3 1)).there 0 hlen; rw [Nat.zero_mul] at this; exact this
    have HT4 : Hid (w4.there g (l * 3) 3) := h4'.there l (by rw [hl4]; omega)
    have HW4 : Hid ((w3.drew).setCells g 0 (celE y) = w4) := hw4.symm
    have HW5 : Hid (w4.setCells g (l * 3) (celE ((0, 0), 0)) = w5) := hw5.symm
    have HFIN : Hid (∀ w7 L', Hp w7 b cf L' np (.slice (some ⟨g, 0, none⟩) l c) → Hq kk L' → L'.Perm (popL L) → Chg (Fh b (.slice (some ⟨g, 0, none⟩) (l + 1) c)) w3 w7 →
        (Lies w7 V #[.int .i64 x.1, .int .i64 x.2] 31 ∧ Lies w7 w.heap.size #[.int .i64 0, .int .i64 0] 31) ∧
        Lies ((w7.setCell ⟨w.heap.size, 0, none⟩ (.int .i64 x.1)).setCell ⟨w.heap.size, 1, none⟩ (.int .i64 x.2)) w.heap.size #[.int .i64 x.1, .int .i64 x.2] 31 ∧
        (Hm ((w7.setCell ⟨w.heap.size, 0, none⟩ (.int .i64 x.1)).setCell ⟨w.heap.size, 1, none⟩ (.int .i64 x.2)) b cf kk L' np (.slice (some ⟨g, 0, none⟩) l c) ∧ (eA L 0 :: L').Perm L ∧ Chg (Fh b (.slice (some ⟨g, 0, none⟩) (l + 1) c)) w ((w7.setCell ⟨w.heap.size, 0, none⟩ (.int .i64 x.1)).setCell ⟨w.heap.size, 1, none⟩ (.int .i64 x.2)))) := fun w7 L' r1 r2 r3 r4 => by
      have hV := HV.out
      have a1 : Lies w7 V #[.int .i64 x.1, .int .i64 x.2] 31 := r4.lies HLV.out (fun hk => by have := hHg _ hk; omega)
      have a2 : Lies w7 w.heap.size #[.int .i64 0, .int .i64 0] 31 := r4.lies HLB.out (fun hk => by have := hHg _ hk; omega)
      refine ⟨⟨a1, a2⟩, (a2.set 0 _).set 1 _, ⟨r1.keep (fun k hk => ?_), r2, HH3.out.cmp, ?_, HH3.out.num⟩, (List.Perm.cons _ r3).trans (popL_perm hlen), (((Chg.of_below HB3.out).trans r4).set (.inr (Nat.le_refl _)) _).set (.inr (Nat.le_refl _)) _⟩
      · have hk2 : k < w.heap.size := by
          rcases hk with rfl | hk
          · exact hbl
          · obtain rfl : g = k := Option.some.inj hk
            exact hgl
        exact (Below.heap_setCell _ _ _ _ (by simp; omega)).trans (Below.heap_setCell _ _ _ _ (by simp; omega))
      · rw [r3.length_eq, hpl]
        have := HH3.out.lid
        omega
    have hcl : l < c := by omega
    have hcl2 : ¬ c = l := by omega
    have hlid : l + 1 ≤ 1048576 := by have := HH3.out.lid; omega
    clear h4 q4 h4' q4' h5 q5 h6 hw4 hw5 hpop hpl c4 c5 z5 HC6 hHg hgl hbl hl hl2 hl4 hy hlen hcap HH HH3 HLT
    have hlw : IntKind.i64.wrap ((l : Int) + 1 - 1) = (l : Int) := by rw [IntKind.wrap_i64]; omega
    go_wp2_with fail
    rw [HVV.out, HW3.out]
    clear c1a HVV HW3
    refine wp_region_late (fun wx => wx.cell? ⟨b, 1, none⟩ = some (.slice (some ⟨g, 0, none⟩) (l + 1) c)) 13 (by kernel_rfl) c1 (fun hHeld => ?_)
    refine wpAnyE_tk (i := 0) (d := some 21) (v := ?_) rfl (by kernel_rfl) (by kernel_rfl) (by kernel_rfl) rfl (fun _ _ _ h => h) rfl rfl ?hy (by first | assumption | go_simp) ?_
    case hy => (intro w' hSw; (try dsimp only at hSw); go_simp <;> (first | with_reducible rfl | omega | skip))
    simp only [Act.put, List.setIfInBounds_toArray, List.set_cons_zero, List.set_cons_succ]
    refine wpAnyE_tk (i := 1) (d := some 22) (v := ?_) rfl (by kernel_rfl) (by kernel_rfl) (by kernel_rfl) rfl (fun _ _ _ h => h) rfl rfl ?hy (by first | assumption | go_simp) ?_
    case hy => (intro w' hSw; (try dsimp only at hSw); go_simp <;> (first | with_reducible rfl | omega | skip))
    simp only [Act.put, List.setIfInBounds_toArray, List.set_cons_zero, List.set_cons_succ]
    refine wpAnyE_tk (i := 2) (d := some 23) (v := ?_) rfl (by kernel_rfl) (by kernel_rfl) (by kernel_rfl) rfl (fun _ _ _ h => h) rfl rfl ?hy (by first | assumption | go_simp) ?_
    case hy => (intro w' hSw; (try dsimp only at hSw); go_simp <;> (first | with_reducible rfl | omega | skip))
    simp only [Act.put, List.setIfInBounds_toArray, List.set_cons_zero, List.set_cons_succ]
    refine wpAnyE_tk (i := 3) (d := some 24) (v := ?_) rfl (by kernel_rfl) (by kernel_rfl) (by kernel_rfl) rfl (fun _ _ _ h => h) rfl rfl ?hy (by first | assumption | go_simp) ?_
    case hy => (intro w' hSw; (try dsimp only at hSw); go_simp <;> (first | with_reducible rfl | omega | skip))
    simp only [Act.put, List.setIfInBounds_toArray, List.set_cons_zero, List.set_cons_succ]
    refine wpAnyE_tk (i := 4) (d := some 25) (v := ?_) rfl (by kernel_rfl) (by kernel_rfl) (by kernel_rfl) rfl (fun _ _ _ h => h) rfl rfl ?hy (by first | assumption | go_simp) ?_
    case hy => (intro w' hSw; (try dsimp only at hSw); go_simp <;> (first | with_reducible rfl | omega | skip))
    simp only [Act.put, List.setIfInBounds_toArray, List.set_cons_zero, List.set_cons_succ]
    refine wpAnyE_tk (i := 5) (d := some 26) (v := ?_) rfl (by kernel_rfl) (by kernel_rfl) (by kernel_rfl) rfl (fun _ _ _ h => h) rfl rfl ?hy (by first | assumption | go_simp) ?_
    case hy => (intro w' hSw; (try dsimp only at hSw); go_simp <;> (first | with_reducible rfl | omega | skip))
    simp only [Act.put, List.setIfInBounds_toArray, List.set_cons_zero, List.set_cons_succ]
    refine wpAnyE_tk (i := 6) (d := some 27) (v := ?_) rfl (by kernel_rfl) (by kernel_rfl) (by kernel_rfl) rfl (fun _ _ _ h => h) rfl rfl ?hy (by first | assumption | go_simp) ?_
    case hy => (intro w' hSw; (try dsimp only at hSw); go_simp <;> (first | with_reducible rfl | omega | skip))
    simp only [Act.put, List.setIfInBounds_toArray, List.set_cons_zero, List.set_cons_succ]
    refine wpAnyE_tk (i := 7) (d := some 28) (v := ?_) rfl (by kernel_rfl) (by kernel_rfl) (by kernel_rfl) rfl (fun _ _ _ h => h) rfl rfl ?hy (by first | assumption | go_simp) ?_
    case hy => (intro w' hSw; (try dsimp only at hSw); go_simp <;> (first | with_reducible rfl | omega | skip))
    simp only [Act.put, List.setIfInBounds_toArray, List.set_cons_zero, List.set_cons_succ]
    refine wpAnyE_tk (i := 8) (d := some 29) (v := ?_) rfl (by kernel_rfl) (by kernel_rfl) (by kernel_rfl) rfl (fun _ _ _ h => h) rfl rfl ?hy (by first | assumption | go_simp) ?_
    case hy => (intro w' hSw; (try dsimp only at hSw); go_simp <;> (first | with_reducible rfl | omega | skip))
    simp only [Act.put, List.setIfInBounds_toArray, List.set_cons_zero, List.set_cons_succ]
    refine wpAnyE_tk (i := 9) (d := some 30) (v := .pointer (some ⟨g, l * 3, none⟩)) rfl (by kernel_rfl) (by kernel_rfl) (by kernel_rfl) rfl (fun _ _ _ h => h) rfl rfl ?hy (by first | assumption | go_simp) ?_
    case hy => (intro w' hSw; (try dsimp only at hSw); go_simp <;> (first | with_reducible rfl | omega | skip))
    simp only [Act.put, List.setIfInBounds_toArray, List.set_cons_zero, List.set_cons_succ]
    refine wpAnyE_on (i := 10) (by kernel_rfl) rfl rfl ?_
    go_simp
    refine wpAnyE_tk (i := 11) (d := some 32) (v := .pointer (some ⟨g, 0, none⟩)) rfl (by kernel_rfl) (by kernel_rfl) (by kernel_rfl) rfl (fun _ _ _ h => h) rfl rfl ?hy (by first | assumption | go_simp) ?_
    case hy => (intro w' hSw; (try dsimp only at hSw); go_simp <;> (first | with_reducible rfl | omega | skip))
    simp only [Act.put, List.setIfInBounds_toArray, List.set_cons_zero, List.set_cons_succ]
    refine wpAnyE_on (i := 12) (by kernel_rfl) rfl rfl ?_
    refine wp_store_mid 88 _ _ rfl g 0 #[.int .i64 y.1.1, .int .i64 y.1.2, .int .u64 (y.2 : Int)] rfl rfl HT3.out sizeE (all_oneCell_toArray (oneE y)) ?_
    have hW4 : (w3.drew).setCells g 0 (#[Value.int .i64 y.1.1, .int .i64 y.1.2, .int .u64 (y.2 : Int)] : Array Value).toList = w4 := HW4.out
    rw [hW4]
    refine ⟨.inr HC4.out, ?_⟩
    refine wpAnyE_done (by kernel_rfl) ?_ _
    clear hHeld k0 k1 k2 c1 hW4 HW4 HT3
    have c4 := HC4.out
    go_wp2_with (first
      | (go_at_call 56; refine HSK.out.mono ?_; clear HSK; rintro e w7 ⟨rfl, L', r1, r2, r3, r4⟩; obtain ⟨⟨s1, s2⟩, s3, s4⟩ := HFIN.out w7 L' r1 r2 r3 r4; have v0 := s1.cell 0; have v1 := s1.cell 1; have b0 := s2.cell 0; have b1 := s2.cell 1; have y0 := s2.frozen 0; have y1 := s2.frozen 1; simp only [List.getElem?_toArray, List.getElem?_cons_zero, List.getElem?_cons_succ] at v0 v1 b0 b1; have HS3 := Hid.intro7 s3; have HS4 := Hid.intro7 s4; clear r1 r2 r3 r4 s1 s2 s3 s4 HFIN)
      | (refine wpList_clear_cells celE_length (by decide) oneE ((0, 0), 0) rfl _ 81 88 rfl Try.underlying81 _ zeroE_run rfl g (l * 3) (c - l) rfl HT4.out ?_; rw [HW5.out]; clear HT4 HW5 c4 HC4; obtain ⟨c5, z5⟩ := HC5.out; clear HC5))
    exact ret_cell rfl w.heap.size 31 #[.int .i64 x.1, .int .i64 x.2] (0, 0) _ (.bool true) rfl rfl HS3.out Try.underlying31 rfl sizeT ⟨rfl, L', _, HS4.out.1, fun e => absurd e hL, fun _ => HS4.out.2.1, HS4.out.2.2, rfl⟩
end Go.Proofs.Ytgbbjhhggjocmaa
