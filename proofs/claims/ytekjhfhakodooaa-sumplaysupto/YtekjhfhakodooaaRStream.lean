/-
  The document's stream: New, Write, Sum, Reset; and which of the five a number means.
-/
import Derived.Test.YtekjhfhakodooaaOverPure
import Derived.Laws.AppendOwnNone
import Derived.Test.YtekjhfhakodooaaMoves
namespace Go.Proofs.Ytekjhfhakodooaa
open Go.RowKit

/-- A stream of the document's, as a value. -/
def rv (is : Bool) (b : Value) : Value := .agg #[.bool is, b]

theorem slot_any (i : Int) (w : World) : Calls Try.prog 19 #[.int .i64 i] w fun e w' => (∃ j : Nat, j < 5 ∧ e = .returned (.int .i64 (j : Int))) ∧ w' = w := by
  go_enter Try.func19, Try.ntmps19
  go_wp2
  go_ret
  refine ⟨?_, rfl⟩
  have hu : 0 ≤ IntKind.u64.wrap i := by rw [IntKind.wrap_u64]; omega
  generalize IntKind.u64.wrap i = u at hu
  have t0 : 0 ≤ u.tmod 5 := Int.tmod_nonneg _ hu
  have t1 : u.tmod 5 < 5 := Int.tmod_lt_of_pos _ (by omega)
  generalize u.tmod 5 = t at t0 t1
  obtain ⟨q, rfl⟩ := Int.eq_ofNat_of_zero_le t0
  have hw : wrap64 (q : Int) = (q : Int) := by unfold wrap64; omega
  exact ⟨q, by omega, congrArg (fun z => Ending.returned (.int .i64 z)) hw⟩
theorem infoRS : (Try.prog.info? 42).map (·.size) = some 2 := by kernel_rfl
theorem rnew_any (w : World) : Calls Try.prog 18 #[] w fun e w' => e = .returned (rv true (.slice none 0 0)) ∧ Below w.heap.size w w' := by
  go_enter Try.func18, Try.ntmps18
  go_wp2
  refine bodyPost_ret (v := rv true (.slice none 0 0)) ?_ rfl ⟨rfl, (Below.refl _ _).alloc (Nat.le_refl _) _⟩
  exact results_cell_row rfl _ _ _ 42 _ (0, 0) _ rfl (Lies.new w _ _) Try.underlying42 rfl infoRS
theorem rreset_any (is : Bool) (b : Value) (w : World) : Calls Try.prog 26 #[rv is b] w fun e w' => e = .returned (rv is (.slice none 0 0)) ∧ Below w.heap.size w w' := by
  unfold rv
  go_enter Try.func26, Try.ntmps26
  go_wp2
  refine bodyPost_ret (v := .agg #[.bool is, .slice none 0 0]) ?_ rfl ⟨rfl, ((Below.refl _ _).alloc (Nat.le_refl _) _).alloc (by simp) _⟩
  exact results_cell_row rfl _ _ _ 42 _ (0, 0) _ rfl (new_one w _ _ _) Try.underlying42 rfl infoRS
theorem rsum_no (b : Value) (w : World) : Calls Try.prog 23 #[rv false b] w fun e w' => e = .returned (.int .u32 0) ∧ Below w.heap.size w w' := by
  unfold rv
  go_enter Try.func23, Try.ntmps23
  go_wp2
  go_ret
  exact ⟨rfl, (Below.refl _ _).alloc (Nat.le_refl _) _⟩
theorem rsum_any (a : Option Addr) (l : List UInt8) (c : Nat) (w : World) (h : Bts a l w) (hl : l.length ≤ maxLen) : Calls Try.prog 23 #[rv true (.slice a l.length c)] w fun e w' => e = .returned (.int .u32 (more 0#32 l).toNat) ∧ Below w.heap.size w w' := by
  unfold rv
  have HH : Hid (Bts a l w) := h
  clear h
  go_enter Try.func23, Try.ntmps23
  go_wp2_with fail
  refine (rof_any a l c _ (HH.out.below ((Below.refl _ _).alloc (Nat.le_refl _) _)) hl).mono ?_
  rintro e w1 ⟨rfl, hw⟩
  rw [hw]
  clear hw
  go_wp2
  go_ret
  exact ⟨rfl, (Below.refl _ _).alloc (Nat.le_refl _) _⟩
theorem rwrite_no (p : Value) (w : World) : Calls Try.prog 21 #[rv false (.slice none 0 0), p] w fun e w' => e = .returned (rv false (.slice none 0 0)) ∧ Below w.heap.size w w' := by
  unfold rv
  go_enter Try.func21, Try.ntmps21
  go_wp2
  refine bodyPost_ret (v := .agg #[.bool false, .slice none 0 0]) ?_ rfl ⟨rfl, ((Below.refl _ _).alloc (Nat.le_refl _) _).alloc (by simp) _⟩
  exact results_cell_row rfl _ _ _ 42 _ (0, 0) _ rfl (new_one w _ _ _) Try.underlying42 rfl infoRS

theorem sz1 (w : World) (a : Obj) : w.heap.size ≤ (w.alloc a).heap.size := by simp
theorem sz2 (w : World) (a b : Obj) : w.heap.size ≤ ((w.alloc a).alloc b).heap.size := Nat.le_trans (sz1 w a) (sz1 _ b)
theorem sz3 (w : World) (a b c : Obj) : w.heap.size ≤ (((w.alloc a).alloc b).alloc c).heap.size := Nat.le_trans (sz2 w a b) (sz1 _ c)
theorem made3 (w : World) (a b : Obj) : (((w.alloc a).alloc b).alloc (.cells #[] 5)).ownsRow w.heap.size 5 1 (.slice (some ⟨w.heap.size + 1 + 1, 0, none⟩) 0 0) 0 [] := by
  have h := World.ownsRow_made (e := 5) (size := 1) ((w.alloc a).alloc b) #[] 0 (sz2 w a b) (by unfold maxLen; omega) rfl
  have e : ((w.alloc a).alloc b).heap.size = w.heap.size + 1 + 1 := by simp
  rw [e] at h
  exact h
theorem own_keep {w w' : World} {B n : Nat} {v : Value} {xs : List Value} (h : w.ownsRow B 5 1 v n xs) (hb : ∀ k, v.ownBlock = some k → w'.heap[k]? = w.heap[k]?) : w'.ownsRow B 5 1 v n xs := by
  obtain ⟨h1, h2⟩ := h
  refine ⟨h1, ?_⟩
  rcases h2 with h2 | ⟨g, cap, cur, rfl, hB, hg, hr⟩
  · exact .inl h2
  · exact .inr ⟨g, cap, cur, rfl, hB, by rw [hb g rfl]; exact hg, hr⟩
/-- A row of bytes and a block of another kind are apart. -/
theorem own_apart {w : World} {B n g t : Nat} {v : Value} {xs : List Value} {cs : Array Value} (h : w.ownsRow B 5 1 v n xs) (hl : Lies w g cs t) (ht : t ≠ 5) : ∀ k, v.ownBlock = some k → k ≠ g := by
  intro k hk e
  subst e
  rcases h.2 with ⟨rfl, _⟩ | ⟨g', cap, cur, rfl, hB, hg, _⟩
  · cases hk
  · injection hk with hk
    subst hk
    have := hg.symm.trans hl
    injection this with e
    injection e with _ e2
    exact ht e2.symm
/-- A row of the call's own, whether it is there or not. -/
theorem own_slice {w : World} {B n : Nat} {v : Value} {l : List UInt8} (h : w.ownsRow B 5 1 v n (cellsB l)) :
    ∃ a c, v = .slice a n c ∧ (a = none → c = 0) ∧ Bts a l w ∧ ∀ ad, a = some ad → B ≤ ad.block ∧ ad.block < w.heap.size := by
  have hl : l.length = n := by have := h.1; rw [cellsB_length] at this; omega
  have h' : w.ownsRow B 5 1 v l.length (cellsB l) := by rw [hl]; exact h
  obtain ⟨a, c, e, hb⟩ := own_bts h'
  subst e
  refine ⟨a, c, by rw [hl], ?_, hb, fun ad e => ?_⟩
  · rcases id h.2 with ⟨e, _⟩ | ⟨g, cp, cur, e, _⟩
    · injection e with _ _ e3
      exact fun _ => e3
    · injection e with e1
      intro e2
      rw [e1] at e2
      cases e2
  · subst e
    exact World.ownsRow.lt h ad.block rfl
theorem bts_news {ad : Addr} {l : List UInt8} {w : World} (h : Bts (some ad) l w) : ∀ j u, (cellsB l)[j]? = some u → w.cell? (ad.add j) = some u := by
  intro j u hu
  have hj : j < l.length := by
    have := (List.getElem?_eq_some_iff.1 hu).1
    simpa [cellsB] using this
  obtain ⟨g, o, e, _, hc⟩ := h.cell j hj
  injection e with e
  subst e
  rw [Addr.add_lit, hc, ← hu, cellsB_at l j hj]

set_option maxRecDepth 100000 in
theorem rwrite_ss (ad : Addr) (L P : List UInt8) (c : Nat) (ap : Addr) (cp : Nat) (w : World) (hB : Bts (some ad) L w) (hP : Bts (some ap) P w) (hl : L.length + P.length ≤ 1048576) :
    Calls Try.prog 21 #[rv true (.slice (some ad) L.length c), .slice (some ap) P.length cp] w fun e w' => ∃ v', e = .returned (rv true v') ∧ w'.ownsRow w.heap.size 5 1 v' (L.length + P.length) (cellsB (L ++ P)) ∧ Below w.heap.size w w' := by
  obtain ⟨i0, hi, hz0, hz1, hz2⟩ := info_parts info5
  have HB : Hid (Bts (some ad) L w) := hB
  have HP : Hid (Bts (some ap) P w) := hP
  clear hB hP
  unfold rv
  go_enter Try.func21, Try.ntmps21
  go_wp2_with (at_builtin; refine wpList_append_own _ rfl _ _ 22 rfl w.heap.size 5 i0 (.int .u8 0) 1 1 Try.underlying22 hi hz0 hz1 hz2 rfl (by decide) _ 0 [] rfl (made3 w _ _) ad L.length c (cellsB L) rfl (by simp [cellsB]) ?c1 (cellsB_one L) ?c3 ?c4 ?c5 ?_)
  case c1 => exact bts_news (HB.out.below ((((Below.refl _ _).alloc (Nat.le_refl _) _).alloc (sz1 w _) _).alloc (sz2 w _ _) _))
  case c3 => unfold maxLen; omega
  case c4 => omega
  case c5 => exact sz3 w _ _ _
  intro v1 w1 hown1 hgrow1 _
  have HO1 : Hid (w1.ownsRow w.heap.size 5 1 v1 L.length (cellsB L)) := by
    show w1.ownsRow _ _ _ _ _ _
    simpa using hown1
  have hq1 : ∀ q, (Value.slice (some ⟨w.heap.size + 1 + 1, 0, none⟩) 0 0).ownBlock = some q → w.heap.size ≤ q := fun q hq => by simp [Value.ownBlock] at hq; omega
  have HB1 : Hid (Below w.heap.size w w1) := ((((Below.refl _ _).alloc (Nat.le_refl _) _).alloc (sz1 w _) _).alloc (sz2 w _ _) _).grown hgrow1 (sz3 w _ _ _) hq1
  have HR1 : Hid (Lies w1 (w.heap.size + 1) #[.bool false, .slice none 0 0] 42) := by
    have h1 : Lies (((w.alloc (.cells #[.bool true, .slice (some ad) L.length c] 42)).alloc (.cells #[.bool false, .slice none 0 0] 42)).alloc (.cells #[] 5)) (w.heap.size + 1) #[.bool false, .slice none 0 0] 42 := (new_one w _ _ _).alloc _
    exact (hgrow1.block _ h1.lt (by simp [Value.ownBlock])).trans h1
  clear hown1 hgrow1 hq1
  have hown1 := HO1.out
  go_wp2_with (at_builtin; refine wpList_append_own _ rfl _ _ 22 rfl w.heap.size 5 i0 (.int .u8 0) 1 1 Try.underlying22 hi hz0 hz1 hz2 rfl (by decide) _ _ _ rfl hown1 ap P.length cp (cellsB P) rfl (by simp [cellsB]) ?d1 (cellsB_one P) ?d3 ?d4 ?d5 ?_)
  case d1 => exact bts_news (HP.out.below HB1.out)
  case d3 => unfold maxLen; omega
  case d4 => omega
  case d5 => exact HB1.out.size
  intro v2 w2 hown2 hgrow2 _
  have HO2 : Hid (w2.ownsRow w.heap.size 5 1 v2 (L.length + P.length) (cellsB (L ++ P))) := by
    show w2.ownsRow _ _ _ _ _ _
    rw [cellsB_append]
    exact hown2
  have HB2 : Hid (Below w.heap.size w w2) := HB1.out.grown hgrow2 HB1.out.size (fun q hq => (hown1.lt q hq).1)
  have HR2 : Hid (Lies w2 (w.heap.size + 1) #[.bool false, .slice none 0 0] 42) := (hgrow2.block _ HR1.out.lt (fun e => own_apart hown1 HR1.out (by decide) _ e.symm rfl)).trans HR1.out
  clear hown2 hgrow2 hown1 HO1 HR1 HB1
  obtain ⟨a2, c2, rfl, _, _, _⟩ := own_slice HO2.out
  have r0 : w2.cell? ⟨w.heap.size + 1, 0, none⟩ = some (.bool false) := HR2.out.cell 0
  have r1 : w2.cell? ⟨w.heap.size + 1, 1, none⟩ = some (.slice none 0 0) := HR2.out.cell 1
  have f0 := HR2.out.frozen 0
  have f1 := HR2.out.frozen 1
  go_wp2
  clear r0 r1 f0 f1
  refine bodyPost_ret (v := .agg #[.bool true, .slice a2 (L.length + P.length) c2]) ?_ rfl ⟨_, rfl, ?_, (HB2.out.setCell (by simp) _).setCell (by simp) _⟩
  · exact results_cell_row rfl _ _ _ 42 _ (0, 0) _ rfl ((HR2.out.set 0 _).set 1 _) Try.underlying42 rfl infoRS
  · exact own_keep HO2.out (fun k hk => (Below.heap_setCell _ _ _ _ (own_apart HO2.out HR2.out (by decide) _ hk)).trans (Below.heap_setCell _ _ _ _ (own_apart HO2.out HR2.out (by decide) _ hk)))

set_option maxRecDepth 100000 in
theorem rwrite_sn (ad : Addr) (L : List UInt8) (c : Nat) (w : World) (hB : Bts (some ad) L w) (hl : L.length ≤ 1048576) :
    Calls Try.prog 21 #[rv true (.slice (some ad) L.length c), .slice none 0 0] w fun e w' => ∃ v', e = .returned (rv true v') ∧ w'.ownsRow w.heap.size 5 1 v' L.length (cellsB L) ∧ Below w.heap.size w w' := by
  obtain ⟨i0, hi, hz0, hz1, hz2⟩ := info_parts info5
  have HB : Hid (Bts (some ad) L w) := hB
  clear hB
  unfold rv
  go_enter Try.func21, Try.ntmps21
  go_wp2_with (at_builtin; refine wpList_append_own _ rfl _ _ 22 rfl w.heap.size 5 i0 (.int .u8 0) 1 1 Try.underlying22 hi hz0 hz1 hz2 rfl (by decide) _ 0 [] rfl (made3 w _ _) ad L.length c (cellsB L) rfl (by simp [cellsB]) ?c1 (cellsB_one L) ?c3 ?c4 ?c5 ?_)
  case c1 => exact bts_news (HB.out.below ((((Below.refl _ _).alloc (Nat.le_refl _) _).alloc (sz1 w _) _).alloc (sz2 w _ _) _))
  case c3 => unfold maxLen; omega
  case c4 => omega
  case c5 => exact sz3 w _ _ _
  intro v1 w1 hown1 hgrow1 _
  have HO1 : Hid (w1.ownsRow w.heap.size 5 1 v1 L.length (cellsB L)) := by
    show w1.ownsRow _ _ _ _ _ _
    simpa using hown1
  have hq1 : ∀ q, (Value.slice (some ⟨w.heap.size + 1 + 1, 0, none⟩) 0 0).ownBlock = some q → w.heap.size ≤ q := fun q hq => by simp [Value.ownBlock] at hq; omega
  have HB1 : Hid (Below w.heap.size w w1) := ((((Below.refl _ _).alloc (Nat.le_refl _) _).alloc (sz1 w _) _).alloc (sz2 w _ _) _).grown hgrow1 (sz3 w _ _ _) hq1
  have HR1 : Hid (Lies w1 (w.heap.size + 1) #[.bool false, .slice none 0 0] 42) := by
    have h1 : Lies (((w.alloc (.cells #[.bool true, .slice (some ad) L.length c] 42)).alloc (.cells #[.bool false, .slice none 0 0] 42)).alloc (.cells #[] 5)) (w.heap.size + 1) #[.bool false, .slice none 0 0] 42 := (new_one w _ _ _).alloc _
    exact (hgrow1.block _ h1.lt (by simp [Value.ownBlock])).trans h1
  clear hown1 hgrow1 hq1
  have hown1 := HO1.out
  obtain ⟨a2, c2, rfl, _, _, _⟩ := own_slice hown1
  have r0 : w1.cell? ⟨w.heap.size + 1, 0, none⟩ = some (.bool false) := HR1.out.cell 0
  have r1 : w1.cell? ⟨w.heap.size + 1, 1, none⟩ = some (.slice none 0 0) := HR1.out.cell 1
  have f0 := HR1.out.frozen 0
  have f1 := HR1.out.frozen 1
  go_wp2_with (at_builtin; refine wpList_append_own_none rfl _ _ 22 rfl w.heap.size 5 i0 1 Try.underlying22 hi _ _ _ rfl hown1 rfl ?_)
  clear r0 r1 f0 f1
  refine bodyPost_ret (v := .agg #[.bool true, .slice a2 L.length c2]) ?_ rfl ⟨_, rfl, ?_, (HB1.out.setCell (by simp) _).setCell (by simp) _⟩
  · exact results_cell_row rfl _ _ _ 42 _ (0, 0) _ rfl ((HR1.out.set 0 _).set 1 _) Try.underlying42 rfl infoRS
  · exact own_keep HO1.out (fun k hk => (Below.heap_setCell _ _ _ _ (own_apart HO1.out HR1.out (by decide) _ hk)).trans (Below.heap_setCell _ _ _ _ (own_apart HO1.out HR1.out (by decide) _ hk)))

set_option maxRecDepth 100000 in
theorem rwrite_ns (P : List UInt8) (ap : Addr) (cp : Nat) (w : World) (hP : Bts (some ap) P w) (hl : P.length ≤ 1048576) :
    Calls Try.prog 21 #[rv true (.slice none 0 0), .slice (some ap) P.length cp] w fun e w' => ∃ v', e = .returned (rv true v') ∧ w'.ownsRow w.heap.size 5 1 v' P.length (cellsB P) ∧ Below w.heap.size w w' := by
  obtain ⟨i0, hi, hz0, hz1, hz2⟩ := info_parts info5
  have HP : Hid (Bts (some ap) P w) := hP
  clear hP
  unfold rv
  go_enter Try.func21, Try.ntmps21
  have HR0 : Hid (∀ o : Obj, Lies (((w.alloc o).alloc (.cells #[.bool false, .slice none 0 0] 42)).alloc (.cells #[] 5)) (w.heap.size + 1) #[.bool false, .slice none 0 0] 42) := fun o => (new_one w o _ _).alloc _
  go_wp2_with (at_builtin; first
    | (refine wpList_append_own_none rfl _ _ 22 rfl w.heap.size 5 i0 1 Try.underlying22 hi _ 0 [] rfl (made3 w _ _) rfl ?_)
    | (refine wpList_append_own _ rfl _ _ 22 rfl w.heap.size 5 i0 (.int .u8 0) 1 1 Try.underlying22 hi hz0 hz1 hz2 rfl (by decide) _ 0 [] rfl (made3 w _ _) ap P.length cp (cellsB P) rfl (by simp [cellsB]) ?d1 (cellsB_one P) ?d3 ?d4 ?d5 ?_))
  case d1 => exact bts_news (HP.out.below ((((Below.refl _ _).alloc (Nat.le_refl _) _).alloc (sz1 w _) _).alloc (sz2 w _ _) _))
  case d3 => unfold maxLen; omega
  case d4 => omega
  case d5 => exact sz3 w _ _ _
  intro v2 w2 hown2 hgrow2 _
  have HO2 : Hid (w2.ownsRow w.heap.size 5 1 v2 P.length (cellsB P)) := by
    show w2.ownsRow _ _ _ _ _ _
    simpa using hown2
  have HB2 : Hid (Below w.heap.size w w2) := ((((Below.refl _ _).alloc (Nat.le_refl _) _).alloc (sz1 w _) _).alloc (sz2 w _ _) _).grown hgrow2 (sz3 w _ _ _) (fun q hq => by simp [Value.ownBlock] at hq; omega)
  have HR2 : Hid (Lies w2 (w.heap.size + 1) #[.bool false, .slice none 0 0] 42) := (hgrow2.block _ (HR0.out _).lt (by simp [Value.ownBlock])).trans (HR0.out _)
  clear hown2 hgrow2 HR0
  obtain ⟨a2, c2, rfl, _, _, _⟩ := own_slice HO2.out
  have r0 : w2.cell? ⟨w.heap.size + 1, 0, none⟩ = some (.bool false) := HR2.out.cell 0
  have r1 : w2.cell? ⟨w.heap.size + 1, 1, none⟩ = some (.slice none 0 0) := HR2.out.cell 1
  have f0 := HR2.out.frozen 0
  have f1 := HR2.out.frozen 1
  go_wp2
  clear r0 r1 f0 f1
  refine bodyPost_ret (v := .agg #[.bool true, .slice a2 (P.length) c2]) ?_ rfl ⟨_, rfl, ?_, (HB2.out.setCell (by simp) _).setCell (by simp) _⟩
  · exact results_cell_row rfl _ _ _ 42 _ (0, 0) _ rfl ((HR2.out.set 0 _).set 1 _) Try.underlying42 rfl infoRS
  · exact own_keep HO2.out (fun k hk => (Below.heap_setCell _ _ _ _ (own_apart HO2.out HR2.out (by decide) _ hk)).trans (Below.heap_setCell _ _ _ _ (own_apart HO2.out HR2.out (by decide) _ hk)))

set_option maxRecDepth 100000 in
theorem rwrite_nn (w : World) :
    Calls Try.prog 21 #[rv true (.slice none 0 0), .slice none 0 0] w fun e w' => ∃ v', e = .returned (rv true v') ∧ w'.ownsRow w.heap.size 5 1 v' 0 [] ∧ Below w.heap.size w w' := by
  obtain ⟨i0, hi, hz0, hz1, hz2⟩ := info_parts info5
  unfold rv
  go_enter Try.func21, Try.ntmps21
  go_wp2_with (at_builtin; refine wpList_append_own_none rfl _ _ 22 rfl w.heap.size 5 i0 1 Try.underlying22 hi _ 0 [] rfl (made3 w _ _) rfl ?_)
  refine bodyPost_ret (v := .agg #[.bool true, .slice (some ⟨w.heap.size + 1 + 1, 0, none⟩) 0 0]) ?_ rfl ⟨_, rfl, made3 w _ _, (((Below.refl _ _).alloc (Nat.le_refl _) _).alloc (sz1 w _) _).alloc (sz2 w _ _) _⟩
  exact results_cell_row rfl _ _ _ 42 _ (0, 0) _ rfl ((new_one w _ _ _).alloc _) Try.underlying42 rfl infoRS

/-- The document's Write: the bytes of both, in memory of its own. -/
theorem rwrite_any (v : Value) (L P : List UInt8) (ap : Option Addr) (cp : Nat) (B : Nat) (w : World) (hB : w.ownsRow B 5 1 v L.length (cellsB L)) (hP : Bts ap P w) (hz : ap = none → cp = 0) (hl : L.length + P.length ≤ 1048576) :
    Calls Try.prog 21 #[rv true v, .slice ap P.length cp] w fun e w' => ∃ v', e = .returned (rv true v') ∧ w'.ownsRow w.heap.size 5 1 v' (L ++ P).length (cellsB (L ++ P)) ∧ Below w.heap.size w w' := by
  obtain ⟨a, c, rfl, hc, hb, _⟩ := own_slice hB
  cases ap with
  | none =>
    obtain rfl := hz rfl
    obtain rfl : P = [] := by
      rcases hP with h | ⟨g, o, e, _⟩
      · exact h
      · cases e
    rw [List.append_nil]
    cases a with
    | some ad => exact rwrite_sn ad L c w hb (by simpa using hl)
    | none =>
      obtain rfl : L = [] := by
        rcases hb with h | ⟨g, o, e, _⟩
        · exact h
        · cases e
      obtain rfl := hc rfl
      exact rwrite_nn w
  | some ap =>
    cases a with
    | some ad =>
      rw [List.length_append]
      exact rwrite_ss ad L P c ap cp w hb hP hl
    | none =>
      obtain rfl : L = [] := by
        rcases hb with h | ⟨g, o, e, _⟩
        · exact h
        · cases e
      obtain rfl := hc rfl
      exact rwrite_ns P ap cp w hP (by simpa using hl)
end Go.Proofs.Ytekjhfhakodooaa
