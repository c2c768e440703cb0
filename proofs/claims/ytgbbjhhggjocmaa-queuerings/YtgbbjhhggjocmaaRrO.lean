/-
  The first of the document's ring taken; a copy of its row.
-/
import Derived.Test.YtgbbjhhggjocmaaRrU
import Derived.Lib.Walk
namespace Go.Proofs.Ytgbbjhhggjocmaa
open Go.RowKit

/-- Where a ring and the document's lie. -/
def Fp (p q y : Option Nat) (v : Value) (k : Nat) : Prop := Fq p q k ∨ Fr y v k

set_option maxRecDepth 20000 in
set_option maxHeartbeats 2000000 in
theorem rpop_any (p : Option Nat) (most : Nat) (L : List (Int × Int)) (v : Value) (w : World) (h : Gr w p most L v) :
    Calls Try.prog 43 #[ptr p] w fun e w' => e = .returned (.tuple #[valG (L.headD (0, 0)), .bool (!L.isEmpty)]) ∧ ∃ v', Gr w' p most L.tail v' ∧ Chg (Fr p v) w w' ∧ (∀ k, v'.ownBlock = some k → v.ownBlock = some k ∨ w.heap.size ≤ k) := by
  obtain ⟨w1, hw1⟩ : ∃ w1, w1 = w.alloc (.cells #[.int .i64 0, .int .i64 0] 31) := ⟨_, rfl⟩
  have hb1 : Below w.heap.size w w1 := by subst hw1; exact (Below.refl _ w).alloc (Nat.le_refl _) _
  have hL1 : Lies w1 w.heap.size #[.int .i64 0, .int .i64 0] 31 := by subst hw1; exact Lies.new w _ _
  have h1 := rat_any p most L v 0 w1 (h.below hb1)
  have e1 : atXG L 0 = L.headD (0, 0) := by unfold atXG; cases L <;> rfl
  have e2 : atB L.length 0 = (!L.isEmpty) := by unfold atB; cases L <;> simp
  rw [e1, e2] at h1
  have HLT : Hid (∀ k, Fr p v k → k < w.heap.size) := h.lt
  have HW1 : Hid (w.alloc (.cells #[.int .i64 0, .int .i64 0] 31) = w1) := hw1.symm
  have H2 : Hid (∀ w3, Below w.heap.size w w3 → Calls Try.prog 35 #[ptr p, .int .i64 1] w3 fun e w' => e = .returned (.int .i64 ((dropN L.length 1 : Nat) : Int)) ∧ ∃ v', Gr w' p most L.tail v' ∧ Chg (Fr p v) w3 w' ∧ (∀ k, v'.ownBlock = some k → v.ownBlock = some k ∨ w3.heap.size ≤ k)) := fun w3 hb => (rdrop_any p most L v 1 _ (h.below hb) _ rfl).mono (fun e w' hh => by
    obtain ⟨k1, v', k2, k3, k4⟩ := hh
    have : L.drop (dropN L.length 1) = L.tail := by
      unfold dropN
      cases L with
      | nil => rfl
      | cons x r => rw [show (min (1 : Int) (((x :: r).length : Nat) : Int)).toNat = 1 by simp; omega]; rfl
    rw [this] at k2
    exact ⟨k1, v', k2, k3, k4⟩)
  have HG : Hid (Gr w p most L v) := h
  have HB1 : Hid (Below w.heap.size w w1) := hb1
  have HL1 : Hid (Lies w1 w.heap.size #[.int .i64 0, .int .i64 0] 31) := hL1
  clear h e1 e2 hw1 hb1 hL1
  generalize dropN L.length 1 = dn at H2
  generalize ptr p = pv at *
  unfold valG at *
  obtain ⟨x, hx⟩ : ∃ x, x = L.headD (0, 0) := ⟨_, rfl⟩
  rw [← hx] at h1
  rw [← hx]
  have HA : Hid (Calls Try.prog 44 #[pv, .int .i64 0] w1 fun e w' => e = .returned (.tuple #[.agg #[.int .i64 x.1, .int .i64 x.2], .bool (!L.isEmpty)]) ∧ Lies (w'.alloc (.cells #[.int .i64 x.1, .int .i64 x.2] 31)) w'.heap.size #[.int .i64 x.1, .int .i64 x.2] 31 ∧ Lies (w'.alloc (.cells #[.int .i64 x.1, .int .i64 x.2] 31)) w.heap.size #[.int .i64 0, .int .i64 0] 31 ∧ Below w.heap.size w (w'.alloc (.cells #[.int .i64 x.1, .int .i64 x.2] 31)) ∧ w.heap.size < w'.heap.size ∧ Lies w' w.heap.size #[.int .i64 0, .int .i64 0] 31 ∧ Below w.heap.size w w') := h1.mono (fun e w' hh => by
    have hb := HB1.out.trans (hh.2.mono HB1.out.size)
    exact ⟨hh.1, Lies.new w' _ _, (HL1.out.below hh.2 HL1.out.lt).alloc _, hb.alloc hb.size _, by have := HL1.out.lt; have := hh.2.size; omega, HL1.out.below hh.2 HL1.out.lt, hb⟩)
  clear h1 HB1 HL1
  by_cases hL : L = []
  · have hem : (!L.isEmpty) = false := by rw [hL]; rfl
    have HT : Hid (∃ v', Gr w p most L.tail v' ∧ (∀ k, v'.ownBlock = some k → v.ownBlock = some k)) := ⟨v, by rw [hL] at HG ⊢; exact HG.out, fun k hk => hk⟩
    have hx0 : x = (0, 0) := by rw [hx, hL]; rfl
    rw [hem] at HA
    rw [hem]
    subst hx0
    clear hx hem hL HG H2
    go_enter Try.func43, Try.ntmps43
    go_wp2_with (go_at_call 44; rw [HW1.out]; refine HA.out.mono ?_; clear HA HW1; rintro e w2 ⟨rfl, _, _, _, hz, hr, hb⟩; have b0 := hr.cell 0; have b1 := hr.cell 1; have y0 := hr.frozen 0; have y1 := hr.frozen 1; simp only [List.getElem?_toArray, List.getElem?_cons_zero, List.getElem?_cons_succ] at b0 b1; have HR : Hid (Lies w2 w.heap.size #[.int .i64 0, .int .i64 0] 31) := hr; have HB : Hid (Below w.heap.size w w2) := hb; clear hr hb)
    have hF : Lies (((w2.setCell ⟨w.heap.size, 0, none⟩ (.int .i64 0)).setCell ⟨w.heap.size, 1, none⟩ (.int .i64 0)).alloc (.cells #[.int .i64 0, .int .i64 0] 31)) w.heap.size #[.int .i64 0, .int .i64 0] 31 := ((HR.out.set 0 _).set 1 _).alloc _
    have hB : Below w.heap.size w (((w2.setCell ⟨w.heap.size, 0, none⟩ (.int .i64 0)).setCell ⟨w.heap.size, 1, none⟩ (.int .i64 0)).alloc (.cells #[.int .i64 0, .int .i64 0] 31)) := ((HB.out.setCell (p := ⟨w.heap.size, 0, none⟩) (Nat.le_refl _) _).setCell (p := ⟨w.heap.size, 1, none⟩) (Nat.le_refl _) _).alloc (by rw [World.size_setCell, World.size_setCell]; omega) _
    obtain ⟨v', g1, g2⟩ := HT.out
    exact ret_cell rfl w.heap.size 31 #[.int .i64 0, .int .i64 0] (0, 0) _ (.bool false) rfl rfl hF Try.underlying31 rfl sizeEG ⟨rfl, v', g1.below hB, Chg.of_below hB, fun k hk => .inl (g2 k hk)⟩
  · have hem : (!L.isEmpty) = true := by cases L with | nil => exact absurd rfl hL | cons _ _ => rfl
    rw [hem] at HA
    rw [hem]
    clear hx hem hL HG
    go_enter Try.func43, Try.ntmps43
    go_wp2_with (first
      | (go_at_call 44; rw [HW1.out]; refine HA.out.mono ?_; clear HA HW1; rintro e w2 ⟨rfl, hv, hr, hb, hz, _, _⟩; have HV : Hid (Lies (w2.alloc (.cells #[.int .i64 x.1, .int .i64 x.2] 31)) w2.heap.size #[.int .i64 x.1, .int .i64 x.2] 31) := hv; have HR : Hid (Lies (w2.alloc (.cells #[.int .i64 x.1, .int .i64 x.2] 31)) w.heap.size #[.int .i64 0, .int .i64 0] 31) := hr; have HB : Hid (Below w.heap.size w (w2.alloc (.cells #[.int .i64 x.1, .int .i64 x.2] 31))) := hb; clear hv hr hb)
      | (go_at_call 35; refine (H2.out _ HB.out).mono ?_; clear H2; rintro e w4 ⟨rfl, v4, hr4, hc4, hk4⟩; have hv4 := hc4.lies HV.out (fun hk => by have := HLT.out _ hk; omega); have hr5 := hc4.lies HR.out (fun hk => by have := HLT.out _ hk; omega); have v0 := hv4.cell 0; have v1 := hv4.cell 1; have b0 := hr5.cell 0; have b1 := hr5.cell 1; have y0 := hr5.frozen 0; have y1 := hr5.frozen 1; simp only [List.getElem?_toArray, List.getElem?_cons_zero, List.getElem?_cons_succ] at v0 v1 b0 b1; have HR5 : Hid (Lies w4 w.heap.size #[.int .i64 0, .int .i64 0] 31) := hr5; have HG4 : Hid (Gr w4 p most L.tail v4) := hr4; have HC4 : Hid _ := hc4; have HK4 : Hid _ := hk4; clear hv4 hr5 hr4 hc4 hk4))
    have hF : Lies ((w4.setCell ⟨w.heap.size, 0, none⟩ (.int .i64 x.1)).setCell ⟨w.heap.size, 1, none⟩ (.int .i64 x.2)) w.heap.size #[.int .i64 x.1, .int .i64 x.2] 31 := (HR5.out.set 0 _).set 1 _
    have hn : ∀ k, Fr p v4 k → k ≠ w.heap.size := fun k hk => by
      rcases hk with e | e
      · have := HLT.out k (.inl e); omega
      · rcases HK4.out k e with e2 | e2
        · have := HLT.out k (.inr e2); omega
        · rw [World.size_alloc] at e2; omega
    exact ret_cell rfl w.heap.size 31 #[.int .i64 x.1, .int .i64 x.2] (0, 0) _ (.bool true) rfl rfl hF Try.underlying31 rfl sizeEG ⟨rfl, v4, HG4.out.keep (fun k hk => (Below.heap_setCell _ _ _ _ (hn k hk)).trans (Below.heap_setCell _ _ _ _ (hn k hk))), (((Chg.of_below HB.out).trans HC4.out).set (.inr (Nat.le_refl _)) _).set (.inr (Nat.le_refl _)) _, fun k hk => (HK4.out k hk).imp id (fun e => by rw [World.size_alloc] at e; omega)⟩
set_option maxRecDepth 20000 in
set_option maxHeartbeats 1000000 in
/-- A copy of the row. -/
theorem rrow_any (p : Option Nat) (most : Nat) (L : List (Int × Int)) (v : Value) (w : World) (h : Gr w p most L v) :
    Calls Try.prog 36 #[ptr p] w fun e w' => ∃ v', e = .returned v' ∧ Ow celG 31 2 w' v' L ∧ Below w.heap.size w w' ∧ (∀ k, v'.ownBlock = some k → w.heap.size ≤ k) := by
  have HBA : Hid (Below w.heap.size w (w.alloc (.cells #[] 31))) := (Below.refl _ _).alloc (Nat.le_refl _) _
  have HOA : Hid (Ow celG 31 2 (w.alloc (.cells #[] 31)) (.slice (some ⟨w.heap.size, 0, none⟩) 0 0) []) := Ow.mk0 celG 31 2 _ w.heap.size (Lies.new w _ _)
  have hld := h.len
  cases h with
  | no =>
    unfold ptr
    go_enter Try.func36, Try.ntmps36
    go_wp2
    go_ret
    exact ⟨_, rfl, Ow.nil _ _ _ _, Below.refl _ _, fun k hk => by cases hk⟩
  | made b most L v h =>
    have c1 : w.cell? ⟨b, 1, none⟩ = some v := h.lies.cell 1
    have hbl : b < w.heap.size := h.lies.lt
    have c1a : (w.alloc (.cells #[] 31)).cell? ⟨b, 1, none⟩ = some v := (HBA.out.cell (p := ⟨b, 1, none⟩) hbl).trans c1
    have HM : Hid (Gm w b most L v) := h
    have HLD : Hid (L.length ≤ 1048576) := by unfold Hid; omega
    unfold ptr
    rcases h.own.2 with ⟨rfl, hl⟩ | ⟨g, cap, cur, rfl, _, hg, _⟩
    · have hL : L = [] := List.eq_nil_of_length_eq_zero hl
      subst hL
      have hr : ∀ ty, (Builtin.append_ #[57, 57] ty #[.slice (some ⟨w.heap.size, 0, none⟩) 0 0, .slice none 0 0]).run Try.prog (w.alloc (.cells #[] 31)) = .ok (.slice (some ⟨w.heap.size, 0, none⟩) 0 0) (w.alloc (.cells #[] 31)) := fun ty => by
        obtain ⟨i, hi, hz0, hz1, hz2⟩ := info_parts infoEG
        simp [Builtin.append_, run_underlying Try.underlying57, sizeOf, typeInfo, hi, Builtin.lenOf, Builtin.firstCells, storeCells]
      clear h hld hl
      go_enter Try.func36, Try.ntmps36
      go_wp2_with (at_builtin; refine Lib.wpList_append_run _ rfl _ _ _ _ rfl _ _ rfl rfl _ _ (hr _) ?_)
      go_ret
      exact ⟨_, rfl, HOA.out, HBA.out, fun k hk => by cases hk; exact Nat.le_refl _⟩
    · have hgl : g < w.heap.size := (Array.getElem?_eq_some_iff.1 hg).1
      have HY : Hid (∀ wx, Below w.heap.size w wx → ∀ j u, (L.flatMap celG)[j]? = some u → wx.cell? ⟨g, 0 + j, none⟩ = some u) := fun wx hb j u hu => by
        refine (hb.cell (p := ⟨g, 0 + j, none⟩) hgl).trans ?_
        have := HM.out.own.sg celG_length 0 L.length j u (by rw [List.drop_zero, List.take_length]; exact hu)
        rw [Nat.zero_mul] at this
        exact this
      clear h hld hg
      go_enter Try.func36, Try.ntmps36
      go_wp2_with (at_builtin; refine apL_seg celG_length (by decide) oneG rfl _ _ 57 rfl Try.underlying57 _ 16 infoEG rfl (.slice (some ⟨w.heap.size, 0, none⟩) 0 0) [] rfl HOA.out g 0 L.length cap L rfl rfl (HY.out _ HBA.out) (by have := HLD.out; rw [List.length_nil]; omega) (by have := HLD.out; rw [List.length_nil]; omega) ?_; intro v8 w8 ho8 hc8 hv8; rw [List.nil_append] at ho8; have HO8 : Hid (Ow celG 31 2 w8 v8 L) := ho8; have HC8 : Hid _ := hc8; have HV8 : Hid _ := hv8; clear ho8 hc8 hv8)
      go_ret
      refine ⟨v8, rfl, HO8.out, HBA.out.trans (HC8.out.to_below HBA.out.size (fun k hk => by have e2 : w.heap.size = k := Option.some.inj hk; omega)), fun k hk => ?_⟩
      rcases HV8.out with e | e
      · rw [e] at hk; have e2 : w.heap.size = k := Option.some.inj hk; omega
      · rw [e, World.size_alloc] at hk; have e2 : w.heap.size + 1 = k := Option.some.inj hk; omega
end Go.Proofs.Ytgbbjhhggjocmaa
