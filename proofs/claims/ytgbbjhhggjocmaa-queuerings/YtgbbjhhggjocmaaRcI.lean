/-
  A copy of a ring's things.
-/
import Derived.Test.YtgbbjhhggjocmaaRdI
import Derived.Test.YtgbbjhhggjocmaaSeg7
import Derived.Lib.Walk
namespace Go.Proofs.Ytgbbjhhggjocmaa
open Go.RowKit

theorem sgrowI_none (w : World) : Calls Try.prog 72 #[.slice none 0 0, .int .i64 0] w fun e w' => e = .returned (.slice none 0 0) ∧ w' = w := by
  go_enter Try.func72, Try.ntmps72
  go_wp2
  go_ret
  exact ⟨rfl, rfl⟩
set_option maxRecDepth 20000 in
theorem sgrowI_some (n : Nat) (h0 : 0 < n) (hn : n ≤ 1048576) (w : World) : Calls Try.prog 72 #[.slice none 0 0, .int .i64 (n : Int)] w fun e w' => ∃ v, e = .returned v ∧ Ow celI 3 1 w' v [] ∧ Below w.heap.size w w' ∧ (∀ k, v.ownBlock = some k → w.heap.size ≤ k) := by
  obtain ⟨G, w', hG, hG2, hr, hO, hB⟩ := run_zeros (cel := celI) (P := Try.prog) (w := w) 55 3 55 Try.underlying55 Try.underlying3 _ 8 infoEI rfl (by decide) n h0 (by omega) hn
  have h1 : ¬ (n : Int) < 0 := by omega
  have h2 : (n : Int) > 0 := by omega
  have HO : Hid (Ow celI 3 1 w' (.slice (some ⟨w.heap.size, 0, none⟩) 0 G) [] ∧ Below w.heap.size w w') := ⟨hO, hB⟩
  clear hO hB h0
  go_enter Try.func72, Try.ntmps72
  go_wp2_with (at_builtin; refine Lib.wpList_append_run _ rfl _ _ _ _ rfl _ _ rfl rfl _ _ hr ?_)
  all_goals go_ret
  all_goals exact ⟨_, rfl, HO.out.1, HO.out.2, fun k hk => by cases hk; exact Nat.le_refl _⟩
theorem sgrowI_any (n : Nat) (hn : n ≤ 1048576) (w : World) : Calls Try.prog 72 #[.slice none 0 0, .int .i64 (n : Int)] w fun e w' => ∃ v, e = .returned v ∧ Ow celI 3 1 w' v [] ∧ Below w.heap.size w w' ∧ (∀ k, v.ownBlock = some k → w.heap.size ≤ k) := by
  by_cases h : n = 0
  · subst h
    exact (sgrowI_none w).mono (fun e w' hh => ⟨_, hh.1, Ow.nil _ _ _ _, by rw [hh.2]; exact Below.refl _ _, fun k hk => by cases hk⟩)
  · exact sgrowI_some n (by omega) hn w
/-- A row that the call made holds the things. -/
def NwI (w w' : World) (v : Value) (l : List Int) : Prop := Ow celI 3 1 w' v l ∧ Below w.heap.size w w' ∧ (∀ k, v.ownBlock = some k → w.heap.size ≤ k)
theorem NwI.more {w w1 w2 : World} {v v' : Value} {l l' : List Int} (h : NwI w w1 v l) (h2 : Ow celI 3 1 w2 v' l') (h3 : Chg (fun k => v.ownBlock = some k) w1 w2) (h4 : v'.ownBlock = v.ownBlock ∨ v'.ownBlock = some w1.heap.size) : NwI w w2 v' l' :=
  ⟨h2, h.2.1.trans (h3.to_below h.2.1.size h.2.2), fun k hk => by
    rcases h4 with e | e
    · exact h.2.2 k (e ▸ hk)
    · rw [e] at hk; cases hk; exact h.2.1.size⟩
set_option maxRecDepth 20000 in
set_option maxHeartbeats 2000000 in
theorem concatI_some (B g o1 c1 o2 c2 n1 n2 : Nat) (ys1 ys2 : List Int) (e1 : ys1.length = n1) (e2 : ys2.length = n2) (w : World) (hB : Lies w B #[.slice (some ⟨g, o1, none⟩) n1 c1, .slice (some ⟨g, o2, none⟩) n2 c2] 55) (hg : g < w.heap.size)
    (hy1 : ∀ j u, (ys1.flatMap celI)[j]? = some u → w.cell? ⟨g, o1 + j, none⟩ = some u) (hy2 : ∀ j u, (ys2.flatMap celI)[j]? = some u → w.cell? ⟨g, o2 + j, none⟩ = some u) (hn : n1 + n2 ≤ 1048576) :
    Calls Try.prog 70 #[.slice (some ⟨B, 0, none⟩) 2 2] w fun e w' => ∃ v, e = .returned v ∧ NwI w w' v (ys1 ++ ys2) := by
  have HG : Hid (Calls Try.prog 72 #[.slice none 0 0, .int .i64 ((n1 : Int) + (n2 : Int))] w fun e w' => ∃ v, e = .returned v ∧ NwI w w' v []) := by have := sgrowI_any (n1 + n2) hn w; rw [Int.natCast_add] at this; exact this
  have HB : Hid (Lies w B #[.slice (some ⟨g, o1, none⟩) n1 c1, .slice (some ⟨g, o2, none⟩) n2 c2] 55) := hB
  have b0 : w.cell? ⟨B, 0, none⟩ = some (.slice (some ⟨g, o1, none⟩) n1 c1) := hB.cell 0
  have b1 : w.cell? ⟨B, 1, none⟩ = some (.slice (some ⟨g, o2, none⟩) n2 c2) := hB.cell 1
  have HY1 : Hid (∀ wx, Below w.heap.size w wx → ∀ j u, (ys1.flatMap celI)[j]? = some u → wx.cell? ⟨g, o1 + j, none⟩ = some u) := fun wx hb j u hu => (hb.cell (p := ⟨g, o1 + j, none⟩) hg).trans (hy1 j u hu)
  have HY2 : Hid (∀ wx, Below w.heap.size w wx → ∀ j u, (ys2.flatMap celI)[j]? = some u → wx.cell? ⟨g, o2 + j, none⟩ = some u) := fun wx hb j u hu => (hb.cell (p := ⟨g, o2 + j, none⟩) hg).trans (hy2 j u hu)
  have hw1 : IntKind.i64.wrap (n1 : Int) = (n1 : Int) := by rw [IntKind.wrap_i64]; omega
  have hw2 : IntKind.i64.wrap ((n1 : Int) + (n2 : Int)) = (n1 : Int) + (n2 : Int) := by rw [IntKind.wrap_i64]; omega
  have hp1 : ¬ (n1 : Int) < 0 := by omega
  have hp2 : ¬ (n1 : Int) + (n2 : Int) < 0 := by omega
  have HN : Hid (n1 + n2 ≤ 1048576 ∧ ys1.length = n1 ∧ ys2.length = n2) := ⟨hn, e1, e2⟩
  clear hB hy1 hy2 hg hn e1 e2
  go_enter Try.func70, Try.ntmps70
  go_wp2_with fail
  go_loopw [3, 11] (fun sv iv wr => Hid (wr = w ∧ ((iv = .int .i64 0 ∧ sv = .int .i64 0) ∨ (iv = .int .i64 1 ∧ sv = .int .i64 (n1 : Int)) ∨ (iv = .int .i64 2 ∧ sv = .int .i64 ((n1 : Int) + (n2 : Int)))))) (fun _ iv _ => 2 - (intOf iv).toNat)
  case atStart => exact ⟨rfl, .inl ⟨rfl, rfl⟩⟩
  case round =>
    obtain ⟨rfl, ⟨rfl, rfl⟩ | ⟨rfl, rfl⟩ | ⟨rfl, rfl⟩⟩ := hrel.out
    · go_wp2_with fail
      go_roundw
      case rel => exact ⟨trivial, .inr (.inl ⟨rfl, rfl⟩)⟩
      case measure => simp [intOf]
    · go_wp2_with fail
      go_roundw
      case rel => exact ⟨trivial, .inr (.inr ⟨rfl, rfl⟩)⟩
      case measure => simp [intOf]
    · go_wp2_with (go_at_call 72; refine HG.out.mono ?_; clear HG; rintro e w1 ⟨v0, rfl, hn0⟩; have HN0 : Hid (NwI wr w1 v0 []) := hn0; clear hn0)
      go_loopw [6, 27] (fun v iv wz => Hid ((iv = .int .i64 0 ∧ Hid (NwI wr wz v [])) ∨ (iv = .int .i64 1 ∧ Hid (NwI wr wz v ys1)) ∨ (iv = .int .i64 2 ∧ Hid (NwI wr wz v (ys1 ++ ys2))))) (fun _ iv _ => 2 - (intOf iv).toNat)
      case atStart => exact .inl ⟨rfl, HN0.out⟩
      case round =>
        clear HN0
        rcases hrel.out with ⟨rfl, HW⟩ | ⟨rfl, HW⟩ | ⟨rfl, HW⟩
        · have c0 : wr.cell? ⟨B, 0, none⟩ = some (.slice (some ⟨g, o1, none⟩) n1 c1) := (HW.out.2.1.cell (p := ⟨B, 0, none⟩) HB.out.lt).trans b0
          go_wp2_with (at_builtin; refine apL_seg celI_length (by decide) oneI rfl _ _ 55 rfl Try.underlying55 _ 8 infoEI rfl _ [] rfl HW.out.1 g o1 n1 c1 ys1 HN.out.2.1 rfl (HY1.out wr HW.out.2.1) (by have := HN.out.1; simp; omega) (by have := HN.out.1; simp; omega) ?_; intro v2 w2 k1 k2 k3; have HW2 : Hid _ := HW.out.more k1 k2 k3; clear k1 k2 k3)
          go_roundw
          case rel => exact .inr (.inl ⟨rfl, HW2⟩)
          case measure => simp [intOf]
        · have c0 : wr.cell? ⟨B, 1, none⟩ = some (.slice (some ⟨g, o2, none⟩) n2 c2) := (HW.out.2.1.cell (p := ⟨B, 1, none⟩) HB.out.lt).trans b1
          go_wp2_with (at_builtin; refine apL_seg celI_length (by decide) oneI rfl _ _ 55 rfl Try.underlying55 _ 8 infoEI rfl _ ys1 rfl HW.out.1 g o2 n2 c2 ys2 HN.out.2.2 rfl (HY2.out wr HW.out.2.1) (by have := HN.out; omega) (by have := HN.out; omega) ?_; intro v2 w2 k1 k2 k3; have HW2 : Hid _ := HW.out.more k1 k2 k3; clear k1 k2 k3)
          go_roundw
          case rel => exact .inr (.inr ⟨rfl, HW2⟩)
          case measure => simp [intOf]
        · go_wp2_with fail
          go_ret
          exact ⟨_, rfl, HW.out⟩
set_option maxRecDepth 20000 in
set_option maxHeartbeats 1000000 in
theorem concatI_none (B : Nat) (w : World) (hB : Lies w B #[.slice none 0 0, .slice none 0 0] 55) :
    Calls Try.prog 70 #[.slice (some ⟨B, 0, none⟩) 2 2] w fun e w' => e = .returned (.slice none 0 0) ∧ w' = w := by
  have HG : Hid (Calls Try.prog 72 #[.slice none 0 0, .int .i64 0] w fun e w' => e = .returned (.slice none 0 0) ∧ w' = w) := sgrowI_none w
  have b0 : w.cell? ⟨B, 0, none⟩ = some (.slice none 0 0) := hB.cell 0
  have b1 : w.cell? ⟨B, 1, none⟩ = some (.slice none 0 0) := hB.cell 1
  have hr : ∀ ty, (Builtin.append_ #[55, 55] ty #[.slice none 0 0, .slice none 0 0]).run Try.prog w = .ok (.slice none 0 0) w := fun ty => by
    obtain ⟨i, hi, hz0, hz1, hz2⟩ := info_parts infoEI
    simp [Builtin.append_, run_underlying Try.underlying55, sizeOf, typeInfo, hi, Builtin.lenOf, Builtin.firstCells]
  clear hB
  go_enter Try.func70, Try.ntmps70
  go_wp2_with fail
  go_loopw [3, 11] (fun sv iv wr => Hid (wr = w ∧ ((iv = .int .i64 0 ∧ sv = .int .i64 0) ∨ (iv = .int .i64 1 ∧ sv = .int .i64 0) ∨ (iv = .int .i64 2 ∧ sv = .int .i64 0)))) (fun _ iv _ => 2 - (intOf iv).toNat)
  case atStart => exact ⟨rfl, .inl ⟨rfl, rfl⟩⟩
  case round =>
    obtain ⟨rfl, ⟨rfl, rfl⟩ | ⟨rfl, rfl⟩ | ⟨rfl, rfl⟩⟩ := hrel.out
    · go_wp2_with fail
      go_roundw
      case rel => exact ⟨trivial, .inr (.inl ⟨rfl, rfl⟩)⟩
      case measure => simp [intOf]
    · go_wp2_with fail
      go_roundw
      case rel => exact ⟨trivial, .inr (.inr ⟨rfl, rfl⟩)⟩
      case measure => simp [intOf]
    · go_wp2_with (go_at_call 72; refine HG.out.mono ?_; clear HG; rintro e w1 ⟨rfl, hw1⟩)
      go_loopw [6, 27] (fun v iv wz => Hid (wz = w1 ∧ v = .slice none 0 0 ∧ (iv = .int .i64 0 ∨ iv = .int .i64 1 ∨ iv = .int .i64 2))) (fun _ iv _ => 2 - (intOf iv).toNat)
      case atStart => exact ⟨hw1.symm, rfl, .inl rfl⟩
      case round =>
        subst hw1
        obtain ⟨rfl, rfl, rfl | rfl | rfl⟩ := hrel.out
        · go_wp2_with (at_builtin; refine Lib.wpList_append_run _ rfl _ _ _ _ rfl _ _ rfl rfl _ _ (hr _) ?_)
          go_roundw
          case rel => exact ⟨trivial, rfl, .inr (.inl rfl)⟩
          case measure => simp [intOf]
        · go_wp2_with (at_builtin; refine Lib.wpList_append_run _ rfl _ _ _ _ rfl _ _ rfl rfl _ _ (hr _) ?_)
          go_roundw
          case rel => exact ⟨trivial, rfl, .inr (.inr rfl)⟩
          case measure => simp [intOf]
        · go_wp2_with fail
          go_ret
          exact ⟨rfl, rfl⟩
set_option maxRecDepth 20000 in
set_option maxHeartbeats 1000000 in
/-- A copy of the things. -/
theorem rowI_made (b : Nat) (q : Option Nat) (most : Nat) (A : List Int) (f c : Nat) (w : World) (h : GdI w b q most A f c) :
    Calls Try.prog 60 #[.pointer (some ⟨b, 0, none⟩)] w fun e w' => ∃ v, e = .returned v ∧ NwI w w' v (rwA 0 A f c) := by
  have hp := h.pos
  have HT : Hid (Calls Try.prog 50 #[.pointer (some ⟨b, 0, none⟩)] w fun e w' => e = .returned (.bool true) ∧ w' = w) := (thereI_any (some b) q most _ w (.made b q most A f c h)).mono (fun e w' hh => ⟨by rw [hh.1]; simp; omega, hh.2⟩)
  have c3 := h.cells.2.2.2
  by_cases hA : A = []
  · subst hA
    obtain rfl := h.non rfl
    obtain rfl : c = 0 := by have := h.cnt; simpa using this
    have HP : Hid (Calls Try.prog 58 #[.pointer (some ⟨b, 0, none⟩), .int .i64 0] w fun e w' => e = .returned (.tuple #[.slice none 0 0, .slice none 0 0]) ∧ ∃ n, w' = w.drewN n) := piecesI_none b most f 0 w h
    have HC : Hid (∀ wx : World, Calls Try.prog 70 #[.slice (some ⟨wx.heap.size, 0, none⟩) 2 2] (wx.alloc (.cells #[.slice none 0 0, .slice none 0 0] 55)) fun e w' => e = .returned (.slice none 0 0) ∧ w' = wx.alloc (.cells #[.slice none 0 0, .slice none 0 0] 55)) := fun wx => concatI_none _ _ (Lies.new wx _ _)
    clear h hp
    go_enter Try.func60, Try.ntmps60
    go_wp2_with (first | (go_at_call 50; refine HT.out.mono ?_; clear HT; rintro e w ⟨rfl, rfl⟩) | (go_at_call 58; refine HP.out.mono ?_; clear HP; rintro e w1 ⟨rfl, n, rfl⟩) | (go_at_call 70; refine (HC.out (w.drewN n)).mono ?_; clear HC; rintro e w1 ⟨rfl, rfl⟩))
    go_ret
    exact ⟨_, rfl, Ow.nil _ _ _ _, (below_drewN w n).alloc (Nat.le_refl _) _, fun k hk => by cases hk⟩
  · obtain ⟨g, rfl, hg⟩ := h.som hA
    have hf : f < A.length := by rcases h.fst with h1 | h1; exact h1; exact absurd h1.2 hA
    have hcA := h.cnt
    have hrA := Nat.le_trans h.room h.lid
    obtain ⟨H, hH⟩ : ∃ H, H = min (f + c) A.length := ⟨_, rfl⟩
    have HP : Hid (Calls Try.prog 58 #[.pointer (some ⟨b, 0, none⟩), .int .i64 (c : Int)] w fun e w' => e = .returned (.tuple #[.slice (some ⟨g, f, none⟩) (H - f) (A.length - f), .slice (some ⟨g, 0, none⟩) (c - (H - f)) A.length]) ∧ ∃ n, w' = w.drewN n) := piecesI_any b g most A f c c w h (Nat.le_refl _) H hH
    have HC : Hid (∀ n, Calls Try.prog 70 #[.slice (some ⟨w.heap.size, 0, none⟩) 2 2] ((w.drewN n).alloc (.cells #[.slice (some ⟨g, f, none⟩) (H - f) (A.length - f), .slice (some ⟨g, 0, none⟩) (c - (H - f)) A.length] 55)) fun e w' => ∃ v, e = .returned v ∧ NwI w w' v (rwA 0 A f c)) := fun n => by
      have hb : Below w.heap.size w ((w.drewN n).alloc (.cells #[.slice (some ⟨g, f, none⟩) (H - f) (A.length - f), .slice (some ⟨g, 0, none⟩) (c - (H - f)) A.length] 55)) := (below_drewN w n).alloc (Nat.le_refl _) _
      have hl := hg.below hb hg.lt
      refine (concatI_some w.heap.size g (f) (A.length - f) 0 A.length (H - f) (c - (H - f)) ((A.drop f).take (H - f)) (A.take (c - (H - f))) (by simp; omega) (by simp; omega) _ (Lies.new (w.drewN n) _ _) hl.lt (fun j u hu => ?_) (fun j u hu => ?_) (by omega)).mono ?_
      · have := Lies.sg celI_length hl f (H - f) j u hu
        rw [Nat.mul_one] at this
        exact this
      · have := Lies.sg celI_length hl 0 (c - (H - f)) j u hu; rw [Nat.zero_mul] at this; exact this
      · rintro e w' ⟨v, h1, h2, h3, h4⟩
        refine ⟨v, h1, ?_, hb.trans (h3.mono hb.size), fun k hk => Nat.le_trans hb.size (h4 k hk)⟩
        rw [← rwA_pieces 0 A f c hf hcA, ← hH]
        exact h2
    clear h hp hg hH hf hcA hrA
    go_enter Try.func60, Try.ntmps60
    go_wp2_with (first | (go_at_call 50; refine HT.out.mono ?_; clear HT; rintro e w ⟨rfl, rfl⟩) | (go_at_call 58; refine HP.out.mono ?_; clear HP; rintro e w1 ⟨rfl, n, rfl⟩) | (go_at_call 70; refine (HC.out n).mono ?_; clear HC; rintro e w1 ⟨v, rfl, hv⟩; have HV : Hid _ := hv; clear hv))
    go_ret
    exact ⟨_, rfl, HV.out⟩
theorem rowI_any (p q : Option Nat) (most : Nat) (l : List Int) (w : World) (h : RgI w p q most l) : Calls Try.prog 60 #[ptr p] w fun e w' => ∃ v, e = .returned v ∧ NwI w w' v l := by
  have none0 : ∀ (p q : Option Nat), RgI w p q 0 [] → Calls Try.prog 60 #[ptr p] w fun e w' => ∃ v, e = .returned v ∧ NwI w w' v [] := fun p q h => by
    have ht := thereI_any p q 0 [] w h
    clear h
    generalize ptr p = pv at *
    go_enter Try.func60, Try.ntmps60
    go_wp2_with (go_at_call 50; refine ht.mono ?_; clear ht; rintro e w ⟨rfl, rfl⟩)
    go_ret
    exact ⟨_, rfl, Ow.nil _ _ _ _, Below.refl _ _, fun k hk => by cases hk⟩
  cases h with
  | no => exact none0 _ _ .no
  | zero b h => exact none0 _ _ (.zero b h)
  | made b q most A f c h => exact rowI_made b q most A f c w h
end Go.Proofs.Ytgbbjhhggjocmaa
