/-
  The document's made, One and Bad.
-/
import Derived.Test.YtdgepnfgjgbkoaaDoorREnc
import Derived.Test.YtdgepnfgjgbkoaaDoorChk2
import Derived.Test.YtdgepnfgjgbkoaaDoorLate5
namespace Go.Proofs.YtdgepnfgjgbkoaaDoor
open Go.RowKit

theorem foldX (l : List UInt8) (x : Int) (h0 : -300 ≤ x) (h1 : x ≤ 300) (h : l.length ≤ 3) : -100000000 ≤ l.foldl addX x ∧ l.foldl addX x ≤ 100000000 := by
  match l, h with
  | [], _ => simp; omega
  | [a], _ => have := a.toNat_lt; simp [addX]; omega
  | [a, b], _ => have := a.toNat_lt; have := b.toNat_lt; simp [addX]; omega
  | [a, b, c], _ => have := a.toNat_lt; have := b.toNat_lt; have := c.toNat_lt; simp [addX]; omega
theorem fold_take (l : List UInt8) (x : Int) (k : Nat) (hk : k < l.length) : (l.take (k + 1)).foldl addX x = 64 * (l.take k).foldl addX x + (l[k].toNat : Int) - 128 := by
  rw [List.take_succ_eq_append_getElem hk, List.foldl_append]
  rfl

set_option maxHeartbeats 4000000 in
set_option maxRecDepth 100000 in
theorem dmade_any (g o cap : Nat) (b : List UInt8) (h0 : 0 < b.length) (h4 : b.length ≤ 4) (hc : b.length ≤ cap) (w : World) (hb : Bts (some ⟨g, o, none⟩) b w) :
    Calls Tryd.prog 72 #[.slice (some ⟨g, o, none⟩) b.length cap] w fun e w' => (∃ r : Int, e = .returned (.tuple #[.int .i32 r, .bool (decide (okX b))]) ∧ (okX b → r = mkX b)) ∧ Below w.heap.size w w' := by
  obtain ⟨c, t, rfl⟩ : ∃ c t, b = c :: t := by
    cases b with
    | nil => simp at h0
    | cons c t => exact ⟨c, t, rfl⟩
  have hback := bts_back hb cap
  have HBK : Hid (∀ wx, Below w.heap.size w wx → (convert 38 9 (.slice (some ⟨g, o, none⟩) (c :: t).length cap)).run Tryd.prog wx = .ok (.string ⟨(c :: t).toArray⟩) wx) := fun wx hx => bts_back (hb.below hx) cap
  obtain ⟨g', o', e', hg, hcell⟩ := hb.cell 0 (by simp)
  injection e' with e'
  injection e' with e1 e2
  subst e1 e2
  rw [Nat.add_zero, List.getElem_cons_zero] at hcell
  have HL : Hid (∀ wx, Calls Tryd.prog 91 #[.int .i64 (((c :: t).length : Nat) : Int)] wx fun e w' => e = .returned (.int .i64 (leadN (c :: t).length)) ∧ w' = wx.alloc (.cells #[.int .i64 0, .int .i64 0, .int .i64 192, .int .i64 224, .int .i64 240] 3)) := fun wx => dlead_any _ h4 wx
  have hcl := c.toNat_lt
  have hll : 0 ≤ leadN (c :: t).length ∧ leadN (c :: t).length ≤ 240 := by unfold leadN; omega
  have HT : Hid (∀ k (h : k < t.length), w.cell? ⟨g, o + 1 + k, none⟩ = some (.int .u8 (t[k].toNat : Int))) := fun k h => by
    obtain ⟨g2, o2, e2, _, h2⟩ := hb.cell (k + 1) (by simp; omega)
    injection e2 with e2
    injection e2 with e3 e4
    subst e3 e4
    rw [show o + 1 + k = o + (k + 1) from by omega]
    exact h2
  obtain ⟨L, hL⟩ : ∃ L, (c :: t).length = L := ⟨_, rfl⟩
  have HLT : Hid (t.length + 1 = L) := hL
  clear hback hb
  have HMK : Hid (mkX (c :: t) = t.foldl addX ((c.toNat : Int) - leadN (c :: t).length)) := rfl
  rw [hL] at h0 h4 hc HBK HL hll HMK ⊢
  clear hL
  generalize leadN L = LD at HL hll HMK
  obtain ⟨AD, hAD⟩ : ∃ AD : Option Addr, (if cap = 1 then some (⟨g, o, none⟩ : Addr) else some ⟨g, o + 1, none⟩) = AD := ⟨_, rfl⟩
  have hL0 : (0 : Int) < (L : Int) := by have := HLT.out; omega
  go_enter Tryd.func72, Tryd.ntmps72
  go_wp2_with fail
  have hcw : IntKind.i64.wrap (c.toNat : Int) = (c.toNat : Int) := by rw [IntKind.wrap_i64]; omega
  have hcw2 : IntKind.i64.wrap ((c.toNat : Int) - LD) = (c.toNat : Int) - LD := by rw [IntKind.wrap_i64]; omega
  refine wp_region_late (fun wx => wx.cell? ⟨g, o, none⟩ = some (.int .u8 (c.toNat : Int))) 8 (by kernel_rfl) hcell (fun hHeld => ?_)
  refine wpAnyE_take (i := 0) (d := some 7) (v := ?_) rfl (by kernel_rfl) (by kernel_rfl) (by kernel_rfl) (by kernel_rfl) (fun _ _ _ h => h) rfl rfl ?hy (by assumption) ?_
  case hy => (intro w' hSw; (try dsimp only at hSw); go_simp <;> (try with_reducible rfl))
  simp only [Act.put, List.setIfInBounds_toArray, List.set_cons_zero, List.set_cons_succ]
  refine wpAnyE_take (i := 1) (d := some 8) (v := ?_) rfl (by kernel_rfl) (by kernel_rfl) (by kernel_rfl) (by kernel_rfl) (fun _ _ _ h => h) rfl rfl ?hy (by assumption) ?_
  case hy => (intro w' hSw; (try dsimp only at hSw); go_simp <;> (try with_reducible rfl))
  simp only [Act.put, List.setIfInBounds_toArray, List.set_cons_zero, List.set_cons_succ]
  refine wpAnyE_take (i := 2) (d := some 9) (v := ?_) rfl (by kernel_rfl) (by kernel_rfl) (by kernel_rfl) (by kernel_rfl) (fun _ _ _ h => h) rfl rfl ?hy (by assumption) ?_
  case hy => (intro w' hSw; (try dsimp only at hSw); go_simp <;> (try with_reducible rfl))
  simp only [Act.put, List.setIfInBounds_toArray, List.set_cons_zero, List.set_cons_succ]
  refine wpAnyE_take (i := 3) (d := some 10) (v := (.int .i64 (c.toNat : Int))) rfl (by kernel_rfl) (by kernel_rfl) (by kernel_rfl) (by kernel_rfl) (fun _ _ _ h => h) rfl rfl ?hy (by assumption) ?_
  case hy => (intro w' hSw; (try dsimp only at hSw); go_simp <;> (try with_reducible rfl))
  simp only [Act.put, List.setIfInBounds_toArray, List.set_cons_zero, List.set_cons_succ]
  refine wpAnyE_take (i := 4) (d := some 11) (v := ?_) rfl (by kernel_rfl) (by kernel_rfl) (by kernel_rfl) (by kernel_rfl) (fun _ _ _ h => h) rfl rfl ?hy (by assumption) ?_
  case hy => (intro w' hSw; (try dsimp only at hSw); go_simp <;> (try with_reducible rfl))
  simp only [Act.put, List.setIfInBounds_toArray, List.set_cons_zero, List.set_cons_succ]
  refine wpAnyE_take (i := 5) (d := some 12) (v := ?_) rfl (by kernel_rfl) (by kernel_rfl) (by kernel_rfl) (by kernel_rfl) (fun _ _ _ h => h) rfl rfl ?hy (by assumption) ?_
  case hy => (intro w' hSw; (try dsimp only at hSw); go_simp <;> (try with_reducible rfl))
  simp only [Act.put, List.setIfInBounds_toArray, List.set_cons_zero, List.set_cons_succ]
  refine wpAnyE_one (i := 6) (by kernel_rfl) rfl rfl ?_
  go_simp
  clear hHeld
  refine (HL.out _).mono ?_
  rintro e w1 ⟨rfl, rfl⟩
  refine ⟨(((Below.refl w.heap.size w).drew.alloc (Nat.le_refl _) _).cell (p := ⟨g, o, none⟩) hg |>.trans hcell), ?_⟩
  refine wpAnyE_one (i := 7) (by kernel_rfl) rfl rfl ?_
  go_simp
  refine wpAnyE_one (i := 8) (by kernel_rfl) rfl rfl ?_
  go_simp
  refine wpAnyE_done (by kernel_rfl) ?_ _
  go_wp2_with fail
  have HB1 : Hid (Below w.heap.size w (w.alloc (.cells #[.int .i64 0, .int .i64 0, .int .i64 192, .int .i64 224, .int .i64 240] 3)).drew) := ((Below.refl w.heap.size w).alloc (Nat.le_refl _) _).drew
  generalize (w.alloc (.cells #[.int .i64 0, .int .i64 0, .int .i64 192, .int .i64 224, .int .i64 240] 3)).drew = W1 at *
  go_loop [4, 18] (fun x i => ∃ k : Nat, i = .int .i64 k ∧ x = .int .i64 ((t.take k).foldl addX ((c.toNat : Int) - LD)) ∧ k ≤ t.length) (fun _ i => t.length - (intOf i).toNat)
  case atStart => exact ⟨0, rfl, rfl, Nat.zero_le _⟩
  case round =>
    obtain ⟨k, rfl, rfl, hk⟩ := hrel
    have hLT := HLT.out
    have hfx := foldX (t.take k) ((c.toNat : Int) - LD) (by omega) (by omega) (by rw [List.length_take]; omega)
    by_cases hkt : k < t.length
    · have hcap : ¬ cap = 1 := by omega
      rw [if_neg hcap] at hAD
      subst hAD
      have hck := (HB1.out.cell (p := ⟨g, o + 1 + k, none⟩) hg).trans (HT.out k hkt)
      have HFT : Hid (_ = _) := fold_take t ((c.toNat : Int) - LD) k hkt
      have hct := t[k].toNat_lt
      generalize (t.take k).foldl addX ((c.toNat : Int) - LD) = x at *
      generalize t[k] = y at *
      have hw1 : IntKind.i64.wrap (64 * x) = 64 * x := by rw [IntKind.wrap_i64]; omega
      have hw2 : IntKind.i64.wrap (y.toNat : Int) = (y.toNat : Int) := by rw [IntKind.wrap_i64]; omega
      have hw3 : IntKind.i64.wrap (64 * x + (y.toNat : Int)) = 64 * x + (y.toNat : Int) := by rw [IntKind.wrap_i64]; omega
      have hw4 : IntKind.i64.wrap (64 * x + (y.toNat : Int) - 128) = 64 * x + (y.toNat : Int) - 128 := by rw [IntKind.wrap_i64]; omega
      have hlt : (k : Int) < ((L - 1 : Nat) : Int) := by omega
      clear hLT
      go_wp2
      go_round
      case rel => exact ⟨k + 1, by go_num, by rw [HFT.out], by omega⟩
      case measure => simp [intOf]; omega
    · obtain rfl : k = t.length := by omega
      rw [List.take_length] at hfx ⊢
      rw [← HMK.out] at hfx ⊢
      have HOK : Hid (okX (c :: t) ↔ isR (mkX (c :: t)) ∧ Lib.encodeRune (mkX (c :: t)) = c :: t) := Iff.rfl
      have hlt : ¬ ((t.length : Int) < ((L - 1 : Nat) : Int)) := by omega
      obtain ⟨x, hx⟩ : ∃ x, x = mkX (c :: t) := ⟨_, rfl⟩
      have HXX : Hid (x = mkX (c :: t)) := hx
      rw [← hx] at hfx HOK ⊢
      clear hx
      have HI := dis_any x W1.drew
      have hw1 : IntKind.i32.wrap x = x := by rw [IntKind.wrap_i32]; omega
      clear HL HT HMK hcell hcw hcw2 hll hcl hLT hAD HLT hc h4 h0 hL0 hk hkt
      go_wp2_with fail
      by_cases hR : isR x
      · rw [decide_eq_true hR] at HI
        have HWR : Hid (∀ wx, Calls Tryd.prog 53 #[.int .i32 x] wx fun e w' => e = .returned (.slice (some ⟨wx.heap.size, 0, none⟩) (Lib.encodeRune x).length (Lib.encodeRune x).length) ∧ w' = wx.alloc (.cells (rowV (Lib.encodeRune x)) 5)) := fun wx => dwr_any x hR wx
        refine wp_region_late (fun wx => Below w.heap.size w wx) 15 (by kernel_rfl) HB1.out.drew (fun hHeld => ?_)
        refine wpAnyE_tk (i := 0) (d := some 29) (v := ?_) rfl (by kernel_rfl) (by kernel_rfl) (by kernel_rfl) rfl (fun _ _ _ h => h) rfl rfl ?hy (by assumption) ?_
        case hy => (intro w' hSw; (try dsimp only at hSw); go_simp <;> (try with_reducible rfl))
        simp only [Act.put, List.setIfInBounds_toArray, List.set_cons_zero, List.set_cons_succ]
        refine wpAnyE_tk (i := 1) (d := some 30) (v := .int .i32 x) rfl (by kernel_rfl) (by kernel_rfl) (by kernel_rfl) rfl (fun _ _ _ h => h) rfl rfl ?hy (by assumption) ?_
        case hy => (intro w' hSw; (try dsimp only at hSw); go_simp <;> (try with_reducible rfl))
        simp only [Act.put, List.setIfInBounds_toArray, List.set_cons_zero, List.set_cons_succ]
        refine wpAnyE_tk (i := 2) (d := some 31) (v := ?_) rfl (by kernel_rfl) (by kernel_rfl) (by kernel_rfl) rfl (fun _ _ _ h => h) rfl rfl ?hy (by assumption) ?_
        case hy => (intro w' hSw; (try dsimp only at hSw); go_simp <;> (try with_reducible rfl))
        simp only [Act.put, List.setIfInBounds_toArray, List.set_cons_zero, List.set_cons_succ]
        refine wpAnyE_on (i := 3) (by kernel_rfl) rfl rfl ?_
        go_simp
        refine HI.mono ?_
        rintro e w2 ⟨rfl, rfl⟩
        refine ⟨HB1.out.drew, ?_⟩
        refine wpAnyE_tk (i := 4) (d := some 33) (v := ?_) rfl (by kernel_rfl) (by kernel_rfl) (by kernel_rfl) rfl (fun _ _ _ h => h) rfl rfl ?hy (by assumption) ?_
        case hy => (intro w' hSw; (try dsimp only at hSw); go_simp <;> (try with_reducible rfl))
        simp only [Act.put, List.setIfInBounds_toArray, List.set_cons_zero, List.set_cons_succ]
        refine wpAnyE_tk (i := 5) (d := some 34) (v := ?_) rfl (by kernel_rfl) (by kernel_rfl) (by kernel_rfl) rfl (fun _ _ _ h => h) rfl rfl ?hy (by assumption) ?_
        case hy => (intro w' hSw; (try dsimp only at hSw); go_simp <;> (try with_reducible rfl))
        simp only [Act.put, List.setIfInBounds_toArray, List.set_cons_zero, List.set_cons_succ]
        refine wpAnyE_tk (i := 6) (d := some 35) (v := .int .i32 x) rfl (by kernel_rfl) (by kernel_rfl) (by kernel_rfl) rfl (fun _ _ _ h => h) rfl rfl ?hy (by assumption) ?_
        case hy => (intro w' hSw; (try dsimp only at hSw); go_simp <;> (try with_reducible rfl))
        simp only [Act.put, List.setIfInBounds_toArray, List.set_cons_zero, List.set_cons_succ]
        refine wpAnyE_tk (i := 9) (d := some 38) (v := ?_) rfl (by kernel_rfl) (by kernel_rfl) (by kernel_rfl) rfl (fun _ _ _ h => h) rfl rfl ?hy (by assumption) ?_
        case hy => (intro w' hSw; (try dsimp only at hSw); go_simp <;> (try with_reducible rfl))
        simp only [Act.put, List.setIfInBounds_toArray, List.set_cons_zero, List.set_cons_succ]
        refine wpAnyE_tk (i := 10) (d := some 39) (v := .string ⟨(c :: t).toArray⟩) rfl (by kernel_rfl) (by kernel_rfl) (by kernel_rfl) rfl (fun _ _ _ h => h) rfl rfl ?hy (by assumption) ?_
        case hy => (intro w' hSw; have hcv := HBK.out w' hSw; go_simp)
        simp only [Act.put, List.setIfInBounds_toArray, List.set_cons_zero, List.set_cons_succ]
        refine wpAnyE_on (i := 7) (by kernel_rfl) rfl rfl ?_
        go_simp
        refine (HWR.out _).mono ?_
        rintro e w2 ⟨rfl, rfl⟩
        have HBN : Below w.heap.size w (W1.alloc (.cells (rowV (Lib.encodeRune x)) 5)).drew := (HB1.out.alloc HB1.out.size _).drew
        refine ⟨HBN, ?_⟩
        have hcv : (convert 38 9 (.slice (some ⟨W1.heap.size, 0, none⟩) (Lib.encodeRune x).length (Lib.encodeRune x).length)).run Tryd.prog (W1.alloc (.cells (rowV (Lib.encodeRune x)) 5)).drew = .ok (.string ⟨(Lib.encodeRune x).toArray⟩) (W1.alloc (.cells (rowV (Lib.encodeRune x)) 5)).drew := by
          have hbt : Bts (some ⟨W1.heap.size, 0, none⟩) (Lib.encodeRune x) (W1.alloc (.cells (rowV (Lib.encodeRune x)) 5)).drew := bts_new W1 (Lib.encodeRune x)
          exact bts_back hbt _
        clear HWR HBK hHeld
        refine wpAnyE_tk (i := 13) (d := some 2) (v := ?_) rfl (by kernel_rfl) (by kernel_rfl) (by kernel_rfl) rfl (fun _ _ _ h => h) rfl rfl ?hy (by assumption) ?_
        case hy => (intro w' hSw; (try dsimp only at hSw); go_simp <;> (try with_reducible rfl))
        simp only [Act.put, List.setIfInBounds_toArray, List.set_cons_zero, List.set_cons_succ]
        refine wpAnyE_on (i := 8) (by kernel_rfl) rfl rfl ?_
        go_simp
        by_cases hE : Lib.encodeRune x = c :: t
        · rw [hE] at HBN ⊢
          have HD : Hid (decide (okX (c :: t)) = true) := decide_eq_true (HOK.out.2 ⟨hR, hE⟩)
          clear hcv
          refine wpAnyE_tk (i := 11) (d := some 40) (v := .bool true) rfl (by kernel_rfl) (by kernel_rfl) (by kernel_rfl) rfl (fun _ _ _ h => h) rfl rfl ?hy (by assumption) ?_
          case hy => (intro w' hSw; (try dsimp only at hSw); go_simp <;> (try with_reducible rfl))
          simp only [Act.put, List.setIfInBounds_toArray, List.set_cons_zero, List.set_cons_succ]
          refine wpAnyE_tk (i := 12) (d := some 41) (v := .bool true) rfl (by kernel_rfl) (by kernel_rfl) (by kernel_rfl) rfl (fun _ _ _ h => h) rfl rfl ?hy (by assumption) ?_
          case hy => (intro w' hSw; (try dsimp only at hSw); go_simp <;> (try with_reducible rfl))
          simp only [Act.put, List.setIfInBounds_toArray, List.set_cons_zero, List.set_cons_succ]
          refine wpAnyE_tk (i := 14) (d := some 3) (v := ?_) rfl (by kernel_rfl) (by kernel_rfl) (by kernel_rfl) rfl (fun _ _ _ h => h) rfl rfl ?hy (by assumption) ?_
          case hy => (intro w' hSw; (try dsimp only at hSw); go_simp <;> (try with_reducible rfl))
          simp only [Act.put, List.setIfInBounds_toArray, List.set_cons_zero, List.set_cons_succ]
          refine wpAnyE_done (by kernel_rfl) ?_ _
          go_wp2
          (try simp only [Exit.inBlock, Exit.then])
          refine bodyPost_ret (v := .tuple #[.int .i32 x, .bool true]) (by simp [results, Tryd.results72, go_sem]) rfl ⟨⟨x, by rw [HD.out], fun _ => HXX.out⟩, HBN⟩
        · have hne : (⟨(Lib.encodeRune x).toArray⟩ : ByteArray) ≠ ⟨(c :: t).toArray⟩ := fun e => hE (by injection e with e; injection e)
          have HD : Hid (decide (okX (c :: t)) = false) := decide_eq_false (fun h => hE (HOK.out.1 h).2)
          clear hcv
          refine wpAnyE_tk (i := 11) (d := some 40) (v := .bool false) rfl (by kernel_rfl) (by kernel_rfl) (by kernel_rfl) rfl (fun _ _ _ h => h) rfl rfl ?hy (by assumption) ?_
          case hy => (intro w' hSw; (try dsimp only at hSw); go_simp <;> (try with_reducible rfl))
          simp only [Act.put, List.setIfInBounds_toArray, List.set_cons_zero, List.set_cons_succ]
          refine wpAnyE_tk (i := 12) (d := some 41) (v := .bool false) rfl (by kernel_rfl) (by kernel_rfl) (by kernel_rfl) rfl (fun _ _ _ h => h) rfl rfl ?hy (by assumption) ?_
          case hy => (intro w' hSw; (try dsimp only at hSw); go_simp <;> (try with_reducible rfl))
          simp only [Act.put, List.setIfInBounds_toArray, List.set_cons_zero, List.set_cons_succ]
          refine wpAnyE_tk (i := 14) (d := some 3) (v := ?_) rfl (by kernel_rfl) (by kernel_rfl) (by kernel_rfl) rfl (fun _ _ _ h => h) rfl rfl ?hy (by assumption) ?_
          case hy => (intro w' hSw; (try dsimp only at hSw); go_simp <;> (try with_reducible rfl))
          simp only [Act.put, List.setIfInBounds_toArray, List.set_cons_zero, List.set_cons_succ]
          refine wpAnyE_done (by kernel_rfl) ?_ _
          go_wp2
          (try simp only [Exit.inBlock, Exit.then])
          refine bodyPost_ret (v := .tuple #[.int .i32 x, .bool false]) (by simp [results, Tryd.results72, go_sem]) rfl ⟨⟨x, by rw [HD.out], fun _ => HXX.out⟩, HBN⟩
      · rw [decide_eq_false hR] at HI
        have HD : Hid (decide (okX (c :: t)) = false) := decide_eq_false (fun h => hR (HOK.out.1 h).1)
        refine wp_region_late (fun wx => Below w.heap.size w wx) 15 (by kernel_rfl) HB1.out.drew (fun hHeld => ?_)
        refine wpAnyE_tk (i := 0) (d := some 29) (v := ?_) rfl (by kernel_rfl) (by kernel_rfl) (by kernel_rfl) rfl (fun _ _ _ h => h) rfl rfl ?hy (by assumption) ?_
        case hy => (intro w' hSw; (try dsimp only at hSw); go_simp <;> (try with_reducible rfl))
        simp only [Act.put, List.setIfInBounds_toArray, List.set_cons_zero, List.set_cons_succ]
        refine wpAnyE_tk (i := 1) (d := some 30) (v := .int .i32 x) rfl (by kernel_rfl) (by kernel_rfl) (by kernel_rfl) rfl (fun _ _ _ h => h) rfl rfl ?hy (by assumption) ?_
        case hy => (intro w' hSw; (try dsimp only at hSw); go_simp <;> (try with_reducible rfl))
        simp only [Act.put, List.setIfInBounds_toArray, List.set_cons_zero, List.set_cons_succ]
        refine wpAnyE_tk (i := 2) (d := some 31) (v := ?_) rfl (by kernel_rfl) (by kernel_rfl) (by kernel_rfl) rfl (fun _ _ _ h => h) rfl rfl ?hy (by assumption) ?_
        case hy => (intro w' hSw; (try dsimp only at hSw); go_simp <;> (try with_reducible rfl))
        simp only [Act.put, List.setIfInBounds_toArray, List.set_cons_zero, List.set_cons_succ]
        refine wpAnyE_on (i := 3) (by kernel_rfl) rfl rfl ?_
        go_simp
        refine HI.mono ?_
        rintro e w2 ⟨rfl, rfl⟩
        refine ⟨HB1.out.drew, ?_⟩
        refine wpAnyE_tk (i := 4) (d := some 33) (v := ?_) rfl (by kernel_rfl) (by kernel_rfl) (by kernel_rfl) rfl (fun _ _ _ h => h) rfl rfl ?hy (by assumption) ?_
        case hy => (intro w' hSw; (try dsimp only at hSw); go_simp <;> (try with_reducible rfl))
        simp only [Act.put, List.setIfInBounds_toArray, List.set_cons_zero, List.set_cons_succ]
        refine wpAnyE_sk (i := 5) (d := some 34) rfl (by kernel_rfl) (by kernel_rfl) (by kernel_rfl) rfl (fun _ _ _ h => h) rfl rfl (by assumption) ?_
        simp only [Act.put, List.setIfInBounds_toArray, List.set_cons_zero, List.set_cons_succ]
        refine wpAnyE_sk (i := 6) (d := some 35) rfl (by kernel_rfl) (by kernel_rfl) (by kernel_rfl) rfl (fun _ _ _ h => h) rfl rfl (by assumption) ?_
        simp only [Act.put, List.setIfInBounds_toArray, List.set_cons_zero, List.set_cons_succ]
        refine wpAnyE_sk (i := 7) (d := some 36) rfl (by kernel_rfl) (by kernel_rfl) (by kernel_rfl) rfl (fun _ _ _ h => h) rfl rfl (by assumption) ?_
        simp only [Act.put, List.setIfInBounds_toArray, List.set_cons_zero, List.set_cons_succ]
        refine wpAnyE_sk (i := 8) (d := some 37) rfl (by kernel_rfl) (by kernel_rfl) (by kernel_rfl) rfl (fun _ _ _ h => h) rfl rfl (by assumption) ?_
        simp only [Act.put, List.setIfInBounds_toArray, List.set_cons_zero, List.set_cons_succ]
        refine wpAnyE_sk (i := 9) (d := some 38) rfl (by kernel_rfl) (by kernel_rfl) (by kernel_rfl) rfl (fun _ _ _ h => h) rfl rfl (by assumption) ?_
        simp only [Act.put, List.setIfInBounds_toArray, List.set_cons_zero, List.set_cons_succ]
        refine wpAnyE_sk (i := 10) (d := some 39) rfl (by kernel_rfl) (by kernel_rfl) (by kernel_rfl) rfl (fun _ _ _ h => h) rfl rfl (by assumption) ?_
        simp only [Act.put, List.setIfInBounds_toArray, List.set_cons_zero, List.set_cons_succ]
        refine wpAnyE_sk (i := 11) (d := some 40) rfl (by kernel_rfl) (by kernel_rfl) (by kernel_rfl) rfl (fun _ _ _ h => h) rfl rfl (by assumption) ?_
        simp only [Act.put, List.setIfInBounds_toArray, List.set_cons_zero, List.set_cons_succ]
        refine wpAnyE_tk (i := 12) (d := some 41) (v := .bool false) rfl (by kernel_rfl) (by kernel_rfl) (by kernel_rfl) rfl (fun _ _ _ h => h) rfl rfl ?hy (by assumption) ?_
        case hy => (intro w' hSw; (try dsimp only at hSw); go_simp <;> (try with_reducible rfl))
        simp only [Act.put, List.setIfInBounds_toArray, List.set_cons_zero, List.set_cons_succ]
        refine wpAnyE_tk (i := 13) (d := some 2) (v := ?_) rfl (by kernel_rfl) (by kernel_rfl) (by kernel_rfl) rfl (fun _ _ _ h => h) rfl rfl ?hy (by assumption) ?_
        case hy => (intro w' hSw; (try dsimp only at hSw); go_simp <;> (try with_reducible rfl))
        simp only [Act.put, List.setIfInBounds_toArray, List.set_cons_zero, List.set_cons_succ]
        refine wpAnyE_tk (i := 14) (d := some 3) (v := ?_) rfl (by kernel_rfl) (by kernel_rfl) (by kernel_rfl) rfl (fun _ _ _ h => h) rfl rfl ?hy (by assumption) ?_
        case hy => (intro w' hSw; (try dsimp only at hSw); go_simp <;> (try with_reducible rfl))
        simp only [Act.put, List.setIfInBounds_toArray, List.set_cons_zero, List.set_cons_succ]
        refine wpAnyE_done (by kernel_rfl) ?_ _
        go_wp2
        (try simp only [Exit.inBlock, Exit.then])
        refine bodyPost_ret (v := .tuple #[.int .i32 x, .bool false]) (by simp [results, Tryd.results72, go_sem]) rfl ⟨⟨x, by rw [HD.out], fun _ => HXX.out⟩, HB1.out.drew⟩
end Go.Proofs.YtdgepnfgjgbkoaaDoor
