/-
  P7.7: what a ring's things come to, from the first on; of no ring, of one that New did not make, by no function what was there at first; proved for every input.
-/
import Derived.Test.YtgbbjhhggjocmaaFld
import Derived.Test.YtgbbjhhggjocmaaPgI
import Derived.Test.YtgbbjhhggjocmaaOpen7
import Derived.Test.YtgbbjhhggjocmaaRows
import Derived.ProofKit
import Derived.ChangeMaps5
import Derived.OpenShut
import Derived.ShutString
import Derived.ChangeOld
import Derived.SizedLaws
namespace Go.Proofs.Ytgbbjhhggjocmaa.queueFolds
open Go.ChangeShapes Go.WideShapes Go.ChangeAt Go.RowKit

/-- Both rings, and all else new. -/
structure Fo (w0 W : World) (p q y : Option Nat) (v : Value) (mo : Nat) (L : List Int) : Prop where
  pg : PgI W p q y v mo L
  ow : ∀ k, Fp p q y v k → w0.heap.size ≤ k
  bel : Below w0.heap.size w0 W
theorem Fo.later {w0 W W' : World} {p q y : Option Nat} {v : Value} {mo : Nat} {L : List Int} (h : Fo w0 W p q y v mo L) (hb : Below W.heap.size W W') : Fo w0 W' p q y v mo L := ⟨h.pg.below hb, h.ow, h.bel.trans (hb.mono h.bel.size)⟩
theorem Fo.both {w0 w w1 w1b w2 : World} {p q y q' : Option Nat} {v v' : Value} {mo : Nat} {L L' : List Int} (h : Fo w0 w p q y v mo L) (h1 : RgI w1 p q' mo L') (c1 : Chg (Fq p q) w w1) (q1 : ∀ k, q' = some k → q = some k ∨ w.heap.size ≤ k) (bb : Below w1.heap.size w1 w1b)
    (h2 : Gr w2 y mo (embI L') v') (c2 : Chg (Fr y v) w1b w2) (q2 : ∀ k, v'.ownBlock = some k → v.ownBlock = some k ∨ w1b.heap.size ≤ k) : Fo w0 w2 p q' y v' mo L' := by
  obtain ⟨k1, k2, k3⟩ := h.pg.both h1 c1 q1 bb h2 c2 q2
  have hz := h.bel.size
  exact ⟨k1, fun k hk => (k3 k hk).elim (h.ow k) (fun e => by omega), h.bel.trans (k2.to_below hz h.ow)⟩
structure Fz (w0 W : World) (p q y : Option Nat) (v : Value) (mo : Nat) (L : List Int) (b1 : Nat) (q1 : Option Nat) (bz : Nat) : Prop where
  fo : Fo w0 W p q y v mo L
  on : RgI W (some b1) q1 1 [25]
  zr : Lies W bz #[.int .i64 0, .slice none 0 0, .int .i64 0, .int .i64 0] 61
theorem Fz.later {w0 W W' : World} {p q y : Option Nat} {v : Value} {mo : Nat} {L : List Int} {b1 : Nat} {q1 : Option Nat} {bz : Nat} (h : Fz w0 W p q y v mo L b1 q1 bz) (hb : Below W.heap.size W W') : Fz w0 W' p q y v mo L b1 q1 bz := ⟨h.fo.later hb, h.on.below hb, h.zr.below hb h.zr.lt⟩
theorem Fz.mk' {w0 W W' : World} {p q y : Option Nat} {v : Value} {mo : Nat} {L : List Int} {b1 : Nat} {q1 : Option Nat} (h : Fo w0 W p q y v mo L) (hr : RgI W' (some b1) q1 1 [25]) (hc : Chg (Fq (some b1) none) W W') (hlt : ∀ k, Fp p q y v k → k < b1) (hz : w0.heap.size ≤ b1) : Fz w0 (W'.alloc (.cells #[.int .i64 0, .slice none 0 0, .int .i64 0, .int .i64 0] 61)) p q y v mo L b1 q1 W'.heap.size := by
  have hn : ∀ k, Fq (some b1) none k → k = b1 := fun k hk => by rcases hk with e | e; exact (Option.some.inj e).symm; cases e
  have hb : Below W'.heap.size W' (W'.alloc (.cells #[.int .i64 0, .slice none 0 0, .int .i64 0, .int .i64 0] 61)) := (Below.refl _ _).alloc (Nat.le_refl _) _
  have h1 : Fo w0 W' p q y v mo L := ⟨h.pg.chg hc (fun k hk hf => by have := hlt k hk; have := hn k hf; omega), h.ow, h.bel.trans (hc.to_below h.bel.size (fun k hk => by have := hn k hk; omega))⟩
  exact ⟨h1.later hb, hr.below hb, Lies.new W' _ _⟩
set_option maxRecDepth 100000 in
set_option maxHeartbeats 4000000 in
theorem bad (most : Int) (hm : most < 1 ∨ 1048576 < most) (a1 : Option Addr) (l : List Int) (c1 : Nat) (drop : Int) (w : World) (h1 : Sg celI a1 l w) (hl : l.length ≤ 17592186043904) :
    Calls Try.prog 5 #[.int .i64 most, .slice a1 l.length c1, .int .i64 drop] w fun e w' => e = .returned (.bool true) ∧ Below w.heap.size w w' := by
  have H1 : Hid (Sg celI a1 l w) := h1
  have HLL : Hid (l.length ≤ 17592186043904) := hl
  clear h1 hl
  have HNQ : Hid (Calls Try.prog 9 #[.int .i64 most] w fun e w' => e = .returned (.tuple #[.pointer none, .int .i64 2]) ∧ w' = w) := newI_bad most hm w
  have HNR : Hid (Calls Try.prog 11 #[.int .i64 most] w fun e w' => e = .returned (.tuple #[.pointer none, .int .i64 2]) ∧ w' = w) := rnew_bad most hm w
  clear hm
  go_enter Try.func5, Try.ntmps5
  go_wp2_with (first
    | (go_at_call 9; refine HNQ.out.mono ?_; clear HNQ; rintro e w1 ⟨rfl, hw1⟩; rw [hw1]; clear hw1)
    | (go_at_call 11; refine HNR.out.mono ?_; clear HNR; rintro e w2 ⟨rfl, hw2⟩; rw [hw2]; clear hw2))
  have HS0 : Hid (Fo w w none none none (.slice none 0 0) 0 []) := ⟨PgI.none w, fun k hk => (by rcases hk with (e | e) | (e | e) <;> cases e), Below.refl _ _⟩
  have HPU : Hid (∀ wx q v L x, Fo w wx none q none v 0 L → Calls Try.prog 20 #[.pointer none, .int .i64 x] wx fun e w' => e = .returned (.int .i64 (pushE 0 L.length)) ∧ ∃ q', RgI w' none q' 0 (pushLI 0 L x) ∧ Chg (Fq none q) wx w' ∧ (∀ k, q' = some k → q = some k ∨ wx.heap.size ≤ k)) := fun wx q v L x h => pushI_any none q 0 L x wx h.pg.rg
  have HRU : Hid (∀ wx v L x, Gr wx none 0 (embI L) v → Calls Try.prog 33 #[.pointer none, .agg #[.int .i64 x, .int .i64 0]] wx fun e w' => e = .returned (.int .i64 (pushE 0 (embI L).length)) ∧ ∃ v', Gr w' none 0 (embI (pushLI 0 L x)) v' ∧ Chg (Fr none v) wx w' ∧ (∀ k, v'.ownBlock = some k → v.ownBlock = some k ∨ wx.heap.size ≤ k)) := fun wx v L x h => by have := rpush_any none 0 (embI L) v (tkI x) wx h; rw [embI_push] at this; exact this
  have HDU : Hid (∀ wx q v L n, Fo w wx none q none v 0 L → Calls Try.prog 34 #[.pointer none, .int .i64 n] wx fun e w' => e = .returned (.int .i64 (dropN L.length n : Int)) ∧ RgI w' none q 0 (L.drop (dropN L.length n)) ∧ Chg (Fq none q) wx w') := fun wx q v L n h => dropI_any none q 0 L n wx h.pg.rg _ rfl
  have HRD : Hid (∀ wx v L n, Gr wx none 0 (embI L) v → Calls Try.prog 35 #[.pointer none, .int .i64 n] wx fun e w' => e = .returned (.int .i64 (dropN L.length n : Int)) ∧ ∃ v', Gr w' none 0 (embI (L.drop (dropN L.length n))) v' ∧ Chg (Fr none v) wx w' ∧ (∀ k, v'.ownBlock = some k → v.ownBlock = some k ∨ wx.heap.size ≤ k)) := fun wx v L n h => by have := rdrop_any none 0 (embI L) v n wx h _ rfl; rw [embI_len, embI_drop] at this; exact this
  go_loopw [43] (fun iv wr => ∃ (k : Nat) (q : Option Nat) (v : Value) (L : List Int), iv = .int .i64 (k : Int) ∧ k ≤ l.length ∧ Hid (Fo w wr none q none v 0 L)) (fun iv _ => l.length - (intOf iv).toNat)
  case atStart => exact ⟨0, none, _, [], rfl, Nat.zero_le _, HS0.out⟩
  case round =>
    obtain ⟨k, q, v, L, rfl, hk, HS⟩ := hrel
    clear HS0
    by_cases hlt : k < l.length
    · obtain ⟨g, o, rfl, _, hc⟩ := (H1.out.below HS.out.bel).cell k hlt
      have hki : (k : Int) < (l.length : Int) := by omega
      have hwk : IntKind.i64.wrap ((k : Int) + 1) = (k : Int) + 1 := by have := HLL.out; rw [IntKind.wrap_i64]; omega
      generalize l[k] = x at *
      by_cases hd : (k : Int) = drop
      · subst hd
        go_wp2_with (first
          | (go_at_call 20; refine (HPU.out _ q v L x HS.out).mono ?_; clear HPU; rintro e w3 ⟨rfl, q3, r3, c3, n3⟩; have HM3 : Hid _ := HS.out.pg.mid c3 (Below.refl _ _); have R3 : Hid _ := r3; have C3 : Hid _ := c3; have N3 : Hid _ := n3; clear r3 c3 n3)
          | (go_at_call 33; refine (HRU.out _ v L x HM3.out).mono ?_; clear HRU HM3; rintro e w4 ⟨rfl, v4, r4, c4, n4⟩; have HS4 : Hid (Fo w w4 none q3 none v4 0 (pushLI 0 L x)) := HS.out.both R3.out C3.out N3.out (Below.refl _ _) r4 c4 n4; clear R3 C3 N3 r4 c4 n4)
          | (go_at_call 34; refine (HDU.out _ q3 v4 _ _ HS4.out).mono ?_; clear HDU; rintro e w5 ⟨rfl, r5, c5⟩; have HM5 : Hid _ := HS4.out.pg.mid c5 (Below.refl _ _); have R5 : Hid _ := r5; have C5 : Hid _ := c5; clear r5 c5)
          | (go_at_call 35; refine (HRD.out _ v4 _ _ HM5.out).mono ?_; clear HRD HM5; rintro e w6 ⟨rfl, v6, r6, c6, n6⟩; have HS6 : Hid _ := HS4.out.both R5.out C5.out (fun k hk => .inl hk) (Below.refl _ _) r6 c6 n6; clear R5 C5 r6 c6 n6))
        go_roundw
        case rel => exact ⟨k + 1, _, _, _, by go_num, by omega, HS6⟩
        case measure => simp [intOf]; omega
      · have hd' : ((k : Int) == drop) = false := by simpa using hd
        go_wp2_with (first
          | (go_at_call 20; refine (HPU.out _ q v L x HS.out).mono ?_; clear HPU; rintro e w3 ⟨rfl, q3, r3, c3, n3⟩; have HM3 : Hid _ := HS.out.pg.mid c3 (Below.refl _ _); have R3 : Hid _ := r3; have C3 : Hid _ := c3; have N3 : Hid _ := n3; clear r3 c3 n3)
          | (go_at_call 33; refine (HRU.out _ v L x HM3.out).mono ?_; clear HRU HM3; rintro e w4 ⟨rfl, v4, r4, c4, n4⟩; have HS4 : Hid (Fo w w4 none q3 none v4 0 (pushLI 0 L x)) := HS.out.both R3.out C3.out N3.out (Below.refl _ _) r4 c4 n4; clear R3 C3 N3 r4 c4 n4))
        go_roundw
        case rel => exact ⟨k + 1, _, _, _, by go_num, by omega, HS4⟩
        case measure => simp [intOf]; omega
    · have hki : ¬ (k : Int) < (l.length : Int) := by omega
      have HRW : Hid (Calls Try.prog 36 #[.pointer none] wr fun e w' => ∃ v', e = .returned v' ∧ Ow celG 31 2 w' v' (embI L) ∧ Below wr.heap.size wr w' ∧ (∀ k, v'.ownBlock = some k → wr.heap.size ≤ k)) := rrow_any none 0 (embI L) v wr HS.out.pg.gr
      have HLL2 : Hid (L.length ≤ 1048576) := by have := HS.out.pg.rg.len; unfold Hid; omega
      clear hlt hk H1 HLL HPU HRU HDU HRD
      go_wp2_with (go_at_call 36; refine HRW.out.mono ?_; clear HRW; rintro e w3 ⟨rv, rfl, ho, hb, _⟩; obtain ⟨ra, rc, rfl, _⟩ := ho.shape; rw [embI_len] at ho; rw [embI_len]; have HS3 : Hid (Fo w w3 none q none v 0 L ∧ Ow celG 31 2 w3 (.slice ra L.length rc) (embI L)) := ⟨HS.out.later hb, ho⟩; clear ho hb HS)
      go_loopw [14, 71] (fun sv iv wr => ∃ (j : Nat), j ≤ L.length ∧ iv = .int .i64 (j : Int) ∧ sv = .string (fldS ⟨#[98, 101, 103, 105, 110]⟩ (L.take j)) ∧ Hid (Fo w wr none q none v 0 L ∧ Ow celG 31 2 wr (.slice ra L.length rc) (embI L))) (fun _ iv _ => L.length - (intOf iv).toNat)
      case atStart => exact ⟨0, Nat.zero_le _, rfl, rfl, HS3.out⟩
      case round =>
        obtain ⟨j, hj, rfl, rfl, HS⟩ := hrel
        clear HS3
        by_cases hjl : j < L.length
        · have hji : (j : Int) < (L.length : Int) := by omega
          have hwj : IntKind.i64.wrap ((j : Int) + 1) = (j : Int) + 1 := by have := HLL2.out; rw [IntKind.wrap_i64]; omega
          have hsz : (fldS ⟨#[98, 101, 103, 105, 110]⟩ (L.take j)).size ≤ 4194304 := by rw [fldS_size, List.length_take]; have := HLL2.out; show 5 + _ ≤ _; omega
          obtain ⟨y, hy⟩ : ∃ y, y = L[j] := ⟨_, rfl⟩
          have HAD : Hid (∀ wx, Calls Try.prog 37 #[.string (fldS ⟨#[98, 101, 103, 105, 110]⟩ (L.take j)), .int .i64 y] wx fun e w' => e = .returned (.string (fldS ⟨#[98, 101, 103, 105, 110]⟩ (L.take (j + 1)))) ∧ Below wx.heap.size wx w') := fun wx => by rw [← List.take_append_getElem hjl, fldS_snoc, ← hy]; exact add_any _ _ wx hsz
          have hO := HS.out.2
          obtain ⟨g, hra⟩ : ∃ g, ra = some ⟨g, 0, none⟩ := by
            obtain ⟨a', c', e', hs⟩ := hO.shape
            have e1 : ra = a' := by injection e'
            rw [e1]
            exact hs (fun e => by have := embI_len L; rw [e] at this; simp at this; omega)
          subst hra
          have hjE : j < (embI L).length := by rw [embI_len]; exact hjl
          have hEl : (embI L)[j] = (y, 0) := by rw [hy]; simp [embI]
          have hfl := flat_length celG_length (embI L)
          have f0 := flat_at celG_length (embI L) j 0 hjE (by decide)
          have f1 := flat_at celG_length (embI L) j 1 hjE (by decide)
          rw [hEl] at f0 f1
          have g0 : wr.cell? ⟨g, j * 2, none⟩ = some (.int .i64 y) := by rw [hO.cells _ (by omega), ← Nat.add_zero (j * 2), f0]; rfl
          have g1 : wr.cell? ⟨g, j * 2 + 1, none⟩ = some (.int .i64 0) := by rw [hO.cells _ (by omega), f1]; rfl
          have HBA : Hid (Below wr.heap.size wr (wr.alloc (.cells #[.int .i64 y, .int .i64 0] 31))) := (Below.refl _ _).alloc (Nat.le_refl _) _
          have x0 : (wr.alloc (.cells #[.int .i64 y, .int .i64 0] 31)).cell? ⟨wr.heap.size, 0, none⟩ = some (.int .i64 y) := (Lies.new wr _ _).cell 0
          obtain ⟨s1, hs1⟩ : ∃ s1, s1 = fldS ⟨#[98, 101, 103, 105, 110]⟩ (L.take j) := ⟨_, rfl⟩
          obtain ⟨s2, hs2⟩ : ∃ s2, s2 = fldS ⟨#[98, 101, 103, 105, 110]⟩ (L.take (j + 1)) := ⟨_, rfl⟩
          rw [← hs1, ← hs2] at HAD
          rw [← hs1]
          have HS2 : Hid (s2 = fldS ⟨#[98, 101, 103, 105, 110]⟩ (L.take (j + 1))) := hs2
          clear hsz hy hO hjE hEl hfl f0 f1 hs1 hs2
          go_wp2_with (go_at_call 37; refine (HAD.out _).mono ?_; clear HAD; rintro e w4 ⟨rfl, hb4⟩; have HB4 : Hid (Below wr.heap.size wr w4) := HBA.out.trans (hb4.mono HBA.out.size); clear hb4)
          go_roundw
          case rel => exact ⟨j + 1, by omega, by go_num, by rw [HS2.out], HS.out.1.later HB4.out, HS.out.2.below HB4.out⟩
          case measure => simp [intOf]; omega
        · obtain rfl : j = L.length := by omega
          rw [List.take_length]
          obtain ⟨s1, hs1⟩ : ∃ s1, s1 = fldS ⟨#[98, 101, 103, 105, 110]⟩ L := ⟨_, rfl⟩
          rw [← hs1]
          have HNO : Hid (Calls Try.prog 9 #[.int .i64 1] wr fun e w' => e = .returned (.tuple #[.pointer (some ⟨wr.heap.size, 0, none⟩), .int .i64 0]) ∧ RgI w' (some wr.heap.size) none 1 [] ∧ Below wr.heap.size wr w') := newI_good 1 (by decide) (by decide) wr
          have HPO : Hid (∀ wx, RgI wx (some wr.heap.size) none 1 [] → Calls Try.prog 20 #[.pointer (some ⟨wr.heap.size, 0, none⟩), .int .i64 25] wx fun e w' => e = .returned (.int .i64 0) ∧ ∃ q', RgI w' (some wr.heap.size) q' 1 [25] ∧ Chg (Fq (some wr.heap.size) none) wx w') := fun wx h => (pushI_any (some wr.heap.size) none 1 [] 25 wx h).mono (fun e w' hh => by obtain ⟨r1, q', r2, r3, _⟩ := hh; exact ⟨r1, q', r2, r3⟩)
          have HF0 : Hid (∀ wx, Calls Try.prog 38 #[.pointer none, .string ⟨#[98, 101, 103, 105, 110]⟩, .func (.func 37) #[] #[]] wx fun e w' => e = .returned (.string ⟨#[98, 101, 103, 105, 110]⟩) ∧ Below wx.heap.size wx w') := fun wx => fold_any none none 0 [] ⟨#[98, 101, 103, 105, 110]⟩ wx .no (by decide)
          have HFZ : Hid (∀ wx bz, Lies wx bz #[.int .i64 0, .slice none 0 0, .int .i64 0, .int .i64 0] 61 → Calls Try.prog 38 #[.pointer (some ⟨bz, 0, none⟩), .string ⟨#[98, 101, 103, 105, 110]⟩, .func (.func 37) #[] #[]] wx fun e w' => e = .returned (.string ⟨#[98, 101, 103, 105, 110]⟩) ∧ Below wx.heap.size wx w') := fun wx bz h => fold_any (some bz) none 0 [] ⟨#[98, 101, 103, 105, 110]⟩ wx (.zero bz h) (by decide)
          have HFN : Hid (∀ wx, Calls Try.prog 38 #[.pointer (some ⟨wr.heap.size, 0, none⟩), .string ⟨#[98, 101, 103, 105, 110]⟩, .nilFunc] wx fun e w' => e = .returned (.string ⟨#[98, 101, 103, 105, 110]⟩) ∧ Below wx.heap.size wx w') := fun wx => fold_nil _ ⟨#[98, 101, 103, 105, 110]⟩ wx
          have HFR : Hid (∀ wx, Fo w wx none q none v 0 L → Calls Try.prog 38 #[.pointer none, .string ⟨#[98, 101, 103, 105, 110]⟩, .func (.func 37) #[] #[]] wx fun e w' => e = .returned (.string s1) ∧ Below wx.heap.size wx w') := fun wx h => by rw [hs1]; exact fold_any none q 0 L ⟨#[98, 101, 103, 105, 110]⟩ wx h.pg.rg (by decide)
          have HFX : Hid (∀ wx q', RgI wx (some wr.heap.size) q' 1 [25] → Calls Try.prog 38 #[.pointer (some ⟨wr.heap.size, 0, none⟩), .string ⟨#[120]⟩, .func (.func 37) #[] #[]] wx fun e w' => e = .returned (.string ⟨#[120, 122]⟩) ∧ Below wx.heap.size wx w') := fun wx q' h => fold_any (some wr.heap.size) q' 1 [25] ⟨#[120]⟩ wx h (by decide)
          have HLR : Hid (∀ wx, Fo w wx none q none v 0 L → Calls Try.prog 14 #[.pointer none] wx fun e w' => e = .returned (.int .i64 (L.length : Int)) ∧ w' = wx) := fun wx h => lenI_any none q 0 L wx h.pg.rg
          have HLM : Hid (∀ wx, Fo w wx none q none v 0 L → Calls Try.prog 15 #[.pointer none] wx fun e w' => e = .returned (.int .i64 (L.length : Int)) ∧ w' = wx) := fun wx h => by have := rlen_any none 0 (embI L) v wx h.pg.gr; rw [embI_len] at this; exact this
          have HS1 : Hid (Fo w wr none q none v 0 L) := HS.out.1
          clear HS hjl hj hs1 HLL2
          go_wp2_with (first
            | (go_at_call 9; refine HNO.out.mono ?_; clear HNO; rintro e w4 ⟨rfl, r4, b4⟩; have R4 : Hid _ := r4; have HS4 : Hid _ := HS1.out.later b4; have Z4 : Hid (wr.heap.size ≤ w4.heap.size) := b4.size; clear r4 b4)
            | (go_at_call 20; refine (HPO.out _ R4.out).mono ?_; clear HPO R4; rintro e w5 ⟨rfl, q5, r5, c5⟩; have HZ5 : Hid (Fz w (w5.alloc (.cells #[.int .i64 0, .slice none 0 0, .int .i64 0, .int .i64 0] 61)) none q none v 0 L wr.heap.size q5 w5.heap.size) := Fz.mk' HS4.out r5 c5 (fun k hk => HS1.out.pg.lt k hk) HS1.out.bel.size; clear r5 c5 HS4)
            | (go_at_call 38; refine (HF0.out _).mono ?_; clear HF0; rintro e w6 ⟨rfl, b6⟩; have HZ6 : Hid _ := HZ5.out.later b6; clear b6)
            | (go_at_call 38; refine (HFZ.out _ _ HZ6.out.zr).mono ?_; clear HFZ; rintro e w7 ⟨rfl, b7⟩; have HZ7 : Hid _ := HZ6.out.later b7; clear b7)
            | (go_at_call 38; refine (HFN.out _).mono ?_; clear HFN; rintro e w8 ⟨rfl, b8⟩; have HZ8 : Hid _ := HZ7.out.later b8; clear b8)
            | (go_at_call 38; refine (HFR.out _ HZ8.out.fo).mono ?_; clear HFR; rintro e w9 ⟨rfl, b9⟩; have HZ9 : Hid _ := HZ8.out.later b9; clear b9)
            | (go_at_call 38; refine (HFX.out _ _ HZ9.out.on).mono ?_; clear HFX; rintro e wa ⟨rfl, ba⟩; have HZa : Hid _ := HZ9.out.later ba; clear ba)
            | (go_at_call 14; refine (HLR.out _ HZa.out.fo).mono ?_; clear HLR; rintro e wb ⟨rfl, hwb⟩; rw [hwb]; clear hwb)
            | (go_at_call 15; refine (HLM.out _ HZa.out.fo).mono ?_; clear HLM; rintro e wc ⟨rfl, hwc⟩; rw [hwc]; clear hwc))
          go_ret
          exact ⟨rfl, HZa.out.fo.bel⟩
set_option maxRecDepth 100000 in
set_option maxHeartbeats 4000000 in
theorem good (m : Nat) (hm1 : 1 ≤ m) (hm2 : m ≤ 1048576) (a1 : Option Addr) (l : List Int) (c1 : Nat) (drop : Int) (w : World) (h1 : Sg celI a1 l w) (hl : l.length ≤ 17592186043904) :
    Calls Try.prog 5 #[.int .i64 (m : Int), .slice a1 l.length c1, .int .i64 drop] w fun e w' => e = .returned (.bool true) ∧ Below w.heap.size w w' := by
  have H1 : Hid (Sg celI a1 l w) := h1
  have HLL : Hid (l.length ≤ 17592186043904) := hl
  clear h1 hl
  have HNQ : Hid (Calls Try.prog 9 #[.int .i64 (m : Int)] w fun e w' => e = .returned (.tuple #[.pointer (some ⟨w.heap.size, 0, none⟩), .int .i64 0]) ∧ RgI w' (some w.heap.size) none m [] ∧ Below w.heap.size w w') := newI_good m hm1 hm2 w
  have HNR : Hid (∀ wx, Calls Try.prog 11 #[.int .i64 (m : Int)] wx fun e w' => e = .returned (.tuple #[.pointer (some ⟨wx.heap.size, 0, none⟩), .int .i64 0]) ∧ Gr w' (some wx.heap.size) m [] (.slice none 0 0) ∧ Below wx.heap.size wx w') := fun wx => rnew_good m hm1 hm2 wx
  clear hm1 hm2
  go_enter Try.func5, Try.ntmps5
  go_wp2_with (first
    | (go_at_call 9; refine HNQ.out.mono ?_; clear HNQ; rintro e w1 ⟨rfl, hr1, hb1⟩; have HR1 : Hid (RgI w1 (some w.heap.size) none m []) := hr1; have HB1 : Hid (Below w.heap.size w w1) := hb1; clear hr1 hb1)
    | (go_at_call 11; refine (HNR.out _).mono ?_; clear HNR; rintro e w2 ⟨rfl, hr2, hb2⟩; have HR2 : Hid (Gr w2 (some w1.heap.size) m [] (.slice none 0 0)) := hr2; have HB2 : Hid (Below w1.heap.size w1 w2) := hb2; clear hr2 hb2))
  obtain ⟨b, hb⟩ : ∃ b, b = w.heap.size := ⟨_, rfl⟩
  obtain ⟨c, hc⟩ : ∃ c, c = w1.heap.size := ⟨_, rfl⟩
  have HS0 : Hid (Fo w w2 (some b) none (some c) (.slice none 0 0) m []) := by
    have hlt := HR1.out.lt w.heap.size (.inl rfl)
    rw [hb, hc]
    refine ⟨⟨HR1.out.below HB2.out, HR2.out, fun k hk hk2 => ?_⟩, fun k hk => ?_, HB1.out.trans (HB2.out.mono HB1.out.size)⟩
    · rcases hk with e | e
      · rcases hk2 with e2 | e2
        · have := Option.some.inj e; have := Option.some.inj e2; omega
        · cases e2
      · cases e
    · rcases hk with (e | e) | (e | e)
      · have := Option.some.inj e; omega
      · cases e
      · have := Option.some.inj e; omega
      · cases e
  rw [← hc]
  rw [← hb]
  clear HR1 HR2 HB1 HB2 hb hc
  have HPU : Hid (∀ wx q v L x, Fo w wx (some b) q (some c) v m L → Calls Try.prog 20 #[.pointer (some ⟨b, 0, none⟩), .int .i64 x] wx fun e w' => e = .returned (.int .i64 (pushE m L.length)) ∧ ∃ q', RgI w' (some b) q' m (pushLI m L x) ∧ Chg (Fq (some b) q) wx w' ∧ (∀ k, q' = some k → q = some k ∨ wx.heap.size ≤ k)) := fun wx q v L x h => pushI_any (some b) q m L x wx h.pg.rg
  have HRU : Hid (∀ wx v L x, Gr wx (some c) m (embI L) v → Calls Try.prog 33 #[.pointer (some ⟨c, 0, none⟩), .agg #[.int .i64 x, .int .i64 0]] wx fun e w' => e = .returned (.int .i64 (pushE m (embI L).length)) ∧ ∃ v', Gr w' (some c) m (embI (pushLI m L x)) v' ∧ Chg (Fr (some c) v) wx w' ∧ (∀ k, v'.ownBlock = some k → v.ownBlock = some k ∨ wx.heap.size ≤ k)) := fun wx v L x h => by have := rpush_any (some c) m (embI L) v (tkI x) wx h; rw [embI_push] at this; exact this
  have HDU : Hid (∀ wx q v L n, Fo w wx (some b) q (some c) v m L → Calls Try.prog 34 #[.pointer (some ⟨b, 0, none⟩), .int .i64 n] wx fun e w' => e = .returned (.int .i64 (dropN L.length n : Int)) ∧ RgI w' (some b) q m (L.drop (dropN L.length n)) ∧ Chg (Fq (some b) q) wx w') := fun wx q v L n h => dropI_any (some b) q m L n wx h.pg.rg _ rfl
  have HRD : Hid (∀ wx v L n, Gr wx (some c) m (embI L) v → Calls Try.prog 35 #[.pointer (some ⟨c, 0, none⟩), .int .i64 n] wx fun e w' => e = .returned (.int .i64 (dropN L.length n : Int)) ∧ ∃ v', Gr w' (some c) m (embI (L.drop (dropN L.length n))) v' ∧ Chg (Fr (some c) v) wx w' ∧ (∀ k, v'.ownBlock = some k → v.ownBlock = some k ∨ wx.heap.size ≤ k)) := fun wx v L n h => by have := rdrop_any (some c) m (embI L) v n wx h _ rfl; rw [embI_len, embI_drop] at this; exact this
  go_loopw [43] (fun iv wr => ∃ (k : Nat) (q : Option Nat) (v : Value) (L : List Int), iv = .int .i64 (k : Int) ∧ k ≤ l.length ∧ Hid (Fo w wr (some b) q (some c) v m L)) (fun iv _ => l.length - (intOf iv).toNat)
  case atStart => exact ⟨0, none, _, [], rfl, Nat.zero_le _, HS0.out⟩
  case round =>
    obtain ⟨k, q, v, L, rfl, hk, HS⟩ := hrel
    clear HS0
    by_cases hlt : k < l.length
    · obtain ⟨g, o, rfl, _, hc⟩ := (H1.out.below HS.out.bel).cell k hlt
      have hki : (k : Int) < (l.length : Int) := by omega
      have hwk : IntKind.i64.wrap ((k : Int) + 1) = (k : Int) + 1 := by have := HLL.out; rw [IntKind.wrap_i64]; omega
      generalize l[k] = x at *
      by_cases hd : (k : Int) = drop
      · subst hd
        go_wp2_with (first
          | (go_at_call 20; refine (HPU.out _ q v L x HS.out).mono ?_; clear HPU; rintro e w3 ⟨rfl, q3, r3, c3, n3⟩; have HM3 : Hid _ := HS.out.pg.mid c3 (Below.refl _ _); have R3 : Hid _ := r3; have C3 : Hid _ := c3; have N3 : Hid _ := n3; clear r3 c3 n3)
          | (go_at_call 33; refine (HRU.out _ v L x HM3.out).mono ?_; clear HRU HM3; rintro e w4 ⟨rfl, v4, r4, c4, n4⟩; have HS4 : Hid (Fo w w4 (some b) q3 (some c) v4 m (pushLI m L x)) := HS.out.both R3.out C3.out N3.out (Below.refl _ _) r4 c4 n4; clear R3 C3 N3 r4 c4 n4)
          | (go_at_call 34; refine (HDU.out _ q3 v4 _ _ HS4.out).mono ?_; clear HDU; rintro e w5 ⟨rfl, r5, c5⟩; have HM5 : Hid _ := HS4.out.pg.mid c5 (Below.refl _ _); have R5 : Hid _ := r5; have C5 : Hid _ := c5; clear r5 c5)
          | (go_at_call 35; refine (HRD.out _ v4 _ _ HM5.out).mono ?_; clear HRD HM5; rintro e w6 ⟨rfl, v6, r6, c6, n6⟩; have HS6 : Hid _ := HS4.out.both R5.out C5.out (fun k hk => .inl hk) (Below.refl _ _) r6 c6 n6; clear R5 C5 r6 c6 n6))
        go_roundw
        case rel => exact ⟨k + 1, _, _, _, by go_num, by omega, HS6⟩
        case measure => simp [intOf]; omega
      · have hd' : ((k : Int) == drop) = false := by simpa using hd
        go_wp2_with (first
          | (go_at_call 20; refine (HPU.out _ q v L x HS.out).mono ?_; clear HPU; rintro e w3 ⟨rfl, q3, r3, c3, n3⟩; have HM3 : Hid _ := HS.out.pg.mid c3 (Below.refl _ _); have R3 : Hid _ := r3; have C3 : Hid _ := c3; have N3 : Hid _ := n3; clear r3 c3 n3)
          | (go_at_call 33; refine (HRU.out _ v L x HM3.out).mono ?_; clear HRU HM3; rintro e w4 ⟨rfl, v4, r4, c4, n4⟩; have HS4 : Hid (Fo w w4 (some b) q3 (some c) v4 m (pushLI m L x)) := HS.out.both R3.out C3.out N3.out (Below.refl _ _) r4 c4 n4; clear R3 C3 N3 r4 c4 n4))
        go_roundw
        case rel => exact ⟨k + 1, _, _, _, by go_num, by omega, HS4⟩
        case measure => simp [intOf]; omega
    · have hki : ¬ (k : Int) < (l.length : Int) := by omega
      have HRW : Hid (Calls Try.prog 36 #[.pointer (some ⟨c, 0, none⟩)] wr fun e w' => ∃ v', e = .returned v' ∧ Ow celG 31 2 w' v' (embI L) ∧ Below wr.heap.size wr w' ∧ (∀ k, v'.ownBlock = some k → wr.heap.size ≤ k)) := rrow_any (some c) m (embI L) v wr HS.out.pg.gr
      have HLL2 : Hid (L.length ≤ 1048576) := by have := HS.out.pg.rg.len; unfold Hid; omega
      clear hlt hk H1 HLL HPU HRU HDU HRD
      go_wp2_with (go_at_call 36; refine HRW.out.mono ?_; clear HRW; rintro e w3 ⟨rv, rfl, ho, hb, _⟩; obtain ⟨ra, rc, rfl, _⟩ := ho.shape; rw [embI_len] at ho; rw [embI_len]; have HS3 : Hid (Fo w w3 (some b) q (some c) v m L ∧ Ow celG 31 2 w3 (.slice ra L.length rc) (embI L)) := ⟨HS.out.later hb, ho⟩; clear ho hb HS)
      go_loopw [14, 71] (fun sv iv wr => ∃ (j : Nat), j ≤ L.length ∧ iv = .int .i64 (j : Int) ∧ sv = .string (fldS ⟨#[98, 101, 103, 105, 110]⟩ (L.take j)) ∧ Hid (Fo w wr (some b) q (some c) v m L ∧ Ow celG 31 2 wr (.slice ra L.length rc) (embI L))) (fun _ iv _ => L.length - (intOf iv).toNat)
      case atStart => exact ⟨0, Nat.zero_le _, rfl, rfl, HS3.out⟩
      case round =>
        obtain ⟨j, hj, rfl, rfl, HS⟩ := hrel
        clear HS3
        by_cases hjl : j < L.length
        · have hji : (j : Int) < (L.length : Int) := by omega
          have hwj : IntKind.i64.wrap ((j : Int) + 1) = (j : Int) + 1 := by have := HLL2.out; rw [IntKind.wrap_i64]; omega
          have hsz : (fldS ⟨#[98, 101, 103, 105, 110]⟩ (L.take j)).size ≤ 4194304 := by rw [fldS_size, List.length_take]; have := HLL2.out; show 5 + _ ≤ _; omega
          obtain ⟨y, hy⟩ : ∃ y, y = L[j] := ⟨_, rfl⟩
          have HAD : Hid (∀ wx, Calls Try.prog 37 #[.string (fldS ⟨#[98, 101, 103, 105, 110]⟩ (L.take j)), .int .i64 y] wx fun e w' => e = .returned (.string (fldS ⟨#[98, 101, 103, 105, 110]⟩ (L.take (j + 1)))) ∧ Below wx.heap.size wx w') := fun wx => by rw [← List.take_append_getElem hjl, fldS_snoc, ← hy]; exact add_any _ _ wx hsz
          have hO := HS.out.2
          obtain ⟨g, hra⟩ : ∃ g, ra = some ⟨g, 0, none⟩ := by
            obtain ⟨a', c', e', hs⟩ := hO.shape
            have e1 : ra = a' := by injection e'
            rw [e1]
            exact hs (fun e => by have := embI_len L; rw [e] at this; simp at this; omega)
          subst hra
          have hjE : j < (embI L).length := by rw [embI_len]; exact hjl
          have hEl : (embI L)[j] = (y, 0) := by rw [hy]; simp [embI]
          have hfl := flat_length celG_length (embI L)
          have f0 := flat_at celG_length (embI L) j 0 hjE (by decide)
          have f1 := flat_at celG_length (embI L) j 1 hjE (by decide)
          rw [hEl] at f0 f1
          have g0 : wr.cell? ⟨g, j * 2, none⟩ = some (.int .i64 y) := by rw [hO.cells _ (by omega), ← Nat.add_zero (j * 2), f0]; rfl
          have g1 : wr.cell? ⟨g, j * 2 + 1, none⟩ = some (.int .i64 0) := by rw [hO.cells _ (by omega), f1]; rfl
          have HBA : Hid (Below wr.heap.size wr (wr.alloc (.cells #[.int .i64 y, .int .i64 0] 31))) := (Below.refl _ _).alloc (Nat.le_refl _) _
          have x0 : (wr.alloc (.cells #[.int .i64 y, .int .i64 0] 31)).cell? ⟨wr.heap.size, 0, none⟩ = some (.int .i64 y) := (Lies.new wr _ _).cell 0
          obtain ⟨s1, hs1⟩ : ∃ s1, s1 = fldS ⟨#[98, 101, 103, 105, 110]⟩ (L.take j) := ⟨_, rfl⟩
          obtain ⟨s2, hs2⟩ : ∃ s2, s2 = fldS ⟨#[98, 101, 103, 105, 110]⟩ (L.take (j + 1)) := ⟨_, rfl⟩
          rw [← hs1, ← hs2] at HAD
          rw [← hs1]
          have HS2 : Hid (s2 = fldS ⟨#[98, 101, 103, 105, 110]⟩ (L.take (j + 1))) := hs2
          clear hsz hy hO hjE hEl hfl f0 f1 hs1 hs2
          go_wp2_with (go_at_call 37; refine (HAD.out _).mono ?_; clear HAD; rintro e w4 ⟨rfl, hb4⟩; have HB4 : Hid (Below wr.heap.size wr w4) := HBA.out.trans (hb4.mono HBA.out.size); clear hb4)
          go_roundw
          case rel => exact ⟨j + 1, by omega, by go_num, by rw [HS2.out], HS.out.1.later HB4.out, HS.out.2.below HB4.out⟩
          case measure => simp [intOf]; omega
        · obtain rfl : j = L.length := by omega
          rw [List.take_length]
          obtain ⟨s1, hs1⟩ : ∃ s1, s1 = fldS ⟨#[98, 101, 103, 105, 110]⟩ L := ⟨_, rfl⟩
          rw [← hs1]
          have HNO : Hid (Calls Try.prog 9 #[.int .i64 1] wr fun e w' => e = .returned (.tuple #[.pointer (some ⟨wr.heap.size, 0, none⟩), .int .i64 0]) ∧ RgI w' (some wr.heap.size) none 1 [] ∧ Below wr.heap.size wr w') := newI_good 1 (by decide) (by decide) wr
          have HPO : Hid (∀ wx, RgI wx (some wr.heap.size) none 1 [] → Calls Try.prog 20 #[.pointer (some ⟨wr.heap.size, 0, none⟩), .int .i64 25] wx fun e w' => e = .returned (.int .i64 0) ∧ ∃ q', RgI w' (some wr.heap.size) q' 1 [25] ∧ Chg (Fq (some wr.heap.size) none) wx w') := fun wx h => (pushI_any (some wr.heap.size) none 1 [] 25 wx h).mono (fun e w' hh => by obtain ⟨r1, q', r2, r3, _⟩ := hh; exact ⟨r1, q', r2, r3⟩)
          have HF0 : Hid (∀ wx, Calls Try.prog 38 #[.pointer none, .string ⟨#[98, 101, 103, 105, 110]⟩, .func (.func 37) #[] #[]] wx fun e w' => e = .returned (.string ⟨#[98, 101, 103, 105, 110]⟩) ∧ Below wx.heap.size wx w') := fun wx => fold_any none none 0 [] ⟨#[98, 101, 103, 105, 110]⟩ wx .no (by decide)
          have HFZ : Hid (∀ wx bz, Lies wx bz #[.int .i64 0, .slice none 0 0, .int .i64 0, .int .i64 0] 61 → Calls Try.prog 38 #[.pointer (some ⟨bz, 0, none⟩), .string ⟨#[98, 101, 103, 105, 110]⟩, .func (.func 37) #[] #[]] wx fun e w' => e = .returned (.string ⟨#[98, 101, 103, 105, 110]⟩) ∧ Below wx.heap.size wx w') := fun wx bz h => fold_any (some bz) none 0 [] ⟨#[98, 101, 103, 105, 110]⟩ wx (.zero bz h) (by decide)
          have HFN : Hid (∀ wx, Calls Try.prog 38 #[.pointer (some ⟨wr.heap.size, 0, none⟩), .string ⟨#[98, 101, 103, 105, 110]⟩, .nilFunc] wx fun e w' => e = .returned (.string ⟨#[98, 101, 103, 105, 110]⟩) ∧ Below wx.heap.size wx w') := fun wx => fold_nil _ ⟨#[98, 101, 103, 105, 110]⟩ wx
          have HFR : Hid (∀ wx, Fo w wx (some b) q (some c) v m L → Calls Try.prog 38 #[.pointer (some ⟨b, 0, none⟩), .string ⟨#[98, 101, 103, 105, 110]⟩, .func (.func 37) #[] #[]] wx fun e w' => e = .returned (.string s1) ∧ Below wx.heap.size wx w') := fun wx h => by rw [hs1]; exact fold_any (some b) q m L ⟨#[98, 101, 103, 105, 110]⟩ wx h.pg.rg (by decide)
          have HFX : Hid (∀ wx q', RgI wx (some wr.heap.size) q' 1 [25] → Calls Try.prog 38 #[.pointer (some ⟨wr.heap.size, 0, none⟩), .string ⟨#[120]⟩, .func (.func 37) #[] #[]] wx fun e w' => e = .returned (.string ⟨#[120, 122]⟩) ∧ Below wx.heap.size wx w') := fun wx q' h => fold_any (some wr.heap.size) q' 1 [25] ⟨#[120]⟩ wx h (by decide)
          have HLR : Hid (∀ wx, Fo w wx (some b) q (some c) v m L → Calls Try.prog 14 #[.pointer (some ⟨b, 0, none⟩)] wx fun e w' => e = .returned (.int .i64 (L.length : Int)) ∧ w' = wx) := fun wx h => lenI_any (some b) q m L wx h.pg.rg
          have HLM : Hid (∀ wx, Fo w wx (some b) q (some c) v m L → Calls Try.prog 15 #[.pointer (some ⟨c, 0, none⟩)] wx fun e w' => e = .returned (.int .i64 (L.length : Int)) ∧ w' = wx) := fun wx h => by have := rlen_any (some c) m (embI L) v wx h.pg.gr; rw [embI_len] at this; exact this
          have HS1 : Hid (Fo w wr (some b) q (some c) v m L) := HS.out.1
          clear HS hjl hj hs1 HLL2
          go_wp2_with (first
            | (go_at_call 9; refine HNO.out.mono ?_; clear HNO; rintro e w4 ⟨rfl, r4, b4⟩; have R4 : Hid _ := r4; have HS4 : Hid _ := HS1.out.later b4; have Z4 : Hid (wr.heap.size ≤ w4.heap.size) := b4.size; clear r4 b4)
            | (go_at_call 20; refine (HPO.out _ R4.out).mono ?_; clear HPO R4; rintro e w5 ⟨rfl, q5, r5, c5⟩; have HZ5 : Hid (Fz w (w5.alloc (.cells #[.int .i64 0, .slice none 0 0, .int .i64 0, .int .i64 0] 61)) (some b) q (some c) v m L wr.heap.size q5 w5.heap.size) := Fz.mk' HS4.out r5 c5 (fun k hk => HS1.out.pg.lt k hk) HS1.out.bel.size; clear r5 c5 HS4)
            | (go_at_call 38; refine (HF0.out _).mono ?_; clear HF0; rintro e w6 ⟨rfl, b6⟩; have HZ6 : Hid _ := HZ5.out.later b6; clear b6)
            | (go_at_call 38; refine (HFZ.out _ _ HZ6.out.zr).mono ?_; clear HFZ; rintro e w7 ⟨rfl, b7⟩; have HZ7 : Hid _ := HZ6.out.later b7; clear b7)
            | (go_at_call 38; refine (HFN.out _).mono ?_; clear HFN; rintro e w8 ⟨rfl, b8⟩; have HZ8 : Hid _ := HZ7.out.later b8; clear b8)
            | (go_at_call 38; refine (HFR.out _ HZ8.out.fo).mono ?_; clear HFR; rintro e w9 ⟨rfl, b9⟩; have HZ9 : Hid _ := HZ8.out.later b9; clear b9)
            | (go_at_call 38; refine (HFX.out _ _ HZ9.out.on).mono ?_; clear HFX; rintro e wa ⟨rfl, ba⟩; have HZa : Hid _ := HZ9.out.later ba; clear ba)
            | (go_at_call 14; refine (HLR.out _ HZa.out.fo).mono ?_; clear HLR; rintro e wb ⟨rfl, hwb⟩; rw [hwb]; clear hwb)
            | (go_at_call 15; refine (HLM.out _ HZa.out.fo).mono ?_; clear HLM; rintro e wc ⟨rfl, hwc⟩; rw [hwc]; clear hwc))
          go_ret
          exact ⟨rfl, HZa.out.fo.bel⟩

theorem walk {w : World} (most : Int) (_hb : -9223372036854775808 ≤ most ∧ most ≤ 9223372036854775807) (a1 : Option Addr) (l : List Int) (c1 : Nat) (h1 : Sg cel1 a1 l w ∧ ∀ z ∈ l, In64 z) (hl : l.length ≤ 17592186043904) (drop : Int) (_hc : -9223372036854775808 ≤ drop ∧ drop ≤ 9223372036854775807) :
    Calls Try.prog 5 #[.int .i64 most, .slice a1 l.length c1, .int .i64 drop] w fun e w' => e = .returned (.bool true) ∧ Below w.heap.size w w' := by
  by_cases hm : most < 1 ∨ 1048576 < most
  · exact bad most hm a1 l c1 drop w h1.1 hl
  · obtain ⟨m, rfl⟩ : ∃ m : Nat, most = (m : Int) := ⟨most.toNat, by omega⟩
    exact good m (by omega) (by omega) a1 l c1 drop w h1.1 hl

theorem own : ownKnob Try.prog.godebug = none := by kernel_rfl
theorem laidOut : laidOutB Try.prog = true := by kernel_rfl
set_option maxRecDepth 100000 in
theorem contract (H : Type) (enc : TypeId × Value → H) (W : World) (base : Nat) (args : Array Value) (ds gs : List (DataW H)) (before : List MemPlace)
    (hval : ∀ (j : Nat) t v, Try.f5.params[j]? = some t → args[j]? = some v → Value.okWide Try.prog W .any base t v)
    (hW : DataW.Whole enc Try.prog Try.f5.params.toList Rows.queueFoldsSpec.vars false W args.toList ds gs before)
    (hsz : (DataW.weightsEach Try.prog (Try.f5.params.toList ++ Rows.queueFoldsSpec.plain.varTypes Try.prog) (ds ++ gs)).all (· ≤ reachBytes) = true)
    :
    Calls Try.prog 5 args W fun e W' => ∃ v, e = .returned v ∧ Rows.queueFoldsSpec.post enc Try.prog Try.f5 false true false false W args v W' := by
  have hW' := hW
  obtain ⟨p, q, hA0, hV, rfl, hfz, hnd⟩ := hW
  have hA : DataW.TrodAll enc Try.prog W 0 (fun _ => true) true Try.f5.params.toList args.toList ds p := hA0
  rw [Try.params5] at hA hval hsz
  obtain ⟨v0, vs0, d0, ds0, p0, q0, hargs, rfl, rfl, h0, r0⟩ := trodAll_cons hA
  obtain ⟨v1, vs1, d1, ds1, p1, q1, rfl, rfl, rfl, h1, r1⟩ := trodAll_cons r0
  obtain ⟨v2, vs2, d2, ds2, p2, q2, rfl, rfl, rfl, h2, r2⟩ := trodAll_cons r1
  obtain ⟨rfl, rfl, rfl⟩ := trodAll_nil r2
  obtain rfl : args = #[v0, v1, v2] := by cases args; simp_all
  obtain ⟨rfl, rfl⟩ := trodVars_none hV
  obtain ⟨a0, rfl, rfl, rfl, w0⟩ := open_int Try.underlying3 (hval 0 3 v0 rfl rfl) h0
  have b0 := bounds_i64 w0
  have k1 := h1
  have lt1 : ∀ x ∈ p1, x.block < W.heap.size := by obtain ⟨m, hm⟩ := k1; exact DataW.trod_lt m _ _ _ hm
  obtain ⟨a1, len1, cap1, rfl⟩ := okWide_slice Try.underlying55 (hval 1 55 v1 rfl rfl)
  obtain ⟨l1, e1, row1, bd1⟩ := open_nums h1
  obtain ⟨a2, rfl, rfl, rfl, w2⟩ := open_int Try.underlying3 (hval 2 3 v2 rfl rfl) h2
  have b2 := bounds_i64 w2
  clear hA0
  have s1 : l1.length ≤ 17592186043904 := by
    rcases bd1 with ⟨el, sp, rfl, hl⟩ | ⟨rfl, hl⟩
    · have := sized_slice hsz (j := 1) (t := 55) (e := 3) rfl rfl Try.underlying55
      rw [bytes3] at this
      simp only [reachBytes] at this
      omega
    · omega
  subst e1
  refine (walk a0 b0 a1 l1 cap1 row1 s1 a2 b2).mono fun e W' ⟨he, bel⟩ => ?_
  subst he
  exact ⟨_, rfl, _, _, _, [], _, [], hW', trodAll_mk1 (shut_bool Try.underlying4 _), trodAll_cons_mk (shut_int Try.underlying3 w0) (trodAll_cons_mk (Below.trod laidOut (by kernel_rfl) (of_decide_eq_true (by kernel_rfl)) k1 bel lt1) (trodAll_cons_mk (shut_int Try.underlying3 w2) trodAll_mk0)), rfl, bel.frame _, fun h => by cases h⟩

set_option maxRecDepth 100000 in
theorem lifted (os : Os) (started : os.Started) (H : Type) (enc : TypeId × Value → H) :
    ReturnsInHanded {} Try.checked os 5 .any (Rows.queueFoldsSpec.pre6 enc Try.prog Try.f5 Rows.queueFoldsRow.domain false) (Rows.queueFoldsSpec.post enc Try.prog Try.f5 false true false false) := by
  refine returnsInHanded_of_change_sized (C := Try.checked) own started (by kernel_rfl) Try.func5
    (ChangeSpec.witness6 (enc := enc) (C := Try.checked) false ⟨#[], #[.int .i64 0, .slice none 0 0, .int .i64 0], []⟩ 8 (by kernel_rfl) (by kernel_rfl) (by kernel_rfl) (by kernel_rfl)) ?_
  intro W base args ds gs before hval0 hW hcnd hsz0 _
  exact contract H enc W base args ds gs before hval0 hW hsz0

theorem over : Rows.queueFoldsRow.holds Try.pinned (OpenSpec.ofChange Rows.queueFoldsSpec) :=
  OpenClaim.holds_of_wide 5 Try.f5 rfl rfl rfl rfl rfl rfl rfl ⟨rfl, rfl, rfl, rfl, rfl⟩ rfl rfl rfl rfl rfl (by kernel_rfl) Try.func5 (by kernel_rfl)
    (of_decide_eq_true (by kernel_rfl)) (by unfold Func.isWrapper; first | (rw [if_pos (by decide +kernel)]; kernel_rfl) | (rw [if_neg (by decide +kernel)]; exact ⟨rfl, rfl⟩))
    (fun os started H enc _ => lifted os started H enc)
end Go.Proofs.Ytgbbjhhggjocmaa.queueFolds
namespace Go.Proofs.Ytgbbjhhggjocmaa
theorem queueFolds_said : Rows.QueueFoldsSaid := queueFolds.over
#print axioms queueFolds_said
end Go.Proofs.Ytgbbjhhggjocmaa
