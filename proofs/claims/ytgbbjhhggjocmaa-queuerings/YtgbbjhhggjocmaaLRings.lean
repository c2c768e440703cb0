/-
  P7.1 to P7.4: every bound, and every script with two rings, of numbers and of structs, and none: all that is told; proved for every input.
-/
import Derived.Test.YtgbbjhhggjocmaaRsS
import Derived.Test.YtgbbjhhggjocmaaSg3
import Derived.Test.YtgbbjhhggjocmaaOpen7
import Derived.Test.YtgbbjhhggjocmaaRows
import Derived.ProofKit
import Derived.ChangeMaps5
import Derived.OpenShut
import Derived.ShutString
import Derived.ChangeOld
import Derived.SizedLaws
namespace Go.Proofs.Ytgbbjhhggjocmaa.queueRings
open Go.ChangeShapes Go.WideShapes Go.ChangeAt Go.RowKit

set_option maxRecDepth 100000 in
set_option maxHeartbeats 8000000 in
theorem walk0 (most : Int) (sa : Option Addr) (st : List (Int × Int × Int)) (c : Nat) (w : World) (h1 : Sg cel3 sa st w) (hn : st.length ≤ 5864062014634) :
    Calls Try.prog 3 #[.int .i64 most, .slice sa st.length c] w fun e w' => e = .returned (.bool true) ∧ Below w.heap.size w w' := by
  have HST : Hid (Sg cel3 sa st w) := h1
  have hni : (st.length : Int) ≤ 5864062014634 := by omega
  clear h1 hn
  obtain ⟨mo, E, nb, hQI, hQG, hR⟩ := news most
  have HQI : Hid _ := hQI
  have HQG : Hid _ := hQG
  have HR : Hid _ := hR
  have HNO : Hid (∀ wx : World, Calls Try.prog 9 #[.int .i64 2] wx fun e w' => e = .returned (.tuple #[.pointer (some ⟨wx.heap.size, 0, none⟩), .int .i64 0]) ∧ RnI wx.heap.size wx w' (some wx.heap.size) none 2 []) := fun wx => newI_n wx.heap.size wx wx (Nat.le_refl _) (Below.refl _ _) 2 (by decide) (by decide)
  have HPO : Hid (∀ (w0 wx : World) q, RnI w0.heap.size w0 wx (some w0.heap.size) q 2 [] → Calls Try.prog 20 #[.pointer (some ⟨w0.heap.size, 0, none⟩), .int .i64 7] wx fun e w' => e = .returned (.int .i64 0) ∧ ∃ q', RnI w0.heap.size w0 w' (some w0.heap.size) q' 2 [7]) := fun w0 wx q h => pushI_n h 7 [7] 0 rfl rfl
  have HTO : Hid (∀ (w0 wx : World) q, RnI w0.heap.size w0 wx (some w0.heap.size) q 2 [7] → Calls Try.prog 21 #[.pointer (some ⟨w0.heap.size, 0, none⟩)] wx fun e w' => e = .returned (.tuple #[.int .i64 7, .bool true]) ∧ RnI w0.heap.size w0 w' (some w0.heap.size) q 2 []) := fun w0 wx q h => popI_n h
  clear hQI hQG hR
  go_enter Try.func3, Try.ntmps3
  go_wp2_with (first
    | (go_at_call 9; refine (HQI.out w).mono ?_; clear HQI; rintro e w1 ⟨pa, a1, ha, rfl, r1, b1, n1, e1⟩; have HA1 : Hid (ptr pa = .pointer a1) := ha; have R1 : Hid _ := r1; have B1 : Hid _ := b1; have N1 : Hid _ := n1; clear ha r1 b1 n1)
    | (go_at_call 10; refine (HQG.out _).mono ?_; clear HQG; rintro e w2 ⟨pb, b1, hb, rfl, r2, b2, n2, e2⟩; have HB1 : Hid (ptr pb = .pointer b1) := hb; have R2 : Hid _ := r2; have B2 : Hid _ := b2; have N2 : Hid _ := n2; clear hb r2 b2 n2)
    | (go_at_call 11; refine (HR.out w2).mono ?_; rintro e w3 ⟨px, x1, hx, rfl, r3, b3, n3, e3⟩; have HX1 : Hid (ptr px = .pointer x1) := hx; have R3 : Hid _ := r3; have B3 : Hid _ := b3; have N3 : Hid _ := n3; clear hx r3 b3 n3)
    | (go_at_call 11; refine (HR.out w3).mono ?_; clear HR; rintro e w4 ⟨py, y1, hy, rfl, r4, b4, n4, e4⟩; have HY1 : Hid (ptr py = .pointer y1) := hy; have R4 : Hid _ := r4; have B4 : Hid _ := b4; have N4 : Hid _ := n4; clear hy r4 b4 n4))
  have HS0 : Hid (Rs w w4 ⟨pa, none, px, .slice none 0 0, mo, []⟩ ⟨pb, none, py, .slice none 0 0, mo, []⟩) := rs_new R1.out B1.out N1.out R2.out B2.out N2.out R3.out B3.out N3.out R4.out B4.out N4.out
  have HC0 : Hid (ptr pa = .pointer a1 ∧ ptr px = .pointer x1 ∧ ptr pb = .pointer b1 ∧ ptr py = .pointer y1) := ⟨HA1.out, HX1.out, HB1.out, HY1.out⟩
  clear R1 B1 N1 R2 B2 N2 R3 B3 N3 R4 B4 N4 HA1 HX1 HB1 HY1 e1 e2 e3 e4
  go_loopw [5, 7, 9, 11, 63] (fun av bv xv yv iv wr => ∃ (k : Nat) (a : Da Int) (b : Da (Int × Int)) (a1 b1 x1 y1 : Option Addr), av = .pointer a1 ∧ bv = .pointer b1 ∧ xv = .pointer x1 ∧ yv = .pointer y1 ∧ iv = .int .i64 (k : Int) ∧ k ≤ st.length ∧ Hid (ptr a.p = .pointer a1 ∧ ptr a.y = .pointer x1 ∧ ptr b.p = .pointer b1 ∧ ptr b.y = .pointer y1) ∧ Hid (Rs w wr a b)) (fun _ _ _ _ iv _ => st.length - (intOf iv).toNat)
  case atStart => exact ⟨0, ⟨pa, none, px, .slice none 0 0, mo, []⟩, ⟨pb, none, py, .slice none 0 0, mo, []⟩, a1, b1, x1, y1, rfl, rfl, rfl, rfl, rfl, Nat.zero_le _, HC0.out, HS0.out⟩
  case round =>
    obtain ⟨k, a, b, a1, b1, x1, y1, rfl, rfl, rfl, rfl, rfl, hk, H1, HS⟩ := hrel
    clear HS0 HC0
    by_cases hlt : k < st.length
    · obtain ⟨g1, o1, rfl, hg1, d0, d1, d2⟩ := (HST.out.later3' HS.out.bel).cell3' k hlt
      have hki : (k : Int) < (st.length : Int) := by omega
      obtain ⟨t, ht⟩ : ∃ t, t = st[k] := ⟨_, rfl⟩
      rw [← ht] at d0 d1 d2
      clear ht
      obtain ⟨who, dd, nn⟩ := t
      dsimp only at d0 d1 d2
      obtain ⟨wo, hwo⟩ : ∃ wo, wo = wr.alloc (.cells #[.int .i64 who, .int .i64 dd, .int .i64 nn] 36) := ⟨_, rfl⟩
      have hbo : Below wr.heap.size wr wo := by rw [hwo]; exact (Below.refl _ _).alloc (Nat.le_refl _) _
      have HSO : Hid (Rs w wo a b) := HS.out.later hbo
      have HT7 : Hid (Lies wo wr.heap.size #[.int .i64 who, .int .i64 dd, .int .i64 nn] 36) := by rw [hwo]; exact Lies.new wr _ _
      have HWO : Hid (wr.alloc (.cells #[.int .i64 who, .int .i64 dd, .int .i64 nn] 36) = wo) := hwo.symm
      have HLA : Hid (∀ k, Fp a.p a.q a.y a.v k → k < wr.heap.size) := HS.out.ia.lt
      have HLB : Hid (∀ k, Fp b.p b.q b.y b.v k → k < wr.heap.size) := HS.out.gb.lt
      clear hwo hbo HS
      by_cases hd4 : dd = 4
      · subst hd4
        by_cases hw0 : who = 0
        · subst hw0
          obtain ⟨mo5, E5, nb5, hQI5, hQG5, hR5⟩ := news nn
          have HQ5 : Hid _ := hQI5
          have HR5 : Hid _ := hR5
          clear hQI5 hQG5 hR5
          go_wp2_with (first
            | (go_at_call 9; rw [HWO.out]; refine (HQ5.out wo).mono ?_; clear HQ5; rintro e w5 ⟨p5, a1, hp5, rfl, r5, b5, n5, e5⟩; have l5 := HT7.out.below b5 HT7.out.lt; have o2 := l5.cell 2; simp only [List.getElem?_toArray, List.getElem?_cons_zero, List.getElem?_cons_succ] at o2; have HP5 : Hid (ptr p5 = .pointer a1) := hp5; have R5 : Hid _ := r5; have B5 : Hid _ := b5; have N5 : Hid _ := n5; clear hp5 r5 b5 n5 l5)
            | (go_at_call 11; refine (HR5.out w5).mono ?_; clear HR5; rintro e w6 ⟨x6, x1, hx6, rfl, r6, b6, n6, e6⟩; have HX5 : Hid (ptr x6 = .pointer x1) := hx6; have R6 : Hid _ := r6; have B6 : Hid _ := b6; have N6 : Hid _ := n6; clear hx6 r6 b6 n6; apply Hid.out))
          unfold Hid
          obtain ⟨k1, k2, k3⟩ := pgI_new R5.out B5.out N5.out R6.out B6.out N6.out
          obtain ⟨n5, hn5⟩ : ∃ d : Da Int, d = ⟨p5, none, x6, .slice none 0 0, mo5, []⟩ := ⟨_, rfl⟩
          have HZ0 : Rs w w6 n5 b := by rw [hn5]; exact HSO.out.setA ⟨p5, none, x6, .slice none 0 0, mo5, []⟩ k1 k2 k3
          have H10 : ptr n5.p = .pointer a1 ∧ ptr n5.y = .pointer x1 := by rw [hn5]; exact ⟨HP5.out, HX5.out⟩
          clear HSO k1 k2 k3 hn5 R5 B5 N5 R6 B6 N6 HP5 HX5
          obtain ⟨a, rfl⟩ : ∃ d, d = n5 := ⟨_, rfl⟩
          have HZ : Hid (Rs w w6 a b) := HZ0
          have H1 : Hid (ptr a.p = .pointer a1 ∧ ptr a.y = .pointer x1 ∧ ptr b.p = .pointer b1 ∧ ptr b.y = .pointer y1) := ⟨H10.1, H10.2, H1.out.2.2.1, H1.out.2.2.2⟩
          clear HZ0 H10
          have HLI : Hid (∀ wx, Rs w wx a b → Calls Try.prog 14 #[.pointer a1] wx fun e w' => e = .returned (.int .i64 (a.l.length : Int)) ∧ Rs w w' a b) := fun wx h => by rw [← H1.out.1]; exact (lenI_any a.p a.q a.mo a.l wx h.ia.rg).mono (fun e w' hh => ⟨hh.1, by rw [hh.2]; exact h⟩)
          have HLX : Hid (∀ wx, Rs w wx a b → Calls Try.prog 15 #[.pointer x1] wx fun e w' => e = .returned (.int .i64 (a.l.length : Int)) ∧ Rs w w' a b) := fun wx h => by rw [← H1.out.2.1]; exact (rlen_any a.y a.mo (embI a.l) a.v wx h.ia.gr).mono (fun e w' hh => ⟨by rw [hh.1, embI_len], by rw [hh.2]; exact h⟩)
          have HRI : Hid (∀ wx, Rs w wx a b → Calls Try.prog 16 #[.pointer a1] wx fun e w' => e = .returned (.int .i64 ((a.mo - a.l.length : Nat) : Int)) ∧ Rs w w' a b) := fun wx h => by rw [← H1.out.1]; exact (roomI_any a.p a.q a.mo a.l wx h.ia.rg).mono (fun e w' hh => by obtain ⟨r1, n, rfl⟩ := hh; exact ⟨r1, h.later (below_drewN wx n)⟩)
          have HRX : Hid (∀ wx, Rs w wx a b → Calls Try.prog 17 #[.pointer x1] wx fun e w' => e = .returned (.int .i64 ((a.mo - a.l.length : Nat) : Int)) ∧ Rs w w' a b) := fun wx h => by rw [← H1.out.2.1]; exact (rroom_any a.y a.mo (embI a.l) a.v wx h.ia.gr).mono (fun e w' hh => by obtain ⟨r1, n, rfl⟩ := hh; exact ⟨by rw [r1, embI_len], h.later (below_drewN wx n)⟩)
          have HLG : Hid (∀ wx, Rs w wx a b → Calls Try.prog 18 #[.pointer b1] wx fun e w' => e = .returned (.int .i64 (b.l.length : Int)) ∧ Rs w w' a b) := fun wx h => by rw [← H1.out.2.2.1]; exact (lenG_any b.p b.q b.mo b.l wx h.gb.rg).mono (fun e w' hh => ⟨hh.1, by rw [hh.2]; exact h⟩)
          have HLY : Hid (∀ wx, Rs w wx a b → Calls Try.prog 15 #[.pointer y1] wx fun e w' => e = .returned (.int .i64 (b.l.length : Int)) ∧ Rs w w' a b) := fun wx h => by rw [← H1.out.2.2.2]; exact (rlen_any b.y b.mo (embG b.l) b.v wx h.gb.gr).mono (fun e w' hh => ⟨by rw [hh.1, embG_len], by rw [hh.2]; exact h⟩)
          have HRG : Hid (∀ wx, Rs w wx a b → Calls Try.prog 19 #[.pointer b1] wx fun e w' => e = .returned (.int .i64 ((b.mo - b.l.length : Nat) : Int)) ∧ Rs w w' a b) := fun wx h => by rw [← H1.out.2.2.1]; exact (roomG_any b.p b.q b.mo b.l wx h.gb.rg).mono (fun e w' hh => by obtain ⟨r1, n, rfl⟩ := hh; exact ⟨r1, h.later (below_drewN wx n)⟩)
          have HRY : Hid (∀ wx, Rs w wx a b → Calls Try.prog 17 #[.pointer y1] wx fun e w' => e = .returned (.int .i64 ((b.mo - b.l.length : Nat) : Int)) ∧ Rs w w' a b) := fun wx h => by rw [← H1.out.2.2.2]; exact (rroom_any b.y b.mo (embG b.l) b.v wx h.gb.gr).mono (fun e w' hh => by obtain ⟨r1, n, rfl⟩ := hh; exact ⟨by rw [r1, embG_len], h.later (below_drewN wx n)⟩)
          obtain ⟨la, hla⟩ : ∃ n : Int, n = (a.l.length : Int) := ⟨_, rfl⟩
          obtain ⟨ra, hra⟩ : ∃ n : Int, n = ((a.mo - a.l.length : Nat) : Int) := ⟨_, rfl⟩
          obtain ⟨lb, hlb⟩ : ∃ n : Int, n = (b.l.length : Int) := ⟨_, rfl⟩
          obtain ⟨rb, hrb⟩ : ∃ n : Int, n = ((b.mo - b.l.length : Nat) : Int) := ⟨_, rfl⟩
          rw [← hla] at HLI HLX
          rw [← hra] at HRI HRX
          rw [← hlb] at HLG HLY
          rw [← hrb] at HRG HRY
          clear hla hra hlb hrb
          go_wp2_with (first
            | (go_at_call 14; refine (HLI.out _ HZ.out).mono ?_; clear HLI; rintro e z0 ⟨rfl, hs⟩; have Z0 : Hid (Rs w z0 a b) := hs; clear hs)
            | (go_at_call 15; refine (HLX.out _ Z0.out).mono ?_; clear HLX; rintro e z1 ⟨rfl, hs⟩; have Z1 : Hid (Rs w z1 a b) := hs; clear hs)
            | (go_at_call 16; refine (HRI.out _ Z1.out).mono ?_; clear HRI; rintro e z2 ⟨rfl, hs⟩; have Z2 : Hid (Rs w z2 a b) := hs; clear hs)
            | (go_at_call 17; refine (HRX.out _ Z2.out).mono ?_; clear HRX; rintro e z3 ⟨rfl, hs⟩; have Z3 : Hid (Rs w z3 a b) := hs; clear hs)
            | (go_at_call 18; refine (HLG.out _ Z3.out).mono ?_; clear HLG; rintro e z4 ⟨rfl, hs⟩; have Z4 : Hid (Rs w z4 a b) := hs; clear hs)
            | (go_at_call 15; refine (HLY.out _ Z4.out).mono ?_; clear HLY; rintro e z5 ⟨rfl, hs⟩; have Z5 : Hid (Rs w z5 a b) := hs; clear hs)
            | (go_at_call 19; refine (HRG.out _ Z5.out).mono ?_; clear HRG; rintro e z6 ⟨rfl, hs⟩; have Z6 : Hid (Rs w z6 a b) := hs; clear hs)
            | (go_at_call 17; refine (HRY.out _ Z6.out).mono ?_; clear HRY; rintro e z7 ⟨rfl, hs⟩; have Z7 : Hid (Rs w z7 a b) := hs; clear hs))
          go_roundw
          case rel => exact ⟨k + 1, a, b, _, _, _, _, rfl, rfl, rfl, rfl, by go_num, by omega, H1.out, Z7.out⟩
          case measure => simp [intOf]; omega
        · have hw0' : (who == 0) = false := by simpa using hw0
          by_cases hw1 : who = 1
          · subst hw1
            obtain ⟨mo5, E5, nb5, hQI5, hQG5, hR5⟩ := news nn
            have HQ5 : Hid _ := hQG5
            have HR5 : Hid _ := hR5
            clear hQI5 hQG5 hR5
            go_wp2_with (first
              | (go_at_call 10; rw [HWO.out]; refine (HQ5.out wo).mono ?_; clear HQ5; rintro e w5 ⟨p5, b1, hp5, rfl, r5, b5, n5, e5⟩; have l5 := HT7.out.below b5 HT7.out.lt; have o2 := l5.cell 2; simp only [List.getElem?_toArray, List.getElem?_cons_zero, List.getElem?_cons_succ] at o2; have HP5 : Hid (ptr p5 = .pointer b1) := hp5; have R5 : Hid _ := r5; have B5 : Hid _ := b5; have N5 : Hid _ := n5; clear hp5 r5 b5 n5 l5)
              | (go_at_call 11; refine (HR5.out w5).mono ?_; clear HR5; rintro e w6 ⟨x6, y1, hx6, rfl, r6, b6, n6, e6⟩; have HX5 : Hid (ptr x6 = .pointer y1) := hx6; have R6 : Hid _ := r6; have B6 : Hid _ := b6; have N6 : Hid _ := n6; clear hx6 r6 b6 n6; apply Hid.out))
            unfold Hid
            obtain ⟨k1, k2, k3⟩ := pgG_new R5.out B5.out N5.out R6.out B6.out N6.out
            obtain ⟨n5, hn5⟩ : ∃ d : Da (Int × Int), d = ⟨p5, none, x6, .slice none 0 0, mo5, []⟩ := ⟨_, rfl⟩
            have HZ0 : Rs w w6 a n5 := by rw [hn5]; exact HSO.out.setB ⟨p5, none, x6, .slice none 0 0, mo5, []⟩ k1 k2 k3
            have H10 : ptr n5.p = .pointer b1 ∧ ptr n5.y = .pointer y1 := by rw [hn5]; exact ⟨HP5.out, HX5.out⟩
            clear HSO k1 k2 k3 hn5 R5 B5 N5 R6 B6 N6 HP5 HX5
            obtain ⟨b, rfl⟩ : ∃ d, d = n5 := ⟨_, rfl⟩
            have HZ : Hid (Rs w w6 a b) := HZ0
            have H1 : Hid (ptr a.p = .pointer a1 ∧ ptr a.y = .pointer x1 ∧ ptr b.p = .pointer b1 ∧ ptr b.y = .pointer y1) := ⟨H1.out.1, H1.out.2.1, H10.1, H10.2⟩
            clear HZ0 H10
            have HLI : Hid (∀ wx, Rs w wx a b → Calls Try.prog 14 #[.pointer a1] wx fun e w' => e = .returned (.int .i64 (a.l.length : Int)) ∧ Rs w w' a b) := fun wx h => by rw [← H1.out.1]; exact (lenI_any a.p a.q a.mo a.l wx h.ia.rg).mono (fun e w' hh => ⟨hh.1, by rw [hh.2]; exact h⟩)
            have HLX : Hid (∀ wx, Rs w wx a b → Calls Try.prog 15 #[.pointer x1] wx fun e w' => e = .returned (.int .i64 (a.l.length : Int)) ∧ Rs w w' a b) := fun wx h => by rw [← H1.out.2.1]; exact (rlen_any a.y a.mo (embI a.l) a.v wx h.ia.gr).mono (fun e w' hh => ⟨by rw [hh.1, embI_len], by rw [hh.2]; exact h⟩)
            have HRI : Hid (∀ wx, Rs w wx a b → Calls Try.prog 16 #[.pointer a1] wx fun e w' => e = .returned (.int .i64 ((a.mo - a.l.length : Nat) : Int)) ∧ Rs w w' a b) := fun wx h => by rw [← H1.out.1]; exact (roomI_any a.p a.q a.mo a.l wx h.ia.rg).mono (fun e w' hh => by obtain ⟨r1, n, rfl⟩ := hh; exact ⟨r1, h.later (below_drewN wx n)⟩)
            have HRX : Hid (∀ wx, Rs w wx a b → Calls Try.prog 17 #[.pointer x1] wx fun e w' => e = .returned (.int .i64 ((a.mo - a.l.length : Nat) : Int)) ∧ Rs w w' a b) := fun wx h => by rw [← H1.out.2.1]; exact (rroom_any a.y a.mo (embI a.l) a.v wx h.ia.gr).mono (fun e w' hh => by obtain ⟨r1, n, rfl⟩ := hh; exact ⟨by rw [r1, embI_len], h.later (below_drewN wx n)⟩)
            have HLG : Hid (∀ wx, Rs w wx a b → Calls Try.prog 18 #[.pointer b1] wx fun e w' => e = .returned (.int .i64 (b.l.length : Int)) ∧ Rs w w' a b) := fun wx h => by rw [← H1.out.2.2.1]; exact (lenG_any b.p b.q b.mo b.l wx h.gb.rg).mono (fun e w' hh => ⟨hh.1, by rw [hh.2]; exact h⟩)
            have HLY : Hid (∀ wx, Rs w wx a b → Calls Try.prog 15 #[.pointer y1] wx fun e w' => e = .returned (.int .i64 (b.l.length : Int)) ∧ Rs w w' a b) := fun wx h => by rw [← H1.out.2.2.2]; exact (rlen_any b.y b.mo (embG b.l) b.v wx h.gb.gr).mono (fun e w' hh => ⟨by rw [hh.1, embG_len], by rw [hh.2]; exact h⟩)
            have HRG : Hid (∀ wx, Rs w wx a b → Calls Try.prog 19 #[.pointer b1] wx fun e w' => e = .returned (.int .i64 ((b.mo - b.l.length : Nat) : Int)) ∧ Rs w w' a b) := fun wx h => by rw [← H1.out.2.2.1]; exact (roomG_any b.p b.q b.mo b.l wx h.gb.rg).mono (fun e w' hh => by obtain ⟨r1, n, rfl⟩ := hh; exact ⟨r1, h.later (below_drewN wx n)⟩)
            have HRY : Hid (∀ wx, Rs w wx a b → Calls Try.prog 17 #[.pointer y1] wx fun e w' => e = .returned (.int .i64 ((b.mo - b.l.length : Nat) : Int)) ∧ Rs w w' a b) := fun wx h => by rw [← H1.out.2.2.2]; exact (rroom_any b.y b.mo (embG b.l) b.v wx h.gb.gr).mono (fun e w' hh => by obtain ⟨r1, n, rfl⟩ := hh; exact ⟨by rw [r1, embG_len], h.later (below_drewN wx n)⟩)
            obtain ⟨la, hla⟩ : ∃ n : Int, n = (a.l.length : Int) := ⟨_, rfl⟩
            obtain ⟨ra, hra⟩ : ∃ n : Int, n = ((a.mo - a.l.length : Nat) : Int) := ⟨_, rfl⟩
            obtain ⟨lb, hlb⟩ : ∃ n : Int, n = (b.l.length : Int) := ⟨_, rfl⟩
            obtain ⟨rb, hrb⟩ : ∃ n : Int, n = ((b.mo - b.l.length : Nat) : Int) := ⟨_, rfl⟩
            rw [← hla] at HLI HLX
            rw [← hra] at HRI HRX
            rw [← hlb] at HLG HLY
            rw [← hrb] at HRG HRY
            clear hla hra hlb hrb
            go_wp2_with (first
              | (go_at_call 14; refine (HLI.out _ HZ.out).mono ?_; clear HLI; rintro e z0 ⟨rfl, hs⟩; have Z0 : Hid (Rs w z0 a b) := hs; clear hs)
              | (go_at_call 15; refine (HLX.out _ Z0.out).mono ?_; clear HLX; rintro e z1 ⟨rfl, hs⟩; have Z1 : Hid (Rs w z1 a b) := hs; clear hs)
              | (go_at_call 16; refine (HRI.out _ Z1.out).mono ?_; clear HRI; rintro e z2 ⟨rfl, hs⟩; have Z2 : Hid (Rs w z2 a b) := hs; clear hs)
              | (go_at_call 17; refine (HRX.out _ Z2.out).mono ?_; clear HRX; rintro e z3 ⟨rfl, hs⟩; have Z3 : Hid (Rs w z3 a b) := hs; clear hs)
              | (go_at_call 18; refine (HLG.out _ Z3.out).mono ?_; clear HLG; rintro e z4 ⟨rfl, hs⟩; have Z4 : Hid (Rs w z4 a b) := hs; clear hs)
              | (go_at_call 15; refine (HLY.out _ Z4.out).mono ?_; clear HLY; rintro e z5 ⟨rfl, hs⟩; have Z5 : Hid (Rs w z5 a b) := hs; clear hs)
              | (go_at_call 19; refine (HRG.out _ Z5.out).mono ?_; clear HRG; rintro e z6 ⟨rfl, hs⟩; have Z6 : Hid (Rs w z6 a b) := hs; clear hs)
              | (go_at_call 17; refine (HRY.out _ Z6.out).mono ?_; clear HRY; rintro e z7 ⟨rfl, hs⟩; have Z7 : Hid (Rs w z7 a b) := hs; clear hs))
            go_roundw
            case rel => exact ⟨k + 1, a, b, _, _, _, _, rfl, rfl, rfl, rfl, by go_num, by omega, H1.out, Z7.out⟩
            case measure => simp [intOf]; omega
          · have hw1' : (who == 1) = false := by simpa using hw1
            have HLI : Hid (∀ wx, Rs w wx a b → Calls Try.prog 14 #[.pointer a1] wx fun e w' => e = .returned (.int .i64 (a.l.length : Int)) ∧ Rs w w' a b) := fun wx h => by rw [← H1.out.1]; exact (lenI_any a.p a.q a.mo a.l wx h.ia.rg).mono (fun e w' hh => ⟨hh.1, by rw [hh.2]; exact h⟩)
            have HLX : Hid (∀ wx, Rs w wx a b → Calls Try.prog 15 #[.pointer x1] wx fun e w' => e = .returned (.int .i64 (a.l.length : Int)) ∧ Rs w w' a b) := fun wx h => by rw [← H1.out.2.1]; exact (rlen_any a.y a.mo (embI a.l) a.v wx h.ia.gr).mono (fun e w' hh => ⟨by rw [hh.1, embI_len], by rw [hh.2]; exact h⟩)
            have HRI : Hid (∀ wx, Rs w wx a b → Calls Try.prog 16 #[.pointer a1] wx fun e w' => e = .returned (.int .i64 ((a.mo - a.l.length : Nat) : Int)) ∧ Rs w w' a b) := fun wx h => by rw [← H1.out.1]; exact (roomI_any a.p a.q a.mo a.l wx h.ia.rg).mono (fun e w' hh => by obtain ⟨r1, n, rfl⟩ := hh; exact ⟨r1, h.later (below_drewN wx n)⟩)
            have HRX : Hid (∀ wx, Rs w wx a b → Calls Try.prog 17 #[.pointer x1] wx fun e w' => e = .returned (.int .i64 ((a.mo - a.l.length : Nat) : Int)) ∧ Rs w w' a b) := fun wx h => by rw [← H1.out.2.1]; exact (rroom_any a.y a.mo (embI a.l) a.v wx h.ia.gr).mono (fun e w' hh => by obtain ⟨r1, n, rfl⟩ := hh; exact ⟨by rw [r1, embI_len], h.later (below_drewN wx n)⟩)
            have HLG : Hid (∀ wx, Rs w wx a b → Calls Try.prog 18 #[.pointer b1] wx fun e w' => e = .returned (.int .i64 (b.l.length : Int)) ∧ Rs w w' a b) := fun wx h => by rw [← H1.out.2.2.1]; exact (lenG_any b.p b.q b.mo b.l wx h.gb.rg).mono (fun e w' hh => ⟨hh.1, by rw [hh.2]; exact h⟩)
            have HLY : Hid (∀ wx, Rs w wx a b → Calls Try.prog 15 #[.pointer y1] wx fun e w' => e = .returned (.int .i64 (b.l.length : Int)) ∧ Rs w w' a b) := fun wx h => by rw [← H1.out.2.2.2]; exact (rlen_any b.y b.mo (embG b.l) b.v wx h.gb.gr).mono (fun e w' hh => ⟨by rw [hh.1, embG_len], by rw [hh.2]; exact h⟩)
            have HRG : Hid (∀ wx, Rs w wx a b → Calls Try.prog 19 #[.pointer b1] wx fun e w' => e = .returned (.int .i64 ((b.mo - b.l.length : Nat) : Int)) ∧ Rs w w' a b) := fun wx h => by rw [← H1.out.2.2.1]; exact (roomG_any b.p b.q b.mo b.l wx h.gb.rg).mono (fun e w' hh => by obtain ⟨r1, n, rfl⟩ := hh; exact ⟨r1, h.later (below_drewN wx n)⟩)
            have HRY : Hid (∀ wx, Rs w wx a b → Calls Try.prog 17 #[.pointer y1] wx fun e w' => e = .returned (.int .i64 ((b.mo - b.l.length : Nat) : Int)) ∧ Rs w w' a b) := fun wx h => by rw [← H1.out.2.2.2]; exact (rroom_any b.y b.mo (embG b.l) b.v wx h.gb.gr).mono (fun e w' hh => by obtain ⟨r1, n, rfl⟩ := hh; exact ⟨by rw [r1, embG_len], h.later (below_drewN wx n)⟩)
            obtain ⟨la, hla⟩ : ∃ n : Int, n = (a.l.length : Int) := ⟨_, rfl⟩
            obtain ⟨ra, hra⟩ : ∃ n : Int, n = ((a.mo - a.l.length : Nat) : Int) := ⟨_, rfl⟩
            obtain ⟨lb, hlb⟩ : ∃ n : Int, n = (b.l.length : Int) := ⟨_, rfl⟩
            obtain ⟨rb, hrb⟩ : ∃ n : Int, n = ((b.mo - b.l.length : Nat) : Int) := ⟨_, rfl⟩
            rw [← hla] at HLI HLX
            rw [← hra] at HRI HRX
            rw [← hlb] at HLG HLY
            rw [← hrb] at HRG HRY
            clear hla hra hlb hrb
            go_wp2_with (first
              | (go_at_call 14; rw [HWO.out]; refine (HLI.out _ HSO.out).mono ?_; clear HLI; rintro e z0 ⟨rfl, hs⟩; have Z0 : Hid (Rs w z0 a b) := hs; clear hs)
              | (go_at_call 15; refine (HLX.out _ Z0.out).mono ?_; clear HLX; rintro e z1 ⟨rfl, hs⟩; have Z1 : Hid (Rs w z1 a b) := hs; clear hs)
              | (go_at_call 16; refine (HRI.out _ Z1.out).mono ?_; clear HRI; rintro e z2 ⟨rfl, hs⟩; have Z2 : Hid (Rs w z2 a b) := hs; clear hs)
              | (go_at_call 17; refine (HRX.out _ Z2.out).mono ?_; clear HRX; rintro e z3 ⟨rfl, hs⟩; have Z3 : Hid (Rs w z3 a b) := hs; clear hs)
              | (go_at_call 18; refine (HLG.out _ Z3.out).mono ?_; clear HLG; rintro e z4 ⟨rfl, hs⟩; have Z4 : Hid (Rs w z4 a b) := hs; clear hs)
              | (go_at_call 15; refine (HLY.out _ Z4.out).mono ?_; clear HLY; rintro e z5 ⟨rfl, hs⟩; have Z5 : Hid (Rs w z5 a b) := hs; clear hs)
              | (go_at_call 19; refine (HRG.out _ Z5.out).mono ?_; clear HRG; rintro e z6 ⟨rfl, hs⟩; have Z6 : Hid (Rs w z6 a b) := hs; clear hs)
              | (go_at_call 17; refine (HRY.out _ Z6.out).mono ?_; clear HRY; rintro e z7 ⟨rfl, hs⟩; have Z7 : Hid (Rs w z7 a b) := hs; clear hs))
            go_roundw
            case rel => exact ⟨k + 1, a, b, _, _, _, _, rfl, rfl, rfl, rfl, by go_num, by omega, H1.out, Z7.out⟩
            case measure => simp [intOf]; omega
      · have hd4' : (dd == 4) = false := by simpa using hd4
        by_cases hw0 : who = 0
        · subst hw0
          have HF : Hid (Calls Try.prog 12 #[.pointer a1, .pointer x1, .agg #[.int .i64 0, .int .i64 dd, .int .i64 nn]] wo fun e w' => e = .returned (.bool true) ∧ ∃ q' v' l', PgI w' a.p q' a.y v' a.mo l' ∧ Chg (Fp a.p a.q a.y a.v) wo w' ∧ ∀ k, Fp a.p q' a.y v' k → Fp a.p a.q a.y a.v k ∨ wo.heap.size ≤ k) := by rw [← H1.out.1, ← H1.out.2.1]; exact fsI_any a.p a.q a.y a.v a.mo a.l _ dd nn wo HSO.out.ia
          go_wp2_with (go_at_call 12; rw [HWO.out]; refine HF.out.mono ?_; clear HF; rintro e w5 ⟨rfl, q5, v5, l5, g5, c5, k5⟩; have G5 : Hid _ := g5; have C5 : Hid _ := c5; have K5 : Hid _ := k5; clear g5 c5 k5; apply Hid.out)
          unfold Hid
          obtain ⟨n5, hn5⟩ : ∃ d : Da Int, d = ⟨a.p, q5, a.y, v5, a.mo, l5⟩ := ⟨_, rfl⟩
          have HZ0 : Rs w w5 n5 b := by rw [hn5]; exact HSO.out.stepA G5.out C5.out K5.out
          have H10 : ptr n5.p = .pointer a1 ∧ ptr n5.y = .pointer x1 := by rw [hn5]; exact ⟨H1.out.1, H1.out.2.1⟩
          have t5 := C5.out.lies HT7.out (fun hk => by have := HLA.out _ hk; omega)
          have o0 := t5.cell 0
          simp only [List.getElem?_toArray, List.getElem?_cons_zero] at o0
          clear HSO hn5 G5 C5 K5 t5
          obtain ⟨a, rfl⟩ : ∃ d, d = n5 := ⟨_, rfl⟩
          have HZ : Hid (Rs w w5 a b) := HZ0
          have H1 : Hid (ptr a.p = .pointer a1 ∧ ptr a.y = .pointer x1 ∧ ptr b.p = .pointer b1 ∧ ptr b.y = .pointer y1) := ⟨H10.1, H10.2, H1.out.2.2.1, H1.out.2.2.2⟩
          clear HZ0 H10
          have HLI : Hid (∀ wx, Rs w wx a b → Calls Try.prog 14 #[.pointer a1] wx fun e w' => e = .returned (.int .i64 (a.l.length : Int)) ∧ Rs w w' a b) := fun wx h => by rw [← H1.out.1]; exact (lenI_any a.p a.q a.mo a.l wx h.ia.rg).mono (fun e w' hh => ⟨hh.1, by rw [hh.2]; exact h⟩)
          have HLX : Hid (∀ wx, Rs w wx a b → Calls Try.prog 15 #[.pointer x1] wx fun e w' => e = .returned (.int .i64 (a.l.length : Int)) ∧ Rs w w' a b) := fun wx h => by rw [← H1.out.2.1]; exact (rlen_any a.y a.mo (embI a.l) a.v wx h.ia.gr).mono (fun e w' hh => ⟨by rw [hh.1, embI_len], by rw [hh.2]; exact h⟩)
          have HRI : Hid (∀ wx, Rs w wx a b → Calls Try.prog 16 #[.pointer a1] wx fun e w' => e = .returned (.int .i64 ((a.mo - a.l.length : Nat) : Int)) ∧ Rs w w' a b) := fun wx h => by rw [← H1.out.1]; exact (roomI_any a.p a.q a.mo a.l wx h.ia.rg).mono (fun e w' hh => by obtain ⟨r1, n, rfl⟩ := hh; exact ⟨r1, h.later (below_drewN wx n)⟩)
          have HRX : Hid (∀ wx, Rs w wx a b → Calls Try.prog 17 #[.pointer x1] wx fun e w' => e = .returned (.int .i64 ((a.mo - a.l.length : Nat) : Int)) ∧ Rs w w' a b) := fun wx h => by rw [← H1.out.2.1]; exact (rroom_any a.y a.mo (embI a.l) a.v wx h.ia.gr).mono (fun e w' hh => by obtain ⟨r1, n, rfl⟩ := hh; exact ⟨by rw [r1, embI_len], h.later (below_drewN wx n)⟩)
          have HLG : Hid (∀ wx, Rs w wx a b → Calls Try.prog 18 #[.pointer b1] wx fun e w' => e = .returned (.int .i64 (b.l.length : Int)) ∧ Rs w w' a b) := fun wx h => by rw [← H1.out.2.2.1]; exact (lenG_any b.p b.q b.mo b.l wx h.gb.rg).mono (fun e w' hh => ⟨hh.1, by rw [hh.2]; exact h⟩)
          have HLY : Hid (∀ wx, Rs w wx a b → Calls Try.prog 15 #[.pointer y1] wx fun e w' => e = .returned (.int .i64 (b.l.length : Int)) ∧ Rs w w' a b) := fun wx h => by rw [← H1.out.2.2.2]; exact (rlen_any b.y b.mo (embG b.l) b.v wx h.gb.gr).mono (fun e w' hh => ⟨by rw [hh.1, embG_len], by rw [hh.2]; exact h⟩)
          have HRG : Hid (∀ wx, Rs w wx a b → Calls Try.prog 19 #[.pointer b1] wx fun e w' => e = .returned (.int .i64 ((b.mo - b.l.length : Nat) : Int)) ∧ Rs w w' a b) := fun wx h => by rw [← H1.out.2.2.1]; exact (roomG_any b.p b.q b.mo b.l wx h.gb.rg).mono (fun e w' hh => by obtain ⟨r1, n, rfl⟩ := hh; exact ⟨r1, h.later (below_drewN wx n)⟩)
          have HRY : Hid (∀ wx, Rs w wx a b → Calls Try.prog 17 #[.pointer y1] wx fun e w' => e = .returned (.int .i64 ((b.mo - b.l.length : Nat) : Int)) ∧ Rs w w' a b) := fun wx h => by rw [← H1.out.2.2.2]; exact (rroom_any b.y b.mo (embG b.l) b.v wx h.gb.gr).mono (fun e w' hh => by obtain ⟨r1, n, rfl⟩ := hh; exact ⟨by rw [r1, embG_len], h.later (below_drewN wx n)⟩)
          obtain ⟨la, hla⟩ : ∃ n : Int, n = (a.l.length : Int) := ⟨_, rfl⟩
          obtain ⟨ra, hra⟩ : ∃ n : Int, n = ((a.mo - a.l.length : Nat) : Int) := ⟨_, rfl⟩
          obtain ⟨lb, hlb⟩ : ∃ n : Int, n = (b.l.length : Int) := ⟨_, rfl⟩
          obtain ⟨rb, hrb⟩ : ∃ n : Int, n = ((b.mo - b.l.length : Nat) : Int) := ⟨_, rfl⟩
          rw [← hla] at HLI HLX
          rw [← hra] at HRI HRX
          rw [← hlb] at HLG HLY
          rw [← hrb] at HRG HRY
          clear hla hra hlb hrb
          go_wp2_with (first
            | (go_at_call 14; refine (HLI.out _ HZ.out).mono ?_; clear HLI; rintro e z0 ⟨rfl, hs⟩; have Z0 : Hid (Rs w z0 a b) := hs; clear hs)
            | (go_at_call 15; refine (HLX.out _ Z0.out).mono ?_; clear HLX; rintro e z1 ⟨rfl, hs⟩; have Z1 : Hid (Rs w z1 a b) := hs; clear hs)
            | (go_at_call 16; refine (HRI.out _ Z1.out).mono ?_; clear HRI; rintro e z2 ⟨rfl, hs⟩; have Z2 : Hid (Rs w z2 a b) := hs; clear hs)
            | (go_at_call 17; refine (HRX.out _ Z2.out).mono ?_; clear HRX; rintro e z3 ⟨rfl, hs⟩; have Z3 : Hid (Rs w z3 a b) := hs; clear hs)
            | (go_at_call 18; refine (HLG.out _ Z3.out).mono ?_; clear HLG; rintro e z4 ⟨rfl, hs⟩; have Z4 : Hid (Rs w z4 a b) := hs; clear hs)
            | (go_at_call 15; refine (HLY.out _ Z4.out).mono ?_; clear HLY; rintro e z5 ⟨rfl, hs⟩; have Z5 : Hid (Rs w z5 a b) := hs; clear hs)
            | (go_at_call 19; refine (HRG.out _ Z5.out).mono ?_; clear HRG; rintro e z6 ⟨rfl, hs⟩; have Z6 : Hid (Rs w z6 a b) := hs; clear hs)
            | (go_at_call 17; refine (HRY.out _ Z6.out).mono ?_; clear HRY; rintro e z7 ⟨rfl, hs⟩; have Z7 : Hid (Rs w z7 a b) := hs; clear hs))
          go_roundw
          case rel => exact ⟨k + 1, a, b, _, _, _, _, rfl, rfl, rfl, rfl, by go_num, by omega, H1.out, Z7.out⟩
          case measure => simp [intOf]; omega
        · have hw0' : (who == 0) = false := by simpa using hw0
          by_cases hw1 : who = 1
          · subst hw1
            have HF : Hid (Calls Try.prog 13 #[.pointer b1, .pointer y1, .agg #[.int .i64 1, .int .i64 dd, .int .i64 nn], .int .i64 (k : Int)] wo fun e w' => e = .returned (.bool true) ∧ ∃ q' v' l', PgG w' b.p q' b.y v' b.mo l' ∧ Chg (Fp b.p b.q b.y b.v) wo w' ∧ ∀ k, Fp b.p q' b.y v' k → Fp b.p b.q b.y b.v k ∨ wo.heap.size ≤ k) := by rw [← H1.out.2.2.1, ← H1.out.2.2.2]; exact fsG_any b.p b.q b.y b.v b.mo b.l _ dd nn (k : Int) wo HSO.out.gb
            go_wp2_with (go_at_call 13; rw [HWO.out]; refine HF.out.mono ?_; clear HF; rintro e w5 ⟨rfl, q5, v5, l5, g5, c5, k5⟩; have G5 : Hid _ := g5; have C5 : Hid _ := c5; have K5 : Hid _ := k5; clear g5 c5 k5; apply Hid.out)
            unfold Hid
            obtain ⟨n5, hn5⟩ : ∃ d : Da (Int × Int), d = ⟨b.p, q5, b.y, v5, b.mo, l5⟩ := ⟨_, rfl⟩
            have HZ0 : Rs w w5 a n5 := by rw [hn5]; exact HSO.out.stepB G5.out C5.out K5.out
            have H10 : ptr n5.p = .pointer b1 ∧ ptr n5.y = .pointer y1 := by rw [hn5]; exact ⟨H1.out.2.2.1, H1.out.2.2.2⟩
            have t5 := C5.out.lies HT7.out (fun hk => by have := HLB.out _ hk; omega)
            have o0 := t5.cell 0
            simp only [List.getElem?_toArray, List.getElem?_cons_zero] at o0
            clear HSO hn5 G5 C5 K5 t5
            obtain ⟨b, rfl⟩ : ∃ d, d = n5 := ⟨_, rfl⟩
            have HZ : Hid (Rs w w5 a b) := HZ0
            have H1 : Hid (ptr a.p = .pointer a1 ∧ ptr a.y = .pointer x1 ∧ ptr b.p = .pointer b1 ∧ ptr b.y = .pointer y1) := ⟨H1.out.1, H1.out.2.1, H10.1, H10.2⟩
            clear HZ0 H10
            have HLI : Hid (∀ wx, Rs w wx a b → Calls Try.prog 14 #[.pointer a1] wx fun e w' => e = .returned (.int .i64 (a.l.length : Int)) ∧ Rs w w' a b) := fun wx h => by rw [← H1.out.1]; exact (lenI_any a.p a.q a.mo a.l wx h.ia.rg).mono (fun e w' hh => ⟨hh.1, by rw [hh.2]; exact h⟩)
            have HLX : Hid (∀ wx, Rs w wx a b → Calls Try.prog 15 #[.pointer x1] wx fun e w' => e = .returned (.int .i64 (a.l.length : Int)) ∧ Rs w w' a b) := fun wx h => by rw [← H1.out.2.1]; exact (rlen_any a.y a.mo (embI a.l) a.v wx h.ia.gr).mono (fun e w' hh => ⟨by rw [hh.1, embI_len], by rw [hh.2]; exact h⟩)
            have HRI : Hid (∀ wx, Rs w wx a b → Calls Try.prog 16 #[.pointer a1] wx fun e w' => e = .returned (.int .i64 ((a.mo - a.l.length : Nat) : Int)) ∧ Rs w w' a b) := fun wx h => by rw [← H1.out.1]; exact (roomI_any a.p a.q a.mo a.l wx h.ia.rg).mono (fun e w' hh => by obtain ⟨r1, n, rfl⟩ := hh; exact ⟨r1, h.later (below_drewN wx n)⟩)
            have HRX : Hid (∀ wx, Rs w wx a b → Calls Try.prog 17 #[.pointer x1] wx fun e w' => e = .returned (.int .i64 ((a.mo - a.l.length : Nat) : Int)) ∧ Rs w w' a b) := fun wx h => by rw [← H1.out.2.1]; exact (rroom_any a.y a.mo (embI a.l) a.v wx h.ia.gr).mono (fun e w' hh => by obtain ⟨r1, n, rfl⟩ := hh; exact ⟨by rw [r1, embI_len], h.later (below_drewN wx n)⟩)
            have HLG : Hid (∀ wx, Rs w wx a b → Calls Try.prog 18 #[.pointer b1] wx fun e w' => e = .returned (.int .i64 (b.l.length : Int)) ∧ Rs w w' a b) := fun wx h => by rw [← H1.out.2.2.1]; exact (lenG_any b.p b.q b.mo b.l wx h.gb.rg).mono (fun e w' hh => ⟨hh.1, by rw [hh.2]; exact h⟩)
            have HLY : Hid (∀ wx, Rs w wx a b → Calls Try.prog 15 #[.pointer y1] wx fun e w' => e = .returned (.int .i64 (b.l.length : Int)) ∧ Rs w w' a b) := fun wx h => by rw [← H1.out.2.2.2]; exact (rlen_any b.y b.mo (embG b.l) b.v wx h.gb.gr).mono (fun e w' hh => ⟨by rw [hh.1, embG_len], by rw [hh.2]; exact h⟩)
            have HRG : Hid (∀ wx, Rs w wx a b → Calls Try.prog 19 #[.pointer b1] wx fun e w' => e = .returned (.int .i64 ((b.mo - b.l.length : Nat) : Int)) ∧ Rs w w' a b) := fun wx h => by rw [← H1.out.2.2.1]; exact (roomG_any b.p b.q b.mo b.l wx h.gb.rg).mono (fun e w' hh => by obtain ⟨r1, n, rfl⟩ := hh; exact ⟨r1, h.later (below_drewN wx n)⟩)
            have HRY : Hid (∀ wx, Rs w wx a b → Calls Try.prog 17 #[.pointer y1] wx fun e w' => e = .returned (.int .i64 ((b.mo - b.l.length : Nat) : Int)) ∧ Rs w w' a b) := fun wx h => by rw [← H1.out.2.2.2]; exact (rroom_any b.y b.mo (embG b.l) b.v wx h.gb.gr).mono (fun e w' hh => by obtain ⟨r1, n, rfl⟩ := hh; exact ⟨by rw [r1, embG_len], h.later (below_drewN wx n)⟩)
            obtain ⟨la, hla⟩ : ∃ n : Int, n = (a.l.length : Int) := ⟨_, rfl⟩
            obtain ⟨ra, hra⟩ : ∃ n : Int, n = ((a.mo - a.l.length : Nat) : Int) := ⟨_, rfl⟩
            obtain ⟨lb, hlb⟩ : ∃ n : Int, n = (b.l.length : Int) := ⟨_, rfl⟩
            obtain ⟨rb, hrb⟩ : ∃ n : Int, n = ((b.mo - b.l.length : Nat) : Int) := ⟨_, rfl⟩
            rw [← hla] at HLI HLX
            rw [← hra] at HRI HRX
            rw [← hlb] at HLG HLY
            rw [← hrb] at HRG HRY
            clear hla hra hlb hrb
            go_wp2_with (first
              | (go_at_call 14; refine (HLI.out _ HZ.out).mono ?_; clear HLI; rintro e z0 ⟨rfl, hs⟩; have Z0 : Hid (Rs w z0 a b) := hs; clear hs)
              | (go_at_call 15; refine (HLX.out _ Z0.out).mono ?_; clear HLX; rintro e z1 ⟨rfl, hs⟩; have Z1 : Hid (Rs w z1 a b) := hs; clear hs)
              | (go_at_call 16; refine (HRI.out _ Z1.out).mono ?_; clear HRI; rintro e z2 ⟨rfl, hs⟩; have Z2 : Hid (Rs w z2 a b) := hs; clear hs)
              | (go_at_call 17; refine (HRX.out _ Z2.out).mono ?_; clear HRX; rintro e z3 ⟨rfl, hs⟩; have Z3 : Hid (Rs w z3 a b) := hs; clear hs)
              | (go_at_call 18; refine (HLG.out _ Z3.out).mono ?_; clear HLG; rintro e z4 ⟨rfl, hs⟩; have Z4 : Hid (Rs w z4 a b) := hs; clear hs)
              | (go_at_call 15; refine (HLY.out _ Z4.out).mono ?_; clear HLY; rintro e z5 ⟨rfl, hs⟩; have Z5 : Hid (Rs w z5 a b) := hs; clear hs)
              | (go_at_call 19; refine (HRG.out _ Z5.out).mono ?_; clear HRG; rintro e z6 ⟨rfl, hs⟩; have Z6 : Hid (Rs w z6 a b) := hs; clear hs)
              | (go_at_call 17; refine (HRY.out _ Z6.out).mono ?_; clear HRY; rintro e z7 ⟨rfl, hs⟩; have Z7 : Hid (Rs w z7 a b) := hs; clear hs))
            go_roundw
            case rel => exact ⟨k + 1, a, b, _, _, _, _, rfl, rfl, rfl, rfl, by go_num, by omega, H1.out, Z7.out⟩
            case measure => simp [intOf]; omega
          · have hw1' : (who == 1) = false := by simpa using hw1
            have HLI : Hid (∀ wx, Rs w wx a b → Calls Try.prog 14 #[.pointer a1] wx fun e w' => e = .returned (.int .i64 (a.l.length : Int)) ∧ Rs w w' a b) := fun wx h => by rw [← H1.out.1]; exact (lenI_any a.p a.q a.mo a.l wx h.ia.rg).mono (fun e w' hh => ⟨hh.1, by rw [hh.2]; exact h⟩)
            have HLX : Hid (∀ wx, Rs w wx a b → Calls Try.prog 15 #[.pointer x1] wx fun e w' => e = .returned (.int .i64 (a.l.length : Int)) ∧ Rs w w' a b) := fun wx h => by rw [← H1.out.2.1]; exact (rlen_any a.y a.mo (embI a.l) a.v wx h.ia.gr).mono (fun e w' hh => ⟨by rw [hh.1, embI_len], by rw [hh.2]; exact h⟩)
            have HRI : Hid (∀ wx, Rs w wx a b → Calls Try.prog 16 #[.pointer a1] wx fun e w' => e = .returned (.int .i64 ((a.mo - a.l.length : Nat) : Int)) ∧ Rs w w' a b) := fun wx h => by rw [← H1.out.1]; exact (roomI_any a.p a.q a.mo a.l wx h.ia.rg).mono (fun e w' hh => by obtain ⟨r1, n, rfl⟩ := hh; exact ⟨r1, h.later (below_drewN wx n)⟩)
            have HRX : Hid (∀ wx, Rs w wx a b → Calls Try.prog 17 #[.pointer x1] wx fun e w' => e = .returned (.int .i64 ((a.mo - a.l.length : Nat) : Int)) ∧ Rs w w' a b) := fun wx h => by rw [← H1.out.2.1]; exact (rroom_any a.y a.mo (embI a.l) a.v wx h.ia.gr).mono (fun e w' hh => by obtain ⟨r1, n, rfl⟩ := hh; exact ⟨by rw [r1, embI_len], h.later (below_drewN wx n)⟩)
            have HLG : Hid (∀ wx, Rs w wx a b → Calls Try.prog 18 #[.pointer b1] wx fun e w' => e = .returned (.int .i64 (b.l.length : Int)) ∧ Rs w w' a b) := fun wx h => by rw [← H1.out.2.2.1]; exact (lenG_any b.p b.q b.mo b.l wx h.gb.rg).mono (fun e w' hh => ⟨hh.1, by rw [hh.2]; exact h⟩)
            have HLY : Hid (∀ wx, Rs w wx a b → Calls Try.prog 15 #[.pointer y1] wx fun e w' => e = .returned (.int .i64 (b.l.length : Int)) ∧ Rs w w' a b) := fun wx h => by rw [← H1.out.2.2.2]; exact (rlen_any b.y b.mo (embG b.l) b.v wx h.gb.gr).mono (fun e w' hh => ⟨by rw [hh.1, embG_len], by rw [hh.2]; exact h⟩)
            have HRG : Hid (∀ wx, Rs w wx a b → Calls Try.prog 19 #[.pointer b1] wx fun e w' => e = .returned (.int .i64 ((b.mo - b.l.length : Nat) : Int)) ∧ Rs w w' a b) := fun wx h => by rw [← H1.out.2.2.1]; exact (roomG_any b.p b.q b.mo b.l wx h.gb.rg).mono (fun e w' hh => by obtain ⟨r1, n, rfl⟩ := hh; exact ⟨r1, h.later (below_drewN wx n)⟩)
            have HRY : Hid (∀ wx, Rs w wx a b → Calls Try.prog 17 #[.pointer y1] wx fun e w' => e = .returned (.int .i64 ((b.mo - b.l.length : Nat) : Int)) ∧ Rs w w' a b) := fun wx h => by rw [← H1.out.2.2.2]; exact (rroom_any b.y b.mo (embG b.l) b.v wx h.gb.gr).mono (fun e w' hh => by obtain ⟨r1, n, rfl⟩ := hh; exact ⟨by rw [r1, embG_len], h.later (below_drewN wx n)⟩)
            obtain ⟨la, hla⟩ : ∃ n : Int, n = (a.l.length : Int) := ⟨_, rfl⟩
            obtain ⟨ra, hra⟩ : ∃ n : Int, n = ((a.mo - a.l.length : Nat) : Int) := ⟨_, rfl⟩
            obtain ⟨lb, hlb⟩ : ∃ n : Int, n = (b.l.length : Int) := ⟨_, rfl⟩
            obtain ⟨rb, hrb⟩ : ∃ n : Int, n = ((b.mo - b.l.length : Nat) : Int) := ⟨_, rfl⟩
            rw [← hla] at HLI HLX
            rw [← hra] at HRI HRX
            rw [← hlb] at HLG HLY
            rw [← hrb] at HRG HRY
            clear hla hra hlb hrb
            go_wp2_with (first
              | (go_at_call 14; rw [HWO.out]; refine (HLI.out _ HSO.out).mono ?_; clear HLI; rintro e z0 ⟨rfl, hs⟩; have Z0 : Hid (Rs w z0 a b) := hs; clear hs)
              | (go_at_call 15; refine (HLX.out _ Z0.out).mono ?_; clear HLX; rintro e z1 ⟨rfl, hs⟩; have Z1 : Hid (Rs w z1 a b) := hs; clear hs)
              | (go_at_call 16; refine (HRI.out _ Z1.out).mono ?_; clear HRI; rintro e z2 ⟨rfl, hs⟩; have Z2 : Hid (Rs w z2 a b) := hs; clear hs)
              | (go_at_call 17; refine (HRX.out _ Z2.out).mono ?_; clear HRX; rintro e z3 ⟨rfl, hs⟩; have Z3 : Hid (Rs w z3 a b) := hs; clear hs)
              | (go_at_call 18; refine (HLG.out _ Z3.out).mono ?_; clear HLG; rintro e z4 ⟨rfl, hs⟩; have Z4 : Hid (Rs w z4 a b) := hs; clear hs)
              | (go_at_call 15; refine (HLY.out _ Z4.out).mono ?_; clear HLY; rintro e z5 ⟨rfl, hs⟩; have Z5 : Hid (Rs w z5 a b) := hs; clear hs)
              | (go_at_call 19; refine (HRG.out _ Z5.out).mono ?_; clear HRG; rintro e z6 ⟨rfl, hs⟩; have Z6 : Hid (Rs w z6 a b) := hs; clear hs)
              | (go_at_call 17; refine (HRY.out _ Z6.out).mono ?_; clear HRY; rintro e z7 ⟨rfl, hs⟩; have Z7 : Hid (Rs w z7 a b) := hs; clear hs))
            go_roundw
            case rel => exact ⟨k + 1, a, b, _, _, _, _, rfl, rfl, rfl, rfl, by go_num, by omega, H1.out, Z7.out⟩
            case measure => simp [intOf]; omega
    · have hki : ¬ (k : Int) < (st.length : Int) := by omega
      go_wp2_with (first
        | (go_at_call 9; refine (HNO.out _).mono ?_; clear HNO; rintro e w5 ⟨rfl, h5⟩; have R5 : Hid _ := h5; clear h5)
        | (go_at_call 20; refine (HPO.out _ _ _ R5.out).mono ?_; clear HPO; rintro e w6 ⟨rfl, q6, h6⟩; have R6 : Hid _ := h6; clear h6)
        | (go_at_call 21; refine (HTO.out _ _ _ R6.out).mono ?_; clear HTO; rintro e w7 ⟨rfl, h7⟩; have R7 : Hid _ := h7; clear h7))
      go_ret
      exact ⟨rfl, HS.out.bel.trans (R7.out.bel.mono HS.out.bel.size)⟩
theorem walk {w : World} (most : Int) (_hb : -9223372036854775808 ≤ most ∧ most ≤ 9223372036854775807) (sa : Option Addr) (st : List (Int × Int × Int)) (c : Nat) (h1 : Sg cel3 sa st w ∧ ∀ t ∈ st, In64 t.1 ∧ In64 t.2.1 ∧ In64 t.2.2) (hl : st.length ≤ 5864062014634) :
    Calls Try.prog 3 #[.int .i64 most, .slice sa st.length c] w fun e w' => e = .returned (.bool true) ∧ Below w.heap.size w w' := walk0 most sa st c w h1.1 hl

theorem own : ownKnob Try.prog.godebug = none := by kernel_rfl
theorem laidOut : laidOutB Try.prog = true := by kernel_rfl
set_option maxRecDepth 100000 in
theorem contract (H : Type) (enc : TypeId × Value → H) (W : World) (base : Nat) (args : Array Value) (ds gs : List (DataW H)) (before : List MemPlace)
    (hval : ∀ (j : Nat) t v, Try.f3.params[j]? = some t → args[j]? = some v → Value.okWide Try.prog W .any base t v)
    (hW : DataW.Whole enc Try.prog Try.f3.params.toList Rows.queueRingsSpec.vars false W args.toList ds gs before)
    (hsz : (DataW.weightsEach Try.prog (Try.f3.params.toList ++ Rows.queueRingsSpec.plain.varTypes Try.prog) (ds ++ gs)).all (· ≤ reachBytes) = true)
    :
    Calls Try.prog 3 args W fun e W' => ∃ v, e = .returned v ∧ Rows.queueRingsSpec.post enc Try.prog Try.f3 false true false false W args v W' := by
  have hW' := hW
  obtain ⟨p, q, hA0, hV, rfl, hfz, hnd⟩ := hW
  have hA : DataW.TrodAll enc Try.prog W 0 (fun _ => true) true Try.f3.params.toList args.toList ds p := hA0
  rw [Try.params3] at hA hval hsz
  obtain ⟨v0, vs0, d0, ds0, p0, q0, hargs, rfl, rfl, h0, r0⟩ := trodAll_cons hA
  obtain ⟨v1, vs1, d1, ds1, p1, q1, rfl, rfl, rfl, h1, r1⟩ := trodAll_cons r0
  obtain ⟨rfl, rfl, rfl⟩ := trodAll_nil r1
  obtain rfl : args = #[v0, v1] := by cases args; simp_all
  obtain ⟨rfl, rfl⟩ := trodVars_none hV
  obtain ⟨a0, rfl, rfl, rfl, w0⟩ := open_int Try.underlying3 (hval 0 3 v0 rfl rfl) h0
  have b0 := bounds_i64 w0
  have k1 := h1
  have lt1 : ∀ x ∈ p1, x.block < W.heap.size := by obtain ⟨m, hm⟩ := k1; exact DataW.trod_lt m _ _ _ hm
  obtain ⟨a1, len1, cap1, rfl⟩ := okWide_slice Try.underlying22 (hval 1 22 v1 rfl rfl)
  obtain ⟨l1, e1, row1, bd1⟩ := open_ops h1
  clear hA0
  have s1 : l1.length ≤ 5864062014634 := by
    rcases bd1 with ⟨el, sp, rfl, hl⟩ | ⟨rfl, hl⟩
    · have := sized_slice hsz (j := 1) (t := 22) (e := 36) rfl rfl Try.underlying22
      rw [bytesO] at this
      simp only [reachBytes] at this
      omega
    · omega
  subst e1
  refine (walk a0 b0 a1 l1 cap1 row1 s1).mono fun e W' ⟨he, bel⟩ => ?_
  subst he
  exact ⟨_, rfl, _, _, _, [], _, [], hW', trodAll_mk1 (shut_bool Try.underlying4 _), trodAll_cons_mk (shut_int Try.underlying3 w0) (trodAll_cons_mk (Below.trod laidOut (by kernel_rfl) (of_decide_eq_true (by kernel_rfl)) k1 bel lt1) trodAll_mk0), rfl, bel.frame _, fun h => by cases h⟩

set_option maxRecDepth 100000 in
theorem lifted (os : Os) (started : os.Started) (H : Type) (enc : TypeId × Value → H) :
    ReturnsInHanded {} Try.checked os 3 .any (Rows.queueRingsSpec.pre6 enc Try.prog Try.f3 Rows.queueRingsRow.domain false) (Rows.queueRingsSpec.post enc Try.prog Try.f3 false true false false) := by
  refine returnsInHanded_of_change_sized (C := Try.checked) own started (by kernel_rfl) Try.func3
    (ChangeSpec.witness6 (enc := enc) (C := Try.checked) false ⟨#[], #[.int .i64 0, .slice none 0 0], []⟩ 8 (by kernel_rfl) (by kernel_rfl) (by kernel_rfl) (by kernel_rfl)) ?_
  intro W base args ds gs before hval0 hW hcnd hsz0 _
  exact contract H enc W base args ds gs before hval0 hW hsz0

theorem over : Rows.queueRingsRow.holds Try.pinned (OpenSpec.ofChange Rows.queueRingsSpec) :=
  OpenClaim.holds_of_wide 3 Try.f3 rfl rfl rfl rfl rfl rfl rfl ⟨rfl, rfl, rfl, rfl, rfl⟩ rfl rfl rfl rfl rfl (by kernel_rfl) Try.func3 (by kernel_rfl)
    (of_decide_eq_true (by kernel_rfl)) (by unfold Func.isWrapper; first | (rw [if_pos (by decide +kernel)]; kernel_rfl) | (rw [if_neg (by decide +kernel)]; exact ⟨rfl, rfl⟩))
    (fun os started H enc _ => lifted os started H enc)
end Go.Proofs.Ytgbbjhhggjocmaa.queueRings
namespace Go.Proofs.Ytgbbjhhggjocmaa
theorem queueRings_said : Rows.QueueRingsSaid := queueRings.over
#print axioms queueRings_said
end Go.Proofs.Ytgbbjhhggjocmaa
