/-
  P7.8: what goes in comes out, in that order, however pushes and takings stand between, and what there is no room for does not; proved for every input.
-/
import Derived.Test.YtgbbjhhggjocmaaFiS
import Derived.Test.YtgbbjhhggjocmaaOpen7
import Derived.Test.YtgbbjhhggjocmaaRows
import Derived.ProofKit
import Derived.ChangeMaps5
import Derived.OpenShut
import Derived.ShutString
import Derived.ChangeOld
import Derived.SizedLaws
namespace Go.Proofs.Ytgbbjhhggjocmaa.queueFifo
open Go.ChangeShapes Go.WideShapes Go.ChangeAt Go.RowKit

theorem tm4 (y : Int) : -4 < y.tmod 4 ∧ y.tmod 4 < 4 := by
  have h1 := Int.tmod_lt_of_pos y (b := 4) (by decide)
  have h2 := Int.tmod_lt_of_pos (-y) (b := 4) (by decide)
  rw [Int.neg_tmod] at h2
  omega
set_option maxRecDepth 20000 in
set_option maxHeartbeats 4000000 in
theorem good (most : Nat) (hm1 : 1 ≤ most) (hm2 : most ≤ 1048576) (a1 : Option Addr) (l : List Int) (c1 : Nat) (a2 : Option Addr) (t : List Int) (c2 : Nat) (w : World) (h1 : Sg celI a1 l w) (hl : l.length ≤ 17592186043904) (h2 : Sg celI a2 t w) :
    Calls Try.prog 6 #[.int .i64 (most : Int), .slice a1 l.length c1, .slice a2 t.length c2] w fun e w' => e = .returned (.bool true) ∧ Below w.heap.size w w' := by
  have HWK : Hid (Calls Try.prog 39 #[] w fun e w' => e = .returned (.bool true) ∧ Below w.heap.size w w') := wakes_any w
  have HNW : Hid (∀ wx, Below w.heap.size w wx → Calls Try.prog 9 #[.int .i64 (most : Int)] wx fun e w' => e = .returned (.tuple #[.pointer (some ⟨wx.heap.size, 0, none⟩), .int .i64 0]) ∧ RnI w.heap.size w w' (some wx.heap.size) none most []) := fun wx hb => newI_n w.heap.size w wx (Nat.le_refl _) hb most hm1 hm2
  have H1 : Hid (Sg celI a1 l w) := h1
  have H2 : Hid (Sg celI a2 t w) := h2
  have hn1 : ¬ (most : Int) < 1 := by omega
  have hn2 : ¬ (1048576 : Int) < (most : Int) := by omega
  clear h1 h2
  go_enter Try.func6, Try.ntmps6
  go_wp2_with (first
    | (go_at_call 39; refine HWK.out.mono ?_; clear HWK; rintro e w1 ⟨rfl, hb⟩; have HB1 : Hid (Below w.heap.size w w1) := hb; clear hb)
    | (go_at_call 9; refine (HNW.out _ HB1.out).mono ?_; clear HNW HB1; rintro e w2 ⟨rfl, hr⟩; have HS0 : Hid (FiS w w2 w1.heap.size none most [] [] [] (.slice none 0 0) (.slice none 0 0)) := FiS.start hr; clear hr; generalize w1.heap.size = b at *))
  go_loopw [9, 10, 47] (fun vi vo iv wr => ∃ (k : Nat) (q : Option Nat) (L I O : List Int), iv = .int .i64 (k : Int) ∧ k ≤ l.length ∧ Hid (FiS w wr b q most L I O vi vo) ∧ Hid (I = O ++ L) ∧ Hid (I.length ≤ k)) (fun _ _ iv _ => l.length - (intOf iv).toNat)
  case atStart => exact ⟨0, none, [], [], [], rfl, Nat.zero_le _, HS0.out, rfl, Nat.le_refl _⟩
  case round =>
    obtain ⟨k, q, L, I, O, rfl, hk, HS, HE, HI⟩ := hrel
    clear HS0
    by_cases hlt : k < l.length
    · obtain ⟨g1, o1, rfl, hg1, ck⟩ := (H1.out.below HS.out.bel).cell k hlt
      obtain ⟨ai, ci, rfl, _⟩ := HS.out.oi.shape
      obtain ⟨ao, co, rfl, _⟩ := HS.out.oo.shape
      have HRM : Hid (Calls Try.prog 16 #[.pointer (some ⟨b, 0, none⟩)] wr fun e w' => e = .returned (.int .i64 ((most - L.length : Nat) : Int)) ∧ ∃ n, w' = wr.drewN n) := roomI_any (some b) q most L wr HS.out.rg
      have HPU : Hid (∀ n, Calls Try.prog 20 #[.pointer (some ⟨b, 0, none⟩), .int .i64 l[k]] (wr.drewN n) fun e w' => e = .returned (.int .i64 (pushE most L.length)) ∧ ∃ q', FiS w w' b q' most (pushLI most L l[k]) I O (.slice ai I.length ci) (.slice ao O.length co)) := fun n => (pushI_any (some b) q most L l[k] (wr.drewN n) (HS.out.rg.drewN n)).mono (fun e w' hh => by
        obtain ⟨k1, q', k2, k3, k4⟩ := hh
        exact ⟨k1, q', (HS.out.later (below_drewN wr n)).ring k2 k3 k4⟩)
      have hki : (k : Int) < (l.length : Int) := by omega
      have hLm := HS.out.rg.len.1
      generalize l[k] = x at *
      by_cases hfull : L.length = most
      · have e1 : pushE most L.length = 4 := by unfold pushE; rw [if_neg (by omega), if_pos hfull]
        have e2 : pushLI most L x = L := by unfold pushLI; rw [if_neg (by omega)]
        have e3 : most - L.length = 0 := by omega
        rw [e1, e2] at HPU
        rw [e3] at HRM
        clear e1 e2 e3 HS
        go_wp2_with (first
          | (go_at_call 16; refine HRM.out.mono ?_; clear HRM; rintro e w3 ⟨rfl, nd, rfl⟩)
          | (go_at_call 20; refine (HPU.out _).mono ?_; rintro e w4 ⟨rfl, q2, hs⟩; have HS2 : Hid (FiS w w4 b q2 most L I O (.slice ai I.length ci) (.slice ao O.length co)) := hs; clear hs))
        have HE2 := HE
        have HI2 : Hid (I.length ≤ k + 1) := Nat.le_succ_of_le HI.out
        obtain ⟨L2, hL2⟩ : ∃ L2, L2 = L := ⟨_, rfl⟩
        rw [← hL2] at HS2 HE2
        clear hL2
        go_loopw [10, 14] (fun vo kv wr => ∃ (k2 : Nat) (L' O' : List Int), kv = .int .i64 (k2 : Int) ∧ k2 ≤ 3 ∧ Hid (FiS w wr b q2 most L' I O' (.slice ai I.length ci) vo) ∧ Hid (I = O' ++ L')) (fun _ kv _ => 4 - (intOf kv).toNat)
        case atStart => exact ⟨0, L2, O, rfl, by omega, HS2.out, HE2.out⟩
        case round =>
          obtain ⟨k2, L', O', rfl, hk2, HSi, HEi⟩ := hrel
          clear HS2 HE2
          obtain ⟨ao', co', rfl, _⟩ := HSi.out.oo.shape
          by_cases hkt : k < t.length
          · obtain ⟨g2, o2, rfl, hg2, ct⟩ := (H2.out.below HSi.out.bel).cell k hkt
            have hkt2 : (k : Int) < (t.length : Int) := by omega
            have htm := tm4 t[k]
            generalize t[k] = y at *
            by_cases hky : (k2 : Int) < y.tmod 4
            · have HPO : Hid (Calls Try.prog 21 #[.pointer (some ⟨b, 0, none⟩)] wr fun e w' => e = .returned (.tuple #[.int .i64 (L'.headD 0), .bool (!L'.isEmpty)]) ∧ FiS w w' b q2 most L'.tail I O' (.slice ai I.length ci) (.slice ao' O'.length co')) := (popI_any (some b) q2 most L' wr HSi.out.rg).mono (fun e w' hh => by obtain ⟨k1, k2, k3⟩ := hh; exact ⟨k1, HSi.out.ring k2 k3 (fun k e => .inl e)⟩)
              cases L' with
              | nil =>
                clear HPU
                go_wp2_with (go_at_call 21; refine HPO.out.mono ?_; clear HPO; rintro e wp ⟨rfl, hs⟩; have HSp : Hid (FiS w wp b q2 most [] I O' (.slice ai I.length ci) (.slice ao' O'.length co')) := hs; clear hs)
                go_roundw
                case rel => exact ⟨k2 + 1, [], O', by go_num, by omega, HSp.out, HEi.out⟩
                case measure => simp [intOf]; omega
              | cons x' r =>
                clear HPU
                have hOl : O'.length < I.length := by rw [HEi.out, List.length_append, List.length_cons]; omega
                have hIl : I.length ≤ 17592186043904 := by have := HI2.out; omega
                go_wp2_with (first
                  | (go_at_call 21; refine HPO.out.mono ?_; clear HPO; rintro e wp ⟨rfl, hs⟩; have HSp : Hid (FiS w wp b q2 most r I O' (.slice ai I.length ci) (.slice ao' O'.length co')) := hs; clear hs)
                  | (at_builtin; refine wpList_append_ow celI_length (by decide) oneI rfl _ _ 55 rfl Try.underlying55 _ 8 infoI7 rfl (.slice ao' O'.length co') O' rfl (Ow.below HSp.out.oo ((Below.refl _ _).alloc (Nat.le_refl _) _)) _ 1 x' rfl (fun j u hu => new_cells (celI x') j u hu) (by omega) (by omega) ?_; intro g8 c8 w8 ho8 hc8 hg8; have HS9 : Hid (FiS w w8 b q2 most r I (O' ++ [x']) (.slice ai I.length ci) (.slice (some ⟨g8, 0, none⟩) (O'.length + 1) c8)) := (HSp.out.later ((Below.refl _ _).alloc (Nat.le_refl _) _)).out ho8 hc8 hg8; clear ho8 hc8 hg8))
                go_roundw
                case rel => exact ⟨k2 + 1, r, O' ++ [x'], by go_num, by omega, HS9.out, by rw [List.append_assoc]; exact HEi.out⟩
                case measure => simp [intOf]; omega
            · have hky2 : y.tmod 4 ≤ (k2 : Int) := by omega
              have HL4 : Hid (∀ n, Calls Try.prog 14 #[.pointer (some ⟨b, 0, none⟩)] (wr.drewN n) fun e w' => e = .returned (.int .i64 (L'.length : Int)) ∧ w' = wr.drewN n) := fun n => lenI_any (some b) q2 most L' (wr.drewN n) (HSi.out.rg.drewN n)
              have HR4 : Hid (∀ n, Calls Try.prog 16 #[.pointer (some ⟨b, 0, none⟩)] (wr.drewN n) fun e w' => e = .returned (.int .i64 ((most : Int) - (L'.length : Int))) ∧ ∃ m, w' = (wr.drewN n).drewN m) := fun n => (roomI_any (some b) q2 most L' (wr.drewN n) (HSi.out.rg.drewN n)).mono (fun e w' hh => by obtain ⟨k1, k2⟩ := hh; refine ⟨?_, k2⟩; rw [k1]; exact ret_i64 (by have := HSi.out.rg.len.1; omega))
              have hle : (I.length : Int) - (O'.length : Int) = (L'.length : Int) := by rw [HEi.out, List.length_append]; omega
              have hlm := HSi.out.rg.len.1
              have HL0 : Hid (Calls Try.prog 14 #[.pointer (some ⟨b, 0, none⟩)] wr fun e w' => e = .returned (.int .i64 (L'.length : Int)) ∧ w' = wr) := HL4.out 0
              have HR0 : Hid (Calls Try.prog 16 #[.pointer (some ⟨b, 0, none⟩)] wr fun e w' => e = .returned (.int .i64 ((most : Int) - (L'.length : Int))) ∧ ∃ m, w' = wr.drewN m) := HR4.out 0
              have hIl : I.length ≤ 17592186043904 := by have := HI2.out; omega
              have hOl : O'.length ≤ 17592186043904 := by omega
              clear HPU
              go_wp2_with (first
                | (go_at_call 14; refine HL0.out.mono ?_; clear HL0; rintro e wz ⟨rfl, hz⟩; subst hz)
                | (go_at_call 16; refine HR0.out.mono ?_; clear HR0; rintro e wz ⟨rfl, nz, rfl⟩)
                | (go_at_call 14; refine (HL4.out _).mono ?_; rintro e wz ⟨rfl, rfl⟩))
              go_roundw
              case rel => exact ⟨k + 1, q2, L', I, O', by go_num, by omega, HSi.out.later (below_drewN _ _), HEi.out, HI2.out⟩
              case measure => simp [intOf]; omega
          · have hkt2 : (t.length : Int) ≤ (k : Int) := by omega
            have HL4 : Hid (∀ n, Calls Try.prog 14 #[.pointer (some ⟨b, 0, none⟩)] (wr.drewN n) fun e w' => e = .returned (.int .i64 (L'.length : Int)) ∧ w' = wr.drewN n) := fun n => lenI_any (some b) q2 most L' (wr.drewN n) (HSi.out.rg.drewN n)
            have HR4 : Hid (∀ n, Calls Try.prog 16 #[.pointer (some ⟨b, 0, none⟩)] (wr.drewN n) fun e w' => e = .returned (.int .i64 ((most : Int) - (L'.length : Int))) ∧ ∃ m, w' = (wr.drewN n).drewN m) := fun n => (roomI_any (some b) q2 most L' (wr.drewN n) (HSi.out.rg.drewN n)).mono (fun e w' hh => by obtain ⟨k1, k2⟩ := hh; refine ⟨?_, k2⟩; rw [k1]; exact ret_i64 (by have := HSi.out.rg.len.1; omega))
            have hle : (I.length : Int) - (O'.length : Int) = (L'.length : Int) := by rw [HEi.out, List.length_append]; omega
            have hlm := HSi.out.rg.len.1
            have HL0 : Hid (Calls Try.prog 14 #[.pointer (some ⟨b, 0, none⟩)] wr fun e w' => e = .returned (.int .i64 (L'.length : Int)) ∧ w' = wr) := HL4.out 0
            have HR0 : Hid (Calls Try.prog 16 #[.pointer (some ⟨b, 0, none⟩)] wr fun e w' => e = .returned (.int .i64 ((most : Int) - (L'.length : Int))) ∧ ∃ m, w' = wr.drewN m) := HR4.out 0
            have hIl : I.length ≤ 17592186043904 := by have := HI2.out; omega
            have hOl : O'.length ≤ 17592186043904 := by omega
            clear HPU
            go_wp2_with (first
              | (go_at_call 14; refine HL0.out.mono ?_; clear HL0; rintro e wz ⟨rfl, hz⟩; subst hz)
              | (go_at_call 16; refine HR0.out.mono ?_; clear HR0; rintro e wz ⟨rfl, nz, rfl⟩)
              | (go_at_call 14; refine (HL4.out _).mono ?_; rintro e wz ⟨rfl, rfl⟩))
            go_roundw
            case rel => exact ⟨k + 1, q2, L', I, O', by go_num, by omega, HSi.out.later (below_drewN _ _), HEi.out, HI2.out⟩
            case measure => simp [intOf]; omega
      · have e1 : pushE most L.length = 0 := by unfold pushE; rw [if_neg (by omega), if_neg hfull]
        have e2 : pushLI most L x = L ++ [x] := by unfold pushLI; rw [if_pos (by omega)]
        have hrm : 0 < most - L.length := by omega
        rw [e1, e2] at HPU
        have hIl : I.length ≤ 17592186043903 := by have := HI.out; omega
        clear e1 e2 HS
        generalize most - L.length = rm at *
        go_wp2_with (first
          | (go_at_call 16; refine HRM.out.mono ?_; clear HRM; rintro e w3 ⟨rfl, nd, rfl⟩)
          | (go_at_call 20; refine (HPU.out _).mono ?_; rintro e w4 ⟨rfl, q2, hs⟩; have HSp : Hid (FiS w w4 b q2 most (L ++ [x]) I O (.slice ai I.length ci) (.slice ao O.length co)) := hs; clear hs)
          | (at_builtin; refine wpList_append_ow celI_length (by decide) oneI rfl _ _ 55 rfl Try.underlying55 _ 8 infoI7 rfl (.slice ai I.length ci) I rfl (Ow.below HSp.out.oi ((Below.refl _ _).alloc (Nat.le_refl _) _)) _ 1 x rfl (fun j u hu => new_cells (celI x) j u hu) (by omega) (by omega) ?_; intro g9 c9 w9 ho9 hc9 hg9; have HS2 : Hid (FiS w w9 b q2 most (L ++ [x]) (I ++ [x]) O (.slice (some ⟨g9, 0, none⟩) (I.length + 1) c9) (.slice ao O.length co)) := (HSp.out.later ((Below.refl _ _).alloc (Nat.le_refl _) _)).inn ho9 hc9 hg9; clear ho9 hc9 hg9 HSp))
        have HE2 : Hid (I ++ [x] = O ++ (L ++ [x])) := by show _ = _; rw [HE.out, List.append_assoc]
        have HI2 : Hid ((I ++ [x]).length ≤ k + 1) := by have := HI.out; show _ ≤ _; rw [List.length_append, List.length_singleton]; omega
        have hI3 : I.length + 1 = (I ++ [x]).length := by rw [List.length_append, List.length_singleton]
        rw [hI3] at HS2 ⊢
        clear hI3
        obtain ⟨L2, hL2⟩ : ∃ L2, L2 = L ++ [x] := ⟨_, rfl⟩
        rw [← hL2] at HS2 HE2
        clear hL2 HE HI hIl
        generalize I ++ [x] = I2 at *
        go_loopw [10, 14] (fun vo kv wr => ∃ (k2 : Nat) (L' O' : List Int), kv = .int .i64 (k2 : Int) ∧ k2 ≤ 3 ∧ Hid (FiS w wr b q2 most L' I2 O' (.slice (some ⟨g9, 0, none⟩) I2.length c9) vo) ∧ Hid (I2 = O' ++ L')) (fun _ kv _ => 4 - (intOf kv).toNat)
        case atStart => exact ⟨0, L2, O, rfl, by omega, HS2.out, HE2.out⟩
        case round =>
          obtain ⟨k2, L', O', rfl, hk2, HSi, HEi⟩ := hrel
          clear HS2 HE2
          obtain ⟨ao', co', rfl, _⟩ := HSi.out.oo.shape
          by_cases hkt : k < t.length
          · obtain ⟨g2, o2, rfl, hg2, ct⟩ := (H2.out.below HSi.out.bel).cell k hkt
            have hkt2 : (k : Int) < (t.length : Int) := by omega
            have htm := tm4 t[k]
            generalize t[k] = y at *
            by_cases hky : (k2 : Int) < y.tmod 4
            · have HPO : Hid (Calls Try.prog 21 #[.pointer (some ⟨b, 0, none⟩)] wr fun e w' => e = .returned (.tuple #[.int .i64 (L'.headD 0), .bool (!L'.isEmpty)]) ∧ FiS w w' b q2 most L'.tail I2 O' (.slice (some ⟨g9, 0, none⟩) I2.length c9) (.slice ao' O'.length co')) := (popI_any (some b) q2 most L' wr HSi.out.rg).mono (fun e w' hh => by obtain ⟨k1, k2, k3⟩ := hh; exact ⟨k1, HSi.out.ring k2 k3 (fun k e => .inl e)⟩)
              cases L' with
              | nil =>
                clear HPU
                go_wp2_with (go_at_call 21; refine HPO.out.mono ?_; clear HPO; rintro e wp ⟨rfl, hs⟩; have HSp : Hid (FiS w wp b q2 most [] I2 O' (.slice (some ⟨g9, 0, none⟩) I2.length c9) (.slice ao' O'.length co')) := hs; clear hs)
                go_roundw
                case rel => exact ⟨k2 + 1, [], O', by go_num, by omega, HSp.out, HEi.out⟩
                case measure => simp [intOf]; omega
              | cons x' r =>
                clear HPU
                have hOl : O'.length < I2.length := by rw [HEi.out, List.length_append, List.length_cons]; omega
                have hIl : I2.length ≤ 17592186043904 := by have := HI2.out; omega
                go_wp2_with (first
                  | (go_at_call 21; refine HPO.out.mono ?_; clear HPO; rintro e wp ⟨rfl, hs⟩; have HSp : Hid (FiS w wp b q2 most r I2 O' (.slice (some ⟨g9, 0, none⟩) I2.length c9) (.slice ao' O'.length co')) := hs; clear hs)
                  | (at_builtin; refine wpList_append_ow celI_length (by decide) oneI rfl _ _ 55 rfl Try.underlying55 _ 8 infoI7 rfl (.slice ao' O'.length co') O' rfl (Ow.below HSp.out.oo ((Below.refl _ _).alloc (Nat.le_refl _) _)) _ 1 x' rfl (fun j u hu => new_cells (celI x') j u hu) (by omega) (by omega) ?_; intro g8 c8 w8 ho8 hc8 hg8; have HS9 : Hid (FiS w w8 b q2 most r I2 (O' ++ [x']) (.slice (some ⟨g9, 0, none⟩) I2.length c9) (.slice (some ⟨g8, 0, none⟩) (O'.length + 1) c8)) := (HSp.out.later ((Below.refl _ _).alloc (Nat.le_refl _) _)).out ho8 hc8 hg8; clear ho8 hc8 hg8))
                go_roundw
                case rel => exact ⟨k2 + 1, r, O' ++ [x'], by go_num, by omega, HS9.out, by rw [List.append_assoc]; exact HEi.out⟩
                case measure => simp [intOf]; omega
            · have hky2 : y.tmod 4 ≤ (k2 : Int) := by omega
              have HL4 : Hid (∀ n, Calls Try.prog 14 #[.pointer (some ⟨b, 0, none⟩)] (wr.drewN n) fun e w' => e = .returned (.int .i64 (L'.length : Int)) ∧ w' = wr.drewN n) := fun n => lenI_any (some b) q2 most L' (wr.drewN n) (HSi.out.rg.drewN n)
              have HR4 : Hid (∀ n, Calls Try.prog 16 #[.pointer (some ⟨b, 0, none⟩)] (wr.drewN n) fun e w' => e = .returned (.int .i64 ((most : Int) - (L'.length : Int))) ∧ ∃ m, w' = (wr.drewN n).drewN m) := fun n => (roomI_any (some b) q2 most L' (wr.drewN n) (HSi.out.rg.drewN n)).mono (fun e w' hh => by obtain ⟨k1, k2⟩ := hh; refine ⟨?_, k2⟩; rw [k1]; exact ret_i64 (by have := HSi.out.rg.len.1; omega))
              have hle : (I2.length : Int) - (O'.length : Int) = (L'.length : Int) := by rw [HEi.out, List.length_append]; omega
              have hlm := HSi.out.rg.len.1
              have HL0 : Hid (Calls Try.prog 14 #[.pointer (some ⟨b, 0, none⟩)] wr fun e w' => e = .returned (.int .i64 (L'.length : Int)) ∧ w' = wr) := HL4.out 0
              have HR0 : Hid (Calls Try.prog 16 #[.pointer (some ⟨b, 0, none⟩)] wr fun e w' => e = .returned (.int .i64 ((most : Int) - (L'.length : Int))) ∧ ∃ m, w' = wr.drewN m) := HR4.out 0
              have hIl : I2.length ≤ 17592186043904 := by have := HI2.out; omega
              have hOl : O'.length ≤ 17592186043904 := by omega
              clear HPU
              go_wp2_with (first
                | (go_at_call 14; refine HL0.out.mono ?_; clear HL0; rintro e wz ⟨rfl, hz⟩; subst hz)
                | (go_at_call 16; refine HR0.out.mono ?_; clear HR0; rintro e wz ⟨rfl, nz, rfl⟩)
                | (go_at_call 14; refine (HL4.out _).mono ?_; rintro e wz ⟨rfl, rfl⟩))
              go_roundw
              case rel => exact ⟨k + 1, q2, L', I2, O', by go_num, by omega, HSi.out.later (below_drewN _ _), HEi.out, HI2.out⟩
              case measure => simp [intOf]; omega
          · have hkt2 : (t.length : Int) ≤ (k : Int) := by omega
            have HL4 : Hid (∀ n, Calls Try.prog 14 #[.pointer (some ⟨b, 0, none⟩)] (wr.drewN n) fun e w' => e = .returned (.int .i64 (L'.length : Int)) ∧ w' = wr.drewN n) := fun n => lenI_any (some b) q2 most L' (wr.drewN n) (HSi.out.rg.drewN n)
            have HR4 : Hid (∀ n, Calls Try.prog 16 #[.pointer (some ⟨b, 0, none⟩)] (wr.drewN n) fun e w' => e = .returned (.int .i64 ((most : Int) - (L'.length : Int))) ∧ ∃ m, w' = (wr.drewN n).drewN m) := fun n => (roomI_any (some b) q2 most L' (wr.drewN n) (HSi.out.rg.drewN n)).mono (fun e w' hh => by obtain ⟨k1, k2⟩ := hh; refine ⟨?_, k2⟩; rw [k1]; exact ret_i64 (by have := HSi.out.rg.len.1; omega))
            have hle : (I2.length : Int) - (O'.length : Int) = (L'.length : Int) := by rw [HEi.out, List.length_append]; omega
            have hlm := HSi.out.rg.len.1
            have HL0 : Hid (Calls Try.prog 14 #[.pointer (some ⟨b, 0, none⟩)] wr fun e w' => e = .returned (.int .i64 (L'.length : Int)) ∧ w' = wr) := HL4.out 0
            have HR0 : Hid (Calls Try.prog 16 #[.pointer (some ⟨b, 0, none⟩)] wr fun e w' => e = .returned (.int .i64 ((most : Int) - (L'.length : Int))) ∧ ∃ m, w' = wr.drewN m) := HR4.out 0
            have hIl : I2.length ≤ 17592186043904 := by have := HI2.out; omega
            have hOl : O'.length ≤ 17592186043904 := by omega
            clear HPU
            go_wp2_with (first
              | (go_at_call 14; refine HL0.out.mono ?_; clear HL0; rintro e wz ⟨rfl, hz⟩; subst hz)
              | (go_at_call 16; refine HR0.out.mono ?_; clear HR0; rintro e wz ⟨rfl, nz, rfl⟩)
              | (go_at_call 14; refine (HL4.out _).mono ?_; rintro e wz ⟨rfl, rfl⟩))
            go_roundw
            case rel => exact ⟨k + 1, q2, L', I2, O', by go_num, by omega, HSi.out.later (below_drewN _ _), HEi.out, HI2.out⟩
            case measure => simp [intOf]; omega
    · have hki : (l.length : Int) ≤ (k : Int) := by omega
      obtain ⟨ai, ci, rfl, _⟩ := HS.out.oi.shape
      have hIl : I.length ≤ 17592186043904 := by have := HI.out; omega
      go_wp2_with fail
      go_loopw [10] (fun vo wi => ∃ (L' O' : List Int), Hid (FiS w wi b q most L' I O' (.slice ai I.length ci) vo) ∧ Hid (I = O' ++ L')) (fun vo _ => I.length - slLen vo)
      case atStart => exact ⟨L, O, HS.out, HE.out⟩
      case round =>
        obtain ⟨L', O', HSi, HEi⟩ := hrel
        clear HS HE
        obtain ⟨ao', co', rfl, _⟩ := HSi.out.oo.shape
        have HPO : Hid (Calls Try.prog 21 #[.pointer (some ⟨b, 0, none⟩)] wr fun e w' => e = .returned (.tuple #[.int .i64 (L'.headD 0), .bool (!L'.isEmpty)]) ∧ FiS w w' b q most L'.tail I O' (.slice ai I.length ci) (.slice ao' O'.length co')) := (popI_any (some b) q most L' wr HSi.out.rg).mono (fun e w' hh => by obtain ⟨k1, k2, k3⟩ := hh; exact ⟨k1, HSi.out.ring k2 k3 (fun k e => .inl e)⟩)
        cases L' with
        | nil =>
          have hIO : I = O' := by rw [HEi.out, List.append_nil]
          subst hIO
          clear HSi HEi
          have HLN : Hid (∀ wx, FiS w wx b q most [] I I (.slice ai I.length ci) (.slice ao' I.length co') → Calls Try.prog 14 #[.pointer (some ⟨b, 0, none⟩)] wx fun e w' => e = .returned (.int .i64 0) ∧ w' = wx) := fun wx h => lenI_any (some b) q most [] wx h.rg
          go_wp2_with (first
            | (go_at_call 21; refine HPO.out.mono ?_; clear HPO; rintro e wp ⟨rfl, hs⟩; have HSp : Hid (FiS w wp b q most [] I I (.slice ai I.length ci) (.slice ao' I.length co')) := hs; clear hs)
            | (go_at_call 14; refine (HLN.out _ HSp.out).mono ?_; clear HLN; rintro e wz ⟨rfl, hz⟩; subst hz))
          go_loopw [149] (fun iv wi => ∃ (k n : Nat), iv = .int .i64 (k : Int) ∧ k ≤ I.length ∧ wi = wz.drewN n) (fun iv _ => I.length - (intOf iv).toNat)
          case atStart => exact ⟨0, 0, rfl, Nat.zero_le _, rfl⟩
          case round =>
            obtain ⟨j, n, rfl, hj, rfl⟩ := hrel
            by_cases hjl : j < I.length
            · have hI0 : I ≠ [] := fun e => by rw [e] at hjl; cases hjl
              obtain ⟨a3, c3, e3, s3⟩ := HSp.out.oi.shape
              cases e3
              obtain ⟨gi, rfl⟩ := s3 hI0
              obtain ⟨a4, c4, e4, s4⟩ := HSp.out.oo.shape
              cases e4
              obtain ⟨go, rfl⟩ := s4 hI0
              have e := flat_at celI_length I j 0 hjl (by decide)
              simp only [Nat.mul_one, Nat.add_zero] at e
              have hfl : (I.flatMap celI).length = I.length * 1 := flat_length celI_length I
              have d1 : wz.cell? ⟨gi, j, none⟩ = some (.int .i64 I[j]) := by rw [HSp.out.oi.cells j (by omega), e]; rfl
              have d2 : wz.cell? ⟨go, j, none⟩ = some (.int .i64 I[j]) := by rw [HSp.out.oo.cells j (by omega), e]; rfl
              have hji : (j : Int) < (I.length : Int) := by omega
              clear e hfl s3 s4 hI0
              generalize I[j] = y at *
              go_wp2_with fail
              go_quiet (fail)
              go_wp2
              go_roundw
              case rel => exact ⟨j + 1, _, by go_num, by omega, rfl⟩
              case measure => simp [intOf]; omega
            · have hji : (I.length : Int) ≤ (j : Int) := by omega
              go_wp2
              go_ret
              exact ⟨rfl, HSp.out.bel.trans ((below_drewN wz n).mono HSp.out.bel.size)⟩
        | cons x' r =>
          have hOl : O'.length < I.length := by rw [HEi.out, List.length_append, List.length_cons]; omega
          go_wp2_with (first
            | (go_at_call 21; refine HPO.out.mono ?_; clear HPO; rintro e wp ⟨rfl, hs⟩; have HSp : Hid (FiS w wp b q most r I O' (.slice ai I.length ci) (.slice ao' O'.length co')) := hs; clear hs)
            | (at_builtin; refine wpList_append_ow celI_length (by decide) oneI rfl _ _ 55 rfl Try.underlying55 _ 8 infoI7 rfl (.slice ao' O'.length co') O' rfl (Ow.below HSp.out.oo ((Below.refl _ _).alloc (Nat.le_refl _) _)) _ 1 x' rfl (fun j u hu => new_cells (celI x') j u hu) (by omega) (by omega) ?_; intro g9 c9 w9 ho9 hc9 hg9; have HS9 : Hid (FiS w w9 b q most r I (O' ++ [x']) (.slice ai I.length ci) (.slice (some ⟨g9, 0, none⟩) (O'.length + 1) c9)) := (HSp.out.later ((Below.refl _ _).alloc (Nat.le_refl _) _)).out ho9 hc9 hg9; clear ho9 hc9 hg9))
          go_roundw
          case rel => exact ⟨r, O' ++ [x'], HS9.out, by rw [List.append_assoc]; exact HEi.out⟩
          case measure => simp [slLen]; omega

set_option maxRecDepth 20000 in
theorem bad (most : Int) (hm : most < 1 ∨ 1048576 < most) (a1 : Option Addr) (n1 c1 : Nat) (a2 : Option Addr) (n2 c2 : Nat) (w : World) :
    Calls Try.prog 6 #[.int .i64 most, .slice a1 n1 c1, .slice a2 n2 c2] w fun e w' => e = .returned (.bool true) ∧ Below w.heap.size w w' := by
  have HWK : Hid (Calls Try.prog 39 #[] w fun e w' => e = .returned (.bool true) ∧ Below w.heap.size w w') := wakes_any w
  have HNW : Hid (∀ wx, Calls Try.prog 9 #[.int .i64 most] wx fun e w' => e = .returned (.tuple #[.pointer none, .int .i64 2]) ∧ w' = wx) := fun wx => newI_bad most hm wx
  rcases hm with hm | hm
  · go_enter Try.func6, Try.ntmps6
    go_wp2_with (first
      | (go_at_call 39; refine HWK.out.mono ?_; clear HWK; rintro e w1 ⟨rfl, hb⟩; have HB1 : Hid (Below w.heap.size w w1) := hb; clear hb)
      | (go_at_call 9; refine (HNW.out _).mono ?_; clear HNW; rintro e w2 ⟨rfl, hw⟩; subst hw))
    go_ret
    exact ⟨rfl, HB1.out⟩
  · have hm2 : ¬ most < 1 := by omega
    go_enter Try.func6, Try.ntmps6
    go_wp2_with (first
      | (go_at_call 39; refine HWK.out.mono ?_; clear HWK; rintro e w1 ⟨rfl, hb⟩; have HB1 : Hid (Below w.heap.size w w1) := hb; clear hb)
      | (go_at_call 9; refine (HNW.out _).mono ?_; clear HNW; rintro e w2 ⟨rfl, hw⟩; subst hw))
    go_ret
    exact ⟨rfl, HB1.out⟩
theorem walk {w : World} (most : Int) (_hb : -9223372036854775808 ≤ most ∧ most ≤ 9223372036854775807) (a1 : Option Addr) (l : List Int) (c1 : Nat) (h1 : Sg cel1 a1 l w ∧ ∀ z ∈ l, In64 z) (hl : l.length ≤ 17592186043904) (a2 : Option Addr) (t : List Int) (c2 : Nat) (h2 : Sg cel1 a2 t w ∧ ∀ z ∈ t, In64 z) (_ht : t.length ≤ 17592186043904) :
    Calls Try.prog 6 #[.int .i64 most, .slice a1 l.length c1, .slice a2 t.length c2] w fun e w' => e = .returned (.bool true) ∧ Below w.heap.size w w' := by
  by_cases hm : most < 1 ∨ 1048576 < most
  · exact bad most hm a1 _ c1 a2 _ c2 w
  · obtain ⟨m, rfl⟩ : ∃ m : Nat, most = (m : Int) := ⟨most.toNat, by omega⟩
    exact good m (by omega) (by omega) a1 l c1 a2 t c2 w h1.1 hl h2.1

theorem own : ownKnob Try.prog.godebug = none := by kernel_rfl
theorem laidOut : laidOutB Try.prog = true := by kernel_rfl
set_option maxRecDepth 100000 in
theorem contract (H : Type) (enc : TypeId × Value → H) (W : World) (base : Nat) (args : Array Value) (ds gs : List (DataW H)) (before : List MemPlace)
    (hval : ∀ (j : Nat) t v, Try.f6.params[j]? = some t → args[j]? = some v → Value.okWide Try.prog W .any base t v)
    (hW : DataW.Whole enc Try.prog Try.f6.params.toList Rows.queueFifoSpec.vars false W args.toList ds gs before)
    (hsz : (DataW.weightsEach Try.prog (Try.f6.params.toList ++ Rows.queueFifoSpec.plain.varTypes Try.prog) (ds ++ gs)).all (· ≤ reachBytes) = true)
    :
    Calls Try.prog 6 args W fun e W' => ∃ v, e = .returned v ∧ Rows.queueFifoSpec.post enc Try.prog Try.f6 false true false false W args v W' := by
  have hW' := hW
  obtain ⟨p, q, hA0, hV, rfl, hfz, hnd⟩ := hW
  have hA : DataW.TrodAll enc Try.prog W 0 (fun _ => true) true Try.f6.params.toList args.toList ds p := hA0
  rw [Try.params6] at hA hval hsz
  obtain ⟨v0, vs0, d0, ds0, p0, q0, hargs, rfl, rfl, h0, r0⟩ := trodAll_cons hA
  obtain ⟨v1, vs1, d1, ds1, p1, q1, rfl, rfl, rfl, h1, r1⟩ := trodAll_cons r0
  obtain ⟨v2, vs2, d2, ds2, p2, q2, rfl, rfl, rfl, h2, r2⟩ := trodAll_cons r1
  obtain ⟨rfl, rfl, rfl⟩ := trodAll_nil r2
  obtain rfl : args = #[v0, v1, v2] := by cases args; simp_all
  obtain ⟨rfl, rfl⟩ := trodVars_none hV
  obtain ⟨a0, rfl, rfl, rfl, w0⟩ := open_int Try.underlying3 (hval 0 3 v0 rfl rfl) h0
  have b0 := bounds_i64 w0
  have k1 := h1
  have lt1 : ∀ x ∈ p1, x.block < W.heap.size := by obtain ⟨m, hm⟩ := k1; exact DataW.trod_lt m _ _ _ hm
  obtain ⟨a1, len1, cap1, rfl⟩ := okWide_slice Try.underlying55 (hval 1 55 v1 rfl rfl)
  obtain ⟨l1, e1, row1, bd1⟩ := open_nums h1
  have k2 := h2
  have lt2 : ∀ x ∈ p2, x.block < W.heap.size := by obtain ⟨m, hm⟩ := k2; exact DataW.trod_lt m _ _ _ hm
  obtain ⟨a2, len2, cap2, rfl⟩ := okWide_slice Try.underlying55 (hval 2 55 v2 rfl rfl)
  obtain ⟨l2, e2, row2, bd2⟩ := open_nums h2
  clear hA0
  have s1 : l1.length ≤ 17592186043904 := by
    rcases bd1 with ⟨el, sp, rfl, hl⟩ | ⟨rfl, hl⟩
    · have := sized_slice hsz (j := 1) (t := 55) (e := 3) rfl rfl Try.underlying55
      rw [bytes3] at this
      simp only [reachBytes] at this
      omega
    · omega
  subst e1
  have s2 : l2.length ≤ 17592186043904 := by
    rcases bd2 with ⟨el, sp, rfl, hl⟩ | ⟨rfl, hl⟩
    · have := sized_slice hsz (j := 2) (t := 55) (e := 3) rfl rfl Try.underlying55
      rw [bytes3] at this
      simp only [reachBytes] at this
      omega
    · omega
  subst e2
  refine (walk a0 b0 a1 l1 cap1 row1 s1 a2 l2 cap2 row2 s2).mono fun e W' ⟨he, bel⟩ => ?_
  subst he
  exact ⟨_, rfl, _, _, _, [], _, [], hW', trodAll_mk1 (shut_bool Try.underlying4 _), trodAll_cons_mk (shut_int Try.underlying3 w0) (trodAll_cons_mk (Below.trod laidOut (by kernel_rfl) (of_decide_eq_true (by kernel_rfl)) k1 bel lt1) (trodAll_cons_mk (Below.trod laidOut (by kernel_rfl) (of_decide_eq_true (by kernel_rfl)) k2 bel lt2) trodAll_mk0)), rfl, bel.frame _, fun h => by cases h⟩

set_option maxRecDepth 100000 in
theorem lifted (os : Os) (started : os.Started) (H : Type) (enc : TypeId × Value → H) :
    ReturnsInHanded {} Try.checked os 6 .any (Rows.queueFifoSpec.pre6 enc Try.prog Try.f6 Rows.queueFifoRow.domain false) (Rows.queueFifoSpec.post enc Try.prog Try.f6 false true false false) := by
  refine returnsInHanded_of_change_sized (C := Try.checked) own started (by kernel_rfl) Try.func6
    (ChangeSpec.witness6 (enc := enc) (C := Try.checked) false ⟨#[], #[.int .i64 0, .slice none 0 0, .slice none 0 0], []⟩ 8 (by kernel_rfl) (by kernel_rfl) (by kernel_rfl) (by kernel_rfl)) ?_
  intro W base args ds gs before hval0 hW hcnd hsz0 _
  exact contract H enc W base args ds gs before hval0 hW hsz0

theorem over : Rows.queueFifoRow.holds Try.pinned (OpenSpec.ofChange Rows.queueFifoSpec) :=
  OpenClaim.holds_of_wide 6 Try.f6 rfl rfl rfl rfl rfl rfl rfl ⟨rfl, rfl, rfl, rfl, rfl⟩ rfl rfl rfl rfl rfl (by kernel_rfl) Try.func6 (by kernel_rfl)
    (of_decide_eq_true (by kernel_rfl)) (by unfold Func.isWrapper; first | (rw [if_pos (by decide +kernel)]; kernel_rfl) | (rw [if_neg (by decide +kernel)]; exact ⟨rfl, rfl⟩))
    (fun os started H enc _ => lifted os started H enc)
end Go.Proofs.Ytgbbjhhggjocmaa.queueFifo
namespace Go.Proofs.Ytgbbjhhggjocmaa
theorem queueFifo_said : Rows.QueueFifoSaid := queueFifo.over
#print axioms queueFifo_said
end Go.Proofs.Ytgbbjhhggjocmaa
