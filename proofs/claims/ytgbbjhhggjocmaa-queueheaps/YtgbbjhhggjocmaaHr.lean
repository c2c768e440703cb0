/-
  A thing of a heap brought up, and one brought down.
-/
import Derived.Test.YtgbbjhhggjocmaaHs
import Derived.Defers
import Derived.Recover
namespace Go.Proofs.Ytgbbjhhggjocmaa
open Go.RowKit

theorem rise1_d (w : World) : CallsD Try.prog 66 #[] .returning w fun e u' w' => e = .returned (.tuple #[]) ∧ u' = .returning ∧ w' = w := by
  refine callsD_of_wpS Try.func66 rfl fun c₀ cs hu => ?_
  apply wpS_region
  simp [wpOpsS, go_sem, recoverD, hu, Try.ntmps66, bodyPostS, results, Try.results66]
  cases c₀
  simp_all
theorem sink1_d (w : World) : CallsD Try.prog 69 #[] .returning w fun e u' w' => e = .returned (.tuple #[]) ∧ u' = .returning ∧ w' = w := by
  refine callsD_of_wpS Try.func69 rfl fun c₀ cs hu => ?_
  apply wpS_region
  simp [wpOpsS, go_sem, recoverD, hu, Try.ntmps69, bodyPostS, results, Try.results69]
  cases c₀
  simp_all
set_option maxRecDepth 20000 in
set_option maxHeartbeats 4000000 in
theorem rise_any (b cf : Nat) (kk : Bool) (L : List En) (np g c : Nat) (i : Nat) (w : World) (h : Hp w b cf L np (.slice (some ⟨g, 0, none⟩) L.length c)) (hc : Cmp cf kk) (hu : Up kk L i) (hl : L.length ≤ 1048576) :
    Calls Try.prog 55 #[.pointer (some ⟨b, 0, none⟩), .int .i64 (i : Int)] w fun e w' => e = .returned (.tuple #[]) ∧ ∃ L', Hp w' b cf L' np (.slice (some ⟨g, 0, none⟩) L.length c) ∧ Hq kk L' ∧ L'.Perm L ∧ Chg (· = g) w w' := by
  have HH : Hid (Hp w b cf L np (.slice (some ⟨g, 0, none⟩) L.length c)) := h
  have HU : Hid (Up kk L i) := hu
  have HC : Hid (Cmp cf kk) := hc
  have hil := hu.lt
  clear h hu hc
  obtain ⟨n, hn⟩ : ∃ n, n = L.length := ⟨_, rfl⟩
  rw [← hn] at HH hl hil ⊢
  have HN : Hid (n = L.length) := hn
  clear hn
  go_enter_defers Try.func55, Try.ntmps55
  go_wp2
  go_loopw [1] (fun iv wr => ∃ (k : Nat) (M : List En), iv = .int .i64 (k : Int) ∧ k < n ∧ Hid (M.length = n) ∧ Hid (Hp wr b cf M np (.slice (some ⟨g, 0, none⟩) n c)) ∧ Hid (Up kk M k) ∧ Hid (M.Perm L) ∧ Hid (Chg (· = g) w wr)) (fun iv _ => (intOf iv).toNat)
  case atStart => exact ⟨i, L, rfl, hil, HN.out.symm, HH.out, HU.out, List.Perm.refl _, Chg.refl _ _⟩
  case round =>
    obtain ⟨k, M, rfl, hk, HM, HHr, HUr, HP, HCh⟩ := hrel
    by_cases h0 : k = 0
    · subst h0
      go_wp2
      refine leaves_cons (f := 66) (args := #[]) (by simp) (by simp [go_sem]) ?_
      refine (rise1_d _).mono ?_
      rintro e u' w'' ⟨rfl, rfl, rfl⟩
      simp [Leaves, settle, results, Try.results55, go_sem]
      exact ⟨M, HHr.out, HUr.out.done (.inl rfl), HP.out, HCh.out⟩
    · have hki : (0 : Int) < (k : Int) := by omega
      obtain ⟨q, hq⟩ : ∃ q, q = (k - 1) / 2 := ⟨_, rfl⟩
      have hqk : q < k := by omega
      have ht : ((k : Int) - 1).tdiv 2 = (q : Int) := by rw [Int.tdiv_eq_ediv_of_nonneg (by omega)]; omega
      have ht2 : ((k : Int) - 1) / 2 = (q : Int) := by omega
      have HQ : Hid (q = (k - 1) / 2) := hq
      have HA : Hid (Calls Try.prog 67 #[.pointer (some ⟨b, 0, none⟩), .int .i64 (k : Int), .int .i64 (q : Int)] wr fun e w' => e = .returned (.bool (decide (bf kk (eA M k) (eA M q)))) ∧ Below wr.heap.size wr w') := ahead_any b cf kk M np _ k q wr HHr.out HC.out (by rw [HM.out]; exact hk) (by rw [HM.out]; omega)
      have HSW : Hid (∀ wx, Below wr.heap.size wr wx → Calls Try.prog 68 #[.pointer (some ⟨b, 0, none⟩), .int .i64 (k : Int), .int .i64 (q : Int)] wx fun e w' => e = .returned (.tuple #[]) ∧ Hp w' b cf (swL M k q) np (.slice (some ⟨g, 0, none⟩) n c) ∧ Chg (· = g) wr w') := fun wx hb => (swap_any b cf M np g n c k q wx (HHr.out.below hb) (by rw [HM.out]; exact hk) (by rw [HM.out]; omega)).mono (fun e w' hh => by obtain ⟨q1, q2, q3⟩ := hh; exact ⟨q1, q2, (Chg.of_below hb).trans q3⟩)
      clear hq
      by_cases hb : bf kk (eA M k) (eA M q)
      · have HR : Hid (Up kk (swL M k q) q) := by have := HUr.out.step (by omega) (by rw [← HQ.out]; exact hb); rw [← HQ.out] at this; exact this
        rw [decide_eq_true hb] at HA
        go_wp2_with (first
          | (go_at_call 67; refine HA.out.mono ?_; clear HA; rintro e w2 ⟨rfl, hb2⟩; have HB2 : Hid (Below wr.heap.size wr w2) := hb2; clear hb2)
          | (go_at_call 68; refine (HSW.out _ HB2.out).mono ?_; clear HSW; rintro e w3 ⟨rfl, h3, h4⟩; have H3 : Hid (Hp w3 b cf (swL M k q) np (.slice (some ⟨g, 0, none⟩) n c)) := h3; have H4 : Hid (Chg (· = g) wr w3) := h4; clear h3 h4))
        go_roundw
        case rel => exact ⟨q, swL M k q, rfl, by omega, (swL_length M k q).trans HM.out, H3.out, HR.out, (swL_perm (by rw [HM.out]; exact hk) (by rw [HM.out]; omega)).trans HP.out, HCh.out.trans H4.out⟩
        case measure => simp [intOf]; omega
      · rw [decide_eq_false hb] at HA
        have HF : Hid (Hq kk M) := HUr.out.done (.inr (by rw [← HQ.out]; exact hb))
        go_wp2_with (go_at_call 67; refine HA.out.mono ?_; clear HA; rintro e w2 ⟨rfl, hb2⟩; have HB2 : Hid (Below wr.heap.size wr w2) := hb2; clear hb2)
        refine leaves_cons (f := 66) (args := #[]) (by simp) (by simp [go_sem]) ?_
        refine (rise1_d _).mono ?_
        rintro e u' w'' ⟨rfl, rfl, rfl⟩
        simp [Leaves, settle, results, Try.results55, go_sem]
        exact ⟨M, HHr.out.below HB2.out, HF.out, HP.out, HCh.out.below HB2.out⟩
set_option maxRecDepth 20000 in
set_option maxHeartbeats 4000000 in
theorem sink_any (b cf : Nat) (kk : Bool) (L : List En) (np g c : Nat) (w : World) (h : Hp w b cf L np (.slice (some ⟨g, 0, none⟩) L.length c)) (hc : Cmp cf kk) (hu : Dn kk L 0) (hl : L.length ≤ 1048576) :
    Calls Try.prog 56 #[.pointer (some ⟨b, 0, none⟩), .int .i64 0] w fun e w' => e = .returned (.tuple #[]) ∧ ∃ L', Hp w' b cf L' np (.slice (some ⟨g, 0, none⟩) L.length c) ∧ Hq kk L' ∧ L'.Perm L ∧ Chg (· = g) w w' := by
  have HH : Hid (Hp w b cf L np (.slice (some ⟨g, 0, none⟩) L.length c)) := h
  have HU : Hid (Dn kk L 0) := hu
  have HC : Hid (Cmp cf kk) := hc
  clear h hu hc
  obtain ⟨n, hn⟩ : ∃ n, n = L.length := ⟨_, rfl⟩
  rw [← hn] at HH hl ⊢
  have HN : Hid (n = L.length) := hn
  clear hn
  go_enter_defers Try.func56, Try.ntmps56
  go_wp2
  go_loopw [1, 4] (fun iv bv wr => ∃ (k : Nat) (M : List En), iv = .int .i64 (k : Int) ∧ bv = .int .i64 (2 * (k : Int) + 1) ∧ k ≤ n ∧ Hid (M.length = n) ∧ Hid (Hp wr b cf M np (.slice (some ⟨g, 0, none⟩) n c)) ∧ Hid (Dn kk M k) ∧ Hid (M.Perm L) ∧ Hid (Chg (· = g) w wr)) (fun iv _ _ => n - (intOf iv).toNat)
  case atStart => exact ⟨0, L, rfl, rfl, Nat.zero_le _, HN.out.symm, HH.out, HU.out, List.Perm.refl _, Chg.refl _ _⟩
  case round =>
    obtain ⟨k, M, rfl, rfl, hk, HM, HHr, HUr, HP, HCh⟩ := hrel
    have c1 : wr.cell? ⟨b, 1, none⟩ = some (.slice (some ⟨g, 0, none⟩) n c) := HHr.out.cells.2.1
    by_cases h0 : n ≤ 2 * k + 1
    · have hki : (n : Int) ≤ 2 * (k : Int) + 1 := by omega
      have HF : Hid (Hq kk M) := HUr.out.leaf (by rw [HM.out]; exact h0)
      go_wp2
      refine leaves_cons (f := 69) (args := #[]) (by simp) (by simp [go_sem]) ?_
      refine (sink1_d _).mono ?_
      rintro e u' w'' ⟨rfl, rfl, rfl⟩
      simp [Leaves, settle, results, Try.results56, go_sem]
      exact ⟨M, HHr.out, HF.out, HP.out, HCh.out⟩
    · have hki : 2 * (k : Int) + 1 < (n : Int) := by omega
      obtain ⟨q, hq⟩ : ∃ q, q = 2 * k + 1 := ⟨_, rfl⟩
      have hqi : 2 * (k : Int) + 1 = (q : Int) := by omega
      have HQ : Hid (q = 2 * k + 1) := hq
      have hqn : q < n := by omega
      have hqn2 : (q : Int) < (n : Int) := by omega
      rw [hqi] at *
      have HAH : Hid (∀ wx i j, Below wr.heap.size wr wx → i < n → j < n → Calls Try.prog 67 #[.pointer (some ⟨b, 0, none⟩), .int .i64 (i : Int), .int .i64 (j : Int)] wx fun e w' => e = .returned (.bool (decide (bf kk (eA M i) (eA M j)))) ∧ Below wr.heap.size wr w') := fun wx i j hb hi hj => (ahead_any b cf kk M np _ i j wx (HHr.out.below hb) HC.out (by rw [HM.out]; exact hi) (by rw [HM.out]; exact hj)).mono (fun e w' hh => ⟨hh.1, hb.trans (hh.2.mono hb.size)⟩)
      have HSW : Hid (∀ wx i, Below wr.heap.size wr wx → i < n → Calls Try.prog 68 #[.pointer (some ⟨b, 0, none⟩), .int .i64 (i : Int), .int .i64 (k : Int)] wx fun e w' => e = .returned (.tuple #[]) ∧ Hp w' b cf (swL M i k) np (.slice (some ⟨g, 0, none⟩) n c) ∧ Chg (· = g) wr w') := fun wx i hb hi => (swap_any b cf M np g n c i k wx (HHr.out.below hb) (by rw [HM.out]; exact hi) (by rw [HM.out]; omega)).mono (fun e w' hh => by obtain ⟨q1, q2, q3⟩ := hh; exact ⟨q1, q2, (Chg.of_below hb).trans q3⟩)
      have HC1 : Hid (∀ wx, Below wr.heap.size wr wx → wx.cell? ⟨b, 1, none⟩ = some (.slice (some ⟨g, 0, none⟩) n c)) := fun wx hb => (HHr.out.below hb).cells.2.1
      have hkn : k < n := by omega
      clear hq hqi h0
      by_cases h1 : n ≤ q + 1
      · have h1i : (n : Int) ≤ (q : Int) + 1 := by omega
        have HB2 : Hid (Below wr.heap.size wr wr) := Below.refl _ _
        have HO : Hid (∀ j, 0 < j → j < M.length → (j - 1) / 2 = k → ¬ bf kk (eA M j) (eA M q)) := fun j hj hl hp => by
          have e := HM.out
          have := HQ.out
          obtain rfl : j = q := by omega
          exact bf_irr
        by_cases hb : bf kk (eA M q) (eA M k)
        · have HR : Hid (Dn kk (swL M q k) q) := HUr.out.step (by rw [HM.out]; omega) (.inl HQ.out) hb HO.out
          have HA2 : Hid (∀ wx, Below wr.heap.size wr wx → Calls Try.prog 67 #[.pointer (some ⟨b, 0, none⟩), .int .i64 (q : Int), .int .i64 (k : Int)] wx fun e w' => e = .returned (.bool true) ∧ Below wr.heap.size wr w') := fun wx hx => by have := HAH.out wx q k hx (by omega) hkn; rw [decide_eq_true hb] at this; exact this
          have HS2 : Hid (∀ wx, Below wr.heap.size wr wx → Calls Try.prog 68 #[.pointer (some ⟨b, 0, none⟩), .int .i64 (q : Int), .int .i64 (k : Int)] wx fun e w' => e = .returned (.tuple #[]) ∧ Hp w' b cf (swL M q k) np (.slice (some ⟨g, 0, none⟩) n c) ∧ Chg (· = g) wr w') := fun wx hx => HSW.out wx q hx (by omega)
          go_wp2_with (first
            | (go_at_call 67; refine (HA2.out _ HB2.out).mono ?_; clear HA2; rintro e w3 ⟨rfl, hb3⟩; have HB3 : Hid (Below wr.heap.size wr w3) := hb3; clear hb3)
            | (go_at_call 68; refine (HS2.out _ HB3.out).mono ?_; clear HS2; rintro e w4 ⟨rfl, h3, h4⟩; have H3 : Hid (Hp w4 b cf (swL M q k) np (.slice (some ⟨g, 0, none⟩) n c)) := h3; have H4 : Hid (Chg (· = g) wr w4) := h4; clear h3 h4))
          go_roundw
          case rel => exact ⟨q, swL M q k, rfl, by go_num, by omega, (swL_length M q k).trans HM.out, H3.out, HR.out, (swL_perm (by rw [HM.out]; omega) (by rw [HM.out]; omega)).trans HP.out, HCh.out.trans H4.out⟩
          case measure => have := HQ.out; simp [intOf]; omega
        · have HF : Hid (Hq kk M) := HUr.out.stay hb HO.out
          have HA2 : Hid (∀ wx, Below wr.heap.size wr wx → Calls Try.prog 67 #[.pointer (some ⟨b, 0, none⟩), .int .i64 (q : Int), .int .i64 (k : Int)] wx fun e w' => e = .returned (.bool false) ∧ Below wr.heap.size wr w') := fun wx hx => by have := HAH.out wx q k hx (by omega) hkn; rw [decide_eq_false hb] at this; exact this
          go_wp2_with (first
            | (go_at_call 67; refine (HA2.out _ HB2.out).mono ?_; clear HA2; rintro e w3 ⟨rfl, hb3⟩; have HB3 : Hid (Below wr.heap.size wr w3) := hb3; clear hb3))
          refine leaves_cons (f := 69) (args := #[]) (by simp) (by simp [go_sem]) ?_
          refine (sink1_d _).mono ?_
          rintro e u' w'' ⟨rfl, rfl, rfl⟩
          simp [Leaves, settle, results, Try.results56, go_sem]
          exact ⟨M, HHr.out.below HB3.out, HF.out, HP.out, HCh.out.below HB3.out⟩
      · have h1i : (q : Int) + 1 < (n : Int) := by omega
        obtain ⟨p, hp⟩ : ∃ p, p = q + 1 := ⟨_, rfl⟩
        have hpi : (q : Int) + 1 = (p : Int) := by omega
        have HPQ : Hid (p = q + 1) := hp
        have hpn : p < n := by omega
        have HA0 := HAH.out wr p q (Below.refl _ _) hpn hqn
        clear hp
        by_cases hc2 : bf kk (eA M p) (eA M q)
        · rw [decide_eq_true hc2] at HA0
          have HA1 : Hid (Calls Try.prog 67 #[.pointer (some ⟨b, 0, none⟩), .int .i64 (p : Int), .int .i64 (q : Int)] wr fun e w' => e = .returned (.bool true) ∧ Below wr.heap.size wr w') := HA0
          have HO : Hid (∀ j, 0 < j → j < M.length → (j - 1) / 2 = k → ¬ bf kk (eA M j) (eA M p)) := fun j hj hl hpj => by
            have e1 := HQ.out
            have e2 := HPQ.out
            rcases (show j = q ∨ j = p by omega) with rfl | rfl
            · exact bf_asym hc2
            · exact bf_irr
          clear HA0
          by_cases hb : bf kk (eA M p) (eA M k)
          · have HR : Hid (Dn kk (swL M p k) p) := HUr.out.step (by rw [HM.out]; omega) (.inr (by have := HQ.out; have := HPQ.out; omega)) hb HO.out
            have HA2 : Hid (∀ wx, Below wr.heap.size wr wx → Calls Try.prog 67 #[.pointer (some ⟨b, 0, none⟩), .int .i64 (p : Int), .int .i64 (k : Int)] wx fun e w' => e = .returned (.bool true) ∧ Below wr.heap.size wr w') := fun wx hx => by have := HAH.out wx p k hx (by omega) hkn; rw [decide_eq_true hb] at this; exact this
            have HS2 : Hid (∀ wx, Below wr.heap.size wr wx → Calls Try.prog 68 #[.pointer (some ⟨b, 0, none⟩), .int .i64 (p : Int), .int .i64 (k : Int)] wx fun e w' => e = .returned (.tuple #[]) ∧ Hp w' b cf (swL M p k) np (.slice (some ⟨g, 0, none⟩) n c) ∧ Chg (· = g) wr w') := fun wx hx => HSW.out wx p hx (by omega)
            go_wp2_with (first
              | (go_at_call 67; refine HA1.out.mono ?_; clear HA1; rintro e w2 ⟨rfl, hb2⟩; have HB2 : Hid (Below wr.heap.size wr w2) := hb2; clear hb2)
              | (go_at_call 67; refine (HA2.out _ HB2.out).mono ?_; clear HA2; rintro e w3 ⟨rfl, hb3⟩; have HB3 : Hid (Below wr.heap.size wr w3) := hb3; clear hb3)
              | (go_at_call 68; refine (HS2.out _ HB3.out).mono ?_; clear HS2; rintro e w4 ⟨rfl, h3, h4⟩; have H3 : Hid (Hp w4 b cf (swL M p k) np (.slice (some ⟨g, 0, none⟩) n c)) := h3; have H4 : Hid (Chg (· = g) wr w4) := h4; clear h3 h4))
            go_roundw
            case rel => exact ⟨p, swL M p k, rfl, by go_num, by omega, (swL_length M p k).trans HM.out, H3.out, HR.out, (swL_perm (by rw [HM.out]; omega) (by rw [HM.out]; omega)).trans HP.out, HCh.out.trans H4.out⟩
            case measure => have := HQ.out; simp [intOf]; omega
          · have HF : Hid (Hq kk M) := HUr.out.stay hb HO.out
            have HA2 : Hid (∀ wx, Below wr.heap.size wr wx → Calls Try.prog 67 #[.pointer (some ⟨b, 0, none⟩), .int .i64 (p : Int), .int .i64 (k : Int)] wx fun e w' => e = .returned (.bool false) ∧ Below wr.heap.size wr w') := fun wx hx => by have := HAH.out wx p k hx (by omega) hkn; rw [decide_eq_false hb] at this; exact this
            go_wp2_with (first
              | (go_at_call 67; refine HA1.out.mono ?_; clear HA1; rintro e w2 ⟨rfl, hb2⟩; have HB2 : Hid (Below wr.heap.size wr w2) := hb2; clear hb2)
              | (go_at_call 67; refine (HA2.out _ HB2.out).mono ?_; clear HA2; rintro e w3 ⟨rfl, hb3⟩; have HB3 : Hid (Below wr.heap.size wr w3) := hb3; clear hb3))
            refine leaves_cons (f := 69) (args := #[]) (by simp) (by simp [go_sem]) ?_
            refine (sink1_d _).mono ?_
            rintro e u' w'' ⟨rfl, rfl, rfl⟩
            simp [Leaves, settle, results, Try.results56, go_sem]
            exact ⟨M, HHr.out.below HB3.out, HF.out, HP.out, HCh.out.below HB3.out⟩
        · rw [decide_eq_false hc2] at HA0
          have HA1 : Hid (Calls Try.prog 67 #[.pointer (some ⟨b, 0, none⟩), .int .i64 (p : Int), .int .i64 (q : Int)] wr fun e w' => e = .returned (.bool false) ∧ Below wr.heap.size wr w') := HA0
          have HO : Hid (∀ j, 0 < j → j < M.length → (j - 1) / 2 = k → ¬ bf kk (eA M j) (eA M q)) := fun j hj hl hpj => by
            have e1 := HQ.out
            have e2 := HPQ.out
            rcases (show j = q ∨ j = p by omega) with rfl | rfl
            · exact bf_irr
            · exact hc2
          clear HA0
          by_cases hb : bf kk (eA M q) (eA M k)
          · have HR : Hid (Dn kk (swL M q k) q) := HUr.out.step (by rw [HM.out]; omega) (.inl HQ.out) hb HO.out
            have HA2 : Hid (∀ wx, Below wr.heap.size wr wx → Calls Try.prog 67 #[.pointer (some ⟨b, 0, none⟩), .int .i64 (q : Int), .int .i64 (k : Int)] wx fun e w' => e = .returned (.bool true) ∧ Below wr.heap.size wr w') := fun wx hx => by have := HAH.out wx q k hx (by omega) hkn; rw [decide_eq_true hb] at this; exact this
            have HS2 : Hid (∀ wx, Below wr.heap.size wr wx → Calls Try.prog 68 #[.pointer (some ⟨b, 0, none⟩), .int .i64 (q : Int), .int .i64 (k : Int)] wx fun e w' => e = .returned (.tuple #[]) ∧ Hp w' b cf (swL M q k) np (.slice (some ⟨g, 0, none⟩) n c) ∧ Chg (· = g) wr w') := fun wx hx => HSW.out wx q hx (by omega)
            go_wp2_with (first
              | (go_at_call 67; refine HA1.out.mono ?_; clear HA1; rintro e w2 ⟨rfl, hb2⟩; have HB2 : Hid (Below wr.heap.size wr w2) := hb2; clear hb2)
              | (go_at_call 67; refine (HA2.out _ HB2.out).mono ?_; clear HA2; rintro e w3 ⟨rfl, hb3⟩; have HB3 : Hid (Below wr.heap.size wr w3) := hb3; clear hb3)
              | (go_at_call 68; refine (HS2.out _ HB3.out).mono ?_; clear HS2; rintro e w4 ⟨rfl, h3, h4⟩; have H3 : Hid (Hp w4 b cf (swL M q k) np (.slice (some ⟨g, 0, none⟩) n c)) := h3; have H4 : Hid (Chg (· = g) wr w4) := h4; clear h3 h4))
            go_roundw
            case rel => exact ⟨q, swL M q k, rfl, by go_num, by omega, (swL_length M q k).trans HM.out, H3.out, HR.out, (swL_perm (by rw [HM.out]; omega) (by rw [HM.out]; omega)).trans HP.out, HCh.out.trans H4.out⟩
            case measure => have := HQ.out; simp [intOf]; omega
          · have HF : Hid (Hq kk M) := HUr.out.stay hb HO.out
            have HA2 : Hid (∀ wx, Below wr.heap.size wr wx → Calls Try.prog 67 #[.pointer (some ⟨b, 0, none⟩), .int .i64 (q : Int), .int .i64 (k : Int)] wx fun e w' => e = .returned (.bool false) ∧ Below wr.heap.size wr w') := fun wx hx => by have := HAH.out wx q k hx (by omega) hkn; rw [decide_eq_false hb] at this; exact this
            go_wp2_with (first
              | (go_at_call 67; refine HA1.out.mono ?_; clear HA1; rintro e w2 ⟨rfl, hb2⟩; have HB2 : Hid (Below wr.heap.size wr w2) := hb2; clear hb2)
              | (go_at_call 67; refine (HA2.out _ HB2.out).mono ?_; clear HA2; rintro e w3 ⟨rfl, hb3⟩; have HB3 : Hid (Below wr.heap.size wr w3) := hb3; clear hb3))
            refine leaves_cons (f := 69) (args := #[]) (by simp) (by simp [go_sem]) ?_
            refine (sink1_d _).mono ?_
            rintro e u' w'' ⟨rfl, rfl, rfl⟩
            simp [Leaves, settle, results, Try.results56, go_sem]
            exact ⟨M, HHr.out.below HB3.out, HF.out, HP.out, HCh.out.below HB3.out⟩
end Go.Proofs.Ytgbbjhhggjocmaa
