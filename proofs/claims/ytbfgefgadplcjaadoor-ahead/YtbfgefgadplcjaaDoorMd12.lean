/-
  The statements' own made.
-/
import Derived.Test.YtbfgefgadplcjaaDoorWi12
import Derived.Test.YtbfgefgadplcjaaDoorOwn7
import Derived.Test.YtbfgefgadplcjaaDoorSa12
import Derived.Deep.CutRange
namespace Go.Proofs.YtbfgefgadplcjaaDoor
open Go.RowKit

def celT1 (t : List UInt8) : List Value := [.string (tx t)]
theorem celT1_len (t : List UInt8) : (celT1 t).length = 1 := rfl
theorem mdG_next (s : Stt) (L : List (List UInt8)) (i : Nat) (h : i < L.length) : mdG s (L.take (i + 1)) = mdG s (L.take i) ++ [mdT (if i = 0 then pfL s else []) L[i]] := by
  cases L with
  | nil => cases h
  | cons t r =>
    cases i with
    | zero => simp [mdG]
    | succ i =>
      have h' : i < r.length := by simpa using h
      show mdT (pfL s) t :: (r.take (i + 1)).map (mdT []) = (mdT (pfL s) t :: (r.take i).map (mdT [])) ++ [mdT (if i + 1 = 0 then pfL s else []) r[i]]
      rw [if_neg (by omega), List.take_succ_eq_append_getElem h', List.map_append]
      rfl
theorem mdG_len (s : Stt) (M : List (List UInt8)) : (mdG s M).length = M.length := by
  cases M <;> simp [mdG]
theorem oneT1 : ∀ x, ∀ v ∈ celT1 x, v.oneCell' = true := fun x v hv => by
  unfold celT1 at hv
  rw [List.mem_singleton] at hv
  rw [hv]
  rfl
theorem ow_txs {w : World} {a : Option Addr} {n k : Nat} {M : List (List UInt8)} (h : Ow celT1 9 1 w (.slice a n k) M) : Txs a M w := by
  by_cases h0 : M = []
  · exact .inl h0
  · obtain ⟨a', c', e, hs⟩ := h.shape
    obtain ⟨g, rfl⟩ := hs h0
    cases e
    refine .inr ⟨g, 0, rfl, h.lt g rfl, fun j hj => ?_⟩
    have hl : (M.flatMap celT1).length = M.length := by
      have := flat_length celT1_len M
      omega
    rw [Nat.zero_add, h.cells j (by omega)]
    have := flat_at celT1_len M j 0 hj (by decide)
    rw [show j * 1 + 0 = j by omega] at this
    rw [this]
    rfl
theorem ow_kind {α : Type} {cel : α → List Value} {t k n c : Nat} {w : World} {ad : Addr} {l : List α} (h : Ow cel t k w (.slice (some ad) n c) l) : ∃ cs, Lies w ad.block cs t := by
  obtain ⟨_, ⟨h1, _⟩ | ⟨g, cap, cur, hv, _, h4, _⟩⟩ := h
  · cases h1
  · cases hv
    exact ⟨cur, h4⟩
set_option maxRecDepth 100000 in
theorem info9S : (Tryd.prog.info? 9).map (fun i => (i.zero, i.size, i.bytes)) = some (some (.string ⟨#[]⟩), 1, 16) := by kernel_rfl
theorem mdT_full (p l : List UInt8) (h : l = [] ∨ 490 ≤ p.length) : mdT p l = p := by
  cases l with
  | nil => rfl
  | cons c t =>
    rcases h with h | h
    · cases h
    · unfold mdT
      rw [if_neg (by omega)]
theorem wrapI (x : Int) (h0 : -9223372036854775808 ≤ x) (h1 : x ≤ 9223372036854775807) : IntKind.i64.wrap x = x := by rw [IntKind.wrap_i64]; omega
set_option maxRecDepth 100000 in
set_option maxHeartbeats 8000000 in
theorem made_any (x : Rx) (L : List (List UInt8)) (w : World) (hn : x.n = L.length) (hL : Txs x.a L w) (hll : ∀ l ∈ L, l.length ≤ 9223372036854775807) :
    Calls Tryd.prog 19 #[rxV x] w fun e w' => ∃ y : Rx, e = .returned (rxV y) ∧ SaAt w' y (mdR x.c x.s L) ∧ (∀ ad, y.a = some ad → ∃ cs, Lies w' ad.block cs 9) ∧ Below w.heap.size w w' := by
  obtain ⟨c, ⟨s1, s2, s3⟩, a, n, k⟩ := x
  dsimp only at hn hL
  subst hn
  have HTX : Hid (Txs a L w) := hL
  have HLL : Hid (∀ l ∈ L, l.length ≤ 9223372036854775807) := hll
  obtain ⟨hN0, hN1⟩ := wiN_in 240 (by decide) c
  obtain ⟨q, hq⟩ : ∃ q : Nat, (wiN 240 c).tdiv 60 = (q : Int) := ⟨(wiN 240 c / 60).toNat, by rw [Int.tdiv_eq_ediv_of_nonneg hN0]; omega⟩
  obtain ⟨r, hr⟩ : ∃ r : Nat, (wiN 240 c).tmod 60 = (r : Int) := ⟨(wiN 240 c % 60).toNat, by rw [Int.tmod_eq_emod_of_nonneg hN0]; omega⟩
  have hqr : q ≤ 3 ∧ r ≤ 59 := by
    rw [Int.tdiv_eq_ediv_of_nonneg hN0] at hq
    rw [Int.tmod_eq_emod_of_nonneg hN0] at hr
    omega
  have HMC : Hid (mdC c = 100 * (2 + (q : Int)) + (r : Int)) := by
    show mdC c = _
    unfold mdC
    rw [hq, hr]
  have w1 : IntKind.i64.wrap (q : Int) = (q : Int) := wrapI _ (by omega) (by omega)
  have w2 : IntKind.i64.wrap (2 + (q : Int)) = 2 + (q : Int) := wrapI _ (by omega) (by omega)
  have w3 : IntKind.i64.wrap (100 * (2 + (q : Int))) = 100 * (2 + (q : Int)) := wrapI _ (by omega) (by omega)
  have w4 : IntKind.i64.wrap (r : Int) = (r : Int) := wrapI _ (by omega) (by omega)
  have w5 : IntKind.i64.wrap (100 * (2 + (q : Int)) + (r : Int)) = 100 * (2 + (q : Int)) + (r : Int) := wrapI _ (by omega) (by omega)
  have w6 : (100 * (2 + (q : Int)) + (r : Int)).tdiv 100 = 2 + (q : Int) := by rw [Int.tdiv_eq_ediv_of_nonneg (by omega)]; omega
  have h1 := Int.lt_tmod_of_pos c (show (0 : Int) < 240 by decide)
  have h2 := Int.tmod_lt_of_pos c (show (0 : Int) < 240 by decide)
  obtain ⟨N, hN⟩ : ∃ N, N = wiN 240 c := ⟨_, rfl⟩
  have HNE : Hid (N = if c.tmod 240 < 0 then c.tmod 240 + 240 else c.tmod 240) := hN
  rw [← hN] at hN0 hN1 hq hr
  clear hL hll hN
  obtain ⟨W1, hW1⟩ : ∃ W1, W1 = (w.alloc (.cells #[.int .i64 c, .int .i64 s1, .int .i64 s2, .int .i64 s3, .slice a L.length k] 50)).alloc (.cells #[.int .i64 0, .int .i64 0, .int .i64 0, .int .i64 0, .slice none 0 0] 50) := ⟨_, rfl⟩
  have HW1 : Hid (Below w.heap.size w W1 ∧ W1.heap.size = w.heap.size + 2 ∧ Lies W1 w.heap.size #[.int .i64 c, .int .i64 s1, .int .i64 s2, .int .i64 s3, .slice a L.length k] 50 ∧ Lies W1 (w.heap.size + 1) #[.int .i64 0, .int .i64 0, .int .i64 0, .int .i64 0, .slice none 0 0] 50) := by
    subst hW1
    refine ⟨((Below.refl _ w).alloc (Nat.le_refl _) _).alloc (by simp) _, by simp, (Lies.new w _ _).alloc _, ?_⟩
    have := Lies.new (w.alloc (.cells #[.int .i64 c, .int .i64 s1, .int .i64 s2, .int .i64 s3, .slice a L.length k] 50)) #[.int .i64 0, .int .i64 0, .int .i64 0, .int .i64 0, .slice none 0 0] 50
    simpa using this
  have HWW : Hid ((w.alloc (.cells #[.int .i64 c, .int .i64 s1, .int .i64 s2, .int .i64 s3, .slice a L.length k] 50)).alloc (.cells #[.int .i64 0, .int .i64 0, .int .i64 0, .int .i64 0, .slice none 0 0] 50) = W1) := hW1.symm
  clear hW1
  unfold rxV
  dsimp only
  have e0 : W1.cell? ⟨w.heap.size, 0, none⟩ = some (.int .i64 c) := by rw [HW1.out.2.2.1.cell]; rfl
  have e1 : W1.cell? ⟨w.heap.size, 1, none⟩ = some (.int .i64 s1) := by rw [HW1.out.2.2.1.cell]; rfl
  have e2 : W1.cell? ⟨w.heap.size, 2, none⟩ = some (.int .i64 s2) := by rw [HW1.out.2.2.1.cell]; rfl
  have e3 : W1.cell? ⟨w.heap.size, 3, none⟩ = some (.int .i64 s3) := by rw [HW1.out.2.2.1.cell]; rfl
  have e4 : W1.cell? ⟨w.heap.size, 4, none⟩ = some (.slice a L.length k) := by rw [HW1.out.2.2.1.cell]; rfl
  go_enter Tryd.func19, Tryd.ntmps19
  go_upto_if 14 with (rw [HWW.out])
  go_cut [3] from 15 to 16 (fun v wc => wc = W1 ∧ v = .int .i64 N)
  case first =>
    generalize c.tmod 240 = m at *
    by_cases h0 : m < 0
    · have HN2 : Hid (N = m + 240) := HNE.out.trans (if_pos h0)
      have hw : IntKind.i64.wrap m = m := wrapI _ (by omega) (by omega)
      have hw2 : IntKind.i64.wrap (m + 240) = m + 240 := wrapI _ (by omega) (by omega)
      clear HNE
      go_wp2_with fail
      go_meet
      exact ⟨rfl, by rw [HN2.out]⟩
    · have HN2 : Hid (N = m) := HNE.out.trans (if_neg h0)
      have hw : IntKind.i64.wrap m = m := wrapI _ (by omega) (by omega)
      clear HNE
      go_wp2_with fail
      go_meet
      exact ⟨rfl, by rw [HN2.out]⟩
  case rest =>
    obtain ⟨rfl, rfl⟩ := hcut
    clear HNE h1 h2
    obtain ⟨C, hC⟩ : ∃ C, C = 100 * (2 + (q : Int)) + (r : Int) := ⟨_, rfl⟩
    have HCC : Hid (mdC c = C) := by show _ = _; rw [HMC.out, hC]
    have hC1 : C.tdiv 100 = 2 + (q : Int) := by rw [hC]; exact w6
    obtain ⟨W3, hW3⟩ : ∃ W3, W3 = wc.alloc (.cells #[.int .i64 C, .int .i64 0, .int .i64 0, .int .i64 0, .slice none 0 0] 50) := ⟨_, rfl⟩
    have HW3 : Hid (Below wc.heap.size wc W3 ∧ W3.heap.size = w.heap.size + 3 ∧ Lies W3 (w.heap.size + 2) #[.int .i64 C, .int .i64 0, .int .i64 0, .int .i64 0, .slice none 0 0] 50) := by
      have hz := HW1.out.2.1
      subst hW3
      refine ⟨(Below.refl _ _).alloc (Nat.le_refl _) _, by rw [World.size_alloc, hz], ?_⟩
      have := Lies.new wc #[.int .i64 C, .int .i64 0, .int .i64 0, .int .i64 0, .slice none 0 0] 50
      rwa [hz] at this
    have HWW3 : Hid (wc.alloc (.cells #[.int .i64 (100 * (2 + (q : Int)) + (r : Int)), .int .i64 0, .int .i64 0, .int .i64 0, .slice none 0 0] 50) = W3) := by rw [← hC]; exact hW3.symm
    have HZ1 : Hid (wc.heap.size = w.heap.size + 2) := HW1.out.2.1
    have HR3 : Hid (Lies W3 w.heap.size #[.int .i64 c, .int .i64 s1, .int .i64 s2, .int .i64 s3, .slice a L.length k] 50) := HW1.out.2.2.1.below HW3.out.1 (by rw [HZ1.out]; omega)
    have HV3 : Hid (Lies W3 (w.heap.size + 1) #[.int .i64 0, .int .i64 0, .int .i64 0, .int .i64 0, .slice none 0 0] 50) := HW1.out.2.2.2.below HW3.out.1 (by rw [HZ1.out]; omega)
    have HB3 : Hid (Below w.heap.size w W3) := HW1.out.1.trans (HW3.out.1.mono HW1.out.1.size)
    have HO3 : Hid (Lies W3 (w.heap.size + 2) #[.int .i64 C, .int .i64 0, .int .i64 0, .int .i64 0, .slice none 0 0] 50) := HW3.out.2.2
    clear hW3 hC
    clear e0 e1 e2 e3 e4
    have e0 : W3.cell? ⟨w.heap.size + 2, 0, none⟩ = some (.int .i64 C) := by rw [HO3.out.cell]; rfl
    have e1 : W3.cell? ⟨w.heap.size, 1, none⟩ = some (.int .i64 s1) := by rw [HR3.out.cell]; rfl
    have e2 : W3.cell? ⟨w.heap.size, 2, none⟩ = some (.int .i64 s2) := by rw [HR3.out.cell]; rfl
    have e3 : W3.cell? ⟨w.heap.size, 3, none⟩ = some (.int .i64 s3) := by rw [HR3.out.cell]; rfl
    have hzz : wc.heap.size = w.heap.size + 2 := HZ1.out
    go_upto_region 6 with (rw [HWW3.out])
    clear w1 w2 w3 w4 w5 w6 hr hq hN1 hN0
    obtain ⟨P, hP⟩ : ∃ P : Bool, P = (decide (¬ s1.tmod 2 = 0) && decide (¬ q = 1)) := ⟨_, rfl⟩
    go_cut [36] from 28 to 36 (fun v wx => wx = W3 ∧ v = .bool P)
    case first =>
      have hm1 := Int.lt_tmod_of_pos s1 (show (0 : Int) < 2 by decide)
      have hm2 := Int.tmod_lt_of_pos s1 (show (0 : Int) < 2 by decide)
      have hw : IntKind.i64.wrap (s1.tmod 2) = s1.tmod 2 := wrapI _ (by omega) (by omega)
      by_cases hm : s1.tmod 2 = 0
      · have HP : Hid (P = false) := by show _ = _; rw [hP]; simp [hm]
        have hmb : (s1.tmod 2 != 0) = false := by rw [hm]; rfl
        clear hP
        go_wp2_with fail
        go_meet
        exact ⟨rfl, by rw [HP.out]⟩
      · have hmb : (s1.tmod 2 != 0) = true := by rw [bne_iff_ne]; exact hm
        by_cases hq1 : q = 1
        · subst hq1
          have HP : Hid (P = false) := by show _ = _; rw [hP]; simp
          clear hP
          go_wp2_with fail
          go_meet
          exact ⟨rfl, by rw [HP.out]⟩
        · have hq1b : ((2 + (q : Int)) != 3) = true := by rw [bne_iff_ne]; omega
          have HP : Hid (P = true) := by show _ = _; rw [hP]; simp [hm, hq1]
          clear hP
          go_wp2_with fail
          go_meet
          exact ⟨rfl, by rw [HP.out]⟩
    case rest =>
    obtain ⟨rfl, rfl⟩ := hcut
    have HS : Hid (mdS c (s1, s2, s3) = if P = true then (2 + (q : Int), wiN 1000 s2, wiN 1000 s3) else (0, 0, 0)) := by
      show _ = _
      unfold mdS
      rw [HCC.out, hC1, hP]
      by_cases hm : s1.tmod 2 = 0
      · rw [if_neg (fun h => h.1 hm)]; simp [hm]
      · by_cases hq1 : q = 1
        · rw [if_neg (fun h => h.2 (by rw [hq1]; rfl))]; simp [hq1]
        · rw [if_pos ⟨hm, by omega⟩]; simp [hm, hq1]
    clear hP
    have HWI : Hid (∀ (n : Int) wx, Calls Tryd.prog 33 #[.int .i64 n] wx fun e w' => e = .returned (.int .i64 (wiN 1000 n)) ∧ w' = wx) := fun n wx => within_any n wx
    go_upto_if 36 with fail
    go_cut [36] from 37 to 47 (fun _ wx => ∃ st : Stt, st = mdS c (s1, s2, s3) ∧ Hid (Below w.heap.size w wx) ∧ Hid (Lies wx w.heap.size #[.int .i64 c, .int .i64 s1, .int .i64 s2, .int .i64 s3, .slice a L.length k] 50) ∧ Hid (Lies wx (w.heap.size + 1) #[.int .i64 0, .int .i64 0, .int .i64 0, .int .i64 0, .slice none 0 0] 50) ∧ Hid (Lies wx (w.heap.size + 2) #[.int .i64 C, .int .i64 st.1, .int .i64 st.2.1, .int .i64 st.2.2, .slice none 0 0] 50))
    case first =>
      cases P with
      | false =>
        have HSN : Hid (mdS c (s1, s2, s3) = (0, 0, 0)) := HS.out
        go_wp2_with fail
        go_meet
        exact ⟨(0, 0, 0), HSN.out.symm, HB3.out, HR3.out, HV3.out, HO3.out⟩
      | true =>
        have HSY : Hid (mdS c (s1, s2, s3) = (2 + (q : Int), wiN 1000 s2, wiN 1000 s3)) := HS.out
        clear HS
        have f1 := HO3.out.frozen 1
        have f2 := HO3.out.frozen 2
        have f3 := HO3.out.frozen 3
        have e5 : wc.cell? ⟨w.heap.size + 2, 1, none⟩ = some (.int .i64 0) := by rw [HO3.out.cell]; rfl
        have e6 : wc.cell? ⟨w.heap.size + 2, 2, none⟩ = some (.int .i64 0) := by rw [HO3.out.cell]; rfl
        have e7 : wc.cell? ⟨w.heap.size + 2, 3, none⟩ = some (.int .i64 0) := by rw [HO3.out.cell]; rfl
        go_wp2_with fail
        refine wp_region_late (fun wx => wx.cell? ⟨w.heap.size, 2, none⟩ = some (.int .i64 s2) ∧ wx.cell? ⟨w.heap.size, 3, none⟩ = some (.int .i64 s3)) 12 (by kernel_rfl) ⟨e2, e3⟩ (fun hHeld => ?_)
        refine wpAnyE_tk (i := 0) (d := some 37) (v := ?_) rfl (by kernel_rfl) (by kernel_rfl) (by kernel_rfl) rfl (fun _ _ _ h => h) rfl rfl ?hy (by first | assumption | go_simp) ?_
        case hy => (intro w' hSw; (try dsimp only at hSw); go_simp <;> (first | with_reducible rfl | omega | skip))
        simp only [Act.put, List.setIfInBounds_toArray, List.set_cons_zero, List.set_cons_succ]
        refine wpAnyE_tk (i := 1) (d := some 38) (v := ?_) rfl (by kernel_rfl) (by kernel_rfl) (by kernel_rfl) rfl (fun _ _ _ h => h) rfl rfl ?hy (by first | assumption | go_simp) ?_
        case hy => (intro w' hSw; (try dsimp only at hSw); go_simp <;> (first | with_reducible rfl | omega | skip))
        simp only [Act.put, List.setIfInBounds_toArray, List.set_cons_zero, List.set_cons_succ]
        refine wpAnyE_tk (i := 2) (d := some 39) (v := ?_) rfl (by kernel_rfl) (by kernel_rfl) (by kernel_rfl) rfl (fun _ _ _ h => h) rfl rfl ?hy (by first | assumption | go_simp) ?_
        case hy => (intro w' hSw; (try dsimp only at hSw); go_simp <;> (first | with_reducible rfl | omega | skip))
        simp only [Act.put, List.setIfInBounds_toArray, List.set_cons_zero, List.set_cons_succ]
        refine wpAnyE_tk (i := 3) (d := some 40) (v := .int .i64 s2) rfl (by kernel_rfl) (by kernel_rfl) (by kernel_rfl) rfl (fun _ _ _ h => h) rfl rfl ?hy (by first | assumption | go_simp) ?_
        case hy => (intro w' hSw; (try dsimp only at hSw); go_simp <;> (first | with_reducible rfl | omega | skip))
        simp only [Act.put, List.setIfInBounds_toArray, List.set_cons_zero, List.set_cons_succ]
        refine wpAnyE_tk (i := 5) (d := some 42) (v := ?_) rfl (by kernel_rfl) (by kernel_rfl) (by kernel_rfl) rfl (fun _ _ _ h => h) rfl rfl ?hy (by first | assumption | go_simp) ?_
        case hy => (intro w' hSw; (try dsimp only at hSw); go_simp <;> (first | with_reducible rfl | omega | skip))
        simp only [Act.put, List.setIfInBounds_toArray, List.set_cons_zero, List.set_cons_succ]
        refine wpAnyE_tk (i := 6) (d := some 43) (v := ?_) rfl (by kernel_rfl) (by kernel_rfl) (by kernel_rfl) rfl (fun _ _ _ h => h) rfl rfl ?hy (by first | assumption | go_simp) ?_
        case hy => (intro w' hSw; (try dsimp only at hSw); go_simp <;> (first | with_reducible rfl | omega | skip))
        simp only [Act.put, List.setIfInBounds_toArray, List.set_cons_zero, List.set_cons_succ]
        refine wpAnyE_tk (i := 7) (d := some 44) (v := .int .i64 s3) rfl (by kernel_rfl) (by kernel_rfl) (by kernel_rfl) rfl (fun _ _ _ h => h) rfl rfl ?hy (by first | assumption | go_simp) ?_
        case hy => (intro w' hSw; (try dsimp only at hSw); go_simp <;> (first | with_reducible rfl | omega | skip))
        simp only [Act.put, List.setIfInBounds_toArray, List.set_cons_zero, List.set_cons_succ]
        refine wpAnyE_on (i := 4) (by kernel_rfl) rfl rfl ?_
        go_simp
        refine Calls.mono (HWI.out s2 _) ?_
        rintro e w5 ⟨rfl, rfl⟩
        refine ⟨hHeld, ?_⟩
        refine wpAnyE_on (i := 8) (by kernel_rfl) rfl rfl ?_
        go_simp
        refine Calls.mono (HWI.out s3 _) ?_
        rintro e w6 ⟨rfl, rfl⟩
        refine ⟨hHeld, ?_⟩
        refine wpAnyE_tk (i := 9) (d := some 46) (v := .agg #[.int .i64 (2 + (q : Int)), .int .i64 (wiN 1000 s2), .int .i64 (wiN 1000 s3)]) rfl (by kernel_rfl) (by kernel_rfl) (by kernel_rfl) rfl (fun _ _ _ h => h) rfl rfl ?hy (by first | assumption | go_simp) ?_
        case hy => (intro w' hSw; (try dsimp only at hSw); go_simp <;> (first | with_reducible rfl | omega | skip))
        simp only [Act.put, List.setIfInBounds_toArray, List.set_cons_zero, List.set_cons_succ]
        refine wpAnyE_tk (i := 10) (d := some 47) (v := .pointer (some ⟨w.heap.size + 2, 1, none⟩)) rfl (by kernel_rfl) (by kernel_rfl) (by kernel_rfl) rfl (fun _ _ _ h => h) rfl rfl ?hy (by first | assumption | go_simp) ?_
        case hy => (intro w' hSw; (try dsimp only at hSw); go_simp <;> (first | with_reducible rfl | omega | skip))
        simp only [Act.put, List.setIfInBounds_toArray, List.set_cons_zero, List.set_cons_succ]
        refine wpAnyE_on (i := 11) (by kernel_rfl) rfl rfl ?_
        go_simp
        refine wpAnyE_done (by kernel_rfl) ?_ _
        go_wp2_with fail
        go_meet
        exact ⟨_, HSY.out.symm, (((HB3.out.drew.setCell (p := ⟨w.heap.size + 2, 1, none⟩) (by simp) _).setCell (p := ⟨w.heap.size + 2, 2, none⟩) (by simp) _).setCell (p := ⟨w.heap.size + 2, 3, none⟩) (by simp) _), (Lies.set_other (a := ⟨w.heap.size + 2, 3, none⟩) (Lies.set_other (a := ⟨w.heap.size + 2, 2, none⟩) (Lies.set_other (a := ⟨w.heap.size + 2, 1, none⟩) HR3.out.drew (by show _ ≠ w.heap.size + 2; omega) _) (by show _ ≠ w.heap.size + 2; omega) _) (by show _ ≠ w.heap.size + 2; omega) _), (Lies.set_other (a := ⟨w.heap.size + 2, 3, none⟩) (Lies.set_other (a := ⟨w.heap.size + 2, 2, none⟩) (Lies.set_other (a := ⟨w.heap.size + 2, 1, none⟩) HV3.out.drew (by show _ ≠ w.heap.size + 2; omega) _) (by show _ ≠ w.heap.size + 2; omega) _) (by show _ ≠ w.heap.size + 2; omega) _), (((HO3.out.drew.set 1 _).set 2 _).set 3 _)⟩
    case rest =>
      obtain ⟨st, hst, HBa, HRa, HVa, HOa⟩ := hcut
      have HST : Hid (st = mdS c (s1, s2, s3)) := hst
      clear hst HS HMC HWW HWW3 HW1 HW3 HR3 HV3 HB3 HO3 HZ1 e0 e1 e2 e3 hzz HWI
      go_wp2_with fail
      go_loopw [6] (fun iv wr => ∃ (i : Nat) (v : Value), i ≤ L.length ∧ i ≤ 64 ∧ iv = .int .i64 i ∧ Hid (Below w.heap.size w wr) ∧ Hid (Lies wr w.heap.size #[.int .i64 c, .int .i64 s1, .int .i64 s2, .int .i64 s3, .slice a L.length k] 50) ∧ Hid (Lies wr (w.heap.size + 1) #[.int .i64 0, .int .i64 0, .int .i64 0, .int .i64 0, .slice none 0 0] 50) ∧ Hid (Lies wr (w.heap.size + 2) #[.int .i64 C, .int .i64 st.1, .int .i64 st.2.1, .int .i64 st.2.2, v] 50) ∧ Hid (Ow celT1 9 1 wr v (mdG st (L.take i))) ∧ Hid (∀ g, v.ownBlock = some g → w.heap.size + 2 < g)) (fun iv _ => 64 - (intOf iv).toNat)
      case atStart => exact ⟨0, .slice none 0 0, Nat.zero_le _, Nat.zero_le _, rfl, HBa.out, HRa.out, HVa.out, HOa.out, Ow.nil _ _ _ _, (fun g e => by cases e)⟩
      case round =>
        clear HBa HRa HVa HOa
        obtain ⟨i, v, hi, hi64, rfl, HB, HR, HV, HO, HW, HG⟩ := hrel
        have e4 : wr.cell? ⟨w.heap.size, 4, none⟩ = some (.slice a L.length k) := by rw [HR.out.cell]; rfl
        by_cases hlt : i < L.length ∧ i < 64
        · obtain ⟨hlt, h64⟩ := hlt
          have hlt' : (i : Int) < (L.length : Int) := by omega
          have h64' : (i : Int) < 64 := by omega
          obtain ⟨W5, hW5⟩ : ∃ W5, W5 = wr.alloc (.cells #[] 5) := ⟨_, rfl⟩
          have hb5 : Below wr.heap.size wr W5 := by subst hW5; exact (Below.refl _ _).alloc (Nat.le_refl _) _
          have HO5 : Hid (W5.ownsRow wr.heap.size 5 1 (.slice (some ⟨wr.heap.size, 0, none⟩) 0 0) 0 (cellsB [])) := by subst hW5; exact World.ownsRow_made wr #[] 0 (Nat.le_refl _) (by unfold maxLen; omega) rfl
          have HB5 : Hid (Below wr.heap.size wr W5) := hb5
          have HWW5 : Hid (wr.alloc (.cells #[] 5) = W5) := hW5.symm
          have g2 : W5.cell? ⟨w.heap.size + 2, 1, none⟩ = some (.int .i64 st.1) := by rw [(HO.out.below hb5 HO.out.lt).cell]; rfl
          clear hb5 hW5
          go_upto_region 12 with (rw [HWW5.out])
          obtain ⟨P2, hP2⟩ : ∃ P2 : Bool, P2 = (decide (i = 0) && decide (st.1 = 0)) := ⟨_, rfl⟩
          go_cut [67] from 60 to 67 (fun v wx => wx = W5 ∧ v = .bool P2)
          case first =>
            by_cases hi0 : i = 0
            · subst hi0
              by_cases hs0 : st.1 = 0
              · have hsb : (st.1 == 0) = true := by rw [hs0]; rfl
                have HP : Hid (P2 = true) := by show _ = _; rw [hP2]; simp [hs0]
                clear hP2
                go_wp2_with fail
                go_meet
                exact ⟨rfl, by rw [HP.out]⟩
              · have hsb : (st.1 == 0) = false := by rw [beq_eq_false_iff_ne]; exact hs0
                have HP : Hid (P2 = false) := by show _ = _; rw [hP2]; simp [hs0]
                clear hP2
                go_wp2_with fail
                go_meet
                exact ⟨rfl, by rw [HP.out]⟩
            · have hib : ((i : Int) == 0) = false := by rw [beq_eq_false_iff_ne]; omega
              have HP : Hid (P2 = false) := by show _ = _; rw [hP2]; simp [hi0]
              clear hP2
              go_wp2_with fail
              go_meet
              exact ⟨rfl, by rw [HP.out]⟩
          case rest =>
          obtain ⟨rfl, rfl⟩ := hcut
          have HPX : Hid ((if i = 0 then pfL st else []) = if P2 = true then [45] else []) := by
            show _ = _
            rw [hP2]
            unfold pfL
            by_cases hi0 : i = 0
            · by_cases hs0 : st.1 = 0 <;> simp [hi0, hs0]
            · simp [hi0]
          clear hP2
          go_upto_if 67 with fail
          go_cut [7] from 68 to 70 (fun v wx => ∃ p : List UInt8, p = (if i = 0 then pfL st else []) ∧ Hid (wx.ownsRow wr.heap.size 5 1 v p.length (cellsB p)) ∧ Hid (Below wr.heap.size wr wx))
          case first =>
            cases P2 with
            | false =>
              have HX : Hid ((if i = 0 then pfL st else []) = []) := HPX.out
              go_wp2_with fail
              go_meet
              exact ⟨[], HX.out.symm, HO5.out, HB5.out⟩
            | true =>
              have HX : Hid ((if i = 0 then pfL st else []) = [45]) := HPX.out
              have HA : Hid (Bts (some ⟨wc.heap.size, 0, none⟩) [45] (wc.alloc (.cells #[.int .u8 45] 5))) := .inr ⟨wc.heap.size, 0, rfl, by simp, fun j hj => by
                obtain rfl : j = 0 := by simpa using hj
                rw [(Lies.new wc #[.int .u8 45] 5).cell]; rfl⟩
              have HO6 : Hid ((wc.alloc (.cells #[.int .u8 45] 5)).ownsRow wr.heap.size 5 1 (.slice (some ⟨wr.heap.size, 0, none⟩) 0 0) 0 (cellsB [])) := own_below HO5.out ((Below.refl _ _).alloc (Nat.le_refl _) _)
              have HB6 : Hid (Below wr.heap.size wr (wc.alloc (.cells #[.int .u8 45] 5))) := HB5.out.alloc HB5.out.size _
              go_wp2_with (at_builtin; refine wpList_append_keep rfl _ _ rfl wr.heap.size _ _ [] rfl HO6.out (some ⟨wc.heap.size, 0, none⟩) [45] 1 1 rfl rfl HA.out (fun e => by cases e) (by omega) HB6.out.size ?_; intro v7 w7 ho7 hg7)
              go_meet
              exact ⟨[45], HX.out.symm, ho7, HB6.out.grown hg7 HB6.out.size (fun q hq => (HO6.out.lt q hq).1)⟩
          case rest =>
            obtain ⟨pf, hpf, HOP, HBP⟩ := hcut
            have HPF : Hid (pf = if i = 0 then pfL st else []) := hpf
            clear hpf HPX HO5 HB5 HWW5 g2
            go_wp2_with fail
            obtain ⟨l, hl⟩ : ∃ l, l = L[i] := ⟨_, rfl⟩
            have hll : l.length ≤ 9223372036854775807 := by rw [hl]; exact HLL.out _ (List.getElem_mem hlt)
            obtain ⟨g, o, ha, hg, hcs⟩ := HTX.out.cell i hlt
            subst ha
            rw [← hl] at hcs
            have HCS : Hid (∀ wx, Below w.heap.size w wx → wx.cell? ⟨g, o + i, none⟩ = some (.string (tx l))) := fun wx hb => (hb.cell (p := ⟨g, o + i, none⟩) hg).trans hcs
            have HLE : Hid (l = L[i]) := hl
            have hsz : (tx l).size = l.length := by show l.toArray.size = _; simp
            have hpf : pf.length ≤ 490 := by rw [HPF.out]; split; exact (pfL_ok st).2; simp
            clear hcs hl e4
            obtain ⟨V, hVV⟩ : ∃ V, V = wr := ⟨_, rfl⟩
            subst hVV
            go_loopw [7, 8] (fun tv kv wx => ∃ (kk : Nat) (p : List UInt8), kk ≤ l.length ∧ kv = .int .i64 kk ∧ Hid (mdT p (l.drop kk) = mdT pf l) ∧ p.length ≤ 490 ∧ Hid (wx.ownsRow V.heap.size 5 1 tv p.length (cellsB p)) ∧ Hid (Below V.heap.size V wx)) (fun _ kv _ => l.length - (intOf kv).toNat)
            case atStart => exact ⟨0, pf, Nat.zero_le _, rfl, rfl, hpf, HOP.out, HBP.out⟩
            case round =>
              clear HOP HBP hpf
              obtain ⟨kk, p, hkk, rfl, HM, hp, HOP, HBP⟩ := hrel
              have HBw : Hid (Below w.heap.size w wr) := HB.out.trans (HBP.out.mono HB.out.size)
              have e4 : wr.cell? ⟨w.heap.size, 4, none⟩ = some (.slice (some ⟨g, o, none⟩) L.length k) := by rw [(HR.out.below HBP.out HR.out.lt).cell]; rfl
              have e5 : wr.cell? ⟨g, o + i, none⟩ = some (.string (tx l)) := HCS.out wr HBw.out
              obtain ⟨ta, tc, rfl, hbt, -, hnn, htc, -⟩ := own_bts HOP.out
              by_cases hin : kk < l.length ∧ p.length < 490
              · obtain ⟨hkl, hpl⟩ := hin
                have hkl' : (kk : Int) < ((tx l).size : Int) := by omega
                have hks : kk < (tx l).size := by omega
                have hpl' : (p.length : Int) < 490 := by omega
                have hby : (tx l)[kk] = l[kk] := rfl
                have HST : Hid (mdT p (l.drop kk) = mdT (if kpB l[kk] then p ++ [l[kk]] else p) (l.drop (kk + 1))) := by
                  show _ = _
                  rw [List.drop_eq_getElem_cons hkl, mdT, if_pos hpl]
                  rfl
                obtain ⟨b, hb⟩ : ∃ b, b = l[kk] := ⟨_, rfl⟩
                rw [← hb] at hby HST
                clear hb
                have HBT : Hid (Bts ta p wr) := hbt
                have HNN : Hid (ta = none → tc = 0) := hnn
                clear hbt hnn htc
                go_upto_region 18 with fail
                go_cut [102] from 93 to 102 (fun vb wx => wx = wr ∧ vb = .bool (kpB b))
                case first =>
                  by_cases hb9 : b = 9
                  · have HX : Hid (kpB b = true) := by rw [hb9]; exact (by decide : kpB 9 = true)
                    have hb9' : ((b.toNat : Int) == 9) = true := by rw [hb9]; rfl
                    clear hb9
                    go_wp2_with fail
                    go_meet
                    exact ⟨rfl, by rw [HX.out]⟩
                  · have hb9' : ((b.toNat : Int) == 9) = false := by
                      rw [beq_eq_false_iff_ne]
                      intro e
                      exact hb9 (UInt8.toNat_inj.1 (by show b.toNat = 9; omega))
                    have hk9 : kpB b = (decide (32 ≤ b) && b != 127) := by unfold kpB; rw [beq_eq_false_iff_ne.2 hb9]; rfl
                    by_cases hb32 : 32 ≤ b.toNat
                    · have hb32' : (32 : Int) ≤ (b.toNat : Int) := by omega
                      have hle : (32 : UInt8) ≤ b := UInt8.le_iff_toNat_le.2 hb32
                      by_cases hb7 : b = 127
                      · have hb7' : ((b.toNat : Int) != 127) = false := by rw [hb7]; rfl
                        have HX : Hid (kpB b = false) := by rw [hb7]; exact (by decide : kpB 127 = false)
                        clear hle hb7 hb9 hk9
                        go_wp2_with fail
                        go_meet
                        exact ⟨rfl, by rw [HX.out]⟩
                      · have hb7' : ((b.toNat : Int) != 127) = true := by
                          rw [bne_iff_ne]
                          intro e
                          exact hb7 (UInt8.toNat_inj.1 (by show b.toNat = 127; omega))
                        have HX : Hid (kpB b = true) := by show _ = _; rw [hk9]; simp [hle, hb7]
                        clear hle hb7 hb9 hk9
                        go_wp2_with fail
                        go_meet
                        exact ⟨rfl, by rw [HX.out]⟩
                    · have hb32' : ¬ (32 : Int) ≤ (b.toNat : Int) := by omega
                      have HX : Hid (kpB b = false) := by
                        show _ = _
                        rw [hk9, decide_eq_false (fun h => hb32 ((UInt8.le_iff_toNat_le (a := 32) (b := b)).1 h))]
                        rfl
                      clear hb9 hk9
                      go_wp2_with fail
                      go_meet
                      exact ⟨rfl, by rw [HX.out]⟩
                case rest =>
                obtain ⟨rfl, rfl⟩ := hcut
                cases hkp : kpB b with
                | true =>
                  have HST2 : Hid (mdT p (l.drop kk) = mdT (p ++ [b]) (l.drop (kk + 1))) := by show _ = _; rw [HST.out, hkp]; rfl
                  clear HST hkp
                  have HA : Hid (Bts (some ⟨wc.heap.size, 0, none⟩) [b] (wc.alloc (.cells #[.int .u8 (b.toNat : Int)] 5))) := .inr ⟨wc.heap.size, 0, rfl, by simp, fun j hj => by
                    obtain rfl : j = 0 := by simpa using hj
                    rw [(Lies.new wc #[.int .u8 (b.toNat : Int)] 5).cell]; rfl⟩
                  have HO6 : Hid ((wc.alloc (.cells #[.int .u8 (b.toNat : Int)] 5)).ownsRow V.heap.size 5 1 (.slice ta p.length tc) p.length (cellsB p)) := own_below HOP.out ((Below.refl _ _).alloc (Nat.le_refl _) _)
                  have HB6 : Hid (Below V.heap.size V (wc.alloc (.cells #[.int .u8 (b.toNat : Int)] 5))) := HBP.out.alloc HBP.out.size _
                  clear HOP HBP HBw HBT e4 e5
                  go_wp2_with (at_builtin; refine wpList_append_keep rfl _ _ rfl V.heap.size _ _ p rfl HO6.out (some ⟨wc.heap.size, 0, none⟩) [b] 1 1 rfl rfl HA.out (fun e => by cases e) (by omega) HB6.out.size ?_; intro v7 w7 ho7 hg7)
                  have hb7 : Below V.heap.size V w7 := HB6.out.grown hg7 HB6.out.size (fun q hq => (HO6.out.lt q hq).1)
                  go_roundw
                  case rel => exact ⟨kk + 1, p ++ [b], hkl, by go_num, HST2.out.symm.trans HM.out, by rw [List.length_append, List.length_singleton]; omega, by show World.ownsRow _ _ _ _ _ _ _; rw [List.length_append, List.length_singleton]; exact ho7, hb7⟩
                  case measure => simp [intOf]; omega
                | false =>
                  have HST2 : Hid (mdT p (l.drop kk) = mdT p (l.drop (kk + 1))) := by show _ = _; rw [HST.out, hkp]; rfl
                  clear HST hkp
                  go_wp2_with fail
                  go_roundw
                  case rel => exact ⟨kk + 1, p, hkl, by go_num, HST2.out.symm.trans HM.out, hp, HOP.out, HBP.out⟩
                  case measure => simp [intOf]; omega
              · have HPE : Hid (mdT pf l = p) := by
                  show _ = _
                  rw [← HM.out]
                  refine mdT_full _ _ ?_
                  by_cases hk : kk < l.length
                  · exact .inr (by omega)
                  · exact .inl (List.drop_eq_nil_of_le (by omega))
                have HMN : Hid (mdG st (L.take (i + 1)) = mdG st (L.take i) ++ [p]) := by
                  show _ = _
                  rw [mdG_next st L i hlt, ← HPF.out, ← HLE.out, HPE.out]
                have HML : Hid ((mdG st (L.take i)).length = i) := by
                  show _ = _
                  rw [mdG_len, List.length_take]
                  omega
                have hcv := bts_back hbt tc
                obtain ⟨M, hM⟩ : ∃ M, M = mdG st (L.take i) := ⟨_, rfl⟩
                rw [← hM] at HW HMN HML
                have hml : M.length ≤ 64 := by rw [HML.out]; exact hi64
                obtain ⟨ua, uc, hu, -⟩ := HW.out.shape
                subst hu
                obtain ⟨W8, hW8⟩ : ∃ W8, W8 = wr.alloc (.cells #[.string (tx p)] 9) := ⟨_, rfl⟩
                have hb8 : Below wr.heap.size wr W8 := by subst hW8; exact (Below.refl _ _).alloc (Nat.le_refl _) _
                have HB8V : Hid (Below V.heap.size V W8) := HBP.out.trans (hb8.mono HBP.out.size)
                have HO8 : Hid (Ow celT1 9 1 W8 (.slice ua M.length uc) M) := HW.out.below HB8V.out
                have HN8 : Hid (∀ j u, (celT1 p)[j]? = some u → W8.cell? ⟨wr.heap.size, j, none⟩ = some u) := fun j u hj => by
                  subst hW8
                  exact new_cells (w := wr) (t := 9) (celT1 p) j u hj
                have HWW8 : Hid (wr.alloc (.cells #[.string ⟨p.toArray⟩] 9) = W8) := hW8.symm
                have HR8 : Hid (Lies W8 w.heap.size #[.int .i64 c, .int .i64 s1, .int .i64 s2, .int .i64 s3, .slice (some ⟨g, o, none⟩) L.length k] 50) := HR.out.below HB8V.out HR.out.lt
                have HV8 : Hid (Lies W8 (w.heap.size + 1) #[.int .i64 0, .int .i64 0, .int .i64 0, .int .i64 0, .slice none 0 0] 50) := HV.out.below HB8V.out HV.out.lt
                have HX8 : Hid (Lies W8 (w.heap.size + 2) #[.int .i64 C, .int .i64 st.1, .int .i64 st.2.1, .int .i64 st.2.2, .slice ua M.length uc] 50) := HO.out.below HB8V.out HO.out.lt
                have e6 : wr.cell? ⟨w.heap.size + 2, 4, none⟩ = some (.slice ua M.length uc) := by rw [(HO.out.below HBP.out HO.out.lt).cell]; rfl
                have HNI : Hid (¬ (kk < l.length ∧ p.length < 490)) := hin
                have HBV : Hid (Below w.heap.size w V) := HB.out
                have HCO : Hid ((kk < l.length ∧ ¬ p.length < 490) ∨ kk = l.length) := by
                  by_cases hk : kk < l.length
                  · exact .inl ⟨hk, fun h => hin ⟨hk, h⟩⟩
                  · exact .inr (by omega)
                have HSH : Hid (V.heap.size ≤ W8.heap.size) := HB8V.out.size
                have HVS : Hid (w.heap.size ≤ V.heap.size) := HB.out.size
                clear hb8 hW8 hM hin HW HOP HBP HR HV HO HB HM hnn htc hbt HCS HLL HTX HPF HLE
                rcases HCO.out with ⟨hk1, hk2⟩ | hk1
                · have hk1' : (kk : Int) < ((tx l).size : Int) := by omega
                  have hk2' : ¬ (p.length : Int) < 490 := by omega
                  clear HCO
                  go_wp2_with (rw [HWW8.out]; refine wpList_append_ow celT1_len (by decide) oneT1 rfl _ _ 30 rfl Tryd.underlying30 _ 16 info9S rfl _ M rfl HO8.out wr.heap.size 1 p rfl HN8.out (by omega) (by omega) ?_; intro g4 cap4 w4 HO4 HC4 HG4; apply Hid.out)
                  unfold Hid
                  have hne : ¬ (Value.slice ua M.length uc).ownBlock = some (w.heap.size + 2) := fun e => by have := HG.out _ e; omega
                  have hne0 : ¬ (Value.slice ua M.length uc).ownBlock = some w.heap.size := fun e => by have := HG.out _ e; omega
                  have hne1 : ¬ (Value.slice ua M.length uc).ownBlock = some (w.heap.size + 1) := fun e => by have := HG.out _ e; omega
                  have HX4 : Hid (Lies w4 (w.heap.size + 2) #[.int .i64 C, .int .i64 st.1, .int .i64 st.2.1, .int .i64 st.2.2, .slice ua M.length uc] 50) := (HC4.block _ HX8.out.lt hne).trans HX8.out
                  have HR4 : Hid (Lies w4 w.heap.size #[.int .i64 c, .int .i64 s1, .int .i64 s2, .int .i64 s3, .slice (some ⟨g, o, none⟩) L.length k] 50) := (HC4.block _ HR8.out.lt hne0).trans HR8.out
                  have HV4 : Hid (Lies w4 (w.heap.size + 1) #[.int .i64 0, .int .i64 0, .int .i64 0, .int .i64 0, .slice none 0 0] 50) := (HC4.block _ HV8.out.lt hne1).trans HV8.out
                  have hg4 : w.heap.size + 2 < g4 := by
                    rcases HG4 with e | e
                    · exact HG.out _ e
                    · have := HX8.out.lt; omega
                  have hw8 : Below w.heap.size w W8 := HBV.out.trans (HB8V.out.mono HVS.out)
                  have HB4 : Hid (Below w.heap.size w w4) := hw8.trans (HC4.to_below hw8.size (fun k hk => by have := HG.out _ hk; omega))
                  have HO9 : Hid (Ow celT1 9 1 w4 (.slice (some ⟨g4, 0, none⟩) (M.length + 1) cap4) (M ++ [p])) := HO4
                  have f4 := HX4.out.frozen 4
                  have e9 : w4.cell? ⟨w.heap.size + 2, 4, none⟩ = some (.slice ua M.length uc) := by rw [HX4.out.cell]; rfl
                  clear HO4 HC4 HG4 hne hne0 hne1 hw8 HR8 HV8 HX8 HO8 HN8 HWW8 e4 e5 e6 hcv
                  go_wp2_with fail
                  go_roundw
                  case rel => exact ⟨i + 1, .slice (some ⟨g4, 0, none⟩) (M.length + 1) cap4, hlt, h64, by go_num, HB4.out.setCell (p := ⟨w.heap.size + 2, 4, none⟩) (by simp) _, Lies.set_other (a := ⟨w.heap.size + 2, 4, none⟩) HR4.out (by show _ ≠ w.heap.size + 2; omega) _, Lies.set_other (a := ⟨w.heap.size + 2, 4, none⟩) HV4.out (by show _ ≠ w.heap.size + 2; omega) _, HX4.out.set 4 _, by show Ow _ _ _ _ _ _; rw [HMN.out]; exact HO9.out.keep (fun x hx => by cases hx; exact Below.heap_setCell _ _ _ _ (by show g4 ≠ w.heap.size + 2; omega)), fun x hx => by cases hx; exact hg4⟩
                  case measure => simp [intOf]; omega
                · have hk1' : ¬ (kk : Int) < ((tx l).size : Int) := by omega
                  clear HCO hk1
                  go_wp2_with (rw [HWW8.out]; refine wpList_append_ow celT1_len (by decide) oneT1 rfl _ _ 30 rfl Tryd.underlying30 _ 16 info9S rfl _ M rfl HO8.out wr.heap.size 1 p rfl HN8.out (by omega) (by omega) ?_; intro g4 cap4 w4 HO4 HC4 HG4; apply Hid.out)
                  unfold Hid
                  have hne : ¬ (Value.slice ua M.length uc).ownBlock = some (w.heap.size + 2) := fun e => by have := HG.out _ e; omega
                  have hne0 : ¬ (Value.slice ua M.length uc).ownBlock = some w.heap.size := fun e => by have := HG.out _ e; omega
                  have hne1 : ¬ (Value.slice ua M.length uc).ownBlock = some (w.heap.size + 1) := fun e => by have := HG.out _ e; omega
                  have HX4 : Hid (Lies w4 (w.heap.size + 2) #[.int .i64 C, .int .i64 st.1, .int .i64 st.2.1, .int .i64 st.2.2, .slice ua M.length uc] 50) := (HC4.block _ HX8.out.lt hne).trans HX8.out
                  have HR4 : Hid (Lies w4 w.heap.size #[.int .i64 c, .int .i64 s1, .int .i64 s2, .int .i64 s3, .slice (some ⟨g, o, none⟩) L.length k] 50) := (HC4.block _ HR8.out.lt hne0).trans HR8.out
                  have HV4 : Hid (Lies w4 (w.heap.size + 1) #[.int .i64 0, .int .i64 0, .int .i64 0, .int .i64 0, .slice none 0 0] 50) := (HC4.block _ HV8.out.lt hne1).trans HV8.out
                  have hg4 : w.heap.size + 2 < g4 := by
                    rcases HG4 with e | e
                    · exact HG.out _ e
                    · have := HX8.out.lt; omega
                  have hw8 : Below w.heap.size w W8 := HBV.out.trans (HB8V.out.mono HVS.out)
                  have HB4 : Hid (Below w.heap.size w w4) := hw8.trans (HC4.to_below hw8.size (fun k hk => by have := HG.out _ hk; omega))
                  have HO9 : Hid (Ow celT1 9 1 w4 (.slice (some ⟨g4, 0, none⟩) (M.length + 1) cap4) (M ++ [p])) := HO4
                  have f4 := HX4.out.frozen 4
                  have e9 : w4.cell? ⟨w.heap.size + 2, 4, none⟩ = some (.slice ua M.length uc) := by rw [HX4.out.cell]; rfl
                  clear HO4 HC4 HG4 hne hne0 hne1 hw8 HR8 HV8 HX8 HO8 HN8 HWW8 e4 e5 e6 hcv
                  go_wp2_with fail
                  go_roundw
                  case rel => exact ⟨i + 1, .slice (some ⟨g4, 0, none⟩) (M.length + 1) cap4, hlt, h64, by go_num, HB4.out.setCell (p := ⟨w.heap.size + 2, 4, none⟩) (by simp) _, Lies.set_other (a := ⟨w.heap.size + 2, 4, none⟩) HR4.out (by show _ ≠ w.heap.size + 2; omega) _, Lies.set_other (a := ⟨w.heap.size + 2, 4, none⟩) HV4.out (by show _ ≠ w.heap.size + 2; omega) _, HX4.out.set 4 _, by show Ow _ _ _ _ _ _; rw [HMN.out]; exact HO9.out.keep (fun x hx => by cases hx; exact Below.heap_setCell _ _ _ _ (by show g4 ≠ w.heap.size + 2; omega)), fun x hx => by cases hx; exact hg4⟩
                  case measure => simp [intOf]; omega
        · have HTK : Hid (L.take i = L.take 64) := by
            show _ = _
            by_cases h : i < L.length
            · rw [show i = 64 by omega]
            · rw [List.take_of_length_le (by omega), List.take_of_length_le (by omega)]
          have HML : Hid ((mdG st (L.take i)).length = i) := by
            show _ = _
            rw [mdG_len, List.length_take]
            omega
          obtain ⟨ua, uc, hu, -⟩ := HW.out.shape
          have HMD : Hid (L ≠ [] → mdL st L = mdG st (L.take i)) := fun h => by unfold mdL; rw [if_neg h, HTK.out]
          obtain ⟨M, hM⟩ : ∃ M, M = mdG st (L.take i) := ⟨_, rfl⟩
          rw [← hM] at HW HML HMD hu
          subst hu
          have e6 : wr.cell? ⟨w.heap.size + 2, 4, none⟩ = some (.slice ua M.length uc) := by rw [HO.out.cell]; rfl
          have f4 := HO.out.frozen 4
          have HTM : Hid (Txs ua M wr) := ow_txs HW.out
          have HUB : Hid (∀ ad, ua = some ad → ∃ cs, Lies wr ad.block cs 9) := fun ad e => by
            subst e
            exact ow_kind HW.out
          clear hM HW HTK HTX HLL
          have HCO : Hid ((i < L.length ∧ ¬ i < 64) ∨ i = L.length) := by
            by_cases h : i < L.length
            · exact .inl ⟨h, fun h2 => hlt ⟨h, h2⟩⟩
            · exact .inr (by omega)
          have HLZ : Hid (M.length = 0 → L = []) := fun h => by
            have h2 : i = 0 := by rw [← HML.out]; exact h
            rcases HCO.out with h3 | h3
            · omega
            · exact List.eq_nil_of_length_eq_zero (by omega)
          have HLN : Hid (¬ M.length = 0 → L ≠ []) := fun h e => by
            have h2 := HML.out
            rw [e] at hi
            simp at hi
            omega
          have close : ∀ (b : Bool), b = ((M.length : Int) == 0) → b = decide (M.length = 0) := fun b h => by rw [h, Bool.eq_iff_iff]; simp
          clear hlt hi hi64
          obtain ⟨bm, hbm⟩ : ∃ bm : Bool, bm = ((M.length : Int) == 0) := ⟨_, rfl⟩
          have hbm2 := close bm hbm
          have HBM : Hid (bm = decide (M.length = 0)) := hbm2
          have hbm3 : ((M.length : Int) == 0) = bm := hbm.symm
          clear close hbm hbm2
          have last : ∀ (u : Unit), True := fun _ => trivial
          clear last
          rcases HCO.out with ⟨hc1, hc2⟩ | hc1
          · have hc1' : (i : Int) < (L.length : Int) := by omega
            have hc2' : ¬ (i : Int) < 64 := by omega
            clear HCO
            go_upto_if 117 with fail
            go_cut [117] from 118 to 119 (fun _ wx => ∃ (ya : Option Addr) (yn yk : Nat), yn = (mdL st L).length ∧ Hid (∀ ad, ya = some ad → ∃ cs, Lies wx ad.block cs 9) ∧ Hid (Txs ya (mdL st L) wx) ∧ Hid (Below w.heap.size w wx) ∧ Hid (Lies wx (w.heap.size + 1) #[.int .i64 0, .int .i64 0, .int .i64 0, .int .i64 0, .slice none 0 0] 50) ∧ Hid (Lies wx (w.heap.size + 2) #[.int .i64 C, .int .i64 st.1, .int .i64 st.2.1, .int .i64 st.2.2, .slice ya yn yk] 50))
            case first =>
              cases bm with
              | true =>
                have hm0 : M.length = 0 := of_decide_eq_true HBM.out.symm
                have HL0 : Hid (mdL st L = [[45]]) := by rw [HLZ.out hm0]; rfl
                obtain ⟨X, hX⟩ : ∃ X, X = wr.setCell ⟨w.heap.size + 2, 4, none⟩ (.slice (some ⟨wr.heap.size, 0, none⟩) 1 1) := ⟨_, rfl⟩
                have hXs : X.heap.size = wr.heap.size := by rw [hX]; simp [World.setCell]
                have hbX : Below w.heap.size w X := by rw [hX]; exact HB.out.setCell (p := ⟨w.heap.size + 2, 4, none⟩) (by simp) _
                have HB9 : Hid (Below w.heap.size w (X.alloc (.cells #[.string ⟨#[45]⟩] 9))) := hbX.alloc hbX.size _
                have HX9 : Hid (Lies (X.alloc (.cells #[.string ⟨#[45]⟩] 9)) (w.heap.size + 2) #[.int .i64 C, .int .i64 st.1, .int .i64 st.2.1, .int .i64 st.2.2, .slice (some ⟨wr.heap.size, 0, none⟩) 1 1] 50) := Lies.alloc (by rw [hX]; exact HO.out.set 4 _) _
                have HV9 : Hid (Lies (X.alloc (.cells #[.string ⟨#[45]⟩] 9)) (w.heap.size + 1) #[.int .i64 0, .int .i64 0, .int .i64 0, .int .i64 0, .slice none 0 0] 50) := Lies.alloc (by rw [hX]; exact Lies.set_other (a := ⟨w.heap.size + 2, 4, none⟩) HV.out (by show _ ≠ w.heap.size + 2; omega) _) _
                have HN9 : Hid (Lies (X.alloc (.cells #[.string ⟨#[45]⟩] 9)) wr.heap.size #[.string ⟨#[45]⟩] 9) := by
                  have := Lies.new X #[.string ⟨#[45]⟩] 9
                  rw [hXs] at this
                  exact this
                have HTX9 : Hid (Txs (some ⟨wr.heap.size, 0, none⟩) (mdL st L) (X.alloc (.cells #[.string ⟨#[45]⟩] 9))) := by
                  show Txs _ _ _
                  rw [HL0.out]
                  refine .inr ⟨wr.heap.size, 0, rfl, HN9.out.lt, fun j hj => ?_⟩
                  obtain rfl : j = 0 := by simpa using hj
                  rw [HN9.out.cell]
                  rfl
                have hlt9 := HO.out.lt
                have HLT9 : Hid (∀ ad, some (⟨wr.heap.size, 0, none⟩ : Addr) = some ad → ∃ cs, Lies (X.alloc (.cells #[.string ⟨#[45]⟩] 9)) ad.block cs 9) := fun ad e => by
                  cases e
                  exact ⟨_, HN9.out⟩
                rw [hX] at HB9 HX9 HV9 HTX9 HLT9
                clear hm0 HN9 hbX hXs hX X
                go_wp2_with fail
                go_meet
                exact ⟨some ⟨wr.heap.size, 0, none⟩, 1, 1, by rw [HL0.out]; rfl, HLT9.out, HTX9.out, HB9.out, HV9.out, HX9.out⟩
              | false =>
                have hm0 : ¬ M.length = 0 := of_decide_eq_false HBM.out.symm
                have HL1 : Hid (mdL st L = M) := HMD.out (HLN.out hm0)
                clear hm0
                go_wp2_with fail
                go_meet
                exact ⟨ua, M.length, uc, by rw [HL1.out], HUB.out, by show Txs _ _ _; rw [HL1.out]; exact HTM.out, HB.out, HV.out, HO.out⟩
            case rest =>
              obtain ⟨ya, yn, yk, hyn, HLY, HTY, HBY, HVY, HOY⟩ := hcut
              have HYN : Hid (yn = (mdL st L).length) := hyn
              have q0 : wc.cell? ⟨w.heap.size + 2, 0, none⟩ = some (.int .i64 C) := by rw [HOY.out.cell]; rfl
              have q1 : wc.cell? ⟨w.heap.size + 2, 1, none⟩ = some (.int .i64 st.1) := by rw [HOY.out.cell]; rfl
              have q2 : wc.cell? ⟨w.heap.size + 2, 2, none⟩ = some (.int .i64 st.2.1) := by rw [HOY.out.cell]; rfl
              have q3 : wc.cell? ⟨w.heap.size + 2, 3, none⟩ = some (.int .i64 st.2.2) := by rw [HOY.out.cell]; rfl
              have q4 : wc.cell? ⟨w.heap.size + 2, 4, none⟩ = some (.slice ya yn yk) := by rw [HOY.out.cell]; rfl
              have p0 : wc.cell? ⟨w.heap.size + 1, 0, none⟩ = some (.int .i64 0) := by rw [HVY.out.cell]; rfl
              have p1 : wc.cell? ⟨w.heap.size + 1, 1, none⟩ = some (.int .i64 0) := by rw [HVY.out.cell]; rfl
              have p2 : wc.cell? ⟨w.heap.size + 1, 2, none⟩ = some (.int .i64 0) := by rw [HVY.out.cell]; rfl
              have p3 : wc.cell? ⟨w.heap.size + 1, 3, none⟩ = some (.int .i64 0) := by rw [HVY.out.cell]; rfl
              have p4 : wc.cell? ⟨w.heap.size + 1, 4, none⟩ = some (.slice none 0 0) := by rw [HVY.out.cell]; rfl
              have r0 := HVY.out.frozen 0
              have r1 := HVY.out.frozen 1
              have r2 := HVY.out.frozen 2
              have r3 := HVY.out.frozen 3
              have r4 := HVY.out.frozen 4
              clear hyn HO HV HB HTM HMD HML HLZ HLN HBM hbm3 e4 e6 f4
              go_wp2_with fail
              have HLW : Hid (∀ ad, ya = some ad → ∃ cs, Lies (((((wc.setCell ⟨w.heap.size + 1, 0, none⟩ (.int .i64 C)).setCell ⟨w.heap.size + 1, 1, none⟩ (.int .i64 st.1)).setCell ⟨w.heap.size + 1, 2, none⟩ (.int .i64 st.2.1)).setCell ⟨w.heap.size + 1, 3, none⟩ (.int .i64 st.2.2)).setCell ⟨w.heap.size + 1, 4, none⟩ (.slice ya yn yk)) ad.block cs 9) := fun ad e => by
                obtain ⟨cs, hk⟩ := HLY.out ad e
                have hne : ad.block ≠ w.heap.size + 1 := fun e2 => absurd (lies_kind hk (by rw [e2]; exact HVY.out)) (by decide)
                exact ⟨cs, Lies.set_other (a := ⟨w.heap.size + 1, 4, none⟩) (Lies.set_other (a := ⟨w.heap.size + 1, 3, none⟩) (Lies.set_other (a := ⟨w.heap.size + 1, 2, none⟩) (Lies.set_other (a := ⟨w.heap.size + 1, 1, none⟩) (Lies.set_other (a := ⟨w.heap.size + 1, 0, none⟩) hk hne _) hne _) hne _) hne _) hne _⟩
              have HZ : Hid (Lies (((((wc.setCell ⟨w.heap.size + 1, 0, none⟩ (.int .i64 C)).setCell ⟨w.heap.size + 1, 1, none⟩ (.int .i64 st.1)).setCell ⟨w.heap.size + 1, 2, none⟩ (.int .i64 st.2.1)).setCell ⟨w.heap.size + 1, 3, none⟩ (.int .i64 st.2.2)).setCell ⟨w.heap.size + 1, 4, none⟩ (.slice ya yn yk)) (w.heap.size + 1) #[.int .i64 C, .int .i64 st.1, .int .i64 st.2.1, .int .i64 st.2.2, .slice ya yn yk] 50) := ((((HVY.out.set 0 _).set 1 _).set 2 _).set 3 _).set 4 _
              have HB5 : Hid (Below w.heap.size w (((((wc.setCell ⟨w.heap.size + 1, 0, none⟩ (.int .i64 C)).setCell ⟨w.heap.size + 1, 1, none⟩ (.int .i64 st.1)).setCell ⟨w.heap.size + 1, 2, none⟩ (.int .i64 st.2.1)).setCell ⟨w.heap.size + 1, 3, none⟩ (.int .i64 st.2.2)).setCell ⟨w.heap.size + 1, 4, none⟩ (.slice ya yn yk))) := ((((HBY.out.setCell (p := ⟨w.heap.size + 1, 0, none⟩) (by simp) _).setCell (p := ⟨w.heap.size + 1, 1, none⟩) (by simp) _).setCell (p := ⟨w.heap.size + 1, 2, none⟩) (by simp) _).setCell (p := ⟨w.heap.size + 1, 3, none⟩) (by simp) _).setCell (p := ⟨w.heap.size + 1, 4, none⟩) (by simp) _
              have HTZ : Hid (Txs ya (mdL st L) (((((wc.setCell ⟨w.heap.size + 1, 0, none⟩ (.int .i64 C)).setCell ⟨w.heap.size + 1, 1, none⟩ (.int .i64 st.1)).setCell ⟨w.heap.size + 1, 2, none⟩ (.int .i64 st.2.1)).setCell ⟨w.heap.size + 1, 3, none⟩ (.int .i64 st.2.2)).setCell ⟨w.heap.size + 1, 4, none⟩ (.slice ya yn yk))) := by
                have ht := HTY.out
                rcases ht with h | ⟨gg, oo, he, hg2, hcc⟩
                · exact .inl h
                · refine .inr ⟨gg, oo, he, by simpa [World.setCell] using hg2, fun j hj => ?_⟩
                  have hne : gg ≠ w.heap.size + 1 := fun e => by
                    have h0 := hcc j hj
                    have hy := HVY.out
                    rw [e] at h0
                    rw [hy.cell] at h0
                    have : ∀ (k : Nat) (x : ByteArray), (#[Value.int .i64 0, .int .i64 0, .int .i64 0, .int .i64 0, .slice none 0 0] : Array Value)[k]? ≠ some (.string x) := fun k x => by
                      match k with
                      | 0 => simp
                      | 1 => simp
                      | 2 => simp
                      | 3 => simp
                      | 4 => simp
                      | n + 5 => simp
                    exact this _ _ h0
                  have hb : ∀ (v : World) (k : Nat) (u : Value), (v.setCell ⟨w.heap.size + 1, k, none⟩ u).cell? ⟨gg, oo + j, none⟩ = v.cell? ⟨gg, oo + j, none⟩ := fun v k u => World.cell?_of_block (w := v) (Below.heap_setCell v ⟨w.heap.size + 1, k, none⟩ u gg hne)
                  rw [hb, hb, hb, hb, hb]
                  exact hcc j hj
              generalize (((((wc.setCell ⟨w.heap.size + 1, 0, none⟩ (.int .i64 C)).setCell ⟨w.heap.size + 1, 1, none⟩ (.int .i64 st.1)).setCell ⟨w.heap.size + 1, 2, none⟩ (.int .i64 st.2.1)).setCell ⟨w.heap.size + 1, 3, none⟩ (.int .i64 st.2.2)).setCell ⟨w.heap.size + 1, 4, none⟩ (.slice ya yn yk)) = W9 at *
              have z0 : W9.cell? ⟨w.heap.size + 1, 0, none⟩ = some (.int .i64 C) := by rw [HZ.out.cell]; rfl
              have z1 : W9.cell? ⟨w.heap.size + 1, 1, none⟩ = some (.int .i64 st.1) := by rw [HZ.out.cell]; rfl
              have z2 : W9.cell? ⟨w.heap.size + 1, 2, none⟩ = some (.int .i64 st.2.1) := by rw [HZ.out.cell]; rfl
              have z3 : W9.cell? ⟨w.heap.size + 1, 3, none⟩ = some (.int .i64 st.2.2) := by rw [HZ.out.cell]; rfl
              have z4 : W9.cell? ⟨w.heap.size + 1, 4, none⟩ = some (.slice ya yn yk) := by rw [HZ.out.cell]; rfl
              (try simp only [Exit.inBlock, Exit.then])
              refine bodyPost_ret (v := .agg #[.int .i64 C, .int .i64 st.1, .int .i64 st.2.1, .int .i64 st.2.2, .slice ya yn yk]) (by simp [results, Tryd.results19, go_sem, z0, z1, z2, z3, z4]) rfl ⟨⟨C, st, ya, yn, yk⟩, rfl, ⟨HCC.out.symm, HST.out, ?_, ?_⟩, HLW.out, HB5.out⟩
              · show yn = (mdL (mdS c (s1, s2, s3)) L).length
                rw [← HST.out]
                exact HYN.out
              · show Txs ya (mdL (mdS c (s1, s2, s3)) L) W9
                rw [← HST.out]
                exact HTZ.out
          · have hc1' : ¬ (i : Int) < (L.length : Int) := by omega
            clear HCO hc1
            go_upto_if 117 with fail
            go_cut [117] from 118 to 119 (fun _ wx => ∃ (ya : Option Addr) (yn yk : Nat), yn = (mdL st L).length ∧ Hid (∀ ad, ya = some ad → ∃ cs, Lies wx ad.block cs 9) ∧ Hid (Txs ya (mdL st L) wx) ∧ Hid (Below w.heap.size w wx) ∧ Hid (Lies wx (w.heap.size + 1) #[.int .i64 0, .int .i64 0, .int .i64 0, .int .i64 0, .slice none 0 0] 50) ∧ Hid (Lies wx (w.heap.size + 2) #[.int .i64 C, .int .i64 st.1, .int .i64 st.2.1, .int .i64 st.2.2, .slice ya yn yk] 50))
            case first =>
              cases bm with
              | true =>
                have hm0 : M.length = 0 := of_decide_eq_true HBM.out.symm
                have HL0 : Hid (mdL st L = [[45]]) := by rw [HLZ.out hm0]; rfl
                obtain ⟨X, hX⟩ : ∃ X, X = wr.setCell ⟨w.heap.size + 2, 4, none⟩ (.slice (some ⟨wr.heap.size, 0, none⟩) 1 1) := ⟨_, rfl⟩
                have hXs : X.heap.size = wr.heap.size := by rw [hX]; simp [World.setCell]
                have hbX : Below w.heap.size w X := by rw [hX]; exact HB.out.setCell (p := ⟨w.heap.size + 2, 4, none⟩) (by simp) _
                have HB9 : Hid (Below w.heap.size w (X.alloc (.cells #[.string ⟨#[45]⟩] 9))) := hbX.alloc hbX.size _
                have HX9 : Hid (Lies (X.alloc (.cells #[.string ⟨#[45]⟩] 9)) (w.heap.size + 2) #[.int .i64 C, .int .i64 st.1, .int .i64 st.2.1, .int .i64 st.2.2, .slice (some ⟨wr.heap.size, 0, none⟩) 1 1] 50) := Lies.alloc (by rw [hX]; exact HO.out.set 4 _) _
                have HV9 : Hid (Lies (X.alloc (.cells #[.string ⟨#[45]⟩] 9)) (w.heap.size + 1) #[.int .i64 0, .int .i64 0, .int .i64 0, .int .i64 0, .slice none 0 0] 50) := Lies.alloc (by rw [hX]; exact Lies.set_other (a := ⟨w.heap.size + 2, 4, none⟩) HV.out (by show _ ≠ w.heap.size + 2; omega) _) _
                have HN9 : Hid (Lies (X.alloc (.cells #[.string ⟨#[45]⟩] 9)) wr.heap.size #[.string ⟨#[45]⟩] 9) := by
                  have := Lies.new X #[.string ⟨#[45]⟩] 9
                  rw [hXs] at this
                  exact this
                have HTX9 : Hid (Txs (some ⟨wr.heap.size, 0, none⟩) (mdL st L) (X.alloc (.cells #[.string ⟨#[45]⟩] 9))) := by
                  show Txs _ _ _
                  rw [HL0.out]
                  refine .inr ⟨wr.heap.size, 0, rfl, HN9.out.lt, fun j hj => ?_⟩
                  obtain rfl : j = 0 := by simpa using hj
                  rw [HN9.out.cell]
                  rfl
                have hlt9 := HO.out.lt
                have HLT9 : Hid (∀ ad, some (⟨wr.heap.size, 0, none⟩ : Addr) = some ad → ∃ cs, Lies (X.alloc (.cells #[.string ⟨#[45]⟩] 9)) ad.block cs 9) := fun ad e => by
                  cases e
                  exact ⟨_, HN9.out⟩
                rw [hX] at HB9 HX9 HV9 HTX9 HLT9
                clear hm0 HN9 hbX hXs hX X
                go_wp2_with fail
                go_meet
                exact ⟨some ⟨wr.heap.size, 0, none⟩, 1, 1, by rw [HL0.out]; rfl, HLT9.out, HTX9.out, HB9.out, HV9.out, HX9.out⟩
              | false =>
                have hm0 : ¬ M.length = 0 := of_decide_eq_false HBM.out.symm
                have HL1 : Hid (mdL st L = M) := HMD.out (HLN.out hm0)
                clear hm0
                go_wp2_with fail
                go_meet
                exact ⟨ua, M.length, uc, by rw [HL1.out], HUB.out, by show Txs _ _ _; rw [HL1.out]; exact HTM.out, HB.out, HV.out, HO.out⟩
            case rest =>
              obtain ⟨ya, yn, yk, hyn, HLY, HTY, HBY, HVY, HOY⟩ := hcut
              have HYN : Hid (yn = (mdL st L).length) := hyn
              have q0 : wc.cell? ⟨w.heap.size + 2, 0, none⟩ = some (.int .i64 C) := by rw [HOY.out.cell]; rfl
              have q1 : wc.cell? ⟨w.heap.size + 2, 1, none⟩ = some (.int .i64 st.1) := by rw [HOY.out.cell]; rfl
              have q2 : wc.cell? ⟨w.heap.size + 2, 2, none⟩ = some (.int .i64 st.2.1) := by rw [HOY.out.cell]; rfl
              have q3 : wc.cell? ⟨w.heap.size + 2, 3, none⟩ = some (.int .i64 st.2.2) := by rw [HOY.out.cell]; rfl
              have q4 : wc.cell? ⟨w.heap.size + 2, 4, none⟩ = some (.slice ya yn yk) := by rw [HOY.out.cell]; rfl
              have p0 : wc.cell? ⟨w.heap.size + 1, 0, none⟩ = some (.int .i64 0) := by rw [HVY.out.cell]; rfl
              have p1 : wc.cell? ⟨w.heap.size + 1, 1, none⟩ = some (.int .i64 0) := by rw [HVY.out.cell]; rfl
              have p2 : wc.cell? ⟨w.heap.size + 1, 2, none⟩ = some (.int .i64 0) := by rw [HVY.out.cell]; rfl
              have p3 : wc.cell? ⟨w.heap.size + 1, 3, none⟩ = some (.int .i64 0) := by rw [HVY.out.cell]; rfl
              have p4 : wc.cell? ⟨w.heap.size + 1, 4, none⟩ = some (.slice none 0 0) := by rw [HVY.out.cell]; rfl
              have r0 := HVY.out.frozen 0
              have r1 := HVY.out.frozen 1
              have r2 := HVY.out.frozen 2
              have r3 := HVY.out.frozen 3
              have r4 := HVY.out.frozen 4
              clear hyn HO HV HB HTM HMD HML HLZ HLN HBM hbm3 e4 e6 f4
              go_wp2_with fail
              have HLW : Hid (∀ ad, ya = some ad → ∃ cs, Lies (((((wc.setCell ⟨w.heap.size + 1, 0, none⟩ (.int .i64 C)).setCell ⟨w.heap.size + 1, 1, none⟩ (.int .i64 st.1)).setCell ⟨w.heap.size + 1, 2, none⟩ (.int .i64 st.2.1)).setCell ⟨w.heap.size + 1, 3, none⟩ (.int .i64 st.2.2)).setCell ⟨w.heap.size + 1, 4, none⟩ (.slice ya yn yk)) ad.block cs 9) := fun ad e => by
                obtain ⟨cs, hk⟩ := HLY.out ad e
                have hne : ad.block ≠ w.heap.size + 1 := fun e2 => absurd (lies_kind hk (by rw [e2]; exact HVY.out)) (by decide)
                exact ⟨cs, Lies.set_other (a := ⟨w.heap.size + 1, 4, none⟩) (Lies.set_other (a := ⟨w.heap.size + 1, 3, none⟩) (Lies.set_other (a := ⟨w.heap.size + 1, 2, none⟩) (Lies.set_other (a := ⟨w.heap.size + 1, 1, none⟩) (Lies.set_other (a := ⟨w.heap.size + 1, 0, none⟩) hk hne _) hne _) hne _) hne _) hne _⟩
              have HZ : Hid (Lies (((((wc.setCell ⟨w.heap.size + 1, 0, none⟩ (.int .i64 C)).setCell ⟨w.heap.size + 1, 1, none⟩ (.int .i64 st.1)).setCell ⟨w.heap.size + 1, 2, none⟩ (.int .i64 st.2.1)).setCell ⟨w.heap.size + 1, 3, none⟩ (.int .i64 st.2.2)).setCell ⟨w.heap.size + 1, 4, none⟩ (.slice ya yn yk)) (w.heap.size + 1) #[.int .i64 C, .int .i64 st.1, .int .i64 st.2.1, .int .i64 st.2.2, .slice ya yn yk] 50) := ((((HVY.out.set 0 _).set 1 _).set 2 _).set 3 _).set 4 _
              have HB5 : Hid (Below w.heap.size w (((((wc.setCell ⟨w.heap.size + 1, 0, none⟩ (.int .i64 C)).setCell ⟨w.heap.size + 1, 1, none⟩ (.int .i64 st.1)).setCell ⟨w.heap.size + 1, 2, none⟩ (.int .i64 st.2.1)).setCell ⟨w.heap.size + 1, 3, none⟩ (.int .i64 st.2.2)).setCell ⟨w.heap.size + 1, 4, none⟩ (.slice ya yn yk))) := ((((HBY.out.setCell (p := ⟨w.heap.size + 1, 0, none⟩) (by simp) _).setCell (p := ⟨w.heap.size + 1, 1, none⟩) (by simp) _).setCell (p := ⟨w.heap.size + 1, 2, none⟩) (by simp) _).setCell (p := ⟨w.heap.size + 1, 3, none⟩) (by simp) _).setCell (p := ⟨w.heap.size + 1, 4, none⟩) (by simp) _
              have HTZ : Hid (Txs ya (mdL st L) (((((wc.setCell ⟨w.heap.size + 1, 0, none⟩ (.int .i64 C)).setCell ⟨w.heap.size + 1, 1, none⟩ (.int .i64 st.1)).setCell ⟨w.heap.size + 1, 2, none⟩ (.int .i64 st.2.1)).setCell ⟨w.heap.size + 1, 3, none⟩ (.int .i64 st.2.2)).setCell ⟨w.heap.size + 1, 4, none⟩ (.slice ya yn yk))) := by
                have ht := HTY.out
                rcases ht with h | ⟨gg, oo, he, hg2, hcc⟩
                · exact .inl h
                · refine .inr ⟨gg, oo, he, by simpa [World.setCell] using hg2, fun j hj => ?_⟩
                  have hne : gg ≠ w.heap.size + 1 := fun e => by
                    have h0 := hcc j hj
                    have hy := HVY.out
                    rw [e] at h0
                    rw [hy.cell] at h0
                    have : ∀ (k : Nat) (x : ByteArray), (#[Value.int .i64 0, .int .i64 0, .int .i64 0, .int .i64 0, .slice none 0 0] : Array Value)[k]? ≠ some (.string x) := fun k x => by
                      match k with
                      | 0 => simp
                      | 1 => simp
                      | 2 => simp
                      | 3 => simp
                      | 4 => simp
                      | n + 5 => simp
                    exact this _ _ h0
                  have hb : ∀ (v : World) (k : Nat) (u : Value), (v.setCell ⟨w.heap.size + 1, k, none⟩ u).cell? ⟨gg, oo + j, none⟩ = v.cell? ⟨gg, oo + j, none⟩ := fun v k u => World.cell?_of_block (w := v) (Below.heap_setCell v ⟨w.heap.size + 1, k, none⟩ u gg hne)
                  rw [hb, hb, hb, hb, hb]
                  exact hcc j hj
              generalize (((((wc.setCell ⟨w.heap.size + 1, 0, none⟩ (.int .i64 C)).setCell ⟨w.heap.size + 1, 1, none⟩ (.int .i64 st.1)).setCell ⟨w.heap.size + 1, 2, none⟩ (.int .i64 st.2.1)).setCell ⟨w.heap.size + 1, 3, none⟩ (.int .i64 st.2.2)).setCell ⟨w.heap.size + 1, 4, none⟩ (.slice ya yn yk)) = W9 at *
              have z0 : W9.cell? ⟨w.heap.size + 1, 0, none⟩ = some (.int .i64 C) := by rw [HZ.out.cell]; rfl
              have z1 : W9.cell? ⟨w.heap.size + 1, 1, none⟩ = some (.int .i64 st.1) := by rw [HZ.out.cell]; rfl
              have z2 : W9.cell? ⟨w.heap.size + 1, 2, none⟩ = some (.int .i64 st.2.1) := by rw [HZ.out.cell]; rfl
              have z3 : W9.cell? ⟨w.heap.size + 1, 3, none⟩ = some (.int .i64 st.2.2) := by rw [HZ.out.cell]; rfl
              have z4 : W9.cell? ⟨w.heap.size + 1, 4, none⟩ = some (.slice ya yn yk) := by rw [HZ.out.cell]; rfl
              (try simp only [Exit.inBlock, Exit.then])
              refine bodyPost_ret (v := .agg #[.int .i64 C, .int .i64 st.1, .int .i64 st.2.1, .int .i64 st.2.2, .slice ya yn yk]) (by simp [results, Tryd.results19, go_sem, z0, z1, z2, z3, z4]) rfl ⟨⟨C, st, ya, yn, yk⟩, rfl, ⟨HCC.out.symm, HST.out, ?_, ?_⟩, HLW.out, HB5.out⟩
              · show yn = (mdL (mdS c (s1, s2, s3)) L).length
                rw [← HST.out]
                exact HYN.out
              · show Txs ya (mdL (mdS c (s1, s2, s3)) L) W9
                rw [← HST.out]
                exact HTZ.out
end Go.Proofs.YtbfgefgadplcjaaDoor
