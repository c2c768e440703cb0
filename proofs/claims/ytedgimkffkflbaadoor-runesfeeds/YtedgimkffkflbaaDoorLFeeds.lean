/-
  P5.4, R1: every row of calls of three checkers, none, and one that New did not make.
-/
import Derived.Test.YtedgimkffkflbaaDoorGrown
import Derived.Test.YtedgimkffkflbaaDoorFdT
import Derived.Test.YtedgimkffkflbaaDoorWak
import Derived.Test.YtedgimkffkflbaaDoorLate5
import Derived.Test.YtedgimkffkflbaaDoorOpen5
import Derived.ProofKit
import Derived.ChangeMaps5
import Derived.OpenShut
import Derived.ShutString
import Derived.ChangeOld
import Derived.SizedLaws
namespace Go.Proofs.YtedgimkffkflbaaDoor.runesFeeds
open Go.ChangeShapes Go.WideShapes Go.ChangeAt Go.RowKit

theorem steps_below {a : Option Addr} {st : List Stp} {w w' : World} (h : Steps a st w) (hb : Below w.heap.size w w') : Steps a st w' := by
  rcases h with h | ⟨g, o, e, hg, hr⟩
  · exact .inl h
  · refine .inr ⟨g, o, e, Nat.lt_of_lt_of_le hg hb.size, fun j hj => ?_⟩
    obtain ⟨h1, h2, h3, h4, h5⟩ := hr j hj
    exact ⟨(hb.cell (p := ⟨g, o + j * 3, none⟩) hg).trans h1, (hb.cell (p := ⟨g, o + j * 3 + 1, none⟩) hg).trans h2, (hb.cell (p := ⟨g, o + j * 3 + 2, none⟩) hg).trans h3, h4.below hb, h5⟩
theorem bts_block {a : Option Addr} {l : List UInt8} {w : World} (h : Bts a l w) (hne : l ≠ []) : ∀ ad, a = some ad → ad.block < w.heap.size := by
  rcases h with rfl | ⟨g, o, rfl, hg, hr⟩
  · exact absurd rfl hne
  · intro ad e
    injection e with e
    rw [← e]
    exact hg
theorem own_btsB {w : World} {B n c : Nat} {a : Option Addr} {l : List UInt8} (h : w.ownsRow B 5 1 (.slice a n c) n (cellsB l)) : Bts a l w := by
  obtain ⟨a', c', ev, hb, _⟩ := own_bts h
  injection ev with ev1 ev2 ev3
  subst ev1
  exact hb
/-- The state at the beginning. -/
theorem fd_start {w w1 w2 w3 : World} (ka : CkAt w3 w.heap.size (some q0)) (kb : CkAt w3 w1.heap.size (some q0)) (kc : CkAt w3 w2.heap.size (some q0)) (hb : Below w.heap.size w w3) (s1 : w.heap.size < w1.heap.size) (s2 : w1.heap.size < w2.heap.size) (s3 : w2.heap.size < w3.heap.size) (cs : Array Value) :
    Fd w (((w3.alloc (.cells (#[.bool false] ++ cs) 52)).alloc (.cells #[.pointer (some ⟨w.heap.size, 0, none⟩), .pointer (some ⟨w1.heap.size, 0, none⟩), .pointer (some ⟨w2.heap.size, 0, none⟩), .pointer none, .pointer (some ⟨w3.heap.size, 0, none⟩)] 47)).alloc (.cells #[.bool true, .slice none 0 0, .bool true, .slice none 0 0, .bool true, .slice none 0 0, .bool false, .slice none 0 0, .bool false, .slice none 0 0] 55)) (w3.heap.size + 1) (w3.heap.size + 1 + 1)
      [.pointer (some ⟨w.heap.size, 0, none⟩), .pointer (some ⟨w1.heap.size, 0, none⟩), .pointer (some ⟨w2.heap.size, 0, none⟩), .pointer none, .pointer (some ⟨w3.heap.size, 0, none⟩)] [.slice none 0 0, .slice none 0 0, .slice none 0 0, .slice none 0 0, .slice none 0 0] [[], [], [], [], []] [[], [], [], [], []] := by
  have hb3 := hb.size
  have B1 : Below w3.heap.size w3 (((w3.alloc (.cells (#[.bool false] ++ cs) 52)).alloc (.cells #[.pointer (some ⟨w.heap.size, 0, none⟩), .pointer (some ⟨w1.heap.size, 0, none⟩), .pointer (some ⟨w2.heap.size, 0, none⟩), .pointer none, .pointer (some ⟨w3.heap.size, 0, none⟩)] 47)).alloc (.cells #[.bool true, .slice none 0 0, .bool true, .slice none 0 0, .bool true, .slice none 0 0, .bool false, .slice none 0 0, .bool false, .slice none 0 0] 55)) := (((Below.refl _ w3).alloc (Nat.le_refl _) _).alloc (by simp) _).alloc (by simp; omega) _
  have g1 := (Lies.new (w3.alloc (.cells (#[.bool false] ++ cs) 52)) #[.pointer (some ⟨w.heap.size, 0, none⟩), .pointer (some ⟨w1.heap.size, 0, none⟩), .pointer (some ⟨w2.heap.size, 0, none⟩), .pointer none, .pointer (some ⟨w3.heap.size, 0, none⟩)] 47).alloc (.cells #[.bool true, .slice none 0 0, .bool true, .slice none 0 0, .bool true, .slice none 0 0, .bool false, .slice none 0 0, .bool false, .slice none 0 0] 55)
  rw [World.size_alloc] at g1
  have g2 := Lies.new ((w3.alloc (.cells (#[.bool false] ++ cs) 52)).alloc (.cells #[.pointer (some ⟨w.heap.size, 0, none⟩), .pointer (some ⟨w1.heap.size, 0, none⟩), .pointer (some ⟨w2.heap.size, 0, none⟩), .pointer none, .pointer (some ⟨w3.heap.size, 0, none⟩)] 47)) #[.bool true, .slice none 0 0, .bool true, .slice none 0 0, .bool true, .slice none 0 0, .bool false, .slice none 0 0, .bool false, .slice none 0 0] 55
  rw [World.size_alloc, World.size_alloc] at g2
  have g0 := ((Lies.new w3 (#[.bool false] ++ cs) 52).alloc (.cells #[.pointer (some ⟨w.heap.size, 0, none⟩), .pointer (some ⟨w1.heap.size, 0, none⟩), .pointer (some ⟨w2.heap.size, 0, none⟩), .pointer none, .pointer (some ⟨w3.heap.size, 0, none⟩)] 47)).alloc (.cells #[.bool true, .slice none 0 0, .bool true, .slice none 0 0, .bool true, .slice none 0 0, .bool false, .slice none 0 0, .bool false, .slice none 0 0] 55)
  have hsz : (((w3.alloc (.cells (#[.bool false] ++ cs) 52)).alloc (.cells #[.pointer (some ⟨w.heap.size, 0, none⟩), .pointer (some ⟨w1.heap.size, 0, none⟩), .pointer (some ⟨w2.heap.size, 0, none⟩), .pointer none, .pointer (some ⟨w3.heap.size, 0, none⟩)] 47)).alloc (.cells #[.bool true, .slice none 0 0, .bool true, .slice none 0 0, .bool true, .slice none 0 0, .bool false, .slice none 0 0, .bool false, .slice none 0 0] 55)).heap.size = w3.heap.size + 1 + 1 + 1 := by simp
  generalize (((w3.alloc (.cells (#[.bool false] ++ cs) 52)).alloc (.cells #[.pointer (some ⟨w.heap.size, 0, none⟩), .pointer (some ⟨w1.heap.size, 0, none⟩), .pointer (some ⟨w2.heap.size, 0, none⟩), .pointer none, .pointer (some ⟨w3.heap.size, 0, none⟩)] 47)).alloc (.cells #[.bool true, .slice none 0 0, .bool true, .slice none 0 0, .bool true, .slice none 0 0, .bool false, .slice none 0 0, .bool false, .slice none 0 0] 55)) = W at *
  have one : ∀ p, CkAt w3 p (some q0) → w.heap.size ≤ p → p < w3.heap.size → Got W (.pointer (some ⟨p, 0, none⟩)) true [] ∧ ∀ p', Value.pointer (some ⟨p, 0, none⟩) = .pointer (some ⟨p', 0, none⟩) → w.heap.size ≤ p' ∧ p' ≠ w3.heap.size + 1 ∧ p' ≠ w3.heap.size + 1 + 1 ∧ p' < W.heap.size := fun p hp h1 h2 => by
    refine ⟨.inl ⟨rfl, p, rfl, hp.below B1 h2⟩, fun p' e => ?_⟩
    injection e with e
    injection e with e
    injection e with e
    subst e
    omega
  refine ⟨hb.trans (B1.mono hb3), by omega, by omega, g1, g2, ?_, rfl, rfl, rfl, rfl, fun i hi => ?_, fun i hi => ?_⟩
  · have ne : ∀ p q : Nat, p ≠ q → Value.pointer (some ⟨p, 0, none⟩) ≠ .pointer (some ⟨q, 0, none⟩) := fun p q h e => by
      injection e with e
      injection e with e
      injection e with e
      exact h e
    simp only [List.nodup_cons, List.mem_cons, List.not_mem_nil, or_false, not_or, List.nodup_nil, not_false_eq_true, and_true]
    refine ⟨⟨ne _ _ (by omega), ne _ _ (by omega), fun e => (by cases e), ne _ _ (by omega)⟩, ⟨ne _ _ (by omega), fun e => (by cases e), ne _ _ (by omega)⟩, ⟨fun e => (by cases e), ne _ _ (by omega)⟩, fun e => by cases e⟩
  · match i, hi with
    | 0, _ => exact one _ ka (Nat.le_refl _) (by omega)
    | 1, _ => exact one _ kb (by omega) (by omega)
    | 2, _ => exact one _ kc (by omega) (by omega)
    | 3, _ => exact ⟨.inr ⟨rfl, .inl rfl⟩, fun p e => by cases e⟩
    | 4, _ =>
      refine ⟨.inr ⟨rfl, .inr ⟨w3.heap.size, cs, rfl, g0⟩⟩, fun p' e => ?_⟩
      injection e with e
      injection e with e
      injection e with e
      subst e
      omega
  · match i, hi with
    | 0, _ => exact ⟨rfl, .inl ⟨rfl, rfl⟩⟩
    | 1, _ => exact ⟨rfl, .inl ⟨rfl, rfl⟩⟩
    | 2, _ => exact ⟨rfl, .inl ⟨rfl, rfl⟩⟩
    | 3, _ => exact ⟨rfl, .inl ⟨rfl, rfl⟩⟩
    | 4, _ => exact ⟨rfl, .inl ⟨rfl, rfl⟩⟩

set_option maxHeartbeats 16000000 in
set_option maxRecDepth 100000 in
theorem walk {w : World} (a : Option Addr) (st : List Stp) (cap : Nat) (hst : Steps a st w) (hs : st.length ≤ 1048576) (htt : tot st st.length ≤ 1048576) (ht : Tb w) :
    Calls Tryd.prog 6 #[.slice a st.length cap] w fun e w' => e = .returned (.bool true) ∧ Below w.heap.size w w' := by
  have HST : Hid (Steps a st w) := hst
  have HT : Hid (Tb w) := ht
  have HTT : Hid (tot st st.length ≤ 1048576) := htt
  have hN1 := new_any w
  clear hst ht htt
  obtain ⟨N, hN⟩ : ∃ N, N = st.length := ⟨_, rfl⟩
  have HN : Hid (N = st.length) := hN
  rw [← hN] at hs ⊢
  clear hN
  go_enter Tryd.func6, Tryd.ntmps6
  go_wp2_with fail
  refine hN1.mono ?_
  rintro e w1 ⟨rfl, b1, k1, s1⟩
  have HK1 : Hid (CkAt w1 w.heap.size (some q0)) := k1
  have HB1 : Hid (Below w.heap.size w w1) := b1
  clear b1 k1 hN1
  go_wp2_with fail
  refine (new_any w1).mono ?_
  rintro e w2 ⟨rfl, b2, k2, s2⟩
  have HK2a : Hid (CkAt w2 w.heap.size (some q0)) := HK1.out.below b2 HK1.out.lt
  have HK2b : Hid (CkAt w2 w1.heap.size (some q0)) := k2
  have HB2 : Hid (Below w.heap.size w w2) := HB1.out.trans (b2.mono HB1.out.size)
  clear b2 k2 HK1 HB1
  go_wp2_with fail
  refine (new_any w2).mono ?_
  rintro e w3 ⟨rfl, b3, k3, s3⟩
  have HK3a : Hid (CkAt w3 w.heap.size (some q0)) := HK2a.out.below b3 HK2a.out.lt
  have HK3b : Hid (CkAt w3 w1.heap.size (some q0)) := HK2b.out.below b3 HK2b.out.lt
  have HK3c : Hid (CkAt w3 w2.heap.size (some q0)) := k3
  have HB3 : Hid (Below w.heap.size w w3) := HB2.out.trans (b3.mono HB2.out.size)
  clear b3 k3 HK2a HK2b HB2
  have HF0 : Hid (Fd w (((w3.alloc (.cells #[.bool false, .int .u8 0, .int .u8 0, .int .u8 0, .bool false] 52)).alloc (.cells #[.pointer (some ⟨w.heap.size, 0, none⟩), .pointer (some ⟨w1.heap.size, 0, none⟩), .pointer (some ⟨w2.heap.size, 0, none⟩), .pointer none, .pointer (some ⟨w3.heap.size, 0, none⟩)] 47)).alloc (.cells #[.bool true, .slice none 0 0, .bool true, .slice none 0 0, .bool true, .slice none 0 0, .bool false, .slice none 0 0, .bool false, .slice none 0 0] 55)) (w3.heap.size + 1) (w3.heap.size + 1 + 1) _ _ _ _) := fd_start HK3a.out HK3b.out HK3c.out HB3.out s1 s2 s3 #[.int .u8 0, .int .u8 0, .int .u8 0, .bool false]
  go_wp2_with fail
  obtain ⟨gg, hgg⟩ : ∃ gg, gg = w3.heap.size + 1 := ⟨_, rfl⟩
  rw [← hgg] at HF0 ⊢
  obtain ⟨gw, hgw⟩ : ∃ gw, gw = gg + 1 := ⟨_, rfl⟩
  rw [← hgw] at HF0 ⊢
  clear hgg hgw HK3a HK3b HK3c HB3
  go_loopw [6, 7, 24] (fun _ _ kv wr => ∃ (k : Nat) (pvs vs : List Value) (Cs : List (List UInt8)), kv = .int .i64 k ∧ k ≤ N ∧ Hid (Fd w wr gg gw pvs vs Cs Cs) ∧ Hid (∀ C ∈ Cs, C.length ≤ tot st k)) (fun _ _ kv _ => N - (intOf kv).toNat)
  case atStart => exact ⟨0, _, _, _, rfl, Nat.zero_le _, HF0, fun C hC => by
    simp only [List.mem_cons, List.not_mem_nil, or_false, or_self] at hC
    rw [hC]
    exact Nat.zero_le _⟩
  case round =>
    clear HF0
    obtain ⟨k, pvs, vs, Cs, rfl, hk, HF, HC⟩ := hrel
    by_cases hkN : k < N
    · have hkl : k < st.length := by have := HN.out; omega
      have HSB := steps_below HST.out HF.out.below
      rcases HSB with h | ⟨g, o, rfl, hg, hr⟩
      · rw [h] at hkl; simp at hkl
      obtain ⟨c0, c1, c2, hbt, hnc⟩ := hr k hkl
      have HTN := tot_next st k hkl
      have HTL := tot_le st (k + 1)
      have hTT := HTT.out
      have HBLK : Hid (st[k].bytes ≠ [] → ∀ ad, st[k].ap = some ad → ad.block < w.heap.size) := by
        rcases HST.out with h | ⟨g', o', e', hg', hr'⟩
        · rw [h] at hkl; simp at hkl
        · exact fun hne ad e => bts_block (hr' k hkl).2.2.2.1 hne ad e
      have HBT : Hid (Bts st[k].ap st[k].bytes wr) := hbt
      have HNC : Hid (st[k].ap = none → st[k].cp = 0) := hnc
      generalize st[k].who = kind at *
      generalize st[k].act = who at *
      generalize st[k].ap = ap at *
      generalize st[k].cp = cp at *
      generalize st[k].bytes = P at *
      obtain ⟨m, hm⟩ : ∃ m, m = P.length := ⟨_, rfl⟩
      have HM : Hid (m = P.length) := hm
      rw [← hm] at c2 HTN
      obtain ⟨U, hU⟩ : ∃ U, U = IntKind.u64.wrap who := ⟨_, rfl⟩
      have hU0 : 0 ≤ U ∧ U < 18446744073709551616 := by rw [hU, IntKind.wrap_u64]; omega
      have hw1 : IntKind.u64.wrap who = U := hU.symm
      obtain ⟨i, hi⟩ : ∃ i : Nat, (i : Int) = U.tmod 5 := ⟨(U.tmod 5).toNat, by rw [Int.tmod_eq_emod_of_nonneg hU0.1]; omega⟩
      have hi5 : i < 5 := by rw [Int.tmod_eq_emod_of_nonneg hU0.1] at hi; omega
      have hw2 : U.tmod 5 = (i : Int) := hi.symm
      have HKT : Hid (tot st (k + 1) = tot st k + m ∧ tot st (k + 1) ≤ 1048576) := ⟨HTN, by omega⟩
      have hm20 : m ≤ 1048576 := by omega
      have hki : (k : Int) < (N : Int) := by omega
      clear hm hU hi hr hbt hnc HTN HTL hTT hkl
      have ab : Below wr.heap.size wr (wr.alloc (.cells #[.int .i64 kind, .int .i64 who, .slice ap m cp] 58)) := (Below.refl _ _).alloc (Nat.le_refl _) _
      have HX : Hid (Lies (wr.alloc (.cells #[.int .i64 kind, .int .i64 who, .slice ap m cp] 58)) wr.heap.size #[.int .i64 kind, .int .i64 who, .slice ap m cp] 58) := Lies.new wr _ _
      have HF2 : Hid (Fd w (wr.alloc (.cells #[.int .i64 kind, .int .i64 who, .slice ap m cp] 58)) gg gw pvs vs Cs Cs) := HF.out.keep ab
      have HBT2 : Hid (Bts ap P (wr.alloc (.cells #[.int .i64 kind, .int .i64 who, .slice ap m cp] 58))) := HBT.out.below ab
      clear ab HF HBT
      by_cases hk0 : kind = 0
      · subst hk0
        obtain ⟨b, pv, av, cv, n, C, D, hb5, hpv, hC, hD, hn, hncv, hnav, q0c, q1c, q2c, hgot, hown, hp0⟩ := HF2.out.at' i hi5
        obtain rfl : D = C := by rw [hC] at hD; injection hD with hD; exact hD.symm
        have HB5 : Hid (is5[i]? = some b) := hb5
        have HPV : Hid (pvs[i]? = some pv) := hpv
        have HCI : Hid (Cs[i]? = some D) := hC
        have HNN : Hid (n = D.length) := hn
        have HGOT : Hid (Got (wr.alloc (.cells #[.int .i64 0, .int .i64 who, .slice ap m cp] 58)) pv b D) := hgot
        have HP0 : Hid (∀ p, pv = .pointer (some ⟨p, 0, none⟩) → w.heap.size ≤ p) := hp0
        have hnD : n ≤ 1048576 := by
          have h1 := HC.out D (List.mem_of_getElem? hC)
          have h2 := HKT.out
          omega
        have hnm : n + m ≤ 140737488355328 := by omega
        have HDF := dfeed_any b av D n cv ap P m cp (wr.alloc (.cells #[.int .i64 0, .int .i64 who, .slice ap m cp] 58)).drew hn (own_btsB hown) hnav HM.out HBT2.out HNC.out hnm
        have hgl := HF2.out.want.lt
        have hii : (i : Int) < 5 := by omega
        clear hb5 hpv hC hD hn hgot hp0 hnav hown
        go_wp2_with fail
        have hS : (wr.alloc (.cells #[.int .i64 0, .int .i64 who, .slice ap m cp] 58)).cell? ⟨gw, i * 2, none⟩ = some (.bool b) ∧ (wr.alloc (.cells #[.int .i64 0, .int .i64 who, .slice ap m cp] 58)).cell? ⟨gw, i * 2 + 1, none⟩ = some (.slice av n cv) ∧ (wr.alloc (.cells #[.int .i64 0, .int .i64 who, .slice ap m cp] 58)).cell? ⟨wr.heap.size, 2, none⟩ = some (.slice ap m cp) := ⟨q1c, q2c, HX.out.cell 2⟩
        generalize wr.heap.size = gs at *
        generalize wr.alloc (.cells #[.int .i64 0, .int .i64 who, .slice ap m cp] 58) = W4 at *
        clear c0 c1 c2 hg q0c q1c q2c
        refine wp_region_late (fun wx => wx.cell? ⟨gw, i * 2, none⟩ = some (.bool b) ∧ wx.cell? ⟨gw, i * 2 + 1, none⟩ = some (.slice av n cv) ∧ wx.cell? ⟨gs, 2, none⟩ = some (.slice ap m cp)) 10 (by kernel_rfl) hS (fun hHeld => ?_)
        refine wpAnyE_take (i := 0) (d := some 37) (v := ?_) rfl (by kernel_rfl) (by kernel_rfl) (by kernel_rfl) (by kernel_rfl) (fun _ _ _ h => h) rfl rfl ?hy (by assumption) ?_
        case hy => (intro w' hSw; (try dsimp only at hSw); go_simp <;> (try with_reducible rfl))
        simp only [Act.put, List.setIfInBounds_toArray, List.set_cons_zero, List.set_cons_succ]
        refine wpAnyE_take (i := 1) (d := some 38) (v := ?_) rfl (by kernel_rfl) (by kernel_rfl) (by kernel_rfl) (by kernel_rfl) (fun _ _ _ h => h) rfl rfl ?hy (by assumption) ?_
        case hy => (intro w' hSw; (try dsimp only at hSw); go_simp <;> (try with_reducible rfl))
        simp only [Act.put, List.setIfInBounds_toArray, List.set_cons_zero, List.set_cons_succ]
        refine wpAnyE_take (i := 2) (d := some 39) (v := ?_) rfl (by kernel_rfl) (by kernel_rfl) (by kernel_rfl) (by kernel_rfl) (fun _ _ _ h => h) rfl rfl ?hy (by assumption) ?_
        case hy => (intro w' hSw; (try dsimp only at hSw); go_simp <;> (try with_reducible rfl))
        simp only [Act.put, List.setIfInBounds_toArray, List.set_cons_zero, List.set_cons_succ]
        refine wpAnyE_take (i := 3) (d := some 40) (v := ?_) rfl (by kernel_rfl) (by kernel_rfl) (by kernel_rfl) (by kernel_rfl) (fun _ _ _ h => h) rfl rfl ?hy (by assumption) ?_
        case hy => (intro w' hSw; (try dsimp only at hSw); go_simp <;> (try with_reducible rfl))
        simp only [Act.put, List.setIfInBounds_toArray, List.set_cons_zero, List.set_cons_succ]
        refine wpAnyE_take (i := 4) (d := some 41) (v := .pointer (some ⟨gw, i * 2, none⟩)) rfl (by kernel_rfl) (by kernel_rfl) (by kernel_rfl) (by kernel_rfl) (fun _ _ _ h => h) rfl rfl ?hy (by assumption) ?_
        case hy => (intro w' hSw; (try dsimp only at hSw); go_simp <;> (try with_reducible rfl))
        simp only [Act.put, List.setIfInBounds_toArray, List.set_cons_zero, List.set_cons_succ]
        refine wpAnyE_take (i := 5) (d := some 42) (v := .agg #[.bool b, .slice av n cv]) rfl (by kernel_rfl) (by kernel_rfl) (by kernel_rfl) (by kernel_rfl) (fun _ _ _ h => h) rfl rfl ?hy (by assumption) ?_
        case hy => (intro w' hSw; (try dsimp only at hSw); go_simp <;> (try with_reducible rfl))
        simp only [Act.put, List.setIfInBounds_toArray, List.set_cons_zero, List.set_cons_succ]
        refine wpAnyE_take (i := 6) (d := some 43) (v := ?_) rfl (by kernel_rfl) (by kernel_rfl) (by kernel_rfl) (by kernel_rfl) (fun _ _ _ h => h) rfl rfl ?hy (by assumption) ?_
        case hy => (intro w' hSw; (try dsimp only at hSw); go_simp <;> (try with_reducible rfl))
        simp only [Act.put, List.setIfInBounds_toArray, List.set_cons_zero, List.set_cons_succ]
        refine wpAnyE_take (i := 7) (d := some 44) (v := .slice ap m cp) rfl (by kernel_rfl) (by kernel_rfl) (by kernel_rfl) (by kernel_rfl) (fun _ _ _ h => h) rfl rfl ?hy (by assumption) ?_
        case hy => (intro w' hSw; (try dsimp only at hSw); go_simp <;> (try with_reducible rfl))
        simp only [Act.put, List.setIfInBounds_toArray, List.set_cons_zero, List.set_cons_succ]
        refine wpAnyE_one (i := 8) (by kernel_rfl) rfl rfl ?_
        go_simp
        refine HDF.mono ?_
        rintro e w5 ⟨⟨v5, rfl, o5⟩, b5⟩
        obtain ⟨a5, c5, rfl⟩ := own_shape o5
        obtain ⟨a5', c5', ev5, bt5, -, nn5, hc5, -⟩ := own_bts o5
        injection ev5 with ev1 ev2 ev3
        subst ev1 ev3
        have b5' : Below W4.heap.size W4 w5 := (Below.refl _ W4).drew.trans b5
        have HF5 : Hid (Fd w w5 gg gw pvs vs Cs Cs) := HF2.out.keep b5'
        have HX5 : Hid (Lies w5 gs #[.int .i64 0, .int .i64 who, .slice ap m cp] 58) := HX.out.below b5' HX.out.lt
        have HBT5 : Hid (Bts ap P w5) := HBT2.out.below b5'
        have HG5 : Hid (Got w5 pv b D) := HGOT.out.below b5'
        have HO5 : Hid (w5.ownsRow w.heap.size 5 1 (.slice a5 (n + m) c5) (D ++ P).length (cellsB (D ++ P))) := by
          show World.ownsRow _ _ _ _ _ _ _
          rw [List.length_append, ← HNN.out, ← HM.out]
          exact base_le o5 HF2.out.below.size
        obtain ⟨r1, r2⟩ := wantC_at is5 vs i (by have : is5.length = 5 := rfl; omega) (by have := HF2.out.lv; omega)
        have hSS : w5.cell? ⟨gw, i * 2, none⟩ = some (.bool b) ∧ w5.cell? ⟨gw, i * 2 + 1, none⟩ = some (.slice av n cv) ∧ w5.cell? ⟨gs, 2, none⟩ = some (.slice ap m cp) := ⟨(b5'.cell (p := ⟨gw, i * 2, none⟩) hgl).trans hS.1, (b5'.cell (p := ⟨gw, i * 2 + 1, none⟩) hgl).trans hS.2.1, HX5.out.cell 2⟩
        clear r1 r2 ev2 o5 b5 bt5 HDF HF2 HX HBT2 HGOT hHeld
        refine ⟨hSS, ?_⟩
        clear hS
        refine wpAnyE_take (i := 9) (d := some 46) (v := .pointer (some ⟨gw, i * 2, none⟩)) rfl (by kernel_rfl) (by kernel_rfl) (by kernel_rfl) (by kernel_rfl) (fun _ _ _ h => h) rfl rfl ?hy (by assumption) ?_
        case hy => (intro w' hSw; (try dsimp only at hSw); go_simp <;> (try with_reducible rfl))
        simp only [Act.put, List.setIfInBounds_toArray, List.set_cons_zero, List.set_cons_succ]
        have f0 := HF5.out.want.frozen (i * 2)
        have f1 := HF5.out.want.frozen (i * 2 + 1)
        have y0 := hSS.1
        have y1 := hSS.2.1
        have hlt5 := HF5.out.want.lt
        refine wpAnyE_one (i := 10) (by kernel_rfl) rfl rfl ?_
        go_simp
        have HF6 : Hid (Fd w ((w5.setCell ⟨gw, i * 2, none⟩ (.bool b)).setCell ⟨gw, i * 2 + 1, none⟩ (.slice a5 (n + m) c5)) gg gw pvs (vs.set i (.slice a5 (n + m) c5)) Cs (Cs.set i (D ++ P))) := HF5.out.store' i hi5 b HB5.out _ _ HO5.out
        have hgsw : gs ≠ gw := fun e => by
          have h1 := HX5.out
          rw [e] at h1
          exact absurd (lies_kind h1 HF5.out.want) (by decide)
        have hk6 : ∀ q, q ≠ gw → (((w5.setCell ⟨gw, i * 2, none⟩ (.bool b)).setCell ⟨gw, i * 2 + 1, none⟩ (.slice a5 (n + m) c5))).heap[q]? = w5.heap[q]? := fun q hq => (Below.heap_setCell _ _ _ q hq).trans (Below.heap_setCell _ _ _ q hq)
        have HX6 : Hid (Lies ((w5.setCell ⟨gw, i * 2, none⟩ (.bool b)).setCell ⟨gw, i * 2 + 1, none⟩ (.slice a5 (n + m) c5)) gs #[.int .i64 0, .int .i64 who, .slice ap m cp] 58) := (hk6 gs hgsw).trans HX5.out
        have HBT6 : Hid (Bts ap P ((w5.setCell ⟨gw, i * 2, none⟩ (.bool b)).setCell ⟨gw, i * 2 + 1, none⟩ (.slice a5 (n + m) c5))) := by
          by_cases hPn : P = []
          · exact .inl hPn
          · rcases HBT5.out with h | ⟨gq, oq, eq, hq, rq⟩
            · exact absurd h hPn
            · refine .inr ⟨gq, oq, eq, by simpa using hq, fun j hj => (World.cell?_of_block (a := ⟨gq, oq + j, none⟩) (hk6 gq (fun e => ?_))).trans (rq j hj)⟩
              have h1 := HBLK.out hPn _ eq
              have h2 := HF5.out.hgw
              simp only at h1
              omega
        have HG6 : Hid (Got ((w5.setCell ⟨gw, i * 2, none⟩ (.bool b)).setCell ⟨gw, i * 2 + 1, none⟩ (.slice a5 (n + m) c5)) pv b D) := HG5.out.of (fun p hp _ => hk6 p (((HF5.out.ck i hi5).2 p (by
          obtain ⟨_, h4⟩ := List.getElem?_eq_some_iff.1 HPV.out
          rw [h4]
          exact hp)).2.2.1))
        clear f0 f1 y0 y1 hlt5 HF5 HX5 HBT5 HG5 HO5 hSS hk6 hgsw
        refine wpAnyE_done (by kernel_rfl) ?_ _
        generalize ((w5.setCell ⟨gw, i * 2, none⟩ (.bool b)).setCell ⟨gw, i * 2 + 1, none⟩ (.slice a5 (n + m) c5)) = W6 at *
        obtain ⟨b6, pv6, av6, cv6, n6, C6, D6, hb6, hpv6, hC6, hD6, hn6, hncv6, hnav6, q0c, q1c, q2c, hgot6, hown6, hp06⟩ := HF6.out.at' i hi5
        obtain rfl : b6 = b := by rw [HB5.out] at hb6; injection hb6 with hb6; exact hb6.symm
        obtain rfl : pv6 = pv := by rw [HPV.out] at hpv6; injection hpv6 with hpv6; exact hpv6.symm
        have hD6' : D6 = D ++ P := by
          rw [List.getElem?_set, if_pos rfl, if_pos (by have := HF6.out.lc; omega)] at hD6
          injection hD6 with hD6
          exact hD6.symm
        have HBD : Hid (Bts av6 (D ++ P) W6) := by rw [← hD6']; exact own_btsB hown6
        have HN6 : Hid (n6 = (D ++ P).length) := by rw [← hD6']; exact hn6
        have hn6m : n6 ≤ 2097152 := by rw [HN6.out, List.length_append, ← HNN.out, ← HM.out]; omega
        have hglt := HF6.out.got.lt
        have hwlt := HF6.out.want.lt
        have HOW6 : Hid (W6.ownsRow w.heap.size 5 1 (.slice av6 n6 cv6) n6 (cellsB (D ++ P))) := by rw [← hD6']; exact hown6
        clear hb6 hpv6 hC6 hD6 hn6 hnav6 hgot6 hown6 hp06 hD6' HBD
        have HFE := got_feed (w := W6.drew) (HG6.out.of (fun _ _ _ => rfl)) ap P m cp HM.out ((HT.out.below HF6.out.below.drew (Nat.le_refl _)).fst) HBT6.out (fun hPn ad e1 e2 => by
          have h1 := HBLK.out hPn ad e1
          have h2 := HP0.out _ e2
          omega) (by omega)
        have HC8 : Hid (∀ C ∈ Cs.set i (D ++ P), C.length ≤ tot st (k + 1)) := fun C hC => by
          have hk := HKT.out
          rcases mem_set hC with h | h
          · have := HC.out C h
            omega
          · rw [h, List.length_append, ← HM.out]
            have := HC.out D (List.mem_of_getElem? HCI.out)
            omega
        cases b6
        · rw [Bool.false_and] at HFE
          go_wp2_with fail
          refine wp_region_late (fun wx => wx.cell? ⟨gg, i, none⟩ = some pv6 ∧ wx.cell? ⟨gw, i * 2, none⟩ = some (.bool false) ∧ wx.cell? ⟨gw, i * 2 + 1, none⟩ = some (.slice av6 n6 cv6) ∧ wx.cell? ⟨gs, 2, none⟩ = some (.slice ap m cp)) 21 (by kernel_rfl) ⟨q0c, q1c, q2c, HX6.out.cell 2⟩ (fun hHeld => ?_)
          refine wpAnyE_tk (i := 0) (d := some 47) (v := ?_) rfl (by kernel_rfl) (by kernel_rfl) (by kernel_rfl) rfl (fun _ _ _ h => h) rfl rfl ?hy (by assumption) ?_
          case hy => (intro w' hSw; (try dsimp only at hSw); go_simp <;> (try with_reducible rfl))
          simp only [Act.put, List.setIfInBounds_toArray, List.set_cons_zero, List.set_cons_succ]
          refine wpAnyE_tk (i := 1) (d := some 48) (v := ?_) rfl (by kernel_rfl) (by kernel_rfl) (by kernel_rfl) rfl (fun _ _ _ h => h) rfl rfl ?hy (by assumption) ?_
          case hy => (intro w' hSw; (try dsimp only at hSw); go_simp <;> (try with_reducible rfl))
          simp only [Act.put, List.setIfInBounds_toArray, List.set_cons_zero, List.set_cons_succ]
          refine wpAnyE_tk (i := 2) (d := some 49) (v := .pointer (some ⟨gg, i, none⟩)) rfl (by kernel_rfl) (by kernel_rfl) (by kernel_rfl) rfl (fun _ _ _ h => h) rfl rfl ?hy (by assumption) ?_
          case hy => (intro w' hSw; (try dsimp only at hSw); go_simp <;> (try with_reducible rfl))
          simp only [Act.put, List.setIfInBounds_toArray, List.set_cons_zero, List.set_cons_succ]
          refine wpAnyE_tk (i := 3) (d := some 50) (v := pv6) rfl (by kernel_rfl) (by kernel_rfl) (by kernel_rfl) rfl (fun _ _ _ h => h) rfl rfl ?hy (by assumption) ?_
          case hy => (intro w' hSw; (try dsimp only at hSw); go_simp <;> (try with_reducible rfl))
          simp only [Act.put, List.setIfInBounds_toArray, List.set_cons_zero, List.set_cons_succ]
          refine wpAnyE_tk (i := 4) (d := some 51) (v := ?_) rfl (by kernel_rfl) (by kernel_rfl) (by kernel_rfl) rfl (fun _ _ _ h => h) rfl rfl ?hy (by assumption) ?_
          case hy => (intro w' hSw; (try dsimp only at hSw); go_simp <;> (try with_reducible rfl))
          simp only [Act.put, List.setIfInBounds_toArray, List.set_cons_zero, List.set_cons_succ]
          refine wpAnyE_tk (i := 5) (d := some 52) (v := .slice ap m cp) rfl (by kernel_rfl) (by kernel_rfl) (by kernel_rfl) rfl (fun _ _ _ h => h) rfl rfl ?hy (by assumption) ?_
          case hy => (intro w' hSw; (try dsimp only at hSw); go_simp <;> (try with_reducible rfl))
          simp only [Act.put, List.setIfInBounds_toArray, List.set_cons_zero, List.set_cons_succ]
          refine wpAnyE_tk (i := 7) (d := some 54) (v := ?_) rfl (by kernel_rfl) (by kernel_rfl) (by kernel_rfl) rfl (fun _ _ _ h => h) rfl rfl ?hy (by assumption) ?_
          case hy => (intro w' hSw; (try dsimp only at hSw); go_simp <;> (try with_reducible rfl))
          simp only [Act.put, List.setIfInBounds_toArray, List.set_cons_zero, List.set_cons_succ]
          refine wpAnyE_tk (i := 8) (d := some 55) (v := ?_) rfl (by kernel_rfl) (by kernel_rfl) (by kernel_rfl) rfl (fun _ _ _ h => h) rfl rfl ?hy (by assumption) ?_
          case hy => (intro w' hSw; (try dsimp only at hSw); go_simp <;> (try with_reducible rfl))
          simp only [Act.put, List.setIfInBounds_toArray, List.set_cons_zero, List.set_cons_succ]
          refine wpAnyE_tk (i := 9) (d := some 56) (v := .pointer (some ⟨gw, i * 2, none⟩)) rfl (by kernel_rfl) (by kernel_rfl) (by kernel_rfl) rfl (fun _ _ _ h => h) rfl rfl ?hy (by assumption) ?_
          case hy => (intro w' hSw; (try dsimp only at hSw); go_simp <;> (try with_reducible rfl))
          simp only [Act.put, List.setIfInBounds_toArray, List.set_cons_zero, List.set_cons_succ]
          refine wpAnyE_tk (i := 10) (d := some 57) (v := .pointer (some ⟨gw, i * 2, none⟩)) rfl (by kernel_rfl) (by kernel_rfl) (by kernel_rfl) rfl (fun _ _ _ h => h) rfl rfl ?hy (by assumption) ?_
          case hy => (intro w' hSw; (try dsimp only at hSw); go_simp <;> (try with_reducible rfl))
          simp only [Act.put, List.setIfInBounds_toArray, List.set_cons_zero, List.set_cons_succ]
          refine wpAnyE_tk (i := 11) (d := some 58) (v := .bool false) rfl (by kernel_rfl) (by kernel_rfl) (by kernel_rfl) rfl (fun _ _ _ h => h) rfl rfl ?hy (by assumption) ?_
          case hy => (intro w' hSw; (try dsimp only at hSw); go_simp <;> (try with_reducible rfl))
          simp only [Act.put, List.setIfInBounds_toArray, List.set_cons_zero, List.set_cons_succ]
          refine wpAnyE_on (i := 6) (by kernel_rfl) rfl rfl ?_
          go_simp
          refine HFE.mono ?_
          rintro e w7 ⟨rfl, hg7, hb7⟩
          have HF6d : Hid (Fd w W6.drew gg gw pvs (vs.set i (.slice a5 (n + m) c5)) Cs (Cs.set i (D ++ P))) := HF6.out.keep ((Below.refl _ _).drew)
          have HF7 : Hid (Fd w w7 gg gw pvs (vs.set i (.slice a5 (n + m) c5)) (Cs.set i (D ++ P)) (Cs.set i (D ++ P))) := HF6d.out.fed' i hi5 false HB5.out pv6 HPV.out (D ++ P) hg7 hb7
          have HG6d : Hid (Got W6.drew pv6 false D) := HG6.out.of (fun _ _ _ => rfl)
          have HBD7 : Hid (Bts av6 (D ++ P) w7) := own_btsB (got_own HG6d.out hb7 (own_keep HOW6.out (fun _ _ => rfl)))
          obtain ⟨hz7, hz8, hz9, -⟩ := HF6d.out.other hi5 HPV.out hb7
          have hX7 := got_lies HG6d.out hb7 (Lies.drew HX6.out) (by decide)
          have hS7 : w7.cell? ⟨gg, i, none⟩ = some pv6 ∧ w7.cell? ⟨gw, i * 2, none⟩ = some (.bool false) ∧ w7.cell? ⟨gw, i * 2 + 1, none⟩ = some (.slice av6 n6 cv6) ∧ w7.cell? ⟨gs, 2, none⟩ = some (.slice ap m cp) := ⟨(World.cell?_of_block (a := ⟨gg, i, none⟩) hz8).trans q0c, (World.cell?_of_block (a := ⟨gw, i * 2, none⟩) hz9).trans q1c, (World.cell?_of_block (a := ⟨gw, i * 2 + 1, none⟩) hz9).trans q2c, hX7.cell 2⟩
          clear hg7 hb7 HF6d HG6d hz7 hz8 hz9 hX7 HFE q0c q1c q2c HF6 HG6 HX6 hHeld
          refine ⟨hS7, ?_⟩
          refine wpAnyE_tk (i := 12) (d := some 59) (v := ?_) rfl (by kernel_rfl) (by kernel_rfl) (by kernel_rfl) rfl (fun _ _ _ h => h) rfl rfl ?hy (by assumption) ?_
          case hy => (intro w' hSw; (try dsimp only at hSw); go_simp <;> (try with_reducible rfl))
          simp only [Act.put, List.setIfInBounds_toArray, List.set_cons_zero, List.set_cons_succ]
          refine wpAnyE_sk (i := 13) (d := some 60) rfl (by kernel_rfl) (by kernel_rfl) (by kernel_rfl) rfl (fun _ _ _ h => h) rfl rfl (by assumption) ?_
          simp only [Act.put, List.setIfInBounds_toArray, List.set_cons_zero, List.set_cons_succ]
          refine wpAnyE_sk (i := 14) (d := some 61) rfl (by kernel_rfl) (by kernel_rfl) (by kernel_rfl) rfl (fun _ _ _ h => h) rfl rfl (by assumption) ?_
          simp only [Act.put, List.setIfInBounds_toArray, List.set_cons_zero, List.set_cons_succ]
          refine wpAnyE_sk (i := 15) (d := some 62) rfl (by kernel_rfl) (by kernel_rfl) (by kernel_rfl) rfl (fun _ _ _ h => h) rfl rfl (by assumption) ?_
          simp only [Act.put, List.setIfInBounds_toArray, List.set_cons_zero, List.set_cons_succ]
          refine wpAnyE_sk (i := 16) (d := some 63) rfl (by kernel_rfl) (by kernel_rfl) (by kernel_rfl) rfl (fun _ _ _ h => h) rfl rfl (by assumption) ?_
          simp only [Act.put, List.setIfInBounds_toArray, List.set_cons_zero, List.set_cons_succ]
          refine wpAnyE_sk (i := 17) (d := some 64) rfl (by kernel_rfl) (by kernel_rfl) (by kernel_rfl) rfl (fun _ _ _ h => h) rfl rfl (by assumption) ?_
          simp only [Act.put, List.setIfInBounds_toArray, List.set_cons_zero, List.set_cons_succ]
          refine wpAnyE_sk (i := 18) (d := some 65) rfl (by kernel_rfl) (by kernel_rfl) (by kernel_rfl) rfl (fun _ _ _ h => h) rfl rfl (by assumption) ?_
          simp only [Act.put, List.setIfInBounds_toArray, List.set_cons_zero, List.set_cons_succ]
          refine wpAnyE_tk (i := 19) (d := some 66) (v := .bool false) rfl (by kernel_rfl) (by kernel_rfl) (by kernel_rfl) rfl (fun _ _ _ h => h) rfl rfl ?hy (by assumption) ?_
          case hy => (intro w' hSw; (try dsimp only at hSw); go_simp <;> (try with_reducible rfl))
          simp only [Act.put, List.setIfInBounds_toArray, List.set_cons_zero, List.set_cons_succ]
          refine wpAnyE_tk (i := 20) (d := some 67) (v := .bool false) rfl (by kernel_rfl) (by kernel_rfl) (by kernel_rfl) rfl (fun _ _ _ h => h) rfl rfl ?hy (by assumption) ?_
          case hy => (intro w' hSw; (try dsimp only at hSw); go_simp <;> (try with_reducible rfl))
          simp only [Act.put, List.setIfInBounds_toArray, List.set_cons_zero, List.set_cons_succ]
          have HF8 : Hid (Fd w w7 gg gw pvs (vs.set i (.slice a5 (n + m) c5)) (Cs.set i (D ++ P)) (Cs.set i (D ++ P))) := HF7.out
          clear hS7 HF7
          refine wpAnyE_done (by kernel_rfl) ?_ _
          go_wp2
          go_roundw
          case rel => exact ⟨k + 1, pvs, vs.set i (.slice a5 (n + m) c5), Cs.set i (D ++ P), by go_num, by omega, HF8, HC8⟩
          case measure => simp [intOf]; omega
        · rw [Bool.true_and] at HFE
          go_wp2_with fail
          refine wp_region_late (fun wx => wx.cell? ⟨gg, i, none⟩ = some pv6 ∧ wx.cell? ⟨gw, i * 2, none⟩ = some (.bool true) ∧ wx.cell? ⟨gw, i * 2 + 1, none⟩ = some (.slice av6 n6 cv6) ∧ wx.cell? ⟨gs, 2, none⟩ = some (.slice ap m cp)) 21 (by kernel_rfl) ⟨q0c, q1c, q2c, HX6.out.cell 2⟩ (fun hHeld => ?_)
          refine wpAnyE_tk (i := 0) (d := some 47) (v := ?_) rfl (by kernel_rfl) (by kernel_rfl) (by kernel_rfl) rfl (fun _ _ _ h => h) rfl rfl ?hy (by assumption) ?_
          case hy => (intro w' hSw; (try dsimp only at hSw); go_simp <;> (try with_reducible rfl))
          simp only [Act.put, List.setIfInBounds_toArray, List.set_cons_zero, List.set_cons_succ]
          refine wpAnyE_tk (i := 1) (d := some 48) (v := ?_) rfl (by kernel_rfl) (by kernel_rfl) (by kernel_rfl) rfl (fun _ _ _ h => h) rfl rfl ?hy (by assumption) ?_
          case hy => (intro w' hSw; (try dsimp only at hSw); go_simp <;> (try with_reducible rfl))
          simp only [Act.put, List.setIfInBounds_toArray, List.set_cons_zero, List.set_cons_succ]
          refine wpAnyE_tk (i := 2) (d := some 49) (v := .pointer (some ⟨gg, i, none⟩)) rfl (by kernel_rfl) (by kernel_rfl) (by kernel_rfl) rfl (fun _ _ _ h => h) rfl rfl ?hy (by assumption) ?_
          case hy => (intro w' hSw; (try dsimp only at hSw); go_simp <;> (try with_reducible rfl))
          simp only [Act.put, List.setIfInBounds_toArray, List.set_cons_zero, List.set_cons_succ]
          refine wpAnyE_tk (i := 3) (d := some 50) (v := pv6) rfl (by kernel_rfl) (by kernel_rfl) (by kernel_rfl) rfl (fun _ _ _ h => h) rfl rfl ?hy (by assumption) ?_
          case hy => (intro w' hSw; (try dsimp only at hSw); go_simp <;> (try with_reducible rfl))
          simp only [Act.put, List.setIfInBounds_toArray, List.set_cons_zero, List.set_cons_succ]
          refine wpAnyE_tk (i := 4) (d := some 51) (v := ?_) rfl (by kernel_rfl) (by kernel_rfl) (by kernel_rfl) rfl (fun _ _ _ h => h) rfl rfl ?hy (by assumption) ?_
          case hy => (intro w' hSw; (try dsimp only at hSw); go_simp <;> (try with_reducible rfl))
          simp only [Act.put, List.setIfInBounds_toArray, List.set_cons_zero, List.set_cons_succ]
          refine wpAnyE_tk (i := 5) (d := some 52) (v := .slice ap m cp) rfl (by kernel_rfl) (by kernel_rfl) (by kernel_rfl) rfl (fun _ _ _ h => h) rfl rfl ?hy (by assumption) ?_
          case hy => (intro w' hSw; (try dsimp only at hSw); go_simp <;> (try with_reducible rfl))
          simp only [Act.put, List.setIfInBounds_toArray, List.set_cons_zero, List.set_cons_succ]
          refine wpAnyE_tk (i := 7) (d := some 54) (v := ?_) rfl (by kernel_rfl) (by kernel_rfl) (by kernel_rfl) rfl (fun _ _ _ h => h) rfl rfl ?hy (by assumption) ?_
          case hy => (intro w' hSw; (try dsimp only at hSw); go_simp <;> (try with_reducible rfl))
          simp only [Act.put, List.setIfInBounds_toArray, List.set_cons_zero, List.set_cons_succ]
          refine wpAnyE_tk (i := 8) (d := some 55) (v := ?_) rfl (by kernel_rfl) (by kernel_rfl) (by kernel_rfl) rfl (fun _ _ _ h => h) rfl rfl ?hy (by assumption) ?_
          case hy => (intro w' hSw; (try dsimp only at hSw); go_simp <;> (try with_reducible rfl))
          simp only [Act.put, List.setIfInBounds_toArray, List.set_cons_zero, List.set_cons_succ]
          refine wpAnyE_tk (i := 9) (d := some 56) (v := .pointer (some ⟨gw, i * 2, none⟩)) rfl (by kernel_rfl) (by kernel_rfl) (by kernel_rfl) rfl (fun _ _ _ h => h) rfl rfl ?hy (by assumption) ?_
          case hy => (intro w' hSw; (try dsimp only at hSw); go_simp <;> (try with_reducible rfl))
          simp only [Act.put, List.setIfInBounds_toArray, List.set_cons_zero, List.set_cons_succ]
          refine wpAnyE_tk (i := 10) (d := some 57) (v := .pointer (some ⟨gw, i * 2, none⟩)) rfl (by kernel_rfl) (by kernel_rfl) (by kernel_rfl) rfl (fun _ _ _ h => h) rfl rfl ?hy (by assumption) ?_
          case hy => (intro w' hSw; (try dsimp only at hSw); go_simp <;> (try with_reducible rfl))
          simp only [Act.put, List.setIfInBounds_toArray, List.set_cons_zero, List.set_cons_succ]
          refine wpAnyE_tk (i := 11) (d := some 58) (v := .bool true) rfl (by kernel_rfl) (by kernel_rfl) (by kernel_rfl) rfl (fun _ _ _ h => h) rfl rfl ?hy (by assumption) ?_
          case hy => (intro w' hSw; (try dsimp only at hSw); go_simp <;> (try with_reducible rfl))
          simp only [Act.put, List.setIfInBounds_toArray, List.set_cons_zero, List.set_cons_succ]
          refine wpAnyE_on (i := 6) (by kernel_rfl) rfl rfl ?_
          go_simp
          refine HFE.mono ?_
          rintro e w7 ⟨rfl, hg7, hb7⟩
          have HF6d : Hid (Fd w W6.drew gg gw pvs (vs.set i (.slice a5 (n + m) c5)) Cs (Cs.set i (D ++ P))) := HF6.out.keep ((Below.refl _ _).drew)
          have HF7 : Hid (Fd w w7 gg gw pvs (vs.set i (.slice a5 (n + m) c5)) (Cs.set i (D ++ P)) (Cs.set i (D ++ P))) := HF6d.out.fed' i hi5 true HB5.out pv6 HPV.out (D ++ P) hg7 hb7
          have HG6d : Hid (Got W6.drew pv6 true D) := HG6.out.of (fun _ _ _ => rfl)
          have HBD7 : Hid (Bts av6 (D ++ P) w7) := own_btsB (got_own HG6d.out hb7 (own_keep HOW6.out (fun _ _ => rfl)))
          obtain ⟨hz7, hz8, hz9, -⟩ := HF6d.out.other hi5 HPV.out hb7
          have hX7 := got_lies HG6d.out hb7 (Lies.drew HX6.out) (by decide)
          have hS7 : w7.cell? ⟨gg, i, none⟩ = some pv6 ∧ w7.cell? ⟨gw, i * 2, none⟩ = some (.bool true) ∧ w7.cell? ⟨gw, i * 2 + 1, none⟩ = some (.slice av6 n6 cv6) ∧ w7.cell? ⟨gs, 2, none⟩ = some (.slice ap m cp) := ⟨(World.cell?_of_block (a := ⟨gg, i, none⟩) hz8).trans q0c, (World.cell?_of_block (a := ⟨gw, i * 2, none⟩) hz9).trans q1c, (World.cell?_of_block (a := ⟨gw, i * 2 + 1, none⟩) hz9).trans q2c, hX7.cell 2⟩
          clear hg7 hb7 HF6d HG6d hz7 hz8 hz9 hX7 HFE q0c q1c q2c HF6 HG6 HX6 hHeld
          refine ⟨hS7, ?_⟩
          refine wpAnyE_tk (i := 12) (d := some 59) (v := ?_) rfl (by kernel_rfl) (by kernel_rfl) (by kernel_rfl) rfl (fun _ _ _ h => h) rfl rfl ?hy (by assumption) ?_
          case hy => (intro w' hSw; (try dsimp only at hSw); go_simp <;> (try with_reducible rfl))
          simp only [Act.put, List.setIfInBounds_toArray, List.set_cons_zero, List.set_cons_succ]
          refine wpAnyE_tk (i := 13) (d := some 60) (v := ?_) rfl (by kernel_rfl) (by kernel_rfl) (by kernel_rfl) rfl (fun _ _ _ h => h) rfl rfl ?hy (by assumption) ?_
          case hy => (intro w' hSw; (try dsimp only at hSw); go_simp <;> (try with_reducible rfl))
          simp only [Act.put, List.setIfInBounds_toArray, List.set_cons_zero, List.set_cons_succ]
          refine wpAnyE_tk (i := 14) (d := some 61) (v := ?_) rfl (by kernel_rfl) (by kernel_rfl) (by kernel_rfl) rfl (fun _ _ _ h => h) rfl rfl ?hy (by assumption) ?_
          case hy => (intro w' hSw; (try dsimp only at hSw); go_simp <;> (try with_reducible rfl))
          simp only [Act.put, List.setIfInBounds_toArray, List.set_cons_zero, List.set_cons_succ]
          refine wpAnyE_tk (i := 15) (d := some 62) (v := .pointer (some ⟨gw, i * 2, none⟩)) rfl (by kernel_rfl) (by kernel_rfl) (by kernel_rfl) rfl (fun _ _ _ h => h) rfl rfl ?hy (by assumption) ?_
          case hy => (intro w' hSw; (try dsimp only at hSw); go_simp <;> (try with_reducible rfl))
          simp only [Act.put, List.setIfInBounds_toArray, List.set_cons_zero, List.set_cons_succ]
          refine wpAnyE_tk (i := 16) (d := some 63) (v := .pointer (some ⟨gw, i * 2 + 1, none⟩)) rfl (by kernel_rfl) (by kernel_rfl) (by kernel_rfl) rfl (fun _ _ _ h => h) rfl rfl ?hy (by assumption) ?_
          case hy => (intro w' hSw; (try dsimp only at hSw); go_simp <;> (try with_reducible rfl))
          simp only [Act.put, List.setIfInBounds_toArray, List.set_cons_zero, List.set_cons_succ]
          refine wpAnyE_tk (i := 17) (d := some 64) (v := .slice av6 n6 cv6) rfl (by kernel_rfl) (by kernel_rfl) (by kernel_rfl) rfl (fun _ _ _ h => h) rfl rfl ?hy (by assumption) ?_
          case hy => (intro w' hSw; (try dsimp only at hSw); go_simp <;> (try with_reducible rfl))
          simp only [Act.put, List.setIfInBounds_toArray, List.set_cons_zero, List.set_cons_succ]
          have HBG := dbegins_any av6 (D ++ P) cv6 n6 HN6.out w7 HBD7.out hncv6 (by omega)
          generalize okM (runM (some q0) (D ++ P)) = OK at *
          refine wpAnyE_on (i := 18) (by kernel_rfl) rfl rfl ?_
          go_simp
          refine HBG.mono ?_
          rintro e w8 ⟨rfl, b8⟩
          have HF8 : Hid (Fd w w8 gg gw pvs (vs.set i (.slice a5 (n + m) c5)) (Cs.set i (D ++ P)) (Cs.set i (D ++ P))) := HF7.out.keep b8
          have hS8 : w8.cell? ⟨gg, i, none⟩ = some pv6 ∧ w8.cell? ⟨gw, i * 2, none⟩ = some (.bool true) ∧ w8.cell? ⟨gw, i * 2 + 1, none⟩ = some (.slice av6 n6 cv6) ∧ w8.cell? ⟨gs, 2, none⟩ = some (.slice ap m cp) := ⟨(b8.cell (p := ⟨gg, i, none⟩) HF7.out.got.lt).trans hS7.1, (b8.cell (p := ⟨gw, i * 2, none⟩) HF7.out.want.lt).trans hS7.2.1, (b8.cell (p := ⟨gw, i * 2 + 1, none⟩) HF7.out.want.lt).trans hS7.2.2.1, (b8.cell (p := ⟨gs, 2, none⟩) (World.block_lt_of_cell? w7 _ hS7.2.2.2)).trans hS7.2.2.2⟩
          clear b8 HBG HF7 hS7
          refine ⟨hS8, ?_⟩
          refine wpAnyE_tk (i := 19) (d := some 66) (v := .bool OK) rfl (by kernel_rfl) (by kernel_rfl) (by kernel_rfl) rfl (fun _ _ _ h => h) rfl rfl ?hy (by assumption) ?_
          case hy => (intro w' hSw; (try dsimp only at hSw); go_simp <;> (try with_reducible rfl))
          simp only [Act.put, List.setIfInBounds_toArray, List.set_cons_zero, List.set_cons_succ]
          refine wpAnyE_tk (i := 20) (d := some 67) (v := .bool false) rfl (by kernel_rfl) (by kernel_rfl) (by kernel_rfl) rfl (fun _ _ _ h => h) rfl rfl ?hy (by assumption) ?_
          case hy => (intro w' hSw; (try dsimp only at hSw); go_simp <;> (try with_reducible rfl))
          simp only [Act.put, List.setIfInBounds_toArray, List.set_cons_zero, List.set_cons_succ]
          clear hS8
          refine wpAnyE_done (by kernel_rfl) ?_ _
          go_wp2
          go_roundw
          case rel => exact ⟨k + 1, pvs, vs.set i (.slice a5 (n + m) c5), Cs.set i (D ++ P), by go_num, by omega, HF8, HC8⟩
          case measure => simp [intOf]; omega
      · have hk0b : (kind == 0) = false := by simp; exact hk0
        have HCk : Hid (∀ C ∈ Cs, C.length ≤ tot st (k + 1)) := fun C hC => by
          have h1 := HC.out C hC
          have h2 := HKT.out
          omega
        have hii : (i : Int) < 5 := by omega
        have hin : ¬ (i : Int) < 0 := by omega
        by_cases hk1 : kind = 1
        · subst hk1
          obtain ⟨b, pv, av, cv, n, C, D, hb5, hpv, hC, hD, hn, hncv, hnav, q0c, q1c, q2c, hgot, hown, hp0⟩ := HF2.out.at' i hi5
          obtain rfl : D = C := by rw [hC] at hD; injection hD with hD; exact hD.symm
          have hnD : n ≤ 1048576 := by
            have h1 := HC.out D (List.mem_of_getElem? hC)
            have h2 := HKT.out
            omega
          have HWH := got_whole (w := (wr.alloc (.cells #[.int .i64 1, .int .i64 who, .slice ap m cp] 58)).drew) (hgot.of (fun _ _ _ => rfl))
          have HDB := dbad_any av D cv (wr.alloc (.cells #[.int .i64 1, .int .i64 who, .slice ap m cp] 58)).drew (own_btsB hown) (by omega) (by omega)
          rw [← hn] at HDB
          have hwb := whole_bad D
          rw [← hn] at hwb
          obtain ⟨WH, hWH⟩ : ∃ WH, WH = wholeM (runM (some q0) D) := ⟨_, rfl⟩
          rw [← hWH] at HWH hwb
          have hbe : ((badU D : Int) == (n : Int)) = WH := by
            rw [hwb]
            by_cases h : badU D = n
            · rw [decide_eq_true h]; simp; omega
            · rw [decide_eq_false h]; simp; omega
          generalize badU D = bad at *
          clear hb5 hpv hC hD hn hgot hp0 hnav hown hwb hWH
          have hS : (wr.alloc (.cells #[.int .i64 1, .int .i64 who, .slice ap m cp] 58)).cell? ⟨gg, i, none⟩ = some pv ∧ (wr.alloc (.cells #[.int .i64 1, .int .i64 who, .slice ap m cp] 58)).cell? ⟨gw, i * 2, none⟩ = some (.bool b) ∧ (wr.alloc (.cells #[.int .i64 1, .int .i64 who, .slice ap m cp] 58)).cell? ⟨gw, i * 2 + 1, none⟩ = some (.slice av n cv) := ⟨q0c, q1c, q2c⟩
          clear q0c q1c q2c
          go_wp2_with fail
          generalize wr.heap.size = gs at *
          generalize wr.alloc (.cells #[.int .i64 1, .int .i64 who, .slice ap m cp] 58) = W4 at *
          clear c0 c1 c2 hg
          cases b
          · rw [Bool.false_and] at HWH
            refine wp_region_late (fun wx => wx.cell? ⟨gg, i, none⟩ = some pv ∧ wx.cell? ⟨gw, i * 2, none⟩ = some (.bool false) ∧ wx.cell? ⟨gw, i * 2 + 1, none⟩ = some (.slice av n cv)) 26 (by kernel_rfl) hS (fun hHeld => ?_)
            refine wpAnyE_tk (i := 0) (d := some 70) (v := ?_) rfl (by kernel_rfl) (by kernel_rfl) (by kernel_rfl) rfl (fun _ _ _ h => h) rfl rfl ?hy (by assumption) ?_
            case hy => (intro w' hSw; (try dsimp only at hSw); go_simp <;> (try with_reducible rfl))
            simp only [Act.put, List.setIfInBounds_toArray, List.set_cons_zero, List.set_cons_succ]
            refine wpAnyE_tk (i := 1) (d := some 71) (v := ?_) rfl (by kernel_rfl) (by kernel_rfl) (by kernel_rfl) rfl (fun _ _ _ h => h) rfl rfl ?hy (by assumption) ?_
            case hy => (intro w' hSw; (try dsimp only at hSw); go_simp <;> (try with_reducible rfl))
            simp only [Act.put, List.setIfInBounds_toArray, List.set_cons_zero, List.set_cons_succ]
            refine wpAnyE_tk (i := 2) (d := some 72) (v := .pointer (some ⟨gg, i, none⟩)) rfl (by kernel_rfl) (by kernel_rfl) (by kernel_rfl) rfl (fun _ _ _ h => h) rfl rfl ?hy (by assumption) ?_
            case hy => (intro w' hSw; (try dsimp only at hSw); go_simp <;> (try with_reducible rfl))
            simp only [Act.put, List.setIfInBounds_toArray, List.set_cons_zero, List.set_cons_succ]
            refine wpAnyE_tk (i := 3) (d := some 73) (v := pv) rfl (by kernel_rfl) (by kernel_rfl) (by kernel_rfl) rfl (fun _ _ _ h => h) rfl rfl ?hy (by assumption) ?_
            case hy => (intro w' hSw; (try dsimp only at hSw); go_simp <;> (try with_reducible rfl))
            simp only [Act.put, List.setIfInBounds_toArray, List.set_cons_zero, List.set_cons_succ]
            refine wpAnyE_tk (i := 5) (d := some 75) (v := ?_) rfl (by kernel_rfl) (by kernel_rfl) (by kernel_rfl) rfl (fun _ _ _ h => h) rfl rfl ?hy (by assumption) ?_
            case hy => (intro w' hSw; (try dsimp only at hSw); go_simp <;> (try with_reducible rfl))
            simp only [Act.put, List.setIfInBounds_toArray, List.set_cons_zero, List.set_cons_succ]
            refine wpAnyE_tk (i := 6) (d := some 76) (v := ?_) rfl (by kernel_rfl) (by kernel_rfl) (by kernel_rfl) rfl (fun _ _ _ h => h) rfl rfl ?hy (by assumption) ?_
            case hy => (intro w' hSw; (try dsimp only at hSw); go_simp <;> (try with_reducible rfl))
            simp only [Act.put, List.setIfInBounds_toArray, List.set_cons_zero, List.set_cons_succ]
            refine wpAnyE_tk (i := 7) (d := some 77) (v := .pointer (some ⟨gw, i * 2, none⟩)) rfl (by kernel_rfl) (by kernel_rfl) (by kernel_rfl) rfl (fun _ _ _ h => h) rfl rfl ?hy (by assumption) ?_
            case hy => (intro w' hSw; (try dsimp only at hSw); go_simp <;> (try with_reducible rfl))
            simp only [Act.put, List.setIfInBounds_toArray, List.set_cons_zero, List.set_cons_succ]
            refine wpAnyE_tk (i := 8) (d := some 78) (v := .pointer (some ⟨gw, i * 2, none⟩)) rfl (by kernel_rfl) (by kernel_rfl) (by kernel_rfl) rfl (fun _ _ _ h => h) rfl rfl ?hy (by assumption) ?_
            case hy => (intro w' hSw; (try dsimp only at hSw); go_simp <;> (try with_reducible rfl))
            simp only [Act.put, List.setIfInBounds_toArray, List.set_cons_zero, List.set_cons_succ]
            refine wpAnyE_tk (i := 9) (d := some 79) (v := .bool false) rfl (by kernel_rfl) (by kernel_rfl) (by kernel_rfl) rfl (fun _ _ _ h => h) rfl rfl ?hy (by assumption) ?_
            case hy => (intro w' hSw; (try dsimp only at hSw); go_simp <;> (try with_reducible rfl))
            simp only [Act.put, List.setIfInBounds_toArray, List.set_cons_zero, List.set_cons_succ]
            refine wpAnyE_on (i := 4) (by kernel_rfl) rfl rfl ?_
            go_simp
            refine HWH.mono ?_
            rintro e w7 ⟨rfl, rfl⟩
            refine ⟨hS, ?_⟩
            refine wpAnyE_tk (i := 10) (d := some 80) (v := ?_) rfl (by kernel_rfl) (by kernel_rfl) (by kernel_rfl) rfl (fun _ _ _ h => h) rfl rfl ?hy (by assumption) ?_
            case hy => (intro w' hSw; (try dsimp only at hSw); go_simp <;> (try with_reducible rfl))
            simp only [Act.put, List.setIfInBounds_toArray, List.set_cons_zero, List.set_cons_succ]
            refine wpAnyE_sk (i := 11) (d := some 81) rfl (by kernel_rfl) (by kernel_rfl) (by kernel_rfl) rfl (fun _ _ _ h => h) rfl rfl (by assumption) ?_
            simp only [Act.put, List.setIfInBounds_toArray, List.set_cons_zero, List.set_cons_succ]
            refine wpAnyE_sk (i := 12) (d := some 82) rfl (by kernel_rfl) (by kernel_rfl) (by kernel_rfl) rfl (fun _ _ _ h => h) rfl rfl (by assumption) ?_
            simp only [Act.put, List.setIfInBounds_toArray, List.set_cons_zero, List.set_cons_succ]
            refine wpAnyE_sk (i := 13) (d := some 83) rfl (by kernel_rfl) (by kernel_rfl) (by kernel_rfl) rfl (fun _ _ _ h => h) rfl rfl (by assumption) ?_
            simp only [Act.put, List.setIfInBounds_toArray, List.set_cons_zero, List.set_cons_succ]
            refine wpAnyE_sk (i := 14) (d := some 84) rfl (by kernel_rfl) (by kernel_rfl) (by kernel_rfl) rfl (fun _ _ _ h => h) rfl rfl (by assumption) ?_
            simp only [Act.put, List.setIfInBounds_toArray, List.set_cons_zero, List.set_cons_succ]
            refine wpAnyE_sk (i := 15) (d := some 85) rfl (by kernel_rfl) (by kernel_rfl) (by kernel_rfl) rfl (fun _ _ _ h => h) rfl rfl (by assumption) ?_
            simp only [Act.put, List.setIfInBounds_toArray, List.set_cons_zero, List.set_cons_succ]
            refine wpAnyE_sk (i := 16) (d := some 86) rfl (by kernel_rfl) (by kernel_rfl) (by kernel_rfl) rfl (fun _ _ _ h => h) rfl rfl (by assumption) ?_
            simp only [Act.put, List.setIfInBounds_toArray, List.set_cons_zero, List.set_cons_succ]
            refine wpAnyE_sk (i := 17) (d := some 87) rfl (by kernel_rfl) (by kernel_rfl) (by kernel_rfl) rfl (fun _ _ _ h => h) rfl rfl (by assumption) ?_
            simp only [Act.put, List.setIfInBounds_toArray, List.set_cons_zero, List.set_cons_succ]
            refine wpAnyE_sk (i := 18) (d := some 88) rfl (by kernel_rfl) (by kernel_rfl) (by kernel_rfl) rfl (fun _ _ _ h => h) rfl rfl (by assumption) ?_
            simp only [Act.put, List.setIfInBounds_toArray, List.set_cons_zero, List.set_cons_succ]
            refine wpAnyE_sk (i := 19) (d := some 89) rfl (by kernel_rfl) (by kernel_rfl) (by kernel_rfl) rfl (fun _ _ _ h => h) rfl rfl (by assumption) ?_
            simp only [Act.put, List.setIfInBounds_toArray, List.set_cons_zero, List.set_cons_succ]
            refine wpAnyE_sk (i := 20) (d := some 90) rfl (by kernel_rfl) (by kernel_rfl) (by kernel_rfl) rfl (fun _ _ _ h => h) rfl rfl (by assumption) ?_
            simp only [Act.put, List.setIfInBounds_toArray, List.set_cons_zero, List.set_cons_succ]
            refine wpAnyE_sk (i := 21) (d := some 91) rfl (by kernel_rfl) (by kernel_rfl) (by kernel_rfl) rfl (fun _ _ _ h => h) rfl rfl (by assumption) ?_
            simp only [Act.put, List.setIfInBounds_toArray, List.set_cons_zero, List.set_cons_succ]
            refine wpAnyE_sk (i := 22) (d := some 92) rfl (by kernel_rfl) (by kernel_rfl) (by kernel_rfl) rfl (fun _ _ _ h => h) rfl rfl (by assumption) ?_
            simp only [Act.put, List.setIfInBounds_toArray, List.set_cons_zero, List.set_cons_succ]
            refine wpAnyE_sk (i := 23) (d := some 93) rfl (by kernel_rfl) (by kernel_rfl) (by kernel_rfl) rfl (fun _ _ _ h => h) rfl rfl (by assumption) ?_
            simp only [Act.put, List.setIfInBounds_toArray, List.set_cons_zero, List.set_cons_succ]
            refine wpAnyE_tk (i := 24) (d := some 94) (v := .bool false) rfl (by kernel_rfl) (by kernel_rfl) (by kernel_rfl) rfl (fun _ _ _ h => h) rfl rfl ?hy (by assumption) ?_
            case hy => (intro w' hSw; (try dsimp only at hSw); go_simp <;> (try with_reducible rfl))
            simp only [Act.put, List.setIfInBounds_toArray, List.set_cons_zero, List.set_cons_succ]
            refine wpAnyE_tk (i := 25) (d := some 95) (v := .bool false) rfl (by kernel_rfl) (by kernel_rfl) (by kernel_rfl) rfl (fun _ _ _ h => h) rfl rfl ?hy (by assumption) ?_
            case hy => (intro w' hSw; (try dsimp only at hSw); go_simp <;> (try with_reducible rfl))
            simp only [Act.put, List.setIfInBounds_toArray, List.set_cons_zero, List.set_cons_succ]
            have HF8 : Hid (Fd w W4.drew gg gw pvs vs Cs Cs) := HF2.out.keep ((Below.refl _ _).drew)
            clear HF2 hS
            refine wpAnyE_done (by kernel_rfl) ?_ _
            go_wp2
            go_roundw
            case rel => exact ⟨k + 1, pvs, vs, Cs, by go_num, by omega, HF8, HCk⟩
            case measure => simp [intOf]; omega
          · rw [Bool.true_and] at HWH
            refine wp_region_late (fun wx => wx.cell? ⟨gg, i, none⟩ = some pv ∧ wx.cell? ⟨gw, i * 2, none⟩ = some (.bool true) ∧ wx.cell? ⟨gw, i * 2 + 1, none⟩ = some (.slice av n cv)) 26 (by kernel_rfl) hS (fun hHeld => ?_)
            refine wpAnyE_tk (i := 0) (d := some 70) (v := ?_) rfl (by kernel_rfl) (by kernel_rfl) (by kernel_rfl) rfl (fun _ _ _ h => h) rfl rfl ?hy (by assumption) ?_
            case hy => (intro w' hSw; (try dsimp only at hSw); go_simp <;> (try with_reducible rfl))
            simp only [Act.put, List.setIfInBounds_toArray, List.set_cons_zero, List.set_cons_succ]
            refine wpAnyE_tk (i := 1) (d := some 71) (v := ?_) rfl (by kernel_rfl) (by kernel_rfl) (by kernel_rfl) rfl (fun _ _ _ h => h) rfl rfl ?hy (by assumption) ?_
            case hy => (intro w' hSw; (try dsimp only at hSw); go_simp <;> (try with_reducible rfl))
            simp only [Act.put, List.setIfInBounds_toArray, List.set_cons_zero, List.set_cons_succ]
            refine wpAnyE_tk (i := 2) (d := some 72) (v := .pointer (some ⟨gg, i, none⟩)) rfl (by kernel_rfl) (by kernel_rfl) (by kernel_rfl) rfl (fun _ _ _ h => h) rfl rfl ?hy (by assumption) ?_
            case hy => (intro w' hSw; (try dsimp only at hSw); go_simp <;> (try with_reducible rfl))
            simp only [Act.put, List.setIfInBounds_toArray, List.set_cons_zero, List.set_cons_succ]
            refine wpAnyE_tk (i := 3) (d := some 73) (v := pv) rfl (by kernel_rfl) (by kernel_rfl) (by kernel_rfl) rfl (fun _ _ _ h => h) rfl rfl ?hy (by assumption) ?_
            case hy => (intro w' hSw; (try dsimp only at hSw); go_simp <;> (try with_reducible rfl))
            simp only [Act.put, List.setIfInBounds_toArray, List.set_cons_zero, List.set_cons_succ]
            refine wpAnyE_tk (i := 5) (d := some 75) (v := ?_) rfl (by kernel_rfl) (by kernel_rfl) (by kernel_rfl) rfl (fun _ _ _ h => h) rfl rfl ?hy (by assumption) ?_
            case hy => (intro w' hSw; (try dsimp only at hSw); go_simp <;> (try with_reducible rfl))
            simp only [Act.put, List.setIfInBounds_toArray, List.set_cons_zero, List.set_cons_succ]
            refine wpAnyE_tk (i := 6) (d := some 76) (v := ?_) rfl (by kernel_rfl) (by kernel_rfl) (by kernel_rfl) rfl (fun _ _ _ h => h) rfl rfl ?hy (by assumption) ?_
            case hy => (intro w' hSw; (try dsimp only at hSw); go_simp <;> (try with_reducible rfl))
            simp only [Act.put, List.setIfInBounds_toArray, List.set_cons_zero, List.set_cons_succ]
            refine wpAnyE_tk (i := 7) (d := some 77) (v := .pointer (some ⟨gw, i * 2, none⟩)) rfl (by kernel_rfl) (by kernel_rfl) (by kernel_rfl) rfl (fun _ _ _ h => h) rfl rfl ?hy (by assumption) ?_
            case hy => (intro w' hSw; (try dsimp only at hSw); go_simp <;> (try with_reducible rfl))
            simp only [Act.put, List.setIfInBounds_toArray, List.set_cons_zero, List.set_cons_succ]
            refine wpAnyE_tk (i := 8) (d := some 78) (v := .pointer (some ⟨gw, i * 2, none⟩)) rfl (by kernel_rfl) (by kernel_rfl) (by kernel_rfl) rfl (fun _ _ _ h => h) rfl rfl ?hy (by assumption) ?_
            case hy => (intro w' hSw; (try dsimp only at hSw); go_simp <;> (try with_reducible rfl))
            simp only [Act.put, List.setIfInBounds_toArray, List.set_cons_zero, List.set_cons_succ]
            refine wpAnyE_tk (i := 9) (d := some 79) (v := .bool true) rfl (by kernel_rfl) (by kernel_rfl) (by kernel_rfl) rfl (fun _ _ _ h => h) rfl rfl ?hy (by assumption) ?_
            case hy => (intro w' hSw; (try dsimp only at hSw); go_simp <;> (try with_reducible rfl))
            simp only [Act.put, List.setIfInBounds_toArray, List.set_cons_zero, List.set_cons_succ]
            refine wpAnyE_on (i := 4) (by kernel_rfl) rfl rfl ?_
            go_simp
            refine HWH.mono ?_
            rintro e w7 ⟨rfl, rfl⟩
            refine ⟨hS, ?_⟩
            refine wpAnyE_tk (i := 10) (d := some 80) (v := ?_) rfl (by kernel_rfl) (by kernel_rfl) (by kernel_rfl) rfl (fun _ _ _ h => h) rfl rfl ?hy (by assumption) ?_
            case hy => (intro w' hSw; (try dsimp only at hSw); go_simp <;> (try with_reducible rfl))
            simp only [Act.put, List.setIfInBounds_toArray, List.set_cons_zero, List.set_cons_succ]
            refine wpAnyE_tk (i := 11) (d := some 81) (v := ?_) rfl (by kernel_rfl) (by kernel_rfl) (by kernel_rfl) rfl (fun _ _ _ h => h) rfl rfl ?hy (by assumption) ?_
            case hy => (intro w' hSw; (try dsimp only at hSw); go_simp <;> (try with_reducible rfl))
            simp only [Act.put, List.setIfInBounds_toArray, List.set_cons_zero, List.set_cons_succ]
            refine wpAnyE_tk (i := 12) (d := some 82) (v := ?_) rfl (by kernel_rfl) (by kernel_rfl) (by kernel_rfl) rfl (fun _ _ _ h => h) rfl rfl ?hy (by assumption) ?_
            case hy => (intro w' hSw; (try dsimp only at hSw); go_simp <;> (try with_reducible rfl))
            simp only [Act.put, List.setIfInBounds_toArray, List.set_cons_zero, List.set_cons_succ]
            refine wpAnyE_tk (i := 13) (d := some 83) (v := .pointer (some ⟨gw, i * 2, none⟩)) rfl (by kernel_rfl) (by kernel_rfl) (by kernel_rfl) rfl (fun _ _ _ h => h) rfl rfl ?hy (by assumption) ?_
            case hy => (intro w' hSw; (try dsimp only at hSw); go_simp <;> (try with_reducible rfl))
            simp only [Act.put, List.setIfInBounds_toArray, List.set_cons_zero, List.set_cons_succ]
            refine wpAnyE_tk (i := 14) (d := some 84) (v := .pointer (some ⟨gw, i * 2 + 1, none⟩)) rfl (by kernel_rfl) (by kernel_rfl) (by kernel_rfl) rfl (fun _ _ _ h => h) rfl rfl ?hy (by assumption) ?_
            case hy => (intro w' hSw; (try dsimp only at hSw); go_simp <;> (try with_reducible rfl))
            simp only [Act.put, List.setIfInBounds_toArray, List.set_cons_zero, List.set_cons_succ]
            refine wpAnyE_tk (i := 15) (d := some 85) (v := .slice av n cv) rfl (by kernel_rfl) (by kernel_rfl) (by kernel_rfl) rfl (fun _ _ _ h => h) rfl rfl ?hy (by assumption) ?_
            case hy => (intro w' hSw; (try dsimp only at hSw); go_simp <;> (try with_reducible rfl))
            simp only [Act.put, List.setIfInBounds_toArray, List.set_cons_zero, List.set_cons_succ]
            refine wpAnyE_tk (i := 17) (d := some 87) (v := ?_) rfl (by kernel_rfl) (by kernel_rfl) (by kernel_rfl) rfl (fun _ _ _ h => h) rfl rfl ?hy (by assumption) ?_
            case hy => (intro w' hSw; (try dsimp only at hSw); go_simp <;> (try with_reducible rfl))
            simp only [Act.put, List.setIfInBounds_toArray, List.set_cons_zero, List.set_cons_succ]
            refine wpAnyE_tk (i := 18) (d := some 88) (v := ?_) rfl (by kernel_rfl) (by kernel_rfl) (by kernel_rfl) rfl (fun _ _ _ h => h) rfl rfl ?hy (by assumption) ?_
            case hy => (intro w' hSw; (try dsimp only at hSw); go_simp <;> (try with_reducible rfl))
            simp only [Act.put, List.setIfInBounds_toArray, List.set_cons_zero, List.set_cons_succ]
            refine wpAnyE_tk (i := 19) (d := some 89) (v := .pointer (some ⟨gw, i * 2, none⟩)) rfl (by kernel_rfl) (by kernel_rfl) (by kernel_rfl) rfl (fun _ _ _ h => h) rfl rfl ?hy (by assumption) ?_
            case hy => (intro w' hSw; (try dsimp only at hSw); go_simp <;> (try with_reducible rfl))
            simp only [Act.put, List.setIfInBounds_toArray, List.set_cons_zero, List.set_cons_succ]
            refine wpAnyE_tk (i := 20) (d := some 90) (v := .pointer (some ⟨gw, i * 2 + 1, none⟩)) rfl (by kernel_rfl) (by kernel_rfl) (by kernel_rfl) rfl (fun _ _ _ h => h) rfl rfl ?hy (by assumption) ?_
            case hy => (intro w' hSw; (try dsimp only at hSw); go_simp <;> (try with_reducible rfl))
            simp only [Act.put, List.setIfInBounds_toArray, List.set_cons_zero, List.set_cons_succ]
            refine wpAnyE_tk (i := 21) (d := some 91) (v := .slice av n cv) rfl (by kernel_rfl) (by kernel_rfl) (by kernel_rfl) rfl (fun _ _ _ h => h) rfl rfl ?hy (by assumption) ?_
            case hy => (intro w' hSw; (try dsimp only at hSw); go_simp <;> (try with_reducible rfl))
            simp only [Act.put, List.setIfInBounds_toArray, List.set_cons_zero, List.set_cons_succ]
            refine wpAnyE_tk (i := 22) (d := some 92) (v := .int .i64 n) rfl (by kernel_rfl) (by kernel_rfl) (by kernel_rfl) rfl (fun _ _ _ h => h) rfl rfl ?hy (by assumption) ?_
            case hy => (intro w' hSw; (try dsimp only at hSw); go_simp <;> (try with_reducible rfl))
            simp only [Act.put, List.setIfInBounds_toArray, List.set_cons_zero, List.set_cons_succ]
            refine wpAnyE_on (i := 16) (by kernel_rfl) rfl rfl ?_
            go_simp
            refine HDB.mono ?_
            rintro e w8 ⟨rfl, b8⟩
            have b8' : Below W4.heap.size W4 w8 := (Below.refl _ W4).drew.trans b8
            have HF8 : Hid (Fd w w8 gg gw pvs vs Cs Cs) := HF2.out.keep b8'
            have hS8 : w8.cell? ⟨gg, i, none⟩ = some pv ∧ w8.cell? ⟨gw, i * 2, none⟩ = some (.bool true) ∧ w8.cell? ⟨gw, i * 2 + 1, none⟩ = some (.slice av n cv) := ⟨(b8'.cell (p := ⟨gg, i, none⟩) HF2.out.got.lt).trans hS.1, (b8'.cell (p := ⟨gw, i * 2, none⟩) HF2.out.want.lt).trans hS.2.1, (b8'.cell (p := ⟨gw, i * 2 + 1, none⟩) HF2.out.want.lt).trans hS.2.2⟩
            clear b8 b8' HF2 hS hHeld
            refine ⟨hS8, ?_⟩
            refine wpAnyE_tk (i := 23) (d := some 93) (v := .bool WH) rfl (by kernel_rfl) (by kernel_rfl) (by kernel_rfl) rfl (fun _ _ _ h => h) rfl rfl ?hy (by assumption) ?_
            case hy => (intro w' hSw; (try dsimp only at hSw); go_simp <;> (try with_reducible rfl))
            simp only [Act.put, List.setIfInBounds_toArray, List.set_cons_zero, List.set_cons_succ]
            refine wpAnyE_tk (i := 24) (d := some 94) (v := .bool WH) rfl (by kernel_rfl) (by kernel_rfl) (by kernel_rfl) rfl (fun _ _ _ h => h) rfl rfl ?hy (by assumption) ?_
            case hy => (intro w' hSw; (try dsimp only at hSw); go_simp <;> (try with_reducible rfl))
            simp only [Act.put, List.setIfInBounds_toArray, List.set_cons_zero, List.set_cons_succ]
            refine wpAnyE_tk (i := 25) (d := some 95) (v := .bool false) rfl (by kernel_rfl) (by kernel_rfl) (by kernel_rfl) rfl (fun _ _ _ h => h) rfl rfl ?hy (by assumption) ?_
            case hy => (intro w' hSw; (try dsimp only at hSw); go_simp <;> (try with_reducible rfl))
            simp only [Act.put, List.setIfInBounds_toArray, List.set_cons_zero, List.set_cons_succ]
            clear hS8
            refine wpAnyE_done (by kernel_rfl) ?_ _
            go_wp2
            go_roundw
            case rel => exact ⟨k + 1, pvs, vs, Cs, by go_num, by omega, HF8, HCk⟩
            case measure => simp [intOf]; omega
        · have hk1b : (kind == 1) = false := by simp; exact hk1
          by_cases hk2 : kind = 2
          · subst hk2
            by_cases hi3 : i < 3
            · have hi3i : (i : Int) < 3 := by omega
              obtain ⟨b, pv, av, cv, n, C, D, hb5, hpv, hC, hD, hn, hncv, hnav, q0c, q1c, q2c, hgot, hown, hp0⟩ := HF2.out.at' i hi5
              have HBT3 : Hid (is5[i]? = some true) := by
                show _ = _
                match i, hi3 with
                | 0, _ => rfl
                | 1, _ => rfl
                | 2, _ => rfl
              clear hb5 hpv hC hD hn hncv hnav hgot hown hp0
              go_wp2_with fail
              refine (new_any _).mono ?_
              rintro e w5 ⟨rfl, b5, k5, s5⟩
              have HF5 : Hid (Fd w w5 gg gw pvs vs Cs Cs) := HF2.out.keep b5
              have y0 := (b5.cell (p := ⟨gg, i, none⟩) HF2.out.got.lt).trans q0c
              have y1 := (b5.cell (p := ⟨gw, i * 2, none⟩) HF2.out.want.lt).trans q1c
              have y2 := (b5.cell (p := ⟨gw, i * 2 + 1, none⟩) HF2.out.want.lt).trans q2c
              have f0 := HF5.out.got.frozen i
              have f1 := HF5.out.want.frozen (i * 2)
              have f2 := HF5.out.want.frozen (i * 2 + 1)
              have hl0 := HF5.out.got.lt
              have hl1 := HF5.out.want.lt
              have hgg2 := HF2.out.got.lt
              have hgw2 := HF2.out.want.lt
              have hsz2 := HF2.out.below.size
              have HLP : Hid (∀ j (hj : j < 5), (pvs[j]'(by have := HF5.out.lp; omega)) ≠ .pointer (some ⟨(wr.alloc (.cells #[.int .i64 2, .int .i64 who, .slice ap m cp] 58)).heap.size, 0, none⟩)) := fun j hj e => by
                have := ((HF2.out.ck j hj).2 _ e).2.2.2
                omega
              have HF6 : Hid (Fd w (((w5.setCell ⟨gg, i, none⟩ (.pointer (some ⟨(wr.alloc (.cells #[.int .i64 2, .int .i64 who, .slice ap m cp] 58)).heap.size, 0, none⟩))).setCell ⟨gw, i * 2, none⟩ (.bool true)).setCell ⟨gw, i * 2 + 1, none⟩ (.slice none 0 0)) gg gw (pvs.set i (.pointer (some ⟨(wr.alloc (.cells #[.int .i64 2, .int .i64 who, .slice ap m cp] 58)).heap.size, 0, none⟩))) (vs.set i (.slice none 0 0)) (Cs.set i []) (Cs.set i [])) :=
                (HF5.out.swap i hi3 _ k5 (by omega) (by omega) (by omega) HLP.out).store' i hi5 true HBT3.out (.slice none 0 0) [] ⟨rfl, .inl ⟨rfl, rfl⟩⟩
              have HC9 : Hid (∀ C ∈ Cs.set i [], C.length ≤ tot st (k + 1)) := fun C hC => by
                rcases mem_set hC with h | h
                · exact HCk.out C h
                · rw [h]; exact Nat.zero_le _
              have hgne : gg ≠ gw := fun e => by
                have h1 := HF5.out.got
                rw [e] at h1
                exact absurd (lies_kind h1 HF5.out.want) (by decide)
              simp only [World.size_alloc] at HF6
              clear b5 k5 s5 HF2 HF5 HLP q0c q1c q2c hgg2 hgw2 hsz2
              go_wp2
              go_roundw
              case rel => exact ⟨k + 1, _, _, _, by go_num, by omega, HF6, HC9⟩
              case measure => simp [intOf]; omega
            · have hi3i : ¬ (i : Int) < 3 := by omega
              go_wp2
              go_roundw
              case rel => exact ⟨k + 1, pvs, vs, Cs, by go_num, by omega, HF2, HCk⟩
              case measure => simp [intOf]; omega
          · have hk2b : (kind == 2) = false := by simp; exact hk2
            go_wp2
            go_roundw
            case rel => exact ⟨k + 1, pvs, vs, Cs, by go_num, by omega, HF2, HCk⟩
            case measure => simp [intOf]; omega
    · have hki : ¬ (k : Int) < (N : Int) := by omega
      have HCN : Hid (∀ C ∈ Cs, C.length ≤ 1048576) := fun C hC => by
        have h1 := HC.out C hC
        have h2 := tot_le st k
        have h3 := HTT.out
        omega
      clear HC
      go_wp2_with fail
      go_loopw [8, 9, 111] (fun _ _ jv wr => ∃ j : Nat, jv = .int .i64 j ∧ j ≤ 5 ∧ Hid (Fd w wr gg gw pvs vs Cs Cs)) (fun _ _ jv _ => 5 - (intOf jv).toNat)
      case atStart => exact ⟨0, rfl, Nat.zero_le _, HF⟩
      case round =>
        clear HF
        obtain ⟨j, rfl, hj, HF⟩ := hrel
        by_cases hj5 : j < 5
        · have hji : (j : Int) < 5 := by omega
          obtain ⟨b, pv, av, cv, n, C, D, hb5, hpv, hC, hD, hn, hncv, hnav, q0c, q1c, q2c, hgot, hown, hp0⟩ := HF.out.at' j hj5
          obtain rfl : D = C := by rw [hC] at hD; injection hD with hD; exact hD.symm
          have hnD : n ≤ 1048576 := by
            have h1 := HCN.out D (List.mem_of_getElem? hC)
            omega
          have hglt := HF.out.got.lt
          have hwlt := HF.out.want.lt
          have HB5 : Hid (is5[j]? = some b) := hb5
          have HPV : Hid (pvs[j]? = some pv) := hpv
          have HCI : Hid (Cs[j]? = some D) := hC
          have HNN : Hid (n = D.length) := hn
          have ab : Below wr.heap.size wr (wr.alloc (.cells #[.bool b, .slice av n cv] 55)) := (Below.refl _ _).alloc (Nat.le_refl _) _
          have HX : Hid (Lies (wr.alloc (.cells #[.bool b, .slice av n cv] 55)) wr.heap.size #[.bool b, .slice av n cv] 55) := Lies.new wr _ _
          have HF2 : Hid (Fd w (wr.alloc (.cells #[.bool b, .slice av n cv] 55)) gg gw pvs vs Cs Cs) := HF.out.keep ab
          have HGOT : Hid (Got (wr.alloc (.cells #[.bool b, .slice av n cv] 55)) pv b D) := hgot.below ab
          have HOW : Hid ((wr.alloc (.cells #[.bool b, .slice av n cv] 55)).ownsRow w.heap.size 5 1 (.slice av n cv) n (cellsB D)) := own_below hown ab
          have HWH := got_whole (w := (wr.alloc (.cells #[.bool b, .slice av n cv] 55)).drew) (HGOT.out.of (fun _ _ _ => rfl))
          have HDB := dbad_any av D cv (wr.alloc (.cells #[.bool b, .slice av n cv] 55)).drew (own_btsB (own_keep HOW.out (fun _ _ => rfl))) (by omega) (by omega)
          rw [← hn] at HDB
          have hwb := whole_bad D
          rw [← hn] at hwb
          obtain ⟨WH, hWH⟩ : ∃ WH, WH = wholeM (runM (some q0) D) := ⟨_, rfl⟩
          rw [← hWH] at HWH hwb
          have hbe : ((badU D : Int) == (n : Int)) = WH := by
            rw [hwb]
            by_cases h : badU D = n
            · rw [decide_eq_true h]; simp; omega
            · rw [decide_eq_false h]; simp; omega
          generalize badU D = bad at *
          have hS : (wr.alloc (.cells #[.bool b, .slice av n cv] 55)).cell? ⟨gg, j, none⟩ = some pv ∧ (wr.alloc (.cells #[.bool b, .slice av n cv] 55)).cell? ⟨wr.heap.size, 0, none⟩ = some (.bool b) ∧ (wr.alloc (.cells #[.bool b, .slice av n cv] 55)).cell? ⟨wr.heap.size, 1, none⟩ = some (.slice av n cv) := ⟨(ab.cell (p := ⟨gg, j, none⟩) hglt).trans q0c, HX.out.cell 0, HX.out.cell 1⟩
          clear hb5 hpv hC hD hn hgot hp0 hnav hown hwb hWH ab HF
          go_wp2_with fail
          generalize wr.heap.size = gv at *
          generalize wr.alloc (.cells #[.bool b, .slice av n cv] 55) = W4 at *
          clear q0c q1c q2c hglt hwlt
          cases b
          · rw [Bool.false_and] at HWH
            refine wp_region_late (fun wx => wx.cell? ⟨gg, j, none⟩ = some pv ∧ wx.cell? ⟨gv, 0, none⟩ = some (.bool false) ∧ wx.cell? ⟨gv, 1, none⟩ = some (.slice av n cv)) 32 (by kernel_rfl) hS (fun hHeld => ?_)
            refine wpAnyE_tk (i := 0) (d := some 116) (v := ?_) rfl (by kernel_rfl) (by kernel_rfl) (by kernel_rfl) rfl (fun _ _ _ h => h) rfl rfl ?hy (by assumption) ?_
            case hy => (intro w' hSw; (try dsimp only at hSw); go_simp <;> (try with_reducible rfl))
            simp only [Act.put, List.setIfInBounds_toArray, List.set_cons_zero, List.set_cons_succ]
            refine wpAnyE_tk (i := 1) (d := some 117) (v := ?_) rfl (by kernel_rfl) (by kernel_rfl) (by kernel_rfl) rfl (fun _ _ _ h => h) rfl rfl ?hy (by assumption) ?_
            case hy => (intro w' hSw; (try dsimp only at hSw); go_simp <;> (try with_reducible rfl))
            simp only [Act.put, List.setIfInBounds_toArray, List.set_cons_zero, List.set_cons_succ]
            refine wpAnyE_tk (i := 2) (d := some 118) (v := .pointer (some ⟨gg, j, none⟩)) rfl (by kernel_rfl) (by kernel_rfl) (by kernel_rfl) rfl (fun _ _ _ h => h) rfl rfl ?hy (by assumption) ?_
            case hy => (intro w' hSw; (try dsimp only at hSw); go_simp <;> (try with_reducible rfl))
            simp only [Act.put, List.setIfInBounds_toArray, List.set_cons_zero, List.set_cons_succ]
            refine wpAnyE_tk (i := 3) (d := some 119) (v := pv) rfl (by kernel_rfl) (by kernel_rfl) (by kernel_rfl) rfl (fun _ _ _ h => h) rfl rfl ?hy (by assumption) ?_
            case hy => (intro w' hSw; (try dsimp only at hSw); go_simp <;> (try with_reducible rfl))
            simp only [Act.put, List.setIfInBounds_toArray, List.set_cons_zero, List.set_cons_succ]
            refine wpAnyE_tk (i := 5) (d := some 121) (v := ?_) rfl (by kernel_rfl) (by kernel_rfl) (by kernel_rfl) rfl (fun _ _ _ h => h) rfl rfl ?hy (by assumption) ?_
            case hy => (intro w' hSw; (try dsimp only at hSw); go_simp <;> (try with_reducible rfl))
            simp only [Act.put, List.setIfInBounds_toArray, List.set_cons_zero, List.set_cons_succ]
            refine wpAnyE_tk (i := 6) (d := some 122) (v := .bool false) rfl (by kernel_rfl) (by kernel_rfl) (by kernel_rfl) rfl (fun _ _ _ h => h) rfl rfl ?hy (by assumption) ?_
            case hy => (intro w' hSw; (try dsimp only at hSw); go_simp <;> (try with_reducible rfl))
            simp only [Act.put, List.setIfInBounds_toArray, List.set_cons_zero, List.set_cons_succ]
            refine wpAnyE_on (i := 4) (by kernel_rfl) rfl rfl ?_
            go_simp
            refine HWH.mono ?_
            rintro e w7 ⟨rfl, rfl⟩
            refine ⟨hS, ?_⟩
            refine wpAnyE_tk (i := 7) (d := some 123) (v := ?_) rfl (by kernel_rfl) (by kernel_rfl) (by kernel_rfl) rfl (fun _ _ _ h => h) rfl rfl ?hy (by assumption) ?_
            case hy => (intro w' hSw; (try dsimp only at hSw); go_simp <;> (try with_reducible rfl))
            simp only [Act.put, List.setIfInBounds_toArray, List.set_cons_zero, List.set_cons_succ]
            refine wpAnyE_sk (i := 8) (d := some 124) rfl (by kernel_rfl) (by kernel_rfl) (by kernel_rfl) rfl (fun _ _ _ h => h) rfl rfl (by assumption) ?_
            simp only [Act.put, List.setIfInBounds_toArray, List.set_cons_zero, List.set_cons_succ]
            refine wpAnyE_sk (i := 9) (d := some 125) rfl (by kernel_rfl) (by kernel_rfl) (by kernel_rfl) rfl (fun _ _ _ h => h) rfl rfl (by assumption) ?_
            simp only [Act.put, List.setIfInBounds_toArray, List.set_cons_zero, List.set_cons_succ]
            refine wpAnyE_sk (i := 10) (d := some 126) rfl (by kernel_rfl) (by kernel_rfl) (by kernel_rfl) rfl (fun _ _ _ h => h) rfl rfl (by assumption) ?_
            simp only [Act.put, List.setIfInBounds_toArray, List.set_cons_zero, List.set_cons_succ]
            refine wpAnyE_sk (i := 11) (d := some 127) rfl (by kernel_rfl) (by kernel_rfl) (by kernel_rfl) rfl (fun _ _ _ h => h) rfl rfl (by assumption) ?_
            simp only [Act.put, List.setIfInBounds_toArray, List.set_cons_zero, List.set_cons_succ]
            refine wpAnyE_sk (i := 12) (d := some 128) rfl (by kernel_rfl) (by kernel_rfl) (by kernel_rfl) rfl (fun _ _ _ h => h) rfl rfl (by assumption) ?_
            simp only [Act.put, List.setIfInBounds_toArray, List.set_cons_zero, List.set_cons_succ]
            refine wpAnyE_sk (i := 13) (d := some 129) rfl (by kernel_rfl) (by kernel_rfl) (by kernel_rfl) rfl (fun _ _ _ h => h) rfl rfl (by assumption) ?_
            simp only [Act.put, List.setIfInBounds_toArray, List.set_cons_zero, List.set_cons_succ]
            refine wpAnyE_sk (i := 14) (d := some 130) rfl (by kernel_rfl) (by kernel_rfl) (by kernel_rfl) rfl (fun _ _ _ h => h) rfl rfl (by assumption) ?_
            simp only [Act.put, List.setIfInBounds_toArray, List.set_cons_zero, List.set_cons_succ]
            refine wpAnyE_tk (i := 15) (d := some 131) (v := .bool false) rfl (by kernel_rfl) (by kernel_rfl) (by kernel_rfl) rfl (fun _ _ _ h => h) rfl rfl ?hy (by assumption) ?_
            case hy => (intro w' hSw; (try dsimp only at hSw); go_simp <;> (try with_reducible rfl))
            simp only [Act.put, List.setIfInBounds_toArray, List.set_cons_zero, List.set_cons_succ]
            refine wpAnyE_tk (i := 16) (d := some 132) (v := .bool false) rfl (by kernel_rfl) (by kernel_rfl) (by kernel_rfl) rfl (fun _ _ _ h => h) rfl rfl ?hy (by assumption) ?_
            case hy => (intro w' hSw; (try dsimp only at hSw); go_simp <;> (try with_reducible rfl))
            simp only [Act.put, List.setIfInBounds_toArray, List.set_cons_zero, List.set_cons_succ]
            refine wpAnyE_tk (i := 17) (d := some 133) (v := ?_) rfl (by kernel_rfl) (by kernel_rfl) (by kernel_rfl) rfl (fun _ _ _ h => h) rfl rfl ?hy (by assumption) ?_
            case hy => (intro w' hSw; (try dsimp only at hSw); go_simp <;> (try with_reducible rfl))
            simp only [Act.put, List.setIfInBounds_toArray, List.set_cons_zero, List.set_cons_succ]
            have HF8 : Hid (Fd w W4.drew gg gw pvs vs Cs Cs) := HF2.out.keep ((Below.refl _ _).drew)
            have HX8 : Hid (Lies W4.drew gv #[.bool false, .slice av n cv] 55) := HX.out
            have HG8 : Hid (Got W4.drew pv false D) := HGOT.out.of (fun _ _ _ => rfl)
            have HO8 : Hid (W4.drew.ownsRow w.heap.size 5 1 (.slice av n cv) n (cellsB D)) := own_keep HOW.out (fun _ _ => rfl)
            have hS8 : W4.drew.cell? ⟨gg, j, none⟩ = some pv ∧ W4.drew.cell? ⟨gv, 0, none⟩ = some (.bool false) ∧ W4.drew.cell? ⟨gv, 1, none⟩ = some (.slice av n cv) := hS
            clear HF2 HX HGOT HOW
            generalize W4.drew = w8 at *
            refine wpAnyE_tk (i := 18) (d := some 134) (v := ?_) rfl (by kernel_rfl) (by kernel_rfl) (by kernel_rfl) rfl (fun _ _ _ h => h) rfl rfl ?hy (by assumption) ?_
            case hy => (intro w' hSw; (try dsimp only at hSw); go_simp <;> (try with_reducible rfl))
            simp only [Act.put, List.setIfInBounds_toArray, List.set_cons_zero, List.set_cons_succ]
            refine wpAnyE_tk (i := 19) (d := some 135) (v := ?_) rfl (by kernel_rfl) (by kernel_rfl) (by kernel_rfl) rfl (fun _ _ _ h => h) rfl rfl ?hy (by assumption) ?_
            case hy => (intro w' hSw; (try dsimp only at hSw); go_simp <;> (try with_reducible rfl))
            simp only [Act.put, List.setIfInBounds_toArray, List.set_cons_zero, List.set_cons_succ]
            refine wpAnyE_tk (i := 20) (d := some 136) (v := .pointer (some ⟨gg, j, none⟩)) rfl (by kernel_rfl) (by kernel_rfl) (by kernel_rfl) rfl (fun _ _ _ h => h) rfl rfl ?hy (by assumption) ?_
            case hy => (intro w' hSw; (try dsimp only at hSw); go_simp <;> (try with_reducible rfl))
            simp only [Act.put, List.setIfInBounds_toArray, List.set_cons_zero, List.set_cons_succ]
            refine wpAnyE_tk (i := 21) (d := some 137) (v := pv) rfl (by kernel_rfl) (by kernel_rfl) (by kernel_rfl) rfl (fun _ _ _ h => h) rfl rfl ?hy (by assumption) ?_
            case hy => (intro w' hSw; (try dsimp only at hSw); go_simp <;> (try with_reducible rfl))
            simp only [Act.put, List.setIfInBounds_toArray, List.set_cons_zero, List.set_cons_succ]
            refine wpAnyE_tk (i := 23) (d := some 139) (v := ?_) rfl (by kernel_rfl) (by kernel_rfl) (by kernel_rfl) rfl (fun _ _ _ h => h) rfl rfl ?hy (by assumption) ?_
            case hy => (intro w' hSw; (try dsimp only at hSw); go_simp <;> (try with_reducible rfl))
            simp only [Act.put, List.setIfInBounds_toArray, List.set_cons_zero, List.set_cons_succ]
            refine wpAnyE_tk (i := 24) (d := some 140) (v := .bool false) rfl (by kernel_rfl) (by kernel_rfl) (by kernel_rfl) rfl (fun _ _ _ h => h) rfl rfl ?hy (by assumption) ?_
            case hy => (intro w' hSw; (try dsimp only at hSw); go_simp <;> (try with_reducible rfl))
            simp only [Act.put, List.setIfInBounds_toArray, List.set_cons_zero, List.set_cons_succ]
            have HFE := got_feed HG8.out none [] 0 0 rfl ((HT.out.below HF8.out.below (Nat.le_refl _)).fst) (.inl rfl) (fun h => absurd rfl h) (by omega)
            rw [List.append_nil, Bool.false_and] at HFE
            refine wpAnyE_on (i := 22) (by kernel_rfl) rfl rfl ?_
            go_simp
            refine HFE.mono ?_
            rintro e w9 ⟨rfl, hg9, hb9⟩
            have HF9 : Hid (Fd w w9 gg gw pvs vs Cs Cs) := by
              have := HF8.out.fed' j hj5 false HB5.out pv HPV.out D hg9 hb9
              rw [set_self Cs j D HCI.out] at this
              exact this
            have HX9 : Hid (Lies w9 gv #[.bool false, .slice av n cv] 55) := got_lies HG8.out hb9 HX8.out (by decide)
            have HBD9 : Hid (Bts av D w9) := own_btsB (got_own HG8.out hb9 HO8.out)
            obtain ⟨-, hz8, -, -⟩ := HF8.out.other hj5 HPV.out hb9
            have hS9 : w9.cell? ⟨gg, j, none⟩ = some pv ∧ w9.cell? ⟨gv, 0, none⟩ = some (.bool false) ∧ w9.cell? ⟨gv, 1, none⟩ = some (.slice av n cv) := ⟨(World.cell?_of_block (a := ⟨gg, j, none⟩) hz8).trans hS8.1, HX9.out.cell 0, HX9.out.cell 1⟩
            clear hg9 hb9 hz8 HFE HF8 HX8 HG8 HO8 hS8
            refine ⟨hS9, ?_⟩
            refine wpAnyE_tk (i := 25) (d := some 141) (v := ?_) rfl (by kernel_rfl) (by kernel_rfl) (by kernel_rfl) rfl (fun _ _ _ h => h) rfl rfl ?hy (by assumption) ?_
            case hy => (intro w' hSw; (try dsimp only at hSw); go_simp <;> (try with_reducible rfl))
            simp only [Act.put, List.setIfInBounds_toArray, List.set_cons_zero, List.set_cons_succ]
            refine wpAnyE_sk (i := 26) (d := some 142) rfl (by kernel_rfl) (by kernel_rfl) (by kernel_rfl) rfl (fun _ _ _ h => h) rfl rfl (by assumption) ?_
            simp only [Act.put, List.setIfInBounds_toArray, List.set_cons_zero, List.set_cons_succ]
            refine wpAnyE_sk (i := 27) (d := some 143) rfl (by kernel_rfl) (by kernel_rfl) (by kernel_rfl) rfl (fun _ _ _ h => h) rfl rfl (by assumption) ?_
            simp only [Act.put, List.setIfInBounds_toArray, List.set_cons_zero, List.set_cons_succ]
            refine wpAnyE_sk (i := 28) (d := some 144) rfl (by kernel_rfl) (by kernel_rfl) (by kernel_rfl) rfl (fun _ _ _ h => h) rfl rfl (by assumption) ?_
            simp only [Act.put, List.setIfInBounds_toArray, List.set_cons_zero, List.set_cons_succ]
            refine wpAnyE_tk (i := 29) (d := some 145) (v := .bool false) rfl (by kernel_rfl) (by kernel_rfl) (by kernel_rfl) rfl (fun _ _ _ h => h) rfl rfl ?hy (by assumption) ?_
            case hy => (intro w' hSw; (try dsimp only at hSw); go_simp <;> (try with_reducible rfl))
            simp only [Act.put, List.setIfInBounds_toArray, List.set_cons_zero, List.set_cons_succ]
            refine wpAnyE_tk (i := 30) (d := some 146) (v := .bool false) rfl (by kernel_rfl) (by kernel_rfl) (by kernel_rfl) rfl (fun _ _ _ h => h) rfl rfl ?hy (by assumption) ?_
            case hy => (intro w' hSw; (try dsimp only at hSw); go_simp <;> (try with_reducible rfl))
            simp only [Act.put, List.setIfInBounds_toArray, List.set_cons_zero, List.set_cons_succ]
            refine wpAnyE_tk (i := 31) (d := some 147) (v := .bool false) rfl (by kernel_rfl) (by kernel_rfl) (by kernel_rfl) rfl (fun _ _ _ h => h) rfl rfl ?hy (by assumption) ?_
            case hy => (intro w' hSw; (try dsimp only at hSw); go_simp <;> (try with_reducible rfl))
            simp only [Act.put, List.setIfInBounds_toArray, List.set_cons_zero, List.set_cons_succ]
            have HF10 : Hid (Fd w w9 gg gw pvs vs Cs Cs) := HF9.out
            clear hS9 HF9
            refine wpAnyE_done (by kernel_rfl) ?_ _
            go_wp2
            go_roundw
            case rel => exact ⟨j + 1, by go_num, by omega, HF10⟩
            case measure => simp [intOf]; omega
          · rw [Bool.true_and] at HWH
            refine wp_region_late (fun wx => wx.cell? ⟨gg, j, none⟩ = some pv ∧ wx.cell? ⟨gv, 0, none⟩ = some (.bool true) ∧ wx.cell? ⟨gv, 1, none⟩ = some (.slice av n cv)) 32 (by kernel_rfl) hS (fun hHeld => ?_)
            refine wpAnyE_tk (i := 0) (d := some 116) (v := ?_) rfl (by kernel_rfl) (by kernel_rfl) (by kernel_rfl) rfl (fun _ _ _ h => h) rfl rfl ?hy (by assumption) ?_
            case hy => (intro w' hSw; (try dsimp only at hSw); go_simp <;> (try with_reducible rfl))
            simp only [Act.put, List.setIfInBounds_toArray, List.set_cons_zero, List.set_cons_succ]
            refine wpAnyE_tk (i := 1) (d := some 117) (v := ?_) rfl (by kernel_rfl) (by kernel_rfl) (by kernel_rfl) rfl (fun _ _ _ h => h) rfl rfl ?hy (by assumption) ?_
            case hy => (intro w' hSw; (try dsimp only at hSw); go_simp <;> (try with_reducible rfl))
            simp only [Act.put, List.setIfInBounds_toArray, List.set_cons_zero, List.set_cons_succ]
            refine wpAnyE_tk (i := 2) (d := some 118) (v := .pointer (some ⟨gg, j, none⟩)) rfl (by kernel_rfl) (by kernel_rfl) (by kernel_rfl) rfl (fun _ _ _ h => h) rfl rfl ?hy (by assumption) ?_
            case hy => (intro w' hSw; (try dsimp only at hSw); go_simp <;> (try with_reducible rfl))
            simp only [Act.put, List.setIfInBounds_toArray, List.set_cons_zero, List.set_cons_succ]
            refine wpAnyE_tk (i := 3) (d := some 119) (v := pv) rfl (by kernel_rfl) (by kernel_rfl) (by kernel_rfl) rfl (fun _ _ _ h => h) rfl rfl ?hy (by assumption) ?_
            case hy => (intro w' hSw; (try dsimp only at hSw); go_simp <;> (try with_reducible rfl))
            simp only [Act.put, List.setIfInBounds_toArray, List.set_cons_zero, List.set_cons_succ]
            refine wpAnyE_tk (i := 5) (d := some 121) (v := ?_) rfl (by kernel_rfl) (by kernel_rfl) (by kernel_rfl) rfl (fun _ _ _ h => h) rfl rfl ?hy (by assumption) ?_
            case hy => (intro w' hSw; (try dsimp only at hSw); go_simp <;> (try with_reducible rfl))
            simp only [Act.put, List.setIfInBounds_toArray, List.set_cons_zero, List.set_cons_succ]
            refine wpAnyE_tk (i := 6) (d := some 122) (v := .bool true) rfl (by kernel_rfl) (by kernel_rfl) (by kernel_rfl) rfl (fun _ _ _ h => h) rfl rfl ?hy (by assumption) ?_
            case hy => (intro w' hSw; (try dsimp only at hSw); go_simp <;> (try with_reducible rfl))
            simp only [Act.put, List.setIfInBounds_toArray, List.set_cons_zero, List.set_cons_succ]
            refine wpAnyE_on (i := 4) (by kernel_rfl) rfl rfl ?_
            go_simp
            refine HWH.mono ?_
            rintro e w7 ⟨rfl, rfl⟩
            refine ⟨hS, ?_⟩
            refine wpAnyE_tk (i := 7) (d := some 123) (v := ?_) rfl (by kernel_rfl) (by kernel_rfl) (by kernel_rfl) rfl (fun _ _ _ h => h) rfl rfl ?hy (by assumption) ?_
            case hy => (intro w' hSw; (try dsimp only at hSw); go_simp <;> (try with_reducible rfl))
            simp only [Act.put, List.setIfInBounds_toArray, List.set_cons_zero, List.set_cons_succ]
            refine wpAnyE_tk (i := 8) (d := some 124) (v := ?_) rfl (by kernel_rfl) (by kernel_rfl) (by kernel_rfl) rfl (fun _ _ _ h => h) rfl rfl ?hy (by assumption) ?_
            case hy => (intro w' hSw; (try dsimp only at hSw); go_simp <;> (try with_reducible rfl))
            simp only [Act.put, List.setIfInBounds_toArray, List.set_cons_zero, List.set_cons_succ]
            refine wpAnyE_tk (i := 9) (d := some 125) (v := .slice av n cv) rfl (by kernel_rfl) (by kernel_rfl) (by kernel_rfl) rfl (fun _ _ _ h => h) rfl rfl ?hy (by assumption) ?_
            case hy => (intro w' hSw; (try dsimp only at hSw); go_simp <;> (try with_reducible rfl))
            simp only [Act.put, List.setIfInBounds_toArray, List.set_cons_zero, List.set_cons_succ]
            refine wpAnyE_tk (i := 11) (d := some 127) (v := ?_) rfl (by kernel_rfl) (by kernel_rfl) (by kernel_rfl) rfl (fun _ _ _ h => h) rfl rfl ?hy (by assumption) ?_
            case hy => (intro w' hSw; (try dsimp only at hSw); go_simp <;> (try with_reducible rfl))
            simp only [Act.put, List.setIfInBounds_toArray, List.set_cons_zero, List.set_cons_succ]
            refine wpAnyE_tk (i := 12) (d := some 128) (v := .slice av n cv) rfl (by kernel_rfl) (by kernel_rfl) (by kernel_rfl) rfl (fun _ _ _ h => h) rfl rfl ?hy (by assumption) ?_
            case hy => (intro w' hSw; (try dsimp only at hSw); go_simp <;> (try with_reducible rfl))
            simp only [Act.put, List.setIfInBounds_toArray, List.set_cons_zero, List.set_cons_succ]
            refine wpAnyE_tk (i := 13) (d := some 129) (v := .int .i64 n) rfl (by kernel_rfl) (by kernel_rfl) (by kernel_rfl) rfl (fun _ _ _ h => h) rfl rfl ?hy (by assumption) ?_
            case hy => (intro w' hSw; (try dsimp only at hSw); go_simp <;> (try with_reducible rfl))
            simp only [Act.put, List.setIfInBounds_toArray, List.set_cons_zero, List.set_cons_succ]
            refine wpAnyE_on (i := 10) (by kernel_rfl) rfl rfl ?_
            go_simp
            refine HDB.mono ?_
            rintro e w8 ⟨rfl, b8⟩
            have b8' : Below W4.heap.size W4 w8 := (Below.refl _ W4).drew.trans b8
            have HF8 : Hid (Fd w w8 gg gw pvs vs Cs Cs) := HF2.out.keep b8'
            have HX8 : Hid (Lies w8 gv #[.bool true, .slice av n cv] 55) := HX.out.below b8' HX.out.lt
            have HG8 : Hid (Got w8 pv true D) := HGOT.out.below b8'
            have HO8 : Hid (w8.ownsRow w.heap.size 5 1 (.slice av n cv) n (cellsB D)) := own_below HOW.out b8'
            have hS8 : w8.cell? ⟨gg, j, none⟩ = some pv ∧ w8.cell? ⟨gv, 0, none⟩ = some (.bool true) ∧ w8.cell? ⟨gv, 1, none⟩ = some (.slice av n cv) := ⟨(b8'.cell (p := ⟨gg, j, none⟩) HF2.out.got.lt).trans hS.1, HX8.out.cell 0, HX8.out.cell 1⟩
            clear b8 b8' HF2 hS hHeld HX HGOT HOW
            refine ⟨hS8, ?_⟩
            refine wpAnyE_tk (i := 14) (d := some 130) (v := .bool WH) rfl (by kernel_rfl) (by kernel_rfl) (by kernel_rfl) rfl (fun _ _ _ h => h) rfl rfl ?hy (by assumption) ?_
            case hy => (intro w' hSw; (try dsimp only at hSw); go_simp <;> (try with_reducible rfl))
            simp only [Act.put, List.setIfInBounds_toArray, List.set_cons_zero, List.set_cons_succ]
            refine wpAnyE_tk (i := 15) (d := some 131) (v := .bool WH) rfl (by kernel_rfl) (by kernel_rfl) (by kernel_rfl) rfl (fun _ _ _ h => h) rfl rfl ?hy (by assumption) ?_
            case hy => (intro w' hSw; (try dsimp only at hSw); go_simp <;> (try with_reducible rfl))
            simp only [Act.put, List.setIfInBounds_toArray, List.set_cons_zero, List.set_cons_succ]
            refine wpAnyE_tk (i := 16) (d := some 132) (v := .bool false) rfl (by kernel_rfl) (by kernel_rfl) (by kernel_rfl) rfl (fun _ _ _ h => h) rfl rfl ?hy (by assumption) ?_
            case hy => (intro w' hSw; (try dsimp only at hSw); go_simp <;> (try with_reducible rfl))
            simp only [Act.put, List.setIfInBounds_toArray, List.set_cons_zero, List.set_cons_succ]
            refine wpAnyE_tk (i := 17) (d := some 133) (v := ?_) rfl (by kernel_rfl) (by kernel_rfl) (by kernel_rfl) rfl (fun _ _ _ h => h) rfl rfl ?hy (by assumption) ?_
            case hy => (intro w' hSw; (try dsimp only at hSw); go_simp <;> (try with_reducible rfl))
            simp only [Act.put, List.setIfInBounds_toArray, List.set_cons_zero, List.set_cons_succ]
            refine wpAnyE_tk (i := 18) (d := some 134) (v := ?_) rfl (by kernel_rfl) (by kernel_rfl) (by kernel_rfl) rfl (fun _ _ _ h => h) rfl rfl ?hy (by assumption) ?_
            case hy => (intro w' hSw; (try dsimp only at hSw); go_simp <;> (try with_reducible rfl))
            simp only [Act.put, List.setIfInBounds_toArray, List.set_cons_zero, List.set_cons_succ]
            refine wpAnyE_tk (i := 19) (d := some 135) (v := ?_) rfl (by kernel_rfl) (by kernel_rfl) (by kernel_rfl) rfl (fun _ _ _ h => h) rfl rfl ?hy (by assumption) ?_
            case hy => (intro w' hSw; (try dsimp only at hSw); go_simp <;> (try with_reducible rfl))
            simp only [Act.put, List.setIfInBounds_toArray, List.set_cons_zero, List.set_cons_succ]
            refine wpAnyE_tk (i := 20) (d := some 136) (v := .pointer (some ⟨gg, j, none⟩)) rfl (by kernel_rfl) (by kernel_rfl) (by kernel_rfl) rfl (fun _ _ _ h => h) rfl rfl ?hy (by assumption) ?_
            case hy => (intro w' hSw; (try dsimp only at hSw); go_simp <;> (try with_reducible rfl))
            simp only [Act.put, List.setIfInBounds_toArray, List.set_cons_zero, List.set_cons_succ]
            refine wpAnyE_tk (i := 21) (d := some 137) (v := pv) rfl (by kernel_rfl) (by kernel_rfl) (by kernel_rfl) rfl (fun _ _ _ h => h) rfl rfl ?hy (by assumption) ?_
            case hy => (intro w' hSw; (try dsimp only at hSw); go_simp <;> (try with_reducible rfl))
            simp only [Act.put, List.setIfInBounds_toArray, List.set_cons_zero, List.set_cons_succ]
            refine wpAnyE_tk (i := 23) (d := some 139) (v := ?_) rfl (by kernel_rfl) (by kernel_rfl) (by kernel_rfl) rfl (fun _ _ _ h => h) rfl rfl ?hy (by assumption) ?_
            case hy => (intro w' hSw; (try dsimp only at hSw); go_simp <;> (try with_reducible rfl))
            simp only [Act.put, List.setIfInBounds_toArray, List.set_cons_zero, List.set_cons_succ]
            refine wpAnyE_tk (i := 24) (d := some 140) (v := .bool true) rfl (by kernel_rfl) (by kernel_rfl) (by kernel_rfl) rfl (fun _ _ _ h => h) rfl rfl ?hy (by assumption) ?_
            case hy => (intro w' hSw; (try dsimp only at hSw); go_simp <;> (try with_reducible rfl))
            simp only [Act.put, List.setIfInBounds_toArray, List.set_cons_zero, List.set_cons_succ]
            have HFE := got_feed HG8.out none [] 0 0 rfl ((HT.out.below HF8.out.below (Nat.le_refl _)).fst) (.inl rfl) (fun h => absurd rfl h) (by omega)
            rw [List.append_nil, Bool.true_and] at HFE
            refine wpAnyE_on (i := 22) (by kernel_rfl) rfl rfl ?_
            go_simp
            refine HFE.mono ?_
            rintro e w9 ⟨rfl, hg9, hb9⟩
            have HF9 : Hid (Fd w w9 gg gw pvs vs Cs Cs) := by
              have := HF8.out.fed' j hj5 true HB5.out pv HPV.out D hg9 hb9
              rw [set_self Cs j D HCI.out] at this
              exact this
            have HX9 : Hid (Lies w9 gv #[.bool true, .slice av n cv] 55) := got_lies HG8.out hb9 HX8.out (by decide)
            have HBD9 : Hid (Bts av D w9) := own_btsB (got_own HG8.out hb9 HO8.out)
            obtain ⟨-, hz8, -, -⟩ := HF8.out.other hj5 HPV.out hb9
            have hS9 : w9.cell? ⟨gg, j, none⟩ = some pv ∧ w9.cell? ⟨gv, 0, none⟩ = some (.bool true) ∧ w9.cell? ⟨gv, 1, none⟩ = some (.slice av n cv) := ⟨(World.cell?_of_block (a := ⟨gg, j, none⟩) hz8).trans hS8.1, HX9.out.cell 0, HX9.out.cell 1⟩
            clear hg9 hb9 hz8 HFE HF8 HX8 HG8 HO8 hS8
            refine ⟨hS9, ?_⟩
            refine wpAnyE_tk (i := 25) (d := some 141) (v := ?_) rfl (by kernel_rfl) (by kernel_rfl) (by kernel_rfl) rfl (fun _ _ _ h => h) rfl rfl ?hy (by assumption) ?_
            case hy => (intro w' hSw; (try dsimp only at hSw); go_simp <;> (try with_reducible rfl))
            simp only [Act.put, List.setIfInBounds_toArray, List.set_cons_zero, List.set_cons_succ]
            refine wpAnyE_tk (i := 26) (d := some 142) (v := ?_) rfl (by kernel_rfl) (by kernel_rfl) (by kernel_rfl) rfl (fun _ _ _ h => h) rfl rfl ?hy (by assumption) ?_
            case hy => (intro w' hSw; (try dsimp only at hSw); go_simp <;> (try with_reducible rfl))
            simp only [Act.put, List.setIfInBounds_toArray, List.set_cons_zero, List.set_cons_succ]
            refine wpAnyE_tk (i := 27) (d := some 143) (v := .slice av n cv) rfl (by kernel_rfl) (by kernel_rfl) (by kernel_rfl) rfl (fun _ _ _ h => h) rfl rfl ?hy (by assumption) ?_
            case hy => (intro w' hSw; (try dsimp only at hSw); go_simp <;> (try with_reducible rfl))
            simp only [Act.put, List.setIfInBounds_toArray, List.set_cons_zero, List.set_cons_succ]
            have HBG := dbegins_any av D cv n HNN.out w9 HBD9.out hncv (by omega)
            generalize okM (runM (some q0) D) = OK at *
            refine wpAnyE_on (i := 28) (by kernel_rfl) rfl rfl ?_
            go_simp
            refine HBG.mono ?_
            rintro e w10 ⟨rfl, b10⟩
            have HF10 : Hid (Fd w w10 gg gw pvs vs Cs Cs) := HF9.out.keep b10
            have hx10 := HX9.out.below b10 HX9.out.lt
            have hS10 : w10.cell? ⟨gg, j, none⟩ = some pv ∧ w10.cell? ⟨gv, 0, none⟩ = some (.bool true) ∧ w10.cell? ⟨gv, 1, none⟩ = some (.slice av n cv) := ⟨(b10.cell (p := ⟨gg, j, none⟩) HF9.out.got.lt).trans hS9.1, hx10.cell 0, hx10.cell 1⟩
            clear b10 HBG HF9 HX9 hx10 hS9
            refine ⟨hS10, ?_⟩
            refine wpAnyE_tk (i := 29) (d := some 145) (v := .bool OK) rfl (by kernel_rfl) (by kernel_rfl) (by kernel_rfl) rfl (fun _ _ _ h => h) rfl rfl ?hy (by assumption) ?_
            case hy => (intro w' hSw; (try dsimp only at hSw); go_simp <;> (try with_reducible rfl))
            simp only [Act.put, List.setIfInBounds_toArray, List.set_cons_zero, List.set_cons_succ]
            refine wpAnyE_tk (i := 30) (d := some 146) (v := .bool false) rfl (by kernel_rfl) (by kernel_rfl) (by kernel_rfl) rfl (fun _ _ _ h => h) rfl rfl ?hy (by assumption) ?_
            case hy => (intro w' hSw; (try dsimp only at hSw); go_simp <;> (try with_reducible rfl))
            simp only [Act.put, List.setIfInBounds_toArray, List.set_cons_zero, List.set_cons_succ]
            refine wpAnyE_tk (i := 31) (d := some 147) (v := .bool false) rfl (by kernel_rfl) (by kernel_rfl) (by kernel_rfl) rfl (fun _ _ _ h => h) rfl rfl ?hy (by assumption) ?_
            case hy => (intro w' hSw; (try dsimp only at hSw); go_simp <;> (try with_reducible rfl))
            simp only [Act.put, List.setIfInBounds_toArray, List.set_cons_zero, List.set_cons_succ]
            clear hS10
            refine wpAnyE_done (by kernel_rfl) ?_ _
            go_wp2
            go_roundw
            case rel => exact ⟨j + 1, by go_num, by omega, HF10⟩
            case measure => simp [intOf]; omega
        · have hji : ¬ (j : Int) < 5 := by omega
          have HWK := wakes_any wr (HT.out.below HF.out.below (Nat.le_refl _))
          go_wp2_with fail
          refine HWK.mono ?_
          rintro e w15 ⟨rfl, b15⟩
          have HB15 : Hid (Below w.heap.size w w15) := HF.out.below.trans (b15.mono HF.out.below.size)
          clear b15 HF HWK
          go_wp2
          go_ret
          exact ⟨rfl, HB15.out⟩

set_option maxRecDepth 100000 in
theorem contract (H : Type) (enc : TypeId × Value → H) (W : World) (base : Nat) (args : Array Value) (ds gs : List (DataW H)) (before : List MemPlace)
    (hval : ∀ (j : Nat) t v, Tryd.f6.params[j]? = some t → args[j]? = some v → Value.okWide Tryd.prog W .any base t v)
    (hW : DataW.Whole enc Tryd.prog Tryd.f6.params.toList Rows.runesFeedsSpec.vars false W args.toList ds gs before)
    (hsz : (DataW.weightsEach Tryd.prog (Tryd.f6.params.toList ++ (Rows.OpenSpec.upto Rows.runesFeedsSpec).bare.plain.varTypes Tryd.prog) (ds ++ gs)).all (· ≤ reachBytes) = true)
    (hk : Rows.uptoSmall H (ds ++ gs) = true) (hL : laidMetH Tryd.prog Rows.runesFeedsUptoRow.laid W) (hsh : W.ShapedOpen Tryd.prog) :
    Calls Tryd.prog 6 args W fun e W' => ∃ v, e = .returned v ∧ Rows.runesFeedsSpec.post enc Tryd.prog Tryd.f6 false true false false W args v W' := by
  have hW' := hW
  obtain ⟨p, q, hA0, hV, rfl, hfz, hnd⟩ := hW
  have hA : DataW.TrodAll enc Tryd.prog W 0 (fun _ => true) true Tryd.f6.params.toList args.toList ds p := hA0
  rw [Tryd.params6] at hA hval hsz
  obtain ⟨v0, vs0, d0, ds0, p0, q0, hargs, rfl, rfl, h0, r0⟩ := trodAll_cons hA
  obtain ⟨rfl, rfl, rfl⟩ := trodAll_nil r0
  obtain rfl : args = #[v0] := by cases args; simp_all
  obtain ⟨rfl, rfl⟩ := trodVars_none hV
  have k0 := h0
  have lt0 : ∀ x ∈ p0, x.block < W.heap.size := by obtain ⟨m, hm⟩ := k0; exact DataW.trod_lt m _ _ _ hm
  obtain ⟨a0, len0, cap0, rfl⟩ := okWide_slice Tryd.underlying46 (hval 0 46 v0 rfl rfl)
  obtain ⟨l0, e0, row0, bk0, bt0⟩ := open_ops h0
  have bu0 := Nat.le_trans (bulk_mem (d := d0) (by simp)) (of_decide_eq_true hk)
  have s0 : l0.length ≤ 1048576 := Nat.le_trans bk0 bu0
  have t0 : tot l0 l0.length ≤ 1048576 := Nat.le_trans bt0 bu0
  subst e0
  clear hA0
  refine (walk a0 l0 cap0 row0 s0 t0 (tabs_of hL hsh)).mono fun e W' ⟨he, bel⟩ => ?_
  subst he
  exact ⟨_, rfl, _, _, _, [], _, [], hW', trodAll_mk1 (shut_bool Tryd.underlying4 _), trodAll_cons_mk (Below.trod laidOut (by kernel_rfl) (of_decide_eq_true (by kernel_rfl)) k0 bel lt0) trodAll_mk0, rfl, bel.frame _, fun h => by cases h⟩

set_option maxRecDepth 100000 in
theorem laid_met (os : Os) : laidMet Tryd.prog Rows.runesFeedsUptoRow.laid ((laidWorld os).forCall (fun _ _ => 0) ⟨#[], #[.slice none 0 0], []⟩).memory :=
  laidMet_of_run' 8 (by kernel_rfl) (by kernel_rfl)
set_option maxRecDepth 100000 in
theorem reads (os : Os) {H : Type} (enc : TypeId × Value → H) : ∃ places, DataW.whole enc Tryd.prog ((laidWorld os).forCall (fun _ _ => 0) ⟨#[], #[.slice none 0 0], []⟩).memory Tryd.f6.params.toList Rows.runesFeedsSpec.vars false #[Value.slice none 0 0].toList 8 = some ([.nil], [], places) :=
  ⟨[], by kernel_rfl⟩

set_option maxRecDepth 100000 in
theorem lifted (os : Os) (started : os.Started) (H : Type) (enc : TypeId × Value → H) (F : Stop.Interp) :
    ReturnsInHanded {} Tryd.checked os 6 .any ((Rows.OpenSpec.upto Rows.runesFeedsSpec).preRow enc Tryd.prog Tryd.f6 Rows.runesFeedsUptoRow.domain false Rows.runesFeedsUptoRow.laid) (((Rows.OpenSpec.upto Rows.runesFeedsSpec).at F).post enc Tryd.prog Tryd.f6 false true false false) := by
  obtain ⟨places, hx⟩ := reads os enc
  refine returnsInHanded_of_row (C := Tryd.checked) (s := Rows.OpenSpec.upto Rows.runesFeedsSpec) own started (by kernel_rfl) Tryd.func6
    (witness_row_at (enc := enc) (C := Tryd.checked) false (laidWorld os) #[.slice none 0 0] rfl (by kernel_rfl) (by kernel_rfl) (by kernel_rfl)
      (OpenSpec.preRow_of_cond 8 hx (by kernel_rfl) (fun k hk => by cases hk; kernel_rfl) (by kernel_rfl) (laid_met os))) ?_
  intro W base args ds gs before hval hW _ hcond hsz hL hsh _
  exact contract H enc W base args ds gs before hval hW hsz (hcond _ rfl) hL hsh

theorem said : Rows.RunesFeedsUptoSaid :=
  OpenClaim.holds_of_cond 6 Tryd.f6 rfl rfl rfl rfl rfl rfl rfl ⟨rfl, rfl, rfl, rfl, rfl⟩ rfl rfl rfl rfl rfl (by kernel_rfl) Tryd.func6 (by kernel_rfl)
    (of_decide_eq_true (by kernel_rfl)) (by unfold Func.isWrapper; first | (rw [if_pos (by decide +kernel)]; kernel_rfl) | (rw [if_neg (by decide +kernel)]; exact ⟨rfl, rfl⟩))
    (fun os started H enc _ F => by rw [OpenClaim.pre_eq_preRow]; exact lifted os started H enc F)

/-- No parameter wants a stand-in; the program's own looks are off. -/
theorem plain (f : FuncId) (fn : Func) (hf : Tryd.pinned.checked.prog.funcNamed "posthorn/posthornlaw05.RunesFeeds" = some f) (hfn : Tryd.pinned.checked.prog.funcs[f]? = some fn) :
    false = Tryd.pinned.checked.prog.looks [] ∧ ∀ (j : Nat) t, fn.params[j]? = some t → Tryd.pinned.checked.prog.wantsStandIn t = false := by
  obtain rfl : f = 6 := Option.some.inj ((show Tryd.prog.funcNamed "posthorn/posthornlaw05.RunesFeeds" = some 6 by kernel_rfl).symm.trans hf) |>.symm
  obtain rfl : fn = Tryd.f6 := (Option.some.inj (Tryd.func6.symm.trans hfn)).symm
  refine ⟨by kernel_rfl, fun j t ht => ?_⟩
  rw [Tryd.params6] at ht
  have hm : t ∈ [46] := by simpa using Array.mem_of_getElem? ht
  have hall : ([46].all fun u => !Tryd.prog.wantsStandIn u) = true := by kernel_rfl
  exact (show Tryd.prog.wantsStandIn t = false by simpa using List.all_eq_true.1 hall t hm)

/-- The card. -/
theorem card : Rows.RunesFeedsUptoCardSaid :=
  Claim7.holds_tied_plain_at .later [] _ _ _ _ said (fun _ h => by cases h) (by kernel_rfl) (fun _ h => by cases h) runesFeedsUpto_row_tie rfl ⟨rfl, rfl⟩ (by kernel_rfl) rfl plain (by kernel_rfl)
end Go.Proofs.YtedgimkffkflbaaDoor.runesFeeds
namespace Go.Proofs.YtedgimkffkflbaaDoor
theorem runesFeedsUpto_card : Rows.RunesFeedsUptoCardSaid := runesFeeds.card
#print axioms runesFeedsUpto_card
end Go.Proofs.YtedgimkffkflbaaDoor
