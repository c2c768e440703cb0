/-
  P7.9: a heap tells all that was pushed, each once, by rising keys, and what is alike as it came; proved for every input.
-/
import Derived.Test.YtgbbjhhggjocmaaHn
import Derived.Test.YtgbbjhhggjocmaaFiS
import Derived.Test.YtgbbjhhggjocmaaOpen7
import Derived.Test.YtgbbjhhggjocmaaRows
import Derived.ProofKit
import Derived.ChangeMaps5
import Derived.OpenShut
import Derived.ShutString
import Derived.ChangeOld
import Derived.SizedLaws
namespace Go.Proofs.Ytgbbjhhggjocmaa.queueSorts
open Go.ChangeShapes Go.WideShapes Go.ChangeAt Go.RowKit

/-- What was pushed: the keys with their places. -/
def PM (l : List Int) (k : Nat) : List En := (List.range k).map fun (i : Nat) => ((l.getD i 0, (i : Int)), i)
theorem PM_length (l : List Int) (k : Nat) : (PM l k).length = k := by simp [PM]
theorem PM_succ (l : List Int) (k : Nat) : PM l k ++ [((l.getD k 0, (k : Int)), k)] = PM l (k + 1) := by simp [PM, List.range_succ]
theorem PM_mem {l : List Int} {k : Nat} {e : En} (h : e ∈ PM l k) : e.1 = (l.getD e.2 0, (e.2 : Int)) ∧ e.2 < k := by
  obtain ⟨i, hi, rfl⟩ := List.mem_map.1 h
  exact ⟨rfl, List.mem_range.1 hi⟩
theorem getD_at (l : List Int) (k : Nat) (h : k < l.length) : l[k] = l.getD k 0 := by rw [List.getD_eq_getElem?_getD, List.getElem?_eq_getElem h]; rfl
def celB (x : Bool) : List Value := [.bool x]
/-- The row of what was told. -/
def tdC (td : List Bool) : Array Value := (td.map Value.bool).toArray
theorem make_bools (n : Nat) (hn : n ≤ 1048576) (w : World) : (Instr.makeSlice 71 (.int .i64 (n : Int)) (.int .i64 (n : Int))).run Try.prog w = .ok (.slice (some ⟨w.heap.size, 0, none⟩) n n) (w.alloc (.cells (tdC (List.replicate n false)) 4)) := by
  obtain ⟨i, hi, hz0, hz1, hz2⟩ := info_parts (show (Try.prog.info? 4).map (fun i => (i.zero, i.size, i.bytes)) = some (some (.bool false), 1, 1) by kernel_rfl)
  have := run_makeSlice w 71 4 i _ Try.underlying71 hi hz0 .i64 .i64 (n : Int) (n : Int) (by omega) (Int.le_refl _) (by rw [hz1]; simp; omega) (by rw [hz2]; omega) (by omega)
  rw [this, hz1]
  have e := made_flat (cel := celB) (k := 1) (fun _ => rfl) (by decide) false n
  simp only [Int.toNat_natCast]
  have e2 : ((List.replicate n false).flatMap celB).toArray = tdC (List.replicate n false) := by
    unfold tdC celB
    rw [List.map_eq_flatMap]
  rw [← e2, ← e]
  rfl
/-- All that the second loop holds. -/
structure So (w0 w : World) (b : Nat) (M : List En) (n : Nat) (v : Value) (T P : Nat) (td : List Bool) (eL : En) (i : Nat) (l : List Int) : Prop where
  ht : Ht w b 23 true M n v
  tl : Lies w T (tdC td) 4
  pl : Lies w P #[.int .i64 eL.1.1, .int .i64 eL.1.2] 31
  fh : ∀ k, Fh b v k → k < T
  fn : ∀ k, Fh b v k → w0.heap.size ≤ k
  tp : T < P
  t0 : w0.heap.size ≤ T
  bel : Below w0.heap.size w0 w
  tdl : td.length = n
  mem : ∀ e ∈ M, e.1 = (l.getD e.2 0, (e.2 : Int)) ∧ e.2 < n ∧ td[e.2]? = some false
  len : M.length + i = n
  ord : 0 < i → (∀ e ∈ M, ¬ bf true e eL) ∧ eL.1.2 = (eL.2 : Int)

set_option maxRecDepth 20000 in
set_option maxHeartbeats 4000000 in
theorem walk {w : World} (a : Option Addr) (l : List Int) (c : Nat) (h1 : Sg cel1 a l w ∧ ∀ z ∈ l, In64 z) (hl : l.length ≤ 17592186043904) :
    Calls Try.prog 8 #[.slice a l.length c] w fun e w' => e = .returned (.bool true) ∧ Below w.heap.size w w' := by
  have HSO : Hid (Calls Try.prog 42 #[] w fun e w' => e = .returned (.bool true) ∧ Below w.heap.size w w') := sorts_any w
  have HNH : Hid (∀ wx, Below w.heap.size w wx → Calls Try.prog 22 #[.func (.func 23) #[] #[]] wx fun e w' => e = .returned (.pointer (some ⟨wx.heap.size, 0, none⟩)) ∧ Hw w.heap.size w w' wx.heap.size 23 true [] 0 (.slice none 0 0)) := fun wx hb => hnew_w w.heap.size w wx (Nat.le_refl _) hb 23 true bykey_cmp
  have H1 : Hid (Sg celI a l w) := h1.1
  clear h1
  go_enter Try.func8, Try.ntmps8
  go_wp2_with (first
    | (go_at_call 42; refine HSO.out.mono ?_; clear HSO; rintro e w1 ⟨rfl, hb⟩; have HB1 : Hid (Below w.heap.size w w1) := hb; clear hb)
    | (go_at_call 22; refine (HNH.out _ HB1.out).mono ?_; clear HNH HB1; rintro e w2 ⟨rfl, hr⟩; have HS0 : Hid (Hw w.heap.size w w2 w1.heap.size 23 true [] 0 (.slice none 0 0)) := hr; clear hr; generalize w1.heap.size = b at *))
  go_loopw [20] (fun iv wr => ∃ (k : Nat) (v : Value), iv = .int .i64 (k : Int) ∧ k ≤ l.length ∧ k ≤ 1048576 ∧ Hid (Hw w.heap.size w wr b 23 true (PM l k) k v)) (fun iv _ => l.length - (intOf iv).toNat)
  case atStart => exact ⟨0, _, rfl, Nat.zero_le _, Nat.zero_le _, HS0.out⟩
  case round =>
    obtain ⟨k, v, rfl, hk, hk2, HS⟩ := hrel
    clear HS0
    by_cases hlt : k < l.length
    · obtain ⟨g1, o1, rfl, hg1, ck⟩ := (H1.out.below HS.out.bel).cell k hlt
      rw [getD_at l k hlt] at ck
      have hki : (k : Int) < (l.length : Int) := by omega
      by_cases hfull : k < 1048576
      · have hfi : ¬ (1048576 : Int) ≤ (k : Int) := by omega
        have HPU : Hid (Calls Try.prog 25 #[.pointer (some ⟨b, 0, none⟩), .agg #[.int .i64 (l.getD k 0), .int .i64 (k : Int)]] wr fun e w' => e = .returned (.int .i64 0) ∧ ∃ v', Hw w.heap.size w w' b 23 true (PM l (k + 1)) (k + 1) v') := (hpush_w HS.out (l.getD k 0, (k : Int)) (by rw [PM_length]; exact hfull) (by omega)).mono (fun e w' hh => by obtain ⟨r1, v', r2⟩ := hh; rw [PM_succ] at r2; exact ⟨r1, v', r2⟩)
        have HLN : Hid (∀ wx v', Hw w.heap.size w wx b 23 true (PM l (k + 1)) (k + 1) v' → Calls Try.prog 31 #[.pointer (some ⟨b, 0, none⟩)] wx fun e w' => e = .returned (.int .i64 ((k : Int) + 1)) ∧ w' = wx) := fun wx v' h => by have := hlen_t h.ht; rw [PM_length] at this; exact this
        generalize l.getD k 0 = y at *
        go_wp2_with (first
          | (go_at_call 25; refine HPU.out.mono ?_; clear HPU; rintro e w3 ⟨rfl, v3, hs⟩; have HS3 : Hid (Hw w.heap.size w w3 b 23 true (PM l (k + 1)) (k + 1) v3) := hs; clear hs)
          | (go_at_call 31; refine (HLN.out _ _ HS3.out).mono ?_; clear HLN; rintro e wz ⟨rfl, hz⟩; subst hz))
        go_roundw
        case rel => exact ⟨k + 1, v3, by go_num, by omega, by omega, HS3.out⟩
        case measure => simp [intOf]; omega
      · obtain rfl : k = 1048576 := by omega
        have HPU : Hid (Calls Try.prog 25 #[.pointer (some ⟨b, 0, none⟩), .agg #[.int .i64 (l.getD 1048576 0), .int .i64 1048576]] wr fun e w' => e = .returned (.int .i64 4) ∧ Below w.heap.size w w') := (hfull_t HS.out.ht (l.getD 1048576 0, 1048576) (PM_length _ _)).mono (fun e w' hh => ⟨hh.1, HS.out.bel.trans (hh.2.mono HS.out.bel.size)⟩)
        generalize l.getD 1048576 0 = y at *
        go_wp2_with (go_at_call 25; refine HPU.out.mono ?_; clear HPU; rintro e w3 ⟨rfl, hs⟩; have HB3 : Hid (Below w.heap.size w w3) := hs; clear hs)
        go_ret
        exact ⟨rfl, HB3.out⟩
    · obtain rfl : k = l.length := by omega
      have hki : (l.length : Int) ≤ (l.length : Int) := Int.le_refl _
      have hn : l.length ≤ 1048576 := hk2
      clear hlt hk hk2
      have hmk := make_bools l.length hn
      go_wp2_with fail
      obtain ⟨T, hT⟩ : ∃ T, wr.heap.size = T := ⟨_, rfl⟩
      obtain ⟨W1, hW1⟩ : ∃ W1, (wr.alloc (.cells (tdC (List.replicate l.length false)) 4)).alloc (.cells #[.int .i64 0, .int .i64 (-1)] 31) = W1 := ⟨_, rfl⟩
      have hbW : Below wr.heap.size wr W1 := by rw [← hW1]; exact ((Below.refl _ _).alloc (Nat.le_refl _) _).alloc (by simp) _
      have HSO2 : Hid (So w W1 b (PM l l.length) l.length v T (T + 1) (List.replicate l.length false) ((0, -1), 0) 0 l) := by
        refine ⟨HS.out.ht.below hbW, ?_, ?_, fun k hk => by rw [← hT]; exact HS.out.ht.lt k hk, HS.out.own, Nat.lt_succ_self _, by rw [← hT]; exact HS.out.bel.size, HS.out.bel.trans (hbW.mono HS.out.bel.size), List.length_replicate, fun e he => ?_, by rw [PM_length]; rfl, fun h => absurd h (by omega)⟩
        · rw [← hW1, ← hT]; exact (Lies.new wr _ _).alloc _
        · have := Lies.new (wr.alloc (.cells (tdC (List.replicate l.length false)) 4)) #[.int .i64 0, .int .i64 (-1)] 31
          rw [World.size_alloc] at this
          rw [← hW1, ← hT]
          exact this
        · obtain ⟨r1, r2⟩ := PM_mem he
          exact ⟨r1, r2, by rw [List.getElem?_replicate, if_pos r2]⟩
      rw [hT, hW1]
      clear HS hbW hW1 hT hmk
      go_loopw [53] (fun iv wr => ∃ (k : Nat) (M : List En) (v : Value) (td : List Bool) (eL : En), iv = .int .i64 (k : Int) ∧ k ≤ l.length ∧ Hid (So w wr b M l.length v T (T + 1) td eL k l)) (fun iv _ => l.length - (intOf iv).toNat)
      case atStart => exact ⟨0, _, _, _, _, rfl, Nat.zero_le _, HSO2.out⟩
      case round =>
        obtain ⟨k, M, v, td, eL, rfl, hk, HS⟩ := hrel
        clear HSO2
        by_cases hlt : k < l.length
        · have hki : (k : Int) < (l.length : Int) := by omega
          cases M with
          | nil => have := HS.out.len; simp at this; omega
          | cons e0 M0 =>
          obtain ⟨x, hx⟩ : ∃ x, x = lst true e0 M0 := ⟨_, rfl⟩
          have hxm : x ∈ e0 :: M0 := by rw [hx]; exact lst_mem true M0 e0
          have hxl : ∀ y ∈ e0 :: M0, ¬ bf true y x := by rw [hx]; exact lst_least true M0 e0
          obtain ⟨m1, m2, m3⟩ := HS.out.mem x hxm
          obtain ⟨⟨ky, kid⟩, j⟩ := x
          dsimp only at m1 m2 m3
          obtain ⟨hky, rfl⟩ := Prod.mk.inj m1
          clear m1
          obtain ⟨gk, ok, rfl, hgk, ckj⟩ := (H1.out.below HS.out.bel).cell j m2
          rw [getD_at l j m2, ← hky] at ckj
          have HCK : Hid (∀ wx, Below wr.heap.size wr wx → wx.cell? ⟨gk, ok + j, none⟩ = some (.int .i64 ky)) := fun wx hb => (hb.cell (p := ⟨gk, ok + j, none⟩) (lt_of_cell ckj)).trans ckj
          have HKY : Hid (ky = l.getD j 0) := hky
          clear hky ckj
          have htm : topM true (e0 :: M0) = (ky, (j : Int)) := by show (lst true e0 M0).1 = _; rw [← hx]
          have HPK : Hid (Calls Try.prog 29 #[.pointer (some ⟨b, 0, none⟩)] wr fun e w' => e = .returned (.tuple #[.agg #[.int .i64 ky, .int .i64 (j : Int)], .bool true]) ∧ Below wr.heap.size wr w') := by have := hpeek_t HS.out.ht; rw [htm] at this; exact this
          have HPO : Hid (∀ wx, Below wr.heap.size wr wx → Calls Try.prog 27 #[.pointer (some ⟨b, 0, none⟩)] wx fun e w' => e = .returned (.tuple #[.agg #[.int .i64 ky, .int .i64 (j : Int)], .bool true]) ∧ ∃ v', Ht w' b 23 true (resM true (e0 :: M0)) l.length v' ∧ Chg (Fh b v) wx w' ∧ v'.ownBlock = v.ownBlock) := fun wx hb => by have := hpop_t (HS.out.ht.below hb); rw [htm] at this; exact this
          have hMr : resM true (e0 :: M0) = (e0 :: M0).erase ((ky, (j : Int)), j) := by rw [hx]; rfl
          have HMR : Hid (resM true (e0 :: M0) = (e0 :: M0).erase ((ky, (j : Int)), j)) := hMr
          generalize hMM : e0 :: M0 = M at *
          clear hMr hx htm
          go_wp2_with (first
            | (go_at_call 29; refine HPK.out.mono ?_; clear HPK; rintro e w4 ⟨rfl, hb⟩; have HA2 : Hid (Below wr.heap.size wr (w4.alloc (.cells #[.int .i64 ky, .int .i64 (j : Int)] 31))) := hb.alloc hb.size _; have HZ4 : Hid (wr.heap.size ≤ w4.heap.size) := hb.size; have HP9 : Hid (Lies (w4.alloc (.cells #[.int .i64 ky, .int .i64 (j : Int)] 31)) w4.heap.size #[.int .i64 ky, .int .i64 (j : Int)] 31) := Lies.new w4 _ _; clear hb)
            | (go_at_call 27; refine (HPO.out _ HA2.out).mono ?_; clear HPO; rintro e w5 ⟨rfl, v5, hs, hc, ho⟩; have HC5 : Hid (Chg (Fh b v) (w4.alloc (.cells #[.int .i64 ky, .int .i64 (j : Int)] 31)) w5) := hc; have HS5 : Hid (Ht w5 b 23 true (resM true M) l.length v5) := hs; have HO5 : Hid (v5.ownBlock = v.ownBlock) := ho; clear hs hc ho; apply Hid.out))
          unfold Hid
          obtain ⟨w6, hw6⟩ : ∃ w6, w6 = w5.alloc (.cells #[.int .i64 ky, .int .i64 (j : Int)] 31) := ⟨_, rfl⟩
          have hz5 : w4.heap.size + 1 ≤ w5.heap.size := by have := HC5.out.size; simpa using this
          have hTw := HS.out.tl.lt
          have hPw := HS.out.pl.lt
          have hz4 := HZ4.out
          have hn4 : ¬ Fh b v w4.heap.size := fun hk => by have := HS.out.fh _ hk; omega
          have hnT : ¬ Fh b v T := fun hk => by have := HS.out.fh _ hk; omega
          have hnP : ¬ Fh b v (T + 1) := fun hk => by have := HS.out.fh _ hk; omega
          have hB45 : Below wr.heap.size wr (w4.alloc (.cells #[.int .i64 ky, .int .i64 (j : Int)] 31)) := HA2.out
          have L9 : Lies w6 w4.heap.size #[.int .i64 ky, .int .i64 (j : Int)] 31 := by rw [hw6]; exact (HC5.out.lies HP9.out hn4).alloc _
          have L11 : Lies w6 w5.heap.size #[.int .i64 ky, .int .i64 (j : Int)] 31 := by rw [hw6]; exact Lies.new w5 _ _
          have LT : Lies w6 T (tdC td) 4 := by rw [hw6]; exact (HC5.out.lies (HS.out.tl.below hB45 hTw) hnT).alloc _
          have LP : Lies w6 (T + 1) #[.int .i64 eL.1.1, .int .i64 eL.1.2] 31 := by rw [hw6]; exact (HC5.out.lies (HS.out.pl.below hB45 hPw) hnP).alloc _
          have HB6 : Hid (Below w.heap.size w w6) := by
            have h1 : Below w.heap.size w (w4.alloc (.cells #[.int .i64 ky, .int .i64 (j : Int)] 31)) := HS.out.bel.trans (hB45.mono HS.out.bel.size)
            have h2 : Below w.heap.size w w5 := h1.trans (HC5.out.to_below h1.size HS.out.fn)
            rw [hw6]
            exact h2.alloc h2.size _
          have ckj : w6.cell? ⟨gk, ok + j, none⟩ = some (.int .i64 ky) := by
            obtain ⟨g', o', e', _, r⟩ := (H1.out.below HB6.out).cell j m2
            cases e'
            rw [r, getD_at l j m2, HKY.out]
          have n0 : w6.cell? ⟨w4.heap.size, 0, none⟩ = some (.int .i64 ky) := L9.cell 0
          have n1 : w6.cell? ⟨w4.heap.size, 1, none⟩ = some (.int .i64 (j : Int)) := L9.cell 1
          have m0 : w6.cell? ⟨w5.heap.size, 0, none⟩ = some (.int .i64 ky) := L11.cell 0
          have m1 : w6.cell? ⟨w5.heap.size, 1, none⟩ = some (.int .i64 (j : Int)) := L11.cell 1
          have t0 : w6.cell? ⟨T, j, none⟩ = some (.bool false) := by rw [LT.cell, tdC, List.getElem?_toArray, List.getElem?_map, m3]; rfl
          have zt := LT.frozen j
          have p0 : w6.cell? ⟨T + 1, 0, none⟩ = some (.int .i64 eL.1.1) := LP.cell 0
          have p1 : w6.cell? ⟨T + 1, 1, none⟩ = some (.int .i64 eL.1.2) := LP.cell 1
          have zp0 := LP.frozen 0
          have zp1 := LP.frozen 1
          have hH6 : Ht w6 b 23 true (resM true M) l.length v5 := by rw [hw6]; exact HS5.out.below ((Below.refl _ _).alloc (Nat.le_refl _) _)
          have hrl : (resM true M).length = l.length - 1 - k := by rw [resM_length]; have := HS.out.len; omega
          have HLN : Hid (∀ m, Calls Try.prog 31 #[.pointer (some ⟨b, 0, none⟩)] (w6.drewN m) fun e w' => e = .returned (.int .i64 ((l.length : Int) - 1 - (k : Int))) ∧ w' = w6.drewN m) := fun m => by
            have := hlen_t (hH6.below (below_drewN w6 m))
            rw [hrl, show (((l.length - 1 - k : Nat)) : Int) = (l.length : Int) - 1 - (k : Int) by omega] at this
            exact this
          have hjl : (j : Int) < (l.length : Int) := by omega
          have hT5 : T < w5.heap.size := by omega
          have hT4 : T < w4.heap.size := by omega
          have HW6 : Hid (w5.alloc (.cells #[.int .i64 ky, .int .i64 (j : Int)] 31) = w6) := hw6.symm
          clear hw6
          go_wp2_with fail
          rw [HW6.out]
          have hdrop : Hid (∀ m, So w ((((w6.drewN m).setCell ⟨T, j, none⟩ (.bool true)).setCell ⟨T + 1, 0, none⟩ (.int .i64 ky)).setCell ⟨T + 1, 1, none⟩ (.int .i64 (j : Int))) b (M.erase ((ky, (j : Int)), j)) l.length v5 T (T + 1) (td.set j true) ((ky, (j : Int)), j) (k + 1) l) := fun m => by
            have hinc := HS.out.ht.inc
            have hnd : M.Nodup := hinc.imp (fun h e => by rw [e] at h; omega)
            have hF5 : ∀ q, Fh b v5 q → Fh b v q := fun q hq => by
              rcases hq with hq | hq
              · exact .inl hq
              · exact .inr (by rw [← HO5.out]; exact hq)
            have hj : j < td.length := by rw [HS.out.tdl]; exact m2
            refine ⟨?_, ?_, ((LP.drewN m).set_other (by simp) _).set 0 _ |>.set 1 _, fun q hq => HS.out.fh q (hF5 q hq), fun q hq => HS.out.fn q (hF5 q hq), HS.out.tp, HS.out.t0, ?_, by rw [List.length_set]; exact HS.out.tdl, fun e he => ?_, ?_, fun _ => ⟨fun e he => hxl e (List.mem_of_mem_erase he), rfl⟩⟩
            · rw [← HMR.out]
              refine hH6.keep (fun q hq => ?_)
              have := HS.out.fh q (hF5 q hq)
              exact (Below.heap_setCell _ _ _ _ (by simp; omega)).trans ((Below.heap_setCell _ _ _ _ (by simp; omega)).trans (Below.heap_setCell _ _ _ _ (by simp; omega)))
            · have h1 := (((LT.drewN m).set j (.bool true)).set_other (a := ⟨T + 1, 0, none⟩) (by simp) (.int .i64 ky)).set_other (a := ⟨T + 1, 1, none⟩) (by simp) (.int .i64 (j : Int))
              have e1 : (tdC td).setIfInBounds j (.bool true) = tdC (td.set j true) := by unfold tdC; rw [List.setIfInBounds_toArray, List.map_set]
              rw [e1] at h1
              exact h1
            · have h0 := HS.out.t0
              have h1 : Below w.heap.size w (w6.drewN m) := HB6.out.trans ((below_drewN w6 m).mono HB6.out.size)
              exact ((h1.setCell (p := ⟨T, j, none⟩) h0 _).setCell (p := ⟨T + 1, 0, none⟩) (Nat.le_succ_of_le h0) _).setCell (p := ⟨T + 1, 1, none⟩) (Nat.le_succ_of_le h0) _
            · have he2 := List.mem_of_mem_erase he
              obtain ⟨r1, r2, r3⟩ := HS.out.mem e he2
              have hne : e.2 ≠ j := fun h => by
                have := hinc.uniq he2 hxm h
                rw [this] at he
                exact (hnd.mem_erase_iff.1 he).1 rfl
              exact ⟨r1, r2, by rw [List.getElem?_set_ne (Ne.symm hne)]; exact r3⟩
            · rw [List.length_erase_of_mem hxm]
              have := HS.out.len
              omega
          have HORD : Hid (0 < k → ¬ ky < eL.1.1 ∧ (ky = eL.1.1 → ¬ (j : Int) < eL.1.2)) := fun h0 => by
            obtain ⟨r1, r2⟩ := HS.out.ord h0
            have := r1 _ hxm
            unfold bf kap at this
            simp at this
            refine ⟨by omega, fun e => ?_⟩
            rw [r2]
            omega
          have hj0 : ¬ (j : Int) < 0 := by omega
          have hjl2 : ¬ l.length ≤ j := by omega
          have hlp : 1 ≤ (l.length : Int) := by omega
          have hw18 : IntKind.i64.wrap ((l.length : Int) - 1) = (l.length : Int) - 1 := by rw [IntKind.wrap_i64]; omega
          have hw19 : IntKind.i64.wrap ((l.length : Int) - 1 - (k : Int)) = (l.length : Int) - 1 - (k : Int) := by rw [IntKind.wrap_i64]; omega
          have hTne : T ≠ T + 1 := by omega
          have hTne2 : T + 1 ≠ T := by omega
          have hne5 : w5.heap.size ≠ T := by omega
          have hne6 : w5.heap.size ≠ T + 1 := by omega
          have hne7 : T ≠ w5.heap.size := by omega
          have hne8 : T + 1 ≠ w5.heap.size := by omega
          generalize eL.1.1 = lk at *
          generalize eL.1.2 = li at *
          clear L9 L11 LT LP hH6 hrl hB45 hn4 hnT hnP hTw hPw hz4 hz5 hxm hxl hMM HA2 HZ4 HP9 HC5 HS5 HW6 HCK hgk m3 hki
          go_quiet (first | (go_at_call 31; refine Calls.quiet_of_same (HLN.out _)))
          by_cases h0 : k = 0
          · have hk0 : decide ((0 : Int) < (k : Int)) = false := decide_eq_false (by omega)
            have hk1 : decide (0 < k) = false := decide_eq_false (by omega)
            clear h0
            go_wp2
            go_roundw
            case rel => exact ⟨k + 1, _, v5, _, _, by go_num, by omega, hdrop.out _⟩
            case measure => simp [intOf]; omega
          · have hk0 : (0 : Int) < (k : Int) := by omega
            obtain ⟨o1, o2⟩ := HORD.out (by omega)
            by_cases hq : ky = lk
            · have o3 := o2 hq
              have o4 : (ky == lk) = true := by simpa using hq
              clear o2 hq
              go_wp2
              go_roundw
              case rel => exact ⟨k + 1, _, v5, _, _, by go_num, by omega, hdrop.out _⟩
              case measure => simp [intOf]; omega
            · have o4 : (ky == lk) = false := by simpa using hq
              clear o2 hq
              go_wp2
              go_roundw
              case rel => exact ⟨k + 1, _, v5, _, _, by go_num, by omega, hdrop.out _⟩
              case measure => simp [intOf]; omega
        · have hki : (l.length : Int) ≤ (k : Int) := by omega
          obtain rfl : M = [] := by have := HS.out.len; exact List.eq_nil_of_length_eq_zero (by omega)
          have HPO : Hid (Calls Try.prog 27 #[.pointer (some ⟨b, 0, none⟩)] wr fun e w' => e = .returned (.tuple #[.agg #[.int .i64 0, .int .i64 0], .bool false]) ∧ Below w.heap.size w (w'.alloc (.cells #[.int .i64 0, .int .i64 0] 31))) := (hpop_t HS.out.ht).mono (fun e w' hh => by
            obtain ⟨r1, v', _, r3, _⟩ := hh
            have h2 : Below w.heap.size w w' := HS.out.bel.trans (r3.to_below HS.out.bel.size HS.out.fn)
            exact ⟨r1, h2.alloc h2.size _⟩)
          go_wp2_with (go_at_call 27; refine HPO.out.mono ?_; clear HPO; rintro e w4 ⟨rfl, hb⟩; have HB4 : Hid (Below w.heap.size w (w4.alloc (.cells #[.int .i64 0, .int .i64 0] 31))) := hb; clear hb)
          go_ret
          exact ⟨rfl, HB4.out⟩

theorem own : ownKnob Try.prog.godebug = none := by kernel_rfl
theorem laidOut : laidOutB Try.prog = true := by kernel_rfl
set_option maxRecDepth 100000 in
theorem contract (H : Type) (enc : TypeId × Value → H) (W : World) (base : Nat) (args : Array Value) (ds gs : List (DataW H)) (before : List MemPlace)
    (hval : ∀ (j : Nat) t v, Try.f8.params[j]? = some t → args[j]? = some v → Value.okWide Try.prog W .any base t v)
    (hW : DataW.Whole enc Try.prog Try.f8.params.toList Rows.queueSortsSpec.vars false W args.toList ds gs before)
    (hsz : (DataW.weightsEach Try.prog (Try.f8.params.toList ++ Rows.queueSortsSpec.plain.varTypes Try.prog) (ds ++ gs)).all (· ≤ reachBytes) = true)
    :
    Calls Try.prog 8 args W fun e W' => ∃ v, e = .returned v ∧ Rows.queueSortsSpec.post enc Try.prog Try.f8 false true false false W args v W' := by
  have hW' := hW
  obtain ⟨p, q, hA0, hV, rfl, hfz, hnd⟩ := hW
  have hA : DataW.TrodAll enc Try.prog W 0 (fun _ => true) true Try.f8.params.toList args.toList ds p := hA0
  rw [Try.params8] at hA hval hsz
  obtain ⟨v0, vs0, d0, ds0, p0, q0, hargs, rfl, rfl, h0, r0⟩ := trodAll_cons hA
  obtain ⟨rfl, rfl, rfl⟩ := trodAll_nil r0
  obtain rfl : args = #[v0] := by cases args; simp_all
  obtain ⟨rfl, rfl⟩ := trodVars_none hV
  have k0 := h0
  have lt0 : ∀ x ∈ p0, x.block < W.heap.size := by obtain ⟨m, hm⟩ := k0; exact DataW.trod_lt m _ _ _ hm
  obtain ⟨a0, len0, cap0, rfl⟩ := okWide_slice Try.underlying55 (hval 0 55 v0 rfl rfl)
  obtain ⟨l0, e0, row0, bd0⟩ := open_nums h0
  clear hA0
  have s0 : l0.length ≤ 17592186043904 := by
    rcases bd0 with ⟨el, sp, rfl, hl⟩ | ⟨rfl, hl⟩
    · have := sized_slice hsz (j := 0) (t := 55) (e := 3) rfl rfl Try.underlying55
      rw [bytes3] at this
      simp only [reachBytes] at this
      omega
    · omega
  subst e0
  refine (walk a0 l0 cap0 row0 s0).mono fun e W' ⟨he, bel⟩ => ?_
  subst he
  exact ⟨_, rfl, _, _, _, [], _, [], hW', trodAll_mk1 (shut_bool Try.underlying4 _), trodAll_cons_mk (Below.trod laidOut (by kernel_rfl) (of_decide_eq_true (by kernel_rfl)) k0 bel lt0) trodAll_mk0, rfl, bel.frame _, fun h => by cases h⟩

set_option maxRecDepth 100000 in
theorem lifted (os : Os) (started : os.Started) (H : Type) (enc : TypeId × Value → H) :
    ReturnsInHanded {} Try.checked os 8 .any (Rows.queueSortsSpec.pre6 enc Try.prog Try.f8 Rows.queueSortsRow.domain false) (Rows.queueSortsSpec.post enc Try.prog Try.f8 false true false false) := by
  refine returnsInHanded_of_change_sized (C := Try.checked) own started (by kernel_rfl) Try.func8
    (ChangeSpec.witness6 (enc := enc) (C := Try.checked) false ⟨#[], #[.slice none 0 0], []⟩ 8 (by kernel_rfl) (by kernel_rfl) (by kernel_rfl) (by kernel_rfl)) ?_
  intro W base args ds gs before hval0 hW hcnd hsz0 _
  exact contract H enc W base args ds gs before hval0 hW hsz0

theorem over : Rows.queueSortsRow.holds Try.pinned (OpenSpec.ofChange Rows.queueSortsSpec) :=
  OpenClaim.holds_of_wide 8 Try.f8 rfl rfl rfl rfl rfl rfl rfl ⟨rfl, rfl, rfl, rfl, rfl⟩ rfl rfl rfl rfl rfl (by kernel_rfl) Try.func8 (by kernel_rfl)
    (of_decide_eq_true (by kernel_rfl)) (by unfold Func.isWrapper; first | (rw [if_pos (by decide +kernel)]; kernel_rfl) | (rw [if_neg (by decide +kernel)]; exact ⟨rfl, rfl⟩))
    (fun os started H enc _ => lifted os started H enc)
end Go.Proofs.Ytgbbjhhggjocmaa.queueSorts
namespace Go.Proofs.Ytgbbjhhggjocmaa
theorem queueSorts_said : Rows.QueueSortsSaid := queueSorts.over
#print axioms queueSorts_said
end Go.Proofs.Ytgbbjhhggjocmaa
