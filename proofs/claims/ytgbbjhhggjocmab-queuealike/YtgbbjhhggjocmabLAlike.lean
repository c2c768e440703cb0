/-
  P7.10: a heap in whose order all are alike does what a ring does; proved for every input.
-/
import Derived.Test.YtgbbjhhggjocmabAlP
import Derived.Test.YtgbbjhhggjocmabRows
import Derived.ProofKit
import Derived.ChangeMaps5
import Derived.OpenShut
import Derived.ShutString
import Derived.ChangeOld
import Derived.SizedLaws
namespace Go.Proofs.Ytgbbjhhggjocmab.queueAlike
open Go.ChangeShapes Go.WideShapes Go.ChangeAt Go.RowKit

set_option maxRecDepth 20000 in
theorem bad (a : Option Addr) (n c : Nat) (hn : 1048576 < n) (hn2 : n ≤ 9223372036854775807) (w : World) :
    Calls Try.prog 3 #[.slice a n c] w fun e w' => e = .returned (.bool true) ∧ Below w.heap.size w w' := by
  have HSO : Hid (Calls Try.prog 6 #[] w fun e w' => e = .returned (.bool true) ∧ Below w.heap.size w w') := sorts_any w
  have HNH : Hid (∀ wx, Below w.heap.size w wx → Calls Try.prog 7 #[.func (.func 8) #[] #[]] wx fun e w' => e = .returned (.pointer (some ⟨wx.heap.size, 0, none⟩)) ∧ Hw w.heap.size w w' wx.heap.size 8 false [] 0 (.slice none 0 0)) := fun wx hb => hnew_w w.heap.size w wx (Nat.le_refl _) hb 8 false alike_cmp
  have HNB : Hid (∀ wx, Calls Try.prog 9 #[.int .i64 (n : Int)] wx fun e w' => e = .returned (.tuple #[.pointer none, .int .i64 2]) ∧ w' = wx) := fun wx => newG_bad (n : Int) (.inr (by omega)) wx
  have hni : (1048576 : Int) < (n : Int) := by omega
  have hmx : max (1 : Int) (n : Int) = (n : Int) := by omega
  have hmx2 : (if (n : Int) < 1 then (1 : Int) else (n : Int)) = (n : Int) := by rw [if_neg (by omega)]
  have hmx3 : (if (1 : Int) < (n : Int) then (n : Int) else (1 : Int)) = (n : Int) := by rw [if_pos (by omega)]
  go_enter Try.func3, Try.ntmps3
  go_wp2_with (first
    | (go_at_call 6; refine HSO.out.mono ?_; clear HSO; rintro e w1 ⟨rfl, hb⟩; have HB1 : Hid (Below w.heap.size w w1) := hb; clear hb)
    | (go_at_call 7; refine (HNH.out _ HB1.out).mono ?_; clear HNH; rintro e w2 ⟨rfl, hr⟩; have HH0 : Hid (Hw w.heap.size w w2 w1.heap.size 8 false [] 0 (.slice none 0 0)) := hr; clear hr)
    | (go_at_call 9; refine (HNB.out _).mono ?_; clear HNB; rintro e w3 ⟨rfl, hw⟩; subst hw))
  go_ret
  exact ⟨rfl, HH0.out.bel⟩
set_option maxRecDepth 20000 in
set_option maxHeartbeats 4000000 in
theorem good (a : Option Addr) (st : List (Int × Int × Int)) (c : Nat) (w : World) (h1 : Sg cel3 a st w) (hn : st.length ≤ 1048576) :
    Calls Try.prog 3 #[.slice a st.length c] w fun e w' => e = .returned (.bool true) ∧ Below w.heap.size w w' := by
  have HSO : Hid (Calls Try.prog 6 #[] w fun e w' => e = .returned (.bool true) ∧ Below w.heap.size w w') := sorts_any w
  have HNH : Hid (∀ wx, Below w.heap.size w wx → Calls Try.prog 7 #[.func (.func 8) #[] #[]] wx fun e w' => e = .returned (.pointer (some ⟨wx.heap.size, 0, none⟩)) ∧ Hw w.heap.size w w' wx.heap.size 8 false [] 0 (.slice none 0 0)) := fun wx hb => hnew_w w.heap.size w wx (Nat.le_refl _) hb 8 false alike_cmp
  obtain ⟨most, hmost⟩ : ∃ most, most = max 1 st.length := ⟨_, rfl⟩
  have HNR : Hid (∀ wx, Calls Try.prog 9 #[.int .i64 (most : Int)] wx fun e w' => e = .returned (.tuple #[.pointer (some ⟨wx.heap.size, 0, none⟩), .int .i64 0]) ∧ RgG w' (some wx.heap.size) none most [] ∧ Below wx.heap.size wx w') := fun wx => newG_good most (by omega) (by omega) wx
  have H1 : Hid (Sg cel3 a st w) := h1
  have hmx : max (1 : Int) (st.length : Int) = (most : Int) := by omega
  have hmx2 : (if (st.length : Int) < 1 then (1 : Int) else (st.length : Int)) = (most : Int) := by split <;> omega
  have hmx3 : (if (1 : Int) < (st.length : Int) then (st.length : Int) else (1 : Int)) = (most : Int) := by split <;> omega
  have hml : st.length ≤ most := by omega
  have hni : ¬ (1048576 : Int) < (st.length : Int) := by omega
  clear h1 hmost
  go_enter Try.func3, Try.ntmps3
  go_wp2_with (first
    | (go_at_call 6; refine HSO.out.mono ?_; clear HSO; rintro e w1 ⟨rfl, hb⟩; have HB1 : Hid (Below w.heap.size w w1) := hb; clear hb)
    | (go_at_call 7; refine (HNH.out _ HB1.out).mono ?_; clear HNH; rintro e w2 ⟨rfl, hr⟩; have HH0 : Hid (Hw w.heap.size w w2 w1.heap.size 8 false [] 0 (.slice none 0 0)) := hr; clear hr)
    | (go_at_call 9; refine (HNR.out _).mono ?_; clear HNR; rintro e w3 ⟨rfl, hr, hb⟩; have HS0 : Hid (HbG w w3 w1.heap.size 8 false [] 0 (.slice none 0 0) w2.heap.size none most []) := ⟨HH0.out.ht.below hb, hr, fun k hk hf => (by have h1 := HH0.out.ht.lt k hk; rcases hf with hf | hf <;> cases hf; omega), HH0.out.bel.trans (hb.mono HH0.out.bel.size), HH0.out.own, fun k hf => (by have h1 := HH0.out.bel.size; rcases hf with hf | hf <;> cases hf; exact h1)⟩; clear hr hb HH0 HB1; generalize w1.heap.size = b at *; generalize w2.heap.size = br at *))
  go_loopw [32] (fun iv wr => ∃ (k : Nat) (M : List En) (np : Nat) (v : Value) (q : Option Nat) (l : List (Int × Int)), iv = .int .i64 (k : Int) ∧ k ≤ st.length ∧ Hid (HbG w wr b 8 false M np v br q most l) ∧ Hid (l = M.map (·.1)) ∧ Hid (M.length ≤ k) ∧ Hid (np ≤ k)) (fun iv _ => st.length - (intOf iv).toNat)
  case atStart => exact ⟨0, [], 0, _, none, [], rfl, Nat.zero_le _, HS0.out, rfl, Nat.le_refl _, Nat.le_refl _⟩
  case round =>
    obtain ⟨k, M, np, v, q, l, rfl, hk, HS, HE, HM, HP⟩ := hrel
    clear HS0
    by_cases hlt : k < st.length
    · obtain ⟨g1, o1, rfl, hg1, d0, d1, d2⟩ := (H1.out.later3 HS.out.bel).cell3 k hlt
      have hki : (k : Int) < (st.length : Int) := by omega
      obtain ⟨t, ht⟩ : ∃ t, t = st[k] := ⟨_, rfl⟩
      rw [← ht] at d0 d1 d2
      clear ht
      by_cases hd : t.2.1 = 0
      · have hd2 : (t.2.1 == 0) = true := by simpa using hd
        clear hd
        have HHP : Hid (∀ wx, Below wr.heap.size wr wx → Calls Try.prog 10 #[.pointer (some ⟨b, 0, none⟩), .agg #[.int .i64 t.2.2, .int .i64 (k : Int)]] wx fun e w' => e = .returned (.int .i64 0) ∧ ∃ v', HbG w w' b 8 false (M ++ [((t.2.2, (k : Int)), np)]) (np + 1) v' br q most l ∧ Chg (Fb b v br q) wx w') := fun wx hb => hbG_hpush (HS.out.later hb) (t.2.2, (k : Int)) (by have := HM.out; omega) (by have := HP.out; omega)
        have HRP : Hid (∀ wx v', HbG w wx b 8 false (M ++ [((t.2.2, (k : Int)), np)]) (np + 1) v' br q most l → Calls Try.prog 11 #[.pointer (some ⟨br, 0, none⟩), .agg #[.int .i64 t.2.2, .int .i64 (k : Int)]] wx fun e w' => e = .returned (.int .i64 0) ∧ ∃ q', HbG w w' b 8 false (M ++ [((t.2.2, (k : Int)), np)]) (np + 1) v' br q' most (l ++ [(t.2.2, (k : Int))])) := fun wx v' h => by
          have hll : l.length ≤ k := by rw [HE.out, List.length_map]; exact HM.out
          exact hbG_push h (t.2.2, (k : Int)) (l ++ [(t.2.2, (k : Int))]) 0 (by unfold pushE; rw [if_neg (by omega), if_neg (by omega)]) (by unfold pushLG; rw [if_pos (by omega)])
        have HBA : Hid (Below wr.heap.size wr ((wr.alloc (.cells #[.int .i64 t.1, .int .i64 t.2.1, .int .i64 t.2.2] 34)).alloc (.cells #[.int .i64 t.2.2, .int .i64 (k : Int)] 27))) := ((Below.refl _ _).alloc (Nat.le_refl _) _).alloc (by simp) _
        have HXL : Hid (Lies ((wr.alloc (.cells #[.int .i64 t.1, .int .i64 t.2.1, .int .i64 t.2.2] 34)).alloc (.cells #[.int .i64 t.2.2, .int .i64 (k : Int)] 27)) (wr.heap.size + 1) #[.int .i64 t.2.2, .int .i64 (k : Int)] 27) := by have := Lies.new (wr.alloc (.cells #[.int .i64 t.1, .int .i64 t.2.1, .int .i64 t.2.2] 34)) #[.int .i64 t.2.2, .int .i64 (k : Int)] 27; rwa [World.size_alloc] at this
        have HXN : Hid (∀ j, Fb b v br q j → j < wr.heap.size) := HS.out.lt
        go_wp2_with (first
          | (go_at_call 10; refine (HHP.out _ HBA.out).mono ?_; clear HHP; rintro e w5 ⟨rfl, v5, hs, hc⟩; have HS5 : Hid (HbG w w5 b 8 false (M ++ [((t.2.2, (k : Int)), np)]) (np + 1) v5 br q most l) := hs; have hX := hc.lies HXL.out (fun hk => by have := HXN.out _ hk; omega); have x0 := hX.cell 0; have x1 := hX.cell 1; simp only [List.getElem?_toArray, List.getElem?_cons_zero, List.getElem?_cons_succ] at x0 x1; clear hs hc hX)
          | (go_at_call 11; refine (HRP.out _ _ HS5.out).mono ?_; clear HRP; rintro e w6 ⟨rfl, q6, hs⟩; have HS6 : Hid (HbG w w6 b 8 false (M ++ [((t.2.2, (k : Int)), np)]) (np + 1) v5 br q6 most (l ++ [(t.2.2, (k : Int))])) := hs; clear hs))
        go_roundw
        case rel => exact ⟨k + 1, _, np + 1, v5, q6, _, by go_num, by omega, HS6.out, by show _ = _; rw [HE.out, List.map_append]; rfl, by show _ ≤ _; rw [List.length_append, List.length_singleton]; have := HM.out; omega, by show _ ≤ _; have := HP.out; omega⟩
        case measure => simp [intOf]; omega
      · have hd2 : (t.2.1 == 0) = false := by simpa using hd
        clear hd
        have hinc := HS.out.ht.inc
        obtain ⟨x, hx⟩ : ∃ x, x = l.headD (0, 0) := ⟨_, rfl⟩
        have hxt : topM false M = x := by rw [hx, HE.out, top_false hinc]
        have hem : (!M.isEmpty) = (!l.isEmpty) := by rw [HE.out]; cases M <;> rfl
        obtain ⟨bb, hbb⟩ : ∃ bb, bb = (!l.isEmpty) := ⟨_, rfl⟩
        have HXN : Hid (∀ j, Fb b v br q j → j < wr.heap.size) := HS.out.lt
        have HPK : Hid (∀ wx, Below wr.heap.size wr wx → Calls Try.prog 12 #[.pointer (some ⟨b, 0, none⟩)] wx fun e w' => e = .returned (.tuple #[.agg #[.int .i64 x.1, .int .i64 x.2], .bool bb]) ∧ Below wx.heap.size wx w') := fun wx hb => by have := hpeek_t (HS.out.ht.below hb); rw [hxt, hem, ← hbb] at this; exact this
        have HPO : Hid (∀ wx, Below wr.heap.size wr wx → Calls Try.prog 13 #[.pointer (some ⟨b, 0, none⟩)] wx fun e w' => e = .returned (.tuple #[.agg #[.int .i64 x.1, .int .i64 x.2], .bool bb]) ∧ ∃ v', HbG w w' b 8 false (resM false M) np v' br q most l ∧ Chg (Fb b v br q) wx w' ∧ v'.ownBlock = v.ownBlock) := fun wx hb => by have := hbG_hpop (HS.out.later hb); rw [hxt, hem, ← hbb] at this; exact this
        have HRO : Hid (∀ wx v', HbG w wx b 8 false (resM false M) np v' br q most l → Calls Try.prog 14 #[.pointer (some ⟨br, 0, none⟩)] wx fun e w' => e = .returned (.tuple #[.agg #[.int .i64 x.1, .int .i64 x.2], .bool bb]) ∧ HbG w w' b 8 false (resM false M) np v' br q most l.tail ∧ Chg (Fb b v' br q) wx w') := fun wx v' h => by have := hbG_pop h; rw [← hx, ← hbb] at this; exact this
        have HRE : Hid ((resM false M).map (·.1) = l.tail) := by show _ = _; rw [res_false hinc, HE.out]
        have HA1 : Hid (Below wr.heap.size wr (wr.alloc (.cells #[.int .i64 t.1, .int .i64 t.2.1, .int .i64 t.2.2] 34))) := (Below.refl _ _).alloc (Nat.le_refl _) _
        clear hinc hx hxt hem hbb
        go_wp2_with (first
          | (go_at_call 12; refine (HPK.out _ HA1.out).mono ?_; clear HPK; rintro e w4 ⟨rfl, hb⟩; have HA2 : Hid (Below wr.heap.size wr (w4.alloc (.cells #[.int .i64 x.1, .int .i64 x.2] 27))) := (HA1.out.trans (hb.mono HA1.out.size)).alloc (HA1.out.trans (hb.mono HA1.out.size)).size _; have HZ4 : Hid (wr.heap.size ≤ w4.heap.size) := (HA1.out.trans (hb.mono HA1.out.size)).size; have HP9 : Hid (Lies (w4.alloc (.cells #[.int .i64 x.1, .int .i64 x.2] 27)) w4.heap.size #[.int .i64 x.1, .int .i64 x.2] 27) := Lies.new w4 _ _; clear hb HA1)
          | (go_at_call 13; refine (HPO.out _ HA2.out).mono ?_; clear HPO; rintro e w5 ⟨rfl, v5, hs, hc, ho⟩; have hz : w4.heap.size + 1 ≤ w5.heap.size := (by have := hc.size; simpa using this); have HP9' : Hid (Lies (w5.alloc (.cells #[.int .i64 x.1, .int .i64 x.2] 27)) w4.heap.size #[.int .i64 x.1, .int .i64 x.2] 27) := (hc.lies HP9.out (fun hk => (by have := HXN.out _ hk; have := HZ4.out; omega))).alloc _; have HP11 : Hid (Lies (w5.alloc (.cells #[.int .i64 x.1, .int .i64 x.2] 27)) w5.heap.size #[.int .i64 x.1, .int .i64 x.2] 27) := Lies.new w5 _ _; have HS5 : Hid (HbG w (w5.alloc (.cells #[.int .i64 x.1, .int .i64 x.2] 27)) b 8 false (resM false M) np v5 br q most l) := hs.later ((Below.refl _ _).alloc (Nat.le_refl _) _); have HO5 : Hid (∀ j, Fb b v5 br q j → j < wr.heap.size) := fun j hj => HXN.out j (by rcases hj with (hj | hj) | hj; exact .inl (.inl hj); exact .inl (.inr (by rw [← ho]; exact hj)); exact .inr hj); have HZ5 : Hid (wr.heap.size ≤ w5.heap.size) := (by have := HZ4.out; show _ ≤ _; omega); clear hs hc ho hz HP9)
          | (go_at_call 14; refine (HRO.out _ _ HS5.out).mono ?_; clear HRO; rintro e w6 ⟨rfl, hs, hc⟩; have HS6 : Hid (HbG w (w6.alloc (.cells #[.int .i64 x.1, .int .i64 x.2] 27)) b 8 false (resM false M) np v5 br q most l.tail) := hs.later ((Below.refl _ _).alloc (Nat.le_refl _) _); have f9 := (hc.lies HP9'.out (fun hk => (by have := HO5.out _ hk; have := HZ4.out; omega))).alloc (.cells #[.int .i64 x.1, .int .i64 x.2] 27); have f11 := (hc.lies HP11.out (fun hk => (by have := HO5.out _ hk; have := HZ5.out; omega))).alloc (.cells #[.int .i64 x.1, .int .i64 x.2] 27); have n0 := f9.cell 0; have n1 := f9.cell 1; have m0 := f11.cell 0; have m1 := f11.cell 1; simp only [List.getElem?_toArray, List.getElem?_cons_zero, List.getElem?_cons_succ] at n0 n1 m0 m1; clear hs hc f9 f11 HP9' HP11))
        go_roundw
        case rel => exact ⟨k + 1, _, np, v5, q, _, by go_num, by omega, HS6.out, HRE.out.symm, by show _ ≤ _; rw [resM_length]; have := HM.out; omega, by show _ ≤ _; have := HP.out; omega⟩
        case measure => simp [intOf]; omega
    · have hki : (st.length : Int) ≤ (k : Int) := by omega
      have HL1 : Hid (Calls Try.prog 15 #[.pointer (some ⟨b, 0, none⟩)] wr fun e w' => e = .returned (.int .i64 (M.length : Int)) ∧ w' = wr) := hlen_t HS.out.ht
      have HL2 : Hid (Calls Try.prog 16 #[.pointer (some ⟨br, 0, none⟩)] wr fun e w' => e = .returned (.int .i64 (M.length : Int)) ∧ w' = wr) := by have := lenG_any (some br) q most l wr HS.out.rg; rw [HE.out, List.length_map] at this; exact this
      go_wp2_with (first
        | (go_at_call 15; refine HL1.out.mono ?_; clear HL1; rintro e wz ⟨rfl, hz⟩; subst hz)
        | (go_at_call 16; refine HL2.out.mono ?_; clear HL2; rintro e wz ⟨rfl, hz⟩; subst hz))
      go_ret
      exact ⟨rfl, HS.out.bel⟩
theorem walk {w : World} (a : Option Addr) (st : List (Int × Int × Int)) (c : Nat) (h1 : Sg cel3 a st w ∧ ∀ t ∈ st, In64 t.1 ∧ In64 t.2.1 ∧ In64 t.2.2) (hl : st.length ≤ 5864062014634) :
    Calls Try.prog 3 #[.slice a st.length c] w fun e w' => e = .returned (.bool true) ∧ Below w.heap.size w w' := by
  by_cases hm : 1048576 < st.length
  · exact bad a _ c hm (by omega) w
  · exact good a st c w h1.1 (by omega)

theorem own : ownKnob Try.prog.godebug = none := by kernel_rfl
theorem laidOut : laidOutB Try.prog = true := by kernel_rfl
set_option maxRecDepth 100000 in
theorem contract (H : Type) (enc : TypeId × Value → H) (W : World) (base : Nat) (args : Array Value) (ds gs : List (DataW H)) (before : List MemPlace)
    (hval : ∀ (j : Nat) t v, Try.f3.params[j]? = some t → args[j]? = some v → Value.okWide Try.prog W .any base t v)
    (hW : DataW.Whole enc Try.prog Try.f3.params.toList Rows.queueAlikeSpec.vars false W args.toList ds gs before)
    (hsz : (DataW.weightsEach Try.prog (Try.f3.params.toList ++ Rows.queueAlikeSpec.plain.varTypes Try.prog) (ds ++ gs)).all (· ≤ reachBytes) = true)
    :
    Calls Try.prog 3 args W fun e W' => ∃ v, e = .returned v ∧ Rows.queueAlikeSpec.post enc Try.prog Try.f3 false true false false W args v W' := by
  have hW' := hW
  obtain ⟨p, q, hA0, hV, rfl, hfz, hnd⟩ := hW
  have hA : DataW.TrodAll enc Try.prog W 0 (fun _ => true) true Try.f3.params.toList args.toList ds p := hA0
  rw [Try.params3] at hA hval hsz
  obtain ⟨v0, vs0, d0, ds0, p0, q0, hargs, rfl, rfl, h0, r0⟩ := trodAll_cons hA
  obtain ⟨rfl, rfl, rfl⟩ := trodAll_nil r0
  obtain rfl : args = #[v0] := by cases args; simp_all
  obtain ⟨rfl, rfl⟩ := trodVars_none hV
  have k0 := h0
  have lt0 : ∀ x ∈ p0, x.block < W.heap.size := by obtain ⟨m, hm⟩ := k0; exact DataW.trod_lt m _ _ _ hm
  obtain ⟨a0, len0, cap0, rfl⟩ := okWide_slice Try.underlying22 (hval 0 22 v0 rfl rfl)
  obtain ⟨l0, e0, row0, bd0⟩ := open_ops h0
  clear hA0
  have s0 : l0.length ≤ 5864062014634 := by
    rcases bd0 with ⟨el, sp, rfl, hl⟩ | ⟨rfl, hl⟩
    · have := sized_slice hsz (j := 0) (t := 22) (e := 34) rfl rfl Try.underlying22
      rw [bytesO] at this
      simp only [reachBytes] at this
      omega
    · omega
  subst e0
  refine (walk a0 l0 cap0 row0 s0).mono fun e W' ⟨he, bel⟩ => ?_
  subst he
  exact ⟨_, rfl, _, _, _, [], _, [], hW', trodAll_mk1 (shut_bool Try.underlying4 _), trodAll_cons_mk (Below.trod laidOut (by kernel_rfl) (of_decide_eq_true (by kernel_rfl)) k0 bel lt0) trodAll_mk0, rfl, bel.frame _, fun h => by cases h⟩

set_option maxRecDepth 100000 in
theorem lifted (os : Os) (started : os.Started) (H : Type) (enc : TypeId × Value → H) :
    ReturnsInHanded {} Try.checked os 3 .any (Rows.queueAlikeSpec.pre6 enc Try.prog Try.f3 Rows.queueAlikeRow.domain false) (Rows.queueAlikeSpec.post enc Try.prog Try.f3 false true false false) := by
  refine returnsInHanded_of_change_sized (C := Try.checked) own started (by kernel_rfl) Try.func3
    (ChangeSpec.witness6 (enc := enc) (C := Try.checked) false ⟨#[], #[.slice none 0 0], []⟩ 8 (by kernel_rfl) (by kernel_rfl) (by kernel_rfl) (by kernel_rfl)) ?_
  intro W base args ds gs before hval0 hW hcnd hsz0 _
  exact contract H enc W base args ds gs before hval0 hW hsz0

theorem over : Rows.queueAlikeRow.holds Try.pinned (OpenSpec.ofChange Rows.queueAlikeSpec) :=
  OpenClaim.holds_of_wide 3 Try.f3 rfl rfl rfl rfl rfl rfl rfl ⟨rfl, rfl, rfl, rfl, rfl⟩ rfl rfl rfl rfl rfl (by kernel_rfl) Try.func3 (by kernel_rfl)
    (of_decide_eq_true (by kernel_rfl)) (by unfold Func.isWrapper; first | (rw [if_pos (by decide +kernel)]; kernel_rfl) | (rw [if_neg (by decide +kernel)]; exact ⟨rfl, rfl⟩))
    (fun os started H enc _ => lifted os started H enc)
end Go.Proofs.Ytgbbjhhggjocmab.queueAlike
namespace Go.Proofs.Ytgbbjhhggjocmab
theorem queueAlike_said : Rows.QueueAlikeSaid := queueAlike.over
#print axioms queueAlike_said
end Go.Proofs.Ytgbbjhhggjocmab
