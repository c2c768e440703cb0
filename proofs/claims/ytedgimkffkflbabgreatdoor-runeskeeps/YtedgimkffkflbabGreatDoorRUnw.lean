/-
  The document's Unpuny: the walk.
-/
import Derived.Test.YtedgimkffkflbabGreatDoorRUn
namespace Go.Proofs.YtedgimkffkflbabGreatDoor
open Go.RowKit

set_option maxHeartbeats 8000000 in
set_option maxRecDepth 100000 in
theorem dunp_any (s : ByteArray) (w : World) (hs : s.size ≤ 268435456) :
    Calls Tryz.prog 8 #[.string s] w fun e w' => (∃ v, e = .returned (.tuple #[v, .agg (unpV s.data.toList)]) ∧ w'.ownsRow w.heap.size 21 1 v (unpT s.data.toList).length (cellsN .i32 (unpT s.data.toList))) ∧ Below w.heap.size w w' := by
  have hll := len_list s
  have HUV : Hid (unpV s.data.toList = #[.int .i64 ((unpE s.data.toList).1 : Nat), .int .i64 ((unpE s.data.toList).2 : Nat)]) := rfl
  have HS0 : Hid (Lies (w.alloc (.cells #[.int .i64 0, .int .i64 0] 30)) w.heap.size #[.int .i64 0, .int .i64 0] 30) := Lies.new w _ _
  have HB0 : Hid (Below w.heap.size w (w.alloc (.cells #[.int .i64 0, .int .i64 0] 30))) := (Below.refl _ _).alloc (Nat.le_refl _) _
  go_enter Tryz.func8, Tryz.ntmps8
  go_wp2_with fail
  generalize w.alloc (.cells #[.int .i64 0, .int .i64 0] 30) = wa at HS0 HB0 ⊢
  go_loop [5, 6] (fun av pv => ∃ p : Nat, pv = .int .i64 p ∧ av = .int .i64 (mkP s.data.toList p : Nat) ∧ 1 ≤ p ∧ p ≤ max s.size 1) (fun _ pv => s.size - (intOf pv).toNat)
  case atStart => exact ⟨1, rfl, by rw [mkP_one]; rfl, by omega, by omega⟩
  case round =>
    obtain ⟨p, rfl, rfl, hp1, hp2⟩ := hrel
    by_cases hps : p < s.size
    · have hps' : p < s.data.toList.length := by omega
      have hat := at_list s p hps
      have hi : (p : Int) < (s.size : Int) := by omega
      by_cases h45 : s[p] = 45
      · have HM : Hid (mkP s.data.toList (p + 1) = p + 1) := mkP_yes _ _ hp1 (by rw [List.getElem?_eq_getElem hps', hat, h45])
        have h45' : (s[p].toNat : Int) = 45 := by rw [h45]; rfl
        clear hat h45
        go_wp2
        go_round
        case rel => exact ⟨p + 1, by go_num, by rw [HM.out]; go_num, by omega, by omega⟩
        case measure => simp [intOf]; omega
      · have HM : Hid (mkP s.data.toList (p + 1) = mkP s.data.toList p) := mkP_no _ _ (by rw [List.getElem?_eq_getElem hps', hat]; simpa using h45)
        have h45' : ¬ (s[p].toNat : Int) = 45 := fun h => h45 (UInt8.toNat_inj.1 (by rw [show (45 : UInt8).toNat = 45 from rfl]; omega))
        clear hat h45
        go_wp2
        go_round
        case rel => exact ⟨p + 1, by go_num, by rw [HM.out], by omega, by omega⟩
        case measure => simp [intOf]; omega
    · have hpe : p = max s.size 1 := by omega
      rw [mkP_end s.data.toList p (by rw [hll]; exact hpe)]
      have hi : ¬ (p : Int) < (s.size : Int) := by omega
      have hrel := mrk_rel s.data.toList
      have hnl := mrkN_le s.data.toList
      have hsl := mrkS_le s.data.toList
      rw [hll] at hnl hsl
      have HZ0 : Hid (hiN (s.data.toList.take (mrkN s.data.toList)) < mrkN s.data.toList → unpT s.data.toList = [] ∧ unpE s.data.toList = (51, hiN (s.data.toList.take (mrkN s.data.toList)))) := fun h => ⟨if_pos h, if_pos h⟩
      have HZ1 : Hid (hiN (s.data.toList.take (mrkN s.data.toList)) = mrkN s.data.toList → (unpT s.data.toList, unpE s.data.toList) = finU (lowR (s.data.toList.take (mrkN s.data.toList))) (unL s.data.toList s.size (mrkS s.data.toList) 128 0 (mrkN s.data.toList) 72 true)) := fun h => by
        have hn : ¬ hiN (s.data.toList.take (mrkN s.data.toList)) < mrkN s.data.toList := by omega
        have e0 : unL s.data.toList s.size (mrkS s.data.toList) 128 0 (mrkN s.data.toList) 72 true = unpD s.data.toList := by unfold unpD; rw [hll]
        rw [e0]
        unfold unpT unpE
        rw [if_neg hn, if_neg hn]
        cases unpD s.data.toList with
        | inl e => rfl
        | inr ps => rfl
      clear hpe hp1 hp2 hps
      generalize mrkN s.data.toList = N at *
      generalize mrkS s.data.toList = S at *
      have hNS : ((S : Nat) : Int) - 1 = (N : Int) ∨ (N = 0 ∧ S = 0) := by omega
      go_wp2_with fail
      have hwa := HS0.out.lt
      go_loopw [4, 7] (fun ov iv wr => ∃ k : Nat, iv = .int .i64 k ∧ k ≤ N ∧ Hid (wr.ownsRow wa.heap.size 21 1 ov k (cellsN .i32 (lowR (s.data.toList.take k)))) ∧ Hid (Below wa.heap.size wa wr) ∧ Hid (∀ j (hj : j < s.data.toList.length), j < k → s.data.toList[j].toNat < 128)) (fun _ iv _ => N - (intOf iv).toNat)
      case atStart => exact ⟨0, rfl, Nat.zero_le _, own_nilN _ _ _ _, Below.refl _ _, fun j _ h => absurd h (Nat.not_lt_zero _)⟩
      case round =>
        obtain ⟨k, rfl, hk, HO, HB, HP⟩ := hrel
        have hwr := HB.out.size
        by_cases hkN : k < N
        · have hks : k < s.size := by omega
          have hks' : k < s.data.toList.length := by omega
          have hat := at_list s k hks
          have hi1 : (k : Int) < (s.size : Int) := by omega
          have hi2 : (k : Int) < ((S : Nat) : Int) - 1 := by omega
          by_cases h128 : s[k].toNat < 128
          · have HP2 : Hid (∀ j (hj : j < s.data.toList.length), j < k + 1 → s.data.toList[j].toNat < 128) := fun j hj hjk => by
              rcases Nat.lt_or_ge j k with h | h
              · exact HP.out j hj h
              · obtain rfl : j = k := by omega
                rw [hat]; exact h128
            have HLR : Hid (lowR (s.data.toList.take (k + 1)) = lowR (s.data.toList.take k) ++ [(s[k].toNat : Int)]) := by
              show _ = _
              unfold lowR
              rw [List.take_succ_eq_append_getElem hks', List.map_append, hat]
              rfl
            have h128' : ¬ (127 : Int) < (s[k].toNat : Int) := by omega
            have hw32 : IntKind.i32.wrap (s[k].toNat : Int) = (s[k].toNat : Int) := by rw [IntKind.wrap_i32]; omega
            clear hat
            go_wp2_with (at_builtin; refine wpList_append_num rfl _ _ 22 21 4 .i32 Tryz.underlying22 infoR (by omega) rfl wa.heap.size _ k (lowR (s.data.toList.take k)) rfl (HO.out.alloc _) ⟨wr.heap.size, 0, none⟩ (s[k].toNat : Int) 1 rfl (one_nts _ _ _ _) (by omega) (by simp; omega) ?_)
            intro v4 w4 hown4 hgrow4
            have hg4 := grown_on (World.grownBy_alloc wr _ (u4 : Value).ownBlock) hgrow4 (fun _ h => .inl h.symm)
            have HW4 : Hid (Below wa.heap.size wa w4) := HB.out.grown hg4 HB.out.size (fun q hq => (HO.out.lt q hq).1)
            have HO4 : Hid (w4.ownsRow wa.heap.size 21 1 v4 (k + 1) (cellsN .i32 (lowR (s.data.toList.take (k + 1))))) := by
              show World.ownsRow _ _ _ _ _ _ _
              rw [HLR.out]
              exact hown4
            clear hown4 hgrow4 hg4
            go_wp2
            go_roundw
            case rel => exact ⟨k + 1, by go_num, by omega, HO4, HW4, HP2⟩
            case measure => simp [intOf]; omega
          · have hhi : hiN (s.data.toList.take N) = k := by
              refine hiN_at _ k (by rw [List.length_take]; omega) (fun j hj hjk => ?_) ?_
              · rw [List.getElem_take]; exact HP.out j (by omega) hjk
              · rw [List.getElem_take, hat]; exact h128
            obtain ⟨hz1, hz2⟩ := HZ0.out (by omega)
            have HZT : Hid (unpT s.data.toList = []) := hz1
            have HZV : Hid (unpV s.data.toList = #[.int .i64 51, .int .i64 (k : Nat)]) := by show _ = _; rw [HUV.out, hz2, hhi]; rfl
            have h128' : (127 : Int) < (s[k].toNat : Int) := by omega
            have HS : Hid (Lies wr w.heap.size #[.int .i64 0, .int .i64 0] 30) := HS0.out.below HB.out hwa
            have HBw : Hid (Below w.heap.size w wr) := HB0.out.trans (HB.out.mono (by omega))
            have c0 := HS.out.cell 0
            have c1 := HS.out.cell 1
            have f0 := HS.out.frozen 0
            have f1 := HS.out.frozen 1
            simp at c0 c1
            have HZ : Hid (Lies ((wr.setCell ⟨w.heap.size, 0, none⟩ (.int .i64 51)).setCell ⟨w.heap.size, 1, none⟩ (.int .i64 (k : Nat))) w.heap.size #[.int .i64 51, .int .i64 (k : Nat)] 30) := (HS.out.set 0 _).set 1 _
            have z0 := HZ.out.cell 0
            have z1 := HZ.out.cell 1
            simp at z0 z1
            clear hz1 hz2 hhi hat
            go_wp2
            (try simp only [Exit.inBlock, Exit.then])
            refine bodyPost_ret (v := .tuple #[.slice none 0 0, .agg #[.int .i64 51, .int .i64 (k : Nat)]]) (by simp [results, Tryz.results8, go_sem, z0, z1]) rfl ⟨⟨.slice none 0 0, by rw [HZV.out], by rw [HZT.out]; exact own_nilN _ _ _ _⟩, (HBw.out.setCell (p := ⟨w.heap.size, 0, none⟩) (Nat.le_refl _) _).setCell (p := ⟨w.heap.size, 1, none⟩) (Nat.le_refl _) _⟩
        · obtain rfl : k = N := by omega
          have hfull : hiN (s.data.toList.take k) = k := by
            have := hiN_full (s.data.toList.take k) (fun j hj => by rw [List.length_take] at hj; rw [List.getElem_take]; exact HP.out j (by omega) (by omega))
            rw [List.length_take, hll] at this
            omega
          have HF0 : Hid _ := HZ1.out hfull
          have hi2 : ¬ (k : Int) < ((S : Nat) : Int) - 1 := by omega
          have hkS : k ≤ S := by omega
          have hacc0 : (lowR (s.data.toList.take k)).length = k := by unfold lowR; rw [List.length_map, List.length_take]; omega
          clear HZ0 HZ1 HP hfull hkN hNS hrel
          go_wp2_with fail
          generalize hAC : lowR (s.data.toList.take k) = ac0 at *
          clear hAC
          go_loopw [4, 5, 8, 9, 10, 11, 12, 13, 14, 15, 16, 17] (fun ov av nv iv bv fv _ _ _ _ _ _ wr => ∃ (fuel at' i bias : Nat) (n : Int) (first : Bool) (acc : List Int), av = .int .i64 at' ∧ nv = .int .i64 n ∧ iv = .int .i64 i ∧ bv = .int .i64 bias ∧ fv = .bool first ∧ at' ≤ s.size ∧ s.size ≤ at' + fuel ∧ bias ≤ 8589934592 ∧ acc.length ≤ at' + 1 ∧ i ≤ acc.length ∧ 128 ≤ n ∧ n ≤ 1114111 ∧ Hid (wr.ownsRow wa.heap.size 21 1 ov acc.length (cellsN .i32 acc)) ∧ Hid (Below wa.heap.size wa wr) ∧ Hid ((unpT s.data.toList, unpE s.data.toList) = finU acc (unL s.data.toList fuel at' n i acc.length bias first))) (fun _ av _ _ _ _ _ _ _ _ _ _ _ => s.size - (intOf av).toNat)
          case atStart => exact ⟨s.size, S, 0, 72, 128, true, ac0, rfl, rfl, rfl, rfl, rfl, hsl, by omega, by omega, by omega, by omega, by omega, by omega, by rw [hacc0]; exact HO, HB, by rw [hacc0]; exact HF0⟩
          case round =>
            obtain ⟨fuel, at', i, bias, n, first, acc, rfl, rfl, rfl, rfl, rfl, hat, hfu, hbi, hal, hia, hn0, hn1, HO, HB, HF⟩ := hrel
            have hwr := HB.out.size
            have HS : Hid (Lies wr w.heap.size #[.int .i64 0, .int .i64 0] 30) := HS0.out.below HB.out hwa
            have HBw : Hid (Below w.heap.size w wr) := HB0.out.trans (HB.out.mono (by omega))
            by_cases hlt : at' < s.size
            · obtain ⟨fuel, rfl⟩ : ∃ f, fuel = f + 1 := ⟨fuel - 1, by omega⟩
              have hrd := dstep_any s at' bias wr (by omega) hat hbi
              have hlt' : (at' : Int) < (s.size : Int) := by omega
              cases hR : rdS bias (s.data.toList.drop at') 0 at' 0 1 with
              | inl e =>
                obtain ⟨c, q⟩ := e
                have hF := HF.out.trans (finU_inl _ acc fuel at' n i acc.length bias first (by omega) _ hR)
                have hz1 : unpT s.data.toList = [] := congrArg Prod.fst hF
                have hz2 : unpE s.data.toList = (c, q) := congrArg Prod.snd hF
                have HZT : Hid (unpT s.data.toList = []) := hz1
                have HZV : Hid (unpV s.data.toList = #[.int .i64 (c : Nat), .int .i64 (q : Nat)]) := by show _ = _; rw [HUV.out, hz2]
                have hcne : (((c : Nat) : Int) != 0) = true := by
                  have : c = 51 ∨ c = 52 := rdS_err hR
                  rcases this with rfl | rfl <;> rfl
                rw [hR] at hrd
                unfold rdV at hrd
                simp only at hrd
                clear hR hF hz1 hz2 HF
                go_wp2_with fail
                refine hrd.mono ?_
                rintro e w5 ⟨rfl, b5⟩
                have HS5 : Hid (Lies w5 w.heap.size #[.int .i64 0, .int .i64 0] 30) := HS.out.below b5 HS.out.lt
                have HB5 : Hid (Below w.heap.size w w5) := HBw.out.trans (b5.mono HBw.out.size)
                have hs5 : w.heap.size < w5.heap.size := HS5.out.lt
                clear b5 hrd
                go_wp2_with fail
                have z0 := (HS5.out.alloc (.cells #[.int .i64 (c : Nat), .int .i64 (q : Nat)] 30)).cell 0
                have z1 := (HS5.out.alloc (.cells #[.int .i64 (c : Nat), .int .i64 (q : Nat)] 30)).cell 1
                have y0 := (HS5.out.alloc (.cells #[.int .i64 (c : Nat), .int .i64 (q : Nat)] 30)).frozen 0
                have y1 := (HS5.out.alloc (.cells #[.int .i64 (c : Nat), .int .i64 (q : Nat)] 30)).frozen 1
                have x0 := (Lies.new w5 #[.int .i64 (c : Nat), .int .i64 (q : Nat)] 30).cell 0
                have x1 := (Lies.new w5 #[.int .i64 (c : Nat), .int .i64 (q : Nat)] 30).cell 1
                simp only [List.getElem?_toArray, List.getElem?_cons_zero, List.getElem?_cons_succ] at z0 z1 x0 x1
                have HBZ : Hid (Below w.heap.size w (w5.alloc (.cells #[.int .i64 (c : Nat), .int .i64 (q : Nat)] 30))) := HB5.out.alloc HB5.out.size _
                generalize w5.alloc (.cells #[.int .i64 (c : Nat), .int .i64 (q : Nat)] 30) = w6 at z0 z1 y0 y1 x0 x1 HBZ ⊢
                generalize w5.heap.size = g5 at *
                go_region
                all_goals go_wp2
                all_goals (try simp only [Exit.inBlock, Exit.then])
                all_goals refine bodyPost_ret (v := .tuple #[.slice none 0 0, .agg #[.int .i64 (c : Nat), .int .i64 (q : Nat)]]) (by simp [results, Tryz.results8, go_sem, z0, z1]) rfl ⟨⟨.slice none 0 0, by rw [HZV.out], ?_⟩, ?_⟩
                all_goals first
                  | (rw [HZT.out]; exact own_nilN _ _ _ _)
                  | exact ((HBZ.out.setCell (p := ⟨w.heap.size, 0, none⟩) (Nat.le_refl _) _).setCell (p := ⟨w.heap.size, 1, none⟩) (Nat.le_refl _) _).drew
                  | exact ((HBZ.out.drew.setCell (p := ⟨w.heap.size, 0, none⟩) (Nat.le_refl _) _).setCell (p := ⟨w.heap.size, 1, none⟩) (Nat.le_refl _) _)
              | inr sb =>
                obtain ⟨st, bh⟩ := sb
                obtain ⟨hb1, hb2, hst⟩ := rdS_some hR
                rw [List.length_drop, hll] at hb2
                have hFu := finU_utf s.data.toList acc fuel at' n i acc.length bias first (by omega) st bh hR
                have hFg := finU_go s.data.toList acc fuel at' n i acc.length bias first (by omega) st bh hR
                rw [hR] at hrd
                unfold rdV at hrd
                simp only at hrd
                have hD0 : (i + st) / (acc.length + 1) ≤ i + st := Nat.div_le_self _ _
                have hM0 : (i + st) % (acc.length + 1) < acc.length + 1 := Nat.mod_lt _ (by omega)
                have hq1 : ((i : Int) + (st : Int)).tdiv ((acc.length : Int) + 1) = (((i + st) / (acc.length + 1) : Nat) : Int) := by
                  rw [Int.tdiv_eq_ediv_of_nonneg (by omega)]
                  push_cast
                  rfl
                have hq2 : ((i : Int) + (st : Int)).tmod ((acc.length : Int) + 1) = (((i + st) % (acc.length + 1) : Nat) : Int) := by
                  rw [Int.tmod_eq_emod_of_nonneg (by omega)]
                  push_cast
                  rfl
                have hh0 : ¬ ((acc.length : Int) + 1 = 0) := by omega
                have hbb := biasB_le st (acc.length + 1) first
                have hHB : Hid (∀ wx, Calls Tryz.prog 29 #[.int .i64 st, .int .i64 ((acc.length : Int) + 1), .bool first] wx fun e w' => e = .returned (.int .i64 (biasB st (acc.length + 1) first)) ∧ w' = wx) := fun wx => by
                  have := dbias_any st (acc.length + 1) first hst (by omega) (by omega) wx
                  rw [show (((acc.length + 1 : Nat)) : Int) = (acc.length : Int) + 1 from by push_cast; rfl] at this
                  exact this
                have HIS : Hid (∀ x wx, Calls Tryz.prog 28 #[.int .i64 x] wx fun e w' => e = .returned (.bool (decide (isR x))) ∧ w' = wx) := fun x wx => dis_any x wx
                generalize (i + st) / (acc.length + 1) = DD at *
                generalize (i + st) % (acc.length + 1) = MM at *
                generalize biasB st (acc.length + 1) first = BI at *
                clear hR
                go_wp2_with fail
                refine hrd.mono ?_
                rintro e w5 ⟨rfl, b5⟩
                have HB6 : Hid (Below wa.heap.size wa (w5.alloc (.cells #[.int .i64 0, .int .i64 0] 30))) := (HB.out.trans (b5.mono HB.out.size)).alloc (Nat.le_trans HB.out.size b5.size) _
                have HO6 : Hid ((w5.alloc (.cells #[.int .i64 0, .int .i64 0] 30)).ownsRow wa.heap.size 21 1 u4 acc.length (cellsN .i32 acc)) := (ownN_below HO.out b5).alloc _
                have hs6 : wa.heap.size ≤ (w5.alloc (.cells #[.int .i64 0, .int .i64 0] 30)).heap.size := HB6.out.size
                have x0 := (Lies.new w5 #[.int .i64 0, .int .i64 0] 30).cell 0
                simp only [List.getElem?_toArray, List.getElem?_cons_zero] at x0
                have hw1 : IntKind.i64.wrap ((i : Int) + (st : Int)) = (i : Int) + (st : Int) := by rw [IntKind.wrap_i64]; omega
                have hw2 : IntKind.i64.wrap (n + (DD : Int)) = n + (DD : Int) := by rw [IntKind.wrap_i64]; omega
                clear b5 hrd HO HB HBw HS
                obtain ⟨a4, c4, rfl, n4, -, hnc4, hle4, hbd4⟩ := own_nts HO6.out
                by_cases hr : isR (n + ((DD : Nat) : Int))
                · have HF2 : Hid _ := HF.out.trans (hFg hr)
                  have hrb := hr
                  obtain ⟨hr0, hr1, -⟩ := hrb
                  have hw3 : IntKind.i32.wrap (n + (DD : Int)) = n + (DD : Int) := by rw [IntKind.wrap_i32]; omega
                  have HI := HIS.out (n + (DD : Int)) (w5.alloc (.cells #[.int .i64 0, .int .i64 0] 30))
                  rw [decide_eq_true hr] at HI
                  clear hFu hFg HF HIS hr
                  go_wp2_with fail
                  generalize w5.alloc (.cells #[.int .i64 0, .int .i64 0] 30) = w6 at *
                  generalize w5.heap.size = g5 at *
                  refine HI.mono ?_
                  rintro e w7 ⟨rfl, rfl⟩
                  have hMc : ((MM : Nat) : Int) ≤ (c4 : Int) := by omega
                  have hMl : ((MM : Nat) : Int) ≤ (acc.length : Int) := by omega
                  cases a4 with
                  | none =>
                    have HA0 : Hid (acc = []) := nts_none n4
                    have hc0 : c4 = 0 := hnc4 rfl
                    subst hc0
                    go_wp2_with (at_builtin; refine wpList_append_nums rfl _ _ 22 21 4 .i32 Tryz.underlying22 infoR (by omega) rfl w7.heap.size _ 0 [] rfl (own_nilN _ _ _ _) none (acc.take MM) MM 0 rfl (by rw [List.length_take]; omega) (by rw [HA0.out, List.take_nil]; exact .inl rfl) (fun _ => rfl) (by omega) (Nat.le_refl _) ?_)
                    intro v8 w8 hown8 hgrow8
                    have hb8 : Below w7.heap.size w7 w8 := (Below.refl _ w7).grown hgrow8 (Nat.le_refl _) (fun q hq => by cases hq)
                    have HB8 : Hid (Below w7.heap.size w7 w8) := hb8
                    have HO8 : Hid (w8.ownsRow w7.heap.size 21 1 v8 MM (cellsN .i32 (acc.take MM))) := by
                      show World.ownsRow _ _ _ _ _ _ _
                      simpa using hown8
                    have hz8 := hb8.size
                    clear hown8 hgrow8 hb8
                    go_wp2_with (at_builtin; refine wpList_append_num rfl _ _ 22 21 4 .i32 Tryz.underlying22 infoR (by omega) rfl w7.heap.size _ MM (acc.take MM) rfl (HO8.out.alloc _) ⟨w8.heap.size, 0, none⟩ (n + (DD : Int)) 1 rfl (one_nts _ _ _ _) (by omega) (by simp; omega) ?_)
                    intro v9 w9 hown9 hgrow9
                    have hg9 := grown_on (World.grownBy_alloc w8 _ (v8 : Value).ownBlock) hgrow9 (fun _ h => .inl h.symm)
                    have HB9 : Hid (Below w7.heap.size w7 w9) := HB8.out.grown hg9 HB8.out.size (fun q hq => (HO8.out.lt q hq).1)
                    have HO9 : Hid (w9.ownsRow w7.heap.size 21 1 v9 (MM + 1) (cellsN .i32 (acc.take MM ++ [n + (DD : Int)]))) := hown9
                    have hz9 := HB9.out.size
                    clear hown9 hgrow9 hg9 HB8 HO8 hz8
                    go_wp2_with (at_builtin; refine wpList_append_nums rfl _ _ 22 21 4 .i32 Tryz.underlying22 infoR (by omega) rfl w7.heap.size _ (MM + 1) (acc.take MM ++ [n + (DD : Int)]) rfl HO9.out none (acc.drop MM) (acc.length - MM) 0 rfl (by rw [List.length_drop]) (by rw [HA0.out, List.drop_nil]; exact .inl rfl) (fun _ => rfl) (by omega) hz9 ?_)
                    intro v10 w10 hown10 hgrow10
                    have HB10 : Hid (Below w7.heap.size w7 w10) := HB9.out.grown hgrow10 HB9.out.size (fun q hq => (HO9.out.lt q hq).1)
                    have HO10 : Hid (w10.ownsRow wa.heap.size 21 1 v10 (acc.insertIdx MM (n + (DD : Int))).length (cellsN .i32 (acc.insertIdx MM (n + (DD : Int))))) := by
                      have := base_le hown10 hs6
                      rw [show acc.take MM ++ (n + (DD : Int)) :: acc.drop MM = acc.take MM ++ [n + (DD : Int)] ++ acc.drop MM from by simp, ins_parts acc MM _ (by omega), show MM + 1 + (acc.length - MM) = acc.length + 1 from by omega] at this
                      rw [List.length_insertIdx_of_le_length (by omega)]
                      exact this
                    have HBa : Hid (Below wa.heap.size wa w10) := HB6.out.trans (HB10.out.mono hs6)
                    have HLI : Hid ((acc.insertIdx MM (n + (DD : Int))).length = acc.length + 1) := List.length_insertIdx_of_le_length (by omega) _
                    clear hown10 hgrow10 HB9 HO9 hz9 HB10
                    go_wp2_with fail
                    refine (hHB.out _).mono ?_
                    rintro e w11 ⟨rfl, rfl⟩
                    go_wp2
                    go_roundw
                    case rel =>
                      refine ⟨fuel, bh, MM + 1, BI, n + (DD : Int), false, acc.insertIdx MM (n + (DD : Int)), rfl, rfl, by go_num, rfl, rfl, by omega, by omega, by omega, by rw [HLI.out]; omega, by rw [HLI.out]; omega, by omega, hr1, HO10, HBa, ?_⟩
                      rw [HLI.out]
                      exact HF2
                    case measure => simp [intOf]; omega
                  | some ad =>
                    obtain ⟨hg0, hg1, ho, hsp⟩ := hbd4 ad rfl
                    obtain ⟨g, o, sp⟩ := ad
                    simp only at hg0 hg1 ho hsp
                    subst ho hsp
                    obtain ⟨AD, hAD⟩ : ∃ AD : Option Addr, (if c4 = MM then some (⟨g, 0, none⟩ : Addr) else some ⟨g, MM, none⟩) = AD := ⟨_, rfl⟩
                    have HND : Hid (∀ wx, Below w7.heap.size w7 wx → Nts .i32 AD (acc.drop MM) wx) := fun wx hx => by
                      rw [← hAD]
                      by_cases h : c4 = MM
                      · rw [if_pos h]
                        exact .inl (List.drop_eq_nil_of_le (by omega))
                      · rw [if_neg h]
                        have := nts_drop n4 MM
                        rw [Nat.zero_add] at this
                        exact this.below hx
                    have HAN : Hid (AD ≠ none) := fun h => by
                      rw [← hAD] at h
                      by_cases h' : c4 = MM
                      · rw [if_pos h'] at h; cases h
                      · rw [if_neg h'] at h; cases h
                    go_wp2_with (at_builtin; refine wpList_append_nums rfl _ _ 22 21 4 .i32 Tryz.underlying22 infoR (by omega) rfl w7.heap.size _ 0 [] rfl (own_nilN _ _ _ _) (some ⟨g, 0, none⟩) (acc.take MM) MM c4 rfl (by rw [List.length_take]; omega) (nts_take n4 MM) (fun e => by cases e) (by omega) (Nat.le_refl _) ?_)
                    intro v8 w8 hown8 hgrow8
                    have hb8 : Below w7.heap.size w7 w8 := (Below.refl _ w7).grown hgrow8 (Nat.le_refl _) (fun q hq => by cases hq)
                    have HB8 : Hid (Below w7.heap.size w7 w8) := hb8
                    have HO8 : Hid (w8.ownsRow w7.heap.size 21 1 v8 MM (cellsN .i32 (acc.take MM))) := by
                      show World.ownsRow _ _ _ _ _ _ _
                      simpa using hown8
                    have hz8 := hb8.size
                    clear hown8 hgrow8 hb8
                    go_wp2_with (at_builtin; refine wpList_append_num rfl _ _ 22 21 4 .i32 Tryz.underlying22 infoR (by omega) rfl w7.heap.size _ MM (acc.take MM) rfl (HO8.out.alloc _) ⟨w8.heap.size, 0, none⟩ (n + (DD : Int)) 1 rfl (one_nts _ _ _ _) (by omega) (by simp; omega) ?_)
                    intro v9 w9 hown9 hgrow9
                    have hg9 := grown_on (World.grownBy_alloc w8 _ (v8 : Value).ownBlock) hgrow9 (fun _ h => .inl h.symm)
                    have HB9 : Hid (Below w7.heap.size w7 w9) := HB8.out.grown hg9 HB8.out.size (fun q hq => (HO8.out.lt q hq).1)
                    have HO9 : Hid (w9.ownsRow w7.heap.size 21 1 v9 (MM + 1) (cellsN .i32 (acc.take MM ++ [n + (DD : Int)]))) := hown9
                    have hz9 := HB9.out.size
                    clear hown9 hgrow9 hg9 HB8 HO8 hz8
                    go_wp2_with (at_builtin; refine wpList_append_nums rfl _ _ 22 21 4 .i32 Tryz.underlying22 infoR (by omega) rfl w7.heap.size _ (MM + 1) (acc.take MM ++ [n + (DD : Int)]) rfl HO9.out AD (acc.drop MM) (acc.length - MM) (c4 - MM) rfl (by rw [List.length_drop]) (HND.out _ HB9.out) (fun e => absurd e HAN.out) (by omega) hz9 ?_)
                    intro v10 w10 hown10 hgrow10
                    have HB10 : Hid (Below w7.heap.size w7 w10) := HB9.out.grown hgrow10 HB9.out.size (fun q hq => (HO9.out.lt q hq).1)
                    have HO10 : Hid (w10.ownsRow wa.heap.size 21 1 v10 (acc.insertIdx MM (n + (DD : Int))).length (cellsN .i32 (acc.insertIdx MM (n + (DD : Int))))) := by
                      have := base_le hown10 hs6
                      rw [show acc.take MM ++ (n + (DD : Int)) :: acc.drop MM = acc.take MM ++ [n + (DD : Int)] ++ acc.drop MM from by simp, ins_parts acc MM _ (by omega), show MM + 1 + (acc.length - MM) = acc.length + 1 from by omega] at this
                      rw [List.length_insertIdx_of_le_length (by omega)]
                      exact this
                    have HBa : Hid (Below wa.heap.size wa w10) := HB6.out.trans (HB10.out.mono hs6)
                    have HLI : Hid ((acc.insertIdx MM (n + (DD : Int))).length = acc.length + 1) := List.length_insertIdx_of_le_length (by omega) _
                    clear hown10 hgrow10 HB9 HO9 hz9 HB10
                    go_wp2_with fail
                    refine (hHB.out _).mono ?_
                    rintro e w11 ⟨rfl, rfl⟩
                    go_wp2
                    go_roundw
                    case rel =>
                      refine ⟨fuel, bh, MM + 1, BI, n + (DD : Int), false, acc.insertIdx MM (n + (DD : Int)), rfl, rfl, by go_num, rfl, rfl, by omega, by omega, by omega, by rw [HLI.out]; omega, by rw [HLI.out]; omega, by omega, hr1, HO10, HBa, ?_⟩
                      rw [HLI.out]
                      exact HF2
                    case measure => simp [intOf]; omega
                · have hF := HF.out.trans (hFu hr)
                  have hz1 : unpT s.data.toList = [] := congrArg Prod.fst hF
                  have hz2 : unpE s.data.toList = (50, bh - 1) := congrArg Prod.snd hF
                  have HZT : Hid (unpT s.data.toList = []) := hz1
                  have HZV : Hid (unpV s.data.toList = #[.int .i64 50, .int .i64 ((bh - 1 : Nat) : Int)]) := by show _ = _; rw [HUV.out, hz2]; rfl
                  have HI := HIS.out (n + (DD : Int)) (w5.alloc (.cells #[.int .i64 0, .int .i64 0] 30))
                  rw [decide_eq_false hr] at HI
                  have HS6 : Hid (Lies (w5.alloc (.cells #[.int .i64 0, .int .i64 0] 30)) w.heap.size #[.int .i64 0, .int .i64 0] 30) := HS0.out.below HB6.out hwa
                  have HBw6 : Hid (Below w.heap.size w (w5.alloc (.cells #[.int .i64 0, .int .i64 0] 30))) := HB0.out.trans (HB6.out.mono (by omega))
                  clear hF hz1 hz2 hFu hFg HF HIS hr
                  go_wp2_with fail
                  generalize w5.alloc (.cells #[.int .i64 0, .int .i64 0] 30) = w6 at *
                  generalize w5.heap.size = g5 at *
                  have hbe : (bh : Int) - 1 = ((bh - 1 : Nat) : Int) := by omega
                  have c0 := HS6.out.cell 0
                  have c1 := HS6.out.cell 1
                  have f0 := HS6.out.frozen 0
                  have f1 := HS6.out.frozen 1
                  simp at c0 c1
                  have HZ : Hid (Lies ((w6.setCell ⟨w.heap.size, 0, none⟩ (.int .i64 50)).setCell ⟨w.heap.size, 1, none⟩ (.int .i64 ((bh - 1 : Nat) : Int))) w.heap.size #[.int .i64 50, .int .i64 ((bh - 1 : Nat) : Int)] 30) := (HS6.out.set 0 _).set 1 _
                  have z0 := HZ.out.cell 0
                  have z1 := HZ.out.cell 1
                  simp at z0 z1
                  refine HI.mono ?_
                  rintro e w7 ⟨rfl, rfl⟩
                  go_wp2
                  (try simp only [Exit.inBlock, Exit.then])
                  refine bodyPost_ret (v := .tuple #[.slice none 0 0, .agg #[.int .i64 50, .int .i64 ((bh - 1 : Nat) : Int)]]) (by simp [results, Tryz.results8, go_sem, z0, z1]) rfl ⟨⟨.slice none 0 0, by rw [HZV.out], by rw [HZT.out]; exact own_nilN _ _ _ _⟩, (HBw6.out.setCell (p := ⟨w.heap.size, 0, none⟩) (Nat.le_refl _) _).setCell (p := ⟨w.heap.size, 1, none⟩) (Nat.le_refl _) _⟩
            · have hF := HF.out.trans (finU_end _ acc fuel at' n i acc.length bias first (by omega))
              have hz1 : unpT s.data.toList = acc := congrArg Prod.fst hF
              have hz2 : unpE s.data.toList = (0, 0) := congrArg Prod.snd hF
              have HZT : Hid (unpT s.data.toList = acc) := hz1
              have HZV : Hid (unpV s.data.toList = #[.int .i64 0, .int .i64 0]) := by show _ = _; rw [HUV.out, hz2]; rfl
              have c0 := HS.out.cell 0
              have c1 := HS.out.cell 1
              have f0 := HS.out.frozen 0
              have f1 := HS.out.frozen 1
              simp at c0 c1
              have hlt' : ¬ (at' : Int) < (s.size : Int) := by omega
              clear hF hz1 hz2 HF hlt
              go_wp2
              have hap := ownN_apart HO.out HS.out (by decide)
              have hS5 := ownN_keep (w' := (wr.setCell ⟨w.heap.size, 0, none⟩ (.int .i64 0)).setCell ⟨w.heap.size, 1, none⟩ (.int .i64 0)) HO.out (fun k hk => (Below.heap_setCell _ _ _ _ (hap k hk)).trans (Below.heap_setCell _ _ _ _ (hap k hk)))
              (try simp only [Exit.inBlock, Exit.then])
              refine bodyPost_ret (v := .tuple #[u4, .agg #[.int .i64 0, .int .i64 0]]) (by simp [results, Tryz.results8, go_sem, c0, c1]) rfl ⟨⟨u4, by rw [HZV.out], by rw [HZT.out]; exact base_le hS5 (by omega)⟩, (HBw.out.setCell (p := ⟨w.heap.size, 0, none⟩) (Nat.le_refl _) _).setCell (p := ⟨w.heap.size, 1, none⟩) (Nat.le_refl _) _⟩
end Go.Proofs.YtedgimkffkflbabGreatDoor
