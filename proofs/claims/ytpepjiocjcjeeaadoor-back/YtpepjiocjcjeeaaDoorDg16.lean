/-
  The document's Print.
-/
import Derived.Test.YtpepjiocjcjeeaaDoorDf16
import Derived.Test.YtpepjiocjcjeeaaDoorPr16
namespace Go.Proofs.YtpepjiocjcjeeaaDoor
open Go.RowKit

theorem lenA (x y : List UInt8) : (x ++ y).length = x.length + y.length := List.length_append
theorem two_bts (w : World) : Bts (some ⟨w.heap.size, 0, none⟩) [13, 10] (w.alloc (.cells #[.int .u8 13, .int .u8 10] 5)) := .inr ⟨w.heap.size, 0, rfl, by simp, fun j hj => by
  have h2 : j < 2 := hj
  match j, h2 with
  | 0, _ => exact ((Lies.new w _ _).cell 0).trans rfl
  | 1, _ => exact ((Lies.new w _ _).cell 1).trans rfl⟩
set_option maxHeartbeats 4000000 in
set_option maxRecDepth 100000 in
theorem uprint_any (a : Option Addr) (cap : Nat) (l : List Fd) (w : World) (ha : Fds a l w) (hl : l.length ≤ 4398046511104) (hz : ∀ p ∈ l, p.name.length ≤ 274877906944 ∧ p.body.length ≤ 274877906944) (hm : (prL l).length ≤ 1099511627776) :
    Calls Tryd.prog 14 #[.slice a l.length cap] w fun e w' => ∃ v, e = .returned (.tuple #[v, .int .i64 (prE l : Int)]) ∧ Below w.heap.size w w' ∧ (prE l ≠ 0 → v = .slice none 0 0) ∧ (prE l = 0 → w'.ownsRow w.heap.size 5 1 v (prL l).length (cellsB (prL l))) := by
  obtain ⟨i0, hi, hz0, hz1, hz2⟩ := info_parts info5
  have HA : Hid (Fds a l w) := ha
  have HZ : Hid (∀ p ∈ l, p.name.length ≤ 274877906944 ∧ p.body.length ≤ 274877906944) := hz
  have HM : Hid ((prL l).length ≤ 1099511627776) := hm
  have hlI : (l.length : Int) ≤ 4398046511104 := by omega
  clear ha hz hm
  by_cases hbig : 4096 < l.length
  · have hbI : (4096 : Int) < (l.length : Int) := by omega
    have HE : Hid (prE l = 160) := by show prE l = _; unfold prE; rw [if_pos hbig]
    go_enter Tryd.func14, Tryd.ntmps14
    go_wp2_with fail
    go_ret2
    rw [HE.out]
    exact ⟨_, rfl, Below.refl _ _, fun _ => rfl, fun h => by cases h⟩
  · have hbI : ¬ (4096 : Int) < (l.length : Int) := by omega
    have HE : Hid (prE l = errF l) := by show prE l = _; unfold prE; rw [if_neg hbig]
    go_enter Tryd.func14, Tryd.ntmps14
    go_wp2_with fail
    go_loopw [4, 5, 6] (fun v iv _ wr => ∃ k : Nat, k ≤ l.length ∧ iv = .int .i64 (k : Int) ∧ Hid (errF l = errF (l.drop k)) ∧ Hid (wr.ownsRow w.heap.size 5 1 v (prL (l.take k)).length (cellsB (prL (l.take k)))) ∧ Hid (Below w.heap.size w wr)) (fun _ iv _ _ => l.length - (intOf iv).toNat)
    case atStart => exact ⟨0, Nat.zero_le _, rfl, rfl, own_nil _ _, Below.refl _ _⟩
    case round =>
      obtain ⟨k, hk, rfl, HF, HO, HB⟩ := hrel
      by_cases hlt : k < l.length
      · obtain ⟨g, o, hga, a0, a1⟩ := (HA.out.below HB.out).at k hlt
        subst hga
        have hki : (k : Int) < (l.length : Int) := by omega
        have hzk := HZ.out _ (List.getElem_mem hlt)
        have HCK : Hid (∀ wx, Calls Tryd.prog 16 #[.agg #[.string (tx l[k].name), .string (tx l[k].body)]] wx fun e w' => e = .returned (.int .i64 (chkF l[k].name l[k].body : Int)) ∧ Below wx.heap.size wx w') := fun wx => by
          have := ucheck_any (tx l[k].name) (tx l[k].body) (by rw [tx_size]; exact hzk.1) (by rw [tx_size]; exact hzk.2) wx
          rw [tx_list, tx_list] at this
          exact this
        have HF2 : Hid (errF l = if chkF l[k].name l[k].body = 0 then errF (l.drop (k + 1)) else chkF l[k].name l[k].body) := by
          rw [HF.out, List.drop_eq_getElem_cons hlt, errF]
          exact rfl
        have HPR : Hid (prL (l.take (k + 1)) = prL (l.take k) ++ (tx l[k].name).data.toList ++ [58] ++ (tx l[k].body).data.toList ++ [13, 10]) := by
          rw [tx_list, tx_list, prL_take l k hlt]
          show _ ++ wrF _ = _
          unfold wrF
          simp [List.append_assoc]
        have HCE : Hid (∀ wx, Below w.heap.size w wx → wx.cell? ⟨g, o + k * 2, none⟩ = some (.string (tx l[k].name)) ∧ wx.cell? ⟨g, o + k * 2 + 1, none⟩ = some (.string (tx l[k].body))) := fun wx hx => by
          obtain ⟨g', o', e, q0, q1⟩ := (HA.out.below hx).at k hlt
          cases e
          exact ⟨q0, q1⟩
        have HLN : Hid ((prL (l.take (k + 1))).length ≤ 1099511627776) := Nat.le_trans (prL_len l (k + 1)) HM.out
        clear hzk HF
        generalize chkF l[k].name l[k].body = c at *
        generalize tx l[k].name = t1 at *
        generalize tx l[k].body = t2 at *
        by_cases hc : c = 0
        · have hcI : ((c : Int) != 0) = false := by simp [hc]
          have HF3 : Hid (errF l = errF (l.drop (k + 1))) := by rw [HF2.out, if_pos hc]; exact rfl
          clear hc HF2
          have hln : (prL (l.take k)).length + t1.size + 1 + t2.size + 2 ≤ 1099511627776 := by
            have := HLN.out
            rw [HPR.out] at this
            simp only [List.length_append, List.length_cons, List.length_nil, len_list] at this
            omega
          obtain ⟨O, hO⟩ : ∃ O, O = prL (l.take k) := ⟨_, rfl⟩
          rw [← hO] at hln HO HPR
          clear hO HLN
          have HLN : Hid (O.length + t1.size + 1 + t2.size + 2 ≤ 1099511627776) := hln
          clear hln
          go_wp2_with fail
          refine (HCK.out _).mono ?_
          rintro e w2 ⟨rfl, hb2⟩
          have HB2 : Hid (Below w.heap.size w w2) := HB.out.trans (hb2.mono HB.out.size)
          have HO2 : Hid (w2.ownsRow w.heap.size 5 1 u4 O.length (cellsB O)) := own_below HO.out hb2
          obtain ⟨b0, b1⟩ := HCE.out w2 HB2.out
          clear hb2 HCK HB HO a0 a1
          go_wp2_with (at_builtin; refine Lib.wpList_append_own_string _ rfl _ _ _ _ rfl w.heap.size 5 i0 Tryd.underlying22 Tryd.underlying9 hi hz0 hz1 hz2 _ _ _ rfl HO2.out t1 rfl (by have := HLN.out; unfold maxLen; omega) (by have := HLN.out; omega) HB2.out.size ?_; intro v3 w3 ho3 hg3 _; apply Hid.out)
          have HO3 : Hid (w3.ownsRow w.heap.size 5 1 v3 (O ++ t1.data.toList).length (cellsB (O ++ t1.data.toList))) := by
            show World.ownsRow _ _ _ _ _ _ _
            rw [cellsB_append, List.length_append, len_list]
            exact ho3
          have HB3 : Hid (Below w.heap.size w w3) := HB2.out.grown hg3 HB2.out.size (fun q hq => (HO2.out.lt q hq).1)
          obtain ⟨d0, d1⟩ := HCE.out w3 HB3.out
          clear ho3 hg3 HO2 HB2 b0 b1
          unfold Hid
          go_wp2_with (at_builtin; refine wpList_append_byte rfl _ _ rfl w.heap.size _ (O ++ t1.data.toList).length (O ++ t1.data.toList) rfl (own_below HO3.out ((Below.refl _ _).alloc (Nat.le_refl _) _)) w3 58 _ rfl rfl 1 rfl (by have := HLN.out; rw [List.length_append, len_list]; omega) HB3.out.size ?_; intro v4 w4 ho4 hb4; apply Hid.out)
          have HO4 : Hid (w4.ownsRow w.heap.size 5 1 v4 (O ++ t1.data.toList ++ [58]).length (cellsB (O ++ t1.data.toList ++ [58]))) := by
            show World.ownsRow _ _ _ _ _ _ _
            rw [lenA (O ++ t1.data.toList)]
            exact ho4
          have HB4 : Hid (Below w.heap.size w w4) := hb4 w.heap.size w HB3.out (Nat.le_refl _)
          obtain ⟨f0, f1⟩ := HCE.out w4 HB4.out
          clear ho4 hb4 HO3 HB3 d0 d1
          unfold Hid
          go_wp2_with (at_builtin; refine Lib.wpList_append_own_string _ rfl _ _ _ _ rfl w.heap.size 5 i0 Tryd.underlying22 Tryd.underlying9 hi hz0 hz1 hz2 _ _ _ rfl HO4.out t2 rfl (by have := HLN.out; rw [List.length_append, List.length_append, len_list]; unfold maxLen; simp; omega) (by have := HLN.out; rw [List.length_append, List.length_append, len_list]; simp; omega) HB4.out.size ?_; intro v5 w5 ho5 hg5 _; apply Hid.out)
          have HO5 : Hid (w5.ownsRow w.heap.size 5 1 v5 (O ++ t1.data.toList ++ [58] ++ t2.data.toList).length (cellsB (O ++ t1.data.toList ++ [58] ++ t2.data.toList))) := by
            show World.ownsRow _ _ _ _ _ _ _
            rw [cellsB_append, lenA (O ++ t1.data.toList ++ [58]), len_list]
            exact ho5
          have HB5 : Hid (Below w.heap.size w w5) := HB4.out.grown hg5 HB4.out.size (fun q hq => (HO4.out.lt q hq).1)
          clear ho5 hg5 HO4 HB4 f0 f1
          unfold Hid
          go_wp2_with (at_builtin; refine wpList_append_bts rfl _ _ rfl w.heap.size _ (O ++ t1.data.toList ++ [58] ++ t2.data.toList).length (O ++ t1.data.toList ++ [58] ++ t2.data.toList) rfl (own_below HO5.out ((Below.refl _ _).alloc (Nat.le_refl _) _)) (some ⟨w5.heap.size, 0, none⟩) [13, 10] 2 rfl (two_bts w5) (fun e => by cases e) (by have := HLN.out; simp only [List.length_append, List.length_cons, List.length_nil, len_list]; omega) (by have := HB5.out.size; simp; omega) ?_; intro v6 w6 ho6 hb6; apply Hid.out)
          have HO6 : Hid (w6.ownsRow w.heap.size 5 1 v6 (prL (l.take (k + 1))).length (cellsB (prL (l.take (k + 1))))) := by
            show World.ownsRow _ _ _ _ _ _ _
            rw [HPR.out, lenA (O ++ t1.data.toList ++ [58] ++ t2.data.toList)]
            exact ho6
          have HB6 : Hid (Below w.heap.size w w6) := hb6 w.heap.size w (HB5.out.alloc HB5.out.size _) (Nat.le_refl _)
          clear ho6 hb6 HO5 HB5
          unfold Hid
          go_wp2_with fail
          go_roundw
          case rel => exact ⟨k + 1, by omega, by go_num, HF3.out, HO6.out, HB6.out⟩
          case measure => simp [intOf]; omega
        · have hcI : ((c : Int) != 0) = true := by rw [bne_iff_ne]; omega
          have HF3 : Hid (prE l = c) := by rw [HE.out, HF2.out, if_neg hc]; exact rfl
          have HC0 : Hid (c ≠ 0) := hc
          clear hc HF2
          go_wp2_with fail
          refine (HCK.out _).mono ?_
          rintro e w2 ⟨rfl, hb2⟩
          have HB2 : Hid (Below w.heap.size w w2) := HB.out.trans (hb2.mono HB.out.size)
          clear hb2 HCK HB
          go_wp2_with fail
          go_ret2
          rw [HF3.out]
          exact ⟨_, rfl, HB2.out, fun _ => rfl, fun h => absurd h HC0.out⟩
      · obtain rfl : k = l.length := by omega
        have HF3 : Hid (prE l = 0) := by rw [HE.out, HF.out, List.drop_length]; exact rfl
        have HO2 : Hid (wr.ownsRow w.heap.size 5 1 u4 (prL l).length (cellsB (prL l))) := by have := HO.out; rw [List.take_length] at this; exact this
        go_wp2_with fail
        go_ret2
        rw [HF3.out]
        exact ⟨_, rfl, HB.out, fun h => absurd rfl h, fun _ => HO2.out⟩
end Go.Proofs.YtpepjiocjcjeeaaDoor
