/-
  P5.9: however bytes are cut, the last Feed tells whether a few more bytes can make all well-formed.
-/
import Derived.Test.YtedgimkffkflbabDoorOpen5
import Derived.Test.YtedgimkffkflbabDoorOpenN
import Derived.Test.YtedgimkffkflbabDoorCutW
import Derived.Test.YtedgimkffkflbabDoorWak
import Derived.Test.YtedgimkffkflbabDoorCard5
import Derived.ProofKit
import Derived.ChangeMaps5
import Derived.OpenShut
import Derived.ShutString
import Derived.ChangeOld
import Derived.SizedLaws
namespace Go.Proofs.YtedgimkffkflbabDoor.runesCut
open Go.ChangeShapes Go.WideShapes Go.ChangeAt Go.RowKit

theorem bts_map {a : Option Addr} {l : List UInt8} {w : World} (h : Bts a l w) (p : Nat) : Bts (a.map fun x => x.add p) (l.drop p) w := by
  rcases h with rfl | ⟨g, o, rfl, hg, hr⟩
  · exact .inl (by simp)
  · refine .inr ⟨g, o + p, by simp [Addr.add_lit], hg, fun j hj => ?_⟩
    rw [List.length_drop] at hj
    have := hr (p + j) (by omega)
    rw [List.getElem_drop, ← this, Nat.add_assoc]
theorem bts_block {a : Option Addr} {l : List UInt8} {w : World} (h : Bts a l w) (hne : l ≠ []) : ∀ ad, a = some ad → ad.block < w.heap.size := by
  rcases h with rfl | ⟨g, o, rfl, hg, hr⟩
  · exact absurd rfl hne
  · intro ad e
    injection e with e
    rw [← e]
    exact hg
theorem own_btsA {w : World} {B n c : Nat} {a : Option Addr} {l : List UInt8} (h : w.ownsRow B 5 1 (.slice a n c) n (cellsB l)) : Bts a l w := by
  obtain ⟨a', c', ev, hb, _⟩ := own_bts h
  injection ev with ev1 ev2 ev3
  subst ev1
  exact hb
/-- All that has been tried behind r rounds. -/
def doneK : Nat → List (List UInt8)
  | 0 => waysK 0
  | r + 1 => doneK r ++ waysK (r + 1)
def four (w : List UInt8) : List (List UInt8) := [w ++ [128], w ++ [144], w ++ [160], w ++ [191]]
def xs4 : List UInt8 := [128, 144, 160, 191]
theorem ways_len : ∀ r, r < 4 → (waysK r).length ≤ 64 ∧ ∀ m ∈ waysK r, m.length ≤ 3 := by decide +kernel
theorem four_take (w : List UInt8) (j : Nat) (hj : j < 4) : (four w).take (j + 1) = (four w).take j ++ [w ++ [xs4[j]'(by simpa [xs4] using hj)]] := by
  match j, hj with
  | 0, _ => rfl
  | 1, _ => rfl
  | 2, _ => rfl
  | 3, _ => rfl
theorem flat_take (L : List (List UInt8)) (i : Nat) (hi : i < L.length) : (L.take (i + 1)).flatMap four = (L.take i).flatMap four ++ four L[i] := by
  rw [List.take_succ_eq_append_getElem hi, List.flatMap_append]
  simp
theorem flat_len (L : List (List UInt8)) : (L.flatMap four).length = 4 * L.length := by
  induction L with
  | nil => rfl
  | cons x t ih =>
    rw [List.flatMap_cons, List.length_append, ih, List.length_cons]
    show 4 + _ = _
    omega
theorem runM_part (l : List UInt8) (p t : Nat) (hp : p ≤ t) : runM (runM (some q0) (l.take p)) ((l.drop p).take (t - p)) = runM (some q0) (l.take t) := by
  rw [← runM_append]
  congr 1
  have := List.take_add (l := l) (i := p) (j := t - p)
  rw [show p + (t - p) = t from by omega] at this
  exact this.symm
theorem ok_back (l : List UInt8) (p t : Nat) (hp : p ≤ t) (h : okM (runM (some q0) (l.take t)) = true) : okM (runM (some q0) (l.take p)) = true := by
  rw [← runM_part l p t hp] at h
  cases hq : runM (some q0) (l.take p) with
  | none => rw [hq] at h; simp [runM_none, okM] at h
  | some q => rfl

set_option maxHeartbeats 16000000 in
set_option maxRecDepth 100000 in
theorem walk {w : World} (a : Option Addr) (l : List UInt8) (cap : Nat) (hr : Bts a l w) (hl : l.length ≤ 140737488351232) (hc : l.length ≤ cap) (hnn : a = none → cap = 0) (hcm : cap ≤ 9223372036854775807) (ca : Option Addr) (cs : List Int) (ccap : Nat) (hcs : IntsB ca cs w) (hcl : cs.length ≤ 17592186043904) (ht : Tb w) :
    Calls Tryd.prog 4 #[.slice a l.length cap, .slice ca cs.length ccap] w fun e w' => e = .returned (.bool true) ∧ Below w.heap.size w w' := by
  obtain ⟨n, hn⟩ : ∃ n, n = l.length := ⟨_, rfl⟩
  obtain ⟨m, hm⟩ : ∃ m, m = cs.length := ⟨_, rfl⟩
  have HBT : Hid (Bts a l w) := hr
  have HN : Hid (n = l.length) := hn
  have HM : Hid (m = cs.length) := hm
  have HT : Hid (Tb w) := ht
  have HCI : Hid (∀ wx, Below w.heap.size w wx → Calls Tryd.prog 14 #[.slice ca m ccap] wx fun e w' => ∃ v, e = .returned v ∧ w'.ownsRow wx.heap.size 3 1 v m (cellsN .i64 cs) ∧ Below wx.heap.size wx w') := fun wx hx => cli_any ca cs ccap m hm wx (Nts.below (show Nts .i64 ca cs w from hcs.1) hx) (by omega)
  have HCB : Hid (∀ z ∈ cs, -9223372036854775808 ≤ z ∧ z ≤ 9223372036854775807) := hcs.2
  have HWK : Hid (∀ wx, Below w.heap.size w wx → Calls Tryd.prog 10 #[] wx fun e w' => e = .returned (.bool true) ∧ Below wx.heap.size wx w') := fun wx hx => wakes_any wx (HT.out.below hx (Nat.le_refl _))
  have HUB : Hid (∀ wx, Below w.heap.size w wx → Calls Tryd.prog 16 #[.slice a n cap] wx fun e w' => e = .returned (.int .i64 (badU l)) ∧ Below wx.heap.size wx w') := fun wx hx => by
    have := ubb_any a l cap wx ((HT.out.below hx (Nat.le_refl _)).fst) (HBT.out.below hx) (by omega)
    rw [hn]
    exact this
  have HCL : Hid (∀ wx, Below w.heap.size w wx → Calls Tryd.prog 17 #[.slice a n cap] wx fun e w' => ∃ v, e = .returned v ∧ w'.ownsRow wx.heap.size 5 1 v n (cellsB l) ∧ Below wx.heap.size wx w') := fun wx hx => clb_any a l cap n hn wx (HBT.out.below hx) (by omega)
  rw [← hn, ← hm]
  rw [← hn] at hl hc
  rw [← hm] at hcl
  clear hr hcs ht hn hm
  go_enter Tryd.func4, Tryd.ntmps4
  go_wp2_with fail
  refine (new_any w).mono ?_
  rintro e w1 ⟨rfl, b1, k1, s1⟩
  obtain ⟨G, hG⟩ : ∃ G, G = w.heap.size := ⟨_, rfl⟩
  rw [← hG] at k1 ⊢
  have HG : Hid (G = w.heap.size) := hG
  have HK1 : Hid (CkAt w1 G (some q0)) := k1
  have HB1 : Hid (Below w.heap.size w w1) := b1
  clear b1 k1 s1 hG
  go_wp2_with fail
  refine (feed_ne G (some q0) none [] 0 w1 HK1.out ((HT.out.below HB1.out (Nat.le_refl _)).fst) (.inl rfl) (fun h => absurd rfl h) (by simp)).mono ?_
  rintro e w2 ⟨rfl, b2, k2⟩
  rw [runM_nil] at k2 ⊢
  have HK2 : Hid (CkAt w2 G (some q0)) := k2
  have HB2 : Hid (Below w.heap.size w w2) := HB1.out.trans (b2.below (by rw [HG.out]; omega) HB1.out.size)
  clear b2 k2 HK1 HB1
  go_wp2_with fail
  refine (HCI.out _ HB2.out).mono ?_
  rintro e w3 ⟨v3, rfl, o3, b3⟩
  have HGB : Hid (G < w2.heap.size) := HK2.out.lt
  have HK3 : Hid (CkAt w3 G (some q0)) := HK2.out.below b3 HK2.out.lt
  have HB3 : Hid (Below w.heap.size w w3) := HB2.out.trans (b3.mono HB2.out.size)
  have HO3 : Hid (w3.ownsRow w2.heap.size 3 1 v3 m (cellsN .i64 cs)) := o3
  have hz3 : w2.heap.size ≤ w3.heap.size := b3.size
  generalize w2.heap.size = BC at *
  clear b3 o3 HCI HK2 HB2
  go_wp2_with (at_builtin; refine wpList_append_num rfl _ _ 35 3 8 .i64 Tryd.underlying35 infoI (by omega) rfl BC _ m cs rfl (HO3.out.alloc _) ⟨w3.heap.size, 0, none⟩ (n : Int) 1 rfl (one_nts w3 3 .i64 n) (by omega) (by simp; omega) ?_; intro v4 w4 hown4 hgrow4; obtain ⟨ac, cc, rfl⟩ := ownN_shape hown4)
  have HB4 : Hid (Below w.heap.size w w4) := (HB3.out.alloc HB3.out.size _).grown hgrow4 (by simp; have := HB3.out.size; omega) (fun q hq => by
    have h1 := (HO3.out.lt q hq).1
    have h2 := HGB.out
    have h3 := HG.out
    omega)
  have HK4 : Hid (CkAt w4 G (some q0)) := (HK3.out.below ((Below.refl _ w3).alloc (Nat.le_refl _) (.cells #[.int .i64 (n : Int)] 3)) HK3.out.lt).grown hgrow4 (fun q hq => by
    have h1 := (HO3.out.lt q hq).1
    have h2 := HGB.out
    omega)
  have HO4 : Hid (w4.ownsRow BC 3 1 (.slice ac (m + 1) cc) (m + 1) (cellsN .i64 (cs ++ [(n : Int)]))) := hown4
  clear hown4 hgrow4 HO3 HK3 HB3 hz3
  go_loopw [6, 7, 9, 10, 11, 31] (fun fv lv _ _ _ iv wr => ∃ (p k : Nat), p ≤ n ∧ k ≤ m + 1 ∧ (k = m + 1 → p = n) ∧ iv = .int .i64 k ∧ fv = .int .i64 p ∧ lv = .bool (okM (runM (some q0) (l.take p))) ∧ Hid (CkAt wr G (runM (some q0) (l.take p))) ∧ Hid (Below w.heap.size w wr) ∧ Hid (wr.ownsRow BC 3 1 (.slice ac (m + 1) cc) (m + 1) (cellsN .i64 (cs ++ [(n : Int)])))) (fun _ _ _ _ _ iv _ => m + 1 - (intOf iv).toNat)
  case atStart => exact ⟨0, 0, by omega, by omega, by omega, rfl, rfl, rfl, HK4, HB4, HO4⟩
  case round =>
    clear HK4 HB4 HO4
    obtain ⟨p, k, hp, hk, hkp, rfl, rfl, rfl, HK, HB, HO⟩ := hrel
    by_cases hlt : k < m + 1
    · obtain ⟨ac', cc', ev, HNT, hcl2, _, _, _⟩ := own_nts HO.out
      injection ev with ev1 ev2 ev3
      subst ev1 ev3
      clear ev2
      obtain ⟨cg, co, rfl, hcg, hcc⟩ := HNT.cell k (by omega)
      obtain ⟨z, hz⟩ : ∃ z, z = (cs ++ [(n : Int)])[k]'(by omega) := ⟨_, rfl⟩
      rw [← hz] at hcc
      have hzb : -9223372036854775808 ≤ z ∧ z ≤ 9223372036854775807 := by
        rw [hz]
        by_cases hkm : k < cs.length
        · rw [List.getElem_append_left hkm]
          exact HCB.out _ (List.getElem_mem hkm)
        · rw [List.getElem_append_right (by omega)]
          simp
          omega
      have hzn : k = m → z = n := by
        intro e
        rw [hz]
        have := HM.out
        rw [List.getElem_append_right (by omega)]
        simp
      obtain ⟨t, ht⟩ : ∃ t : Nat, min (max z (p : Int)) (n : Int) = (t : Int) := ⟨(min (max z (p : Int)) (n : Int)).toNat, by omega⟩
      have hpt : p ≤ t := by omega
      have htn : t ≤ n := by omega
      have htm : k + 1 = m + 1 → t = n := by
        intro e
        have := hzn (by omega)
        omega
      obtain ⟨q, hq⟩ : ∃ q, t - p = q := ⟨_, rfl⟩
      have hh1 : (p : Int) ≤ (t : Int) := by omega
      have hh2 : (t : Int) ≤ (cap : Int) := by omega
      have HQL : Hid (((l.drop p).take (t - p)).length = q) := by
        show _ = _
        rw [List.length_take, List.length_drop, ← HN.out]
        omega
      have HBR : Hid (Bts a l wr) := HBT.out.below HB.out
      have HNB : Hid ((l.drop p).take (t - p) ≠ [] → ∀ ad, a = some ad → ad.block ≠ G) := fun hne ad ha => by
        have h1 := bts_block HBT.out (fun e => hne (by rw [e]; simp)) ad ha
        have h2 := HG.out
        omega
      have himp := ok_back l p t hpt
      have HRP : Hid (runM (runM (some q0) (l.take p)) ((l.drop p).take (t - p)) = runM (some q0) (l.take t)) := runM_part l p t hpt
      have hglt := HK.out.lt
      have HKG : Hid (w.heap.size ≤ G) := by show _ ≤ _; rw [HG.out]; omega
      clear hz hzn HNT hcl2
      have key : ∀ A C, Bts A ((l.drop p).take (t - p)) wr → ((l.drop p).take (t - p) ≠ [] → ∀ ad, A = some ad → ad.block ≠ G) → Calls Tryd.prog 13 #[.pointer (some ⟨G, 0, none⟩), .slice A q C] wr fun e w' => e = .returned (.bool (okM (runM (some q0) (l.take t)))) ∧ But G wr w' ∧ CkAt w' G (runM (some q0) (l.take t)) := fun A C h1 h2 => by
        have := feed_ne G (runM (some q0) (l.take p)) A ((l.drop p).take (t - p)) C wr HK.out ((HT.out.below HB.out (Nat.le_refl _)).fst) h1 h2 (by rw [HQL.out]; omega)
        rw [HQL.out, HRP.out] at this
        exact this
      by_cases hcp : cap = p
      case' pos =>
        obtain rfl : p = cap := hcp.symm
        have HF := key a 0 (.inl (by rw [List.drop_eq_nil_of_le (by rw [← HN.out]; omega)]; simp)) HNB.out
        clear key hcp
        go_wp2_with fail
      case' neg =>
        have HF := key (a.map fun x => x.add p) (cap - p) ((bts_map HBR.out p).take _) (fun hne ad ha => by
          cases a with
          | none => cases ha
          | some x =>
            injection ha with ha
            have h9 := HNB.out hne x rfl
            rw [← ha]
            obtain ⟨b9, o9, s9⟩ := x
            show (Addr.add ⟨b9, o9, s9⟩ p).block ≠ G
            unfold Addr.add
            split <;> exact h9)
        clear key
        go_wp2_with fail
      all_goals
        refine HF.mono ?_
        rintro e w5 ⟨rfl, b5, k5⟩
        have HK5 : Hid (CkAt w5 G (runM (some q0) (l.take t))) := k5
        have HB5 : Hid (Below w.heap.size w w5) := HB.out.trans (b5.below HKG.out HB.out.size)
        have HO5 : Hid (w5.ownsRow BC 3 1 (.slice (some ⟨cg, co, none⟩) (m + 1) cc) (m + 1) (cellsN .i64 (cs ++ [(n : Int)]))) := ownN_keep HO.out (fun j hj => b5.block j (HO.out.lt j hj).2 (by
          have h1 := (HO.out.lt j hj).1
          have h2 := HGB.out
          omega))
        have HNW : Hid (okM (runM (some q0) (l.take t)) = okM (runM (some q0) (l.take t))) := rfl
        obtain ⟨NW, hNW⟩ : ∃ NW, NW = okM (runM (some q0) (l.take t)) := ⟨_, rfl⟩
        obtain ⟨LS, hLS⟩ : ∃ LS, LS = okM (runM (some q0) (l.take p)) := ⟨_, rfl⟩
        rw [← hNW, ← hLS] at himp
        have HNWE : Hid (NW = okM (runM (some q0) (l.take t))) := hNW
        rw [← hNW, ← hLS]
        clear hNW hLS b5 k5 HF HK HB HO HBR HNW
        cases NW
        · go_wp2
          go_roundw
          case rel => exact ⟨t, k + 1, htn, by omega, htm, by go_num, rfl, by rw [← HNWE.out], HK5, HB5, HO5⟩
          case measure => simp [intOf]; omega
        · have hLS := himp rfl
          subst hLS
          clear himp
          go_wp2
          go_roundw
          case rel => exact ⟨t, k + 1, htn, by omega, htm, by go_num, rfl, by rw [← HNWE.out], HK5, HB5, HO5⟩
          case measure => simp [intOf]; omega
    · obtain rfl : p = n := hkp (by omega)
      have hta : l.take p = l := List.take_of_length_le (by rw [← HN.out]; omega)
      rw [hta] at HK ⊢
      clear hta HO HCB hkp hk
      have HWH : Hid (∀ wx, CkAt wx G (runM (some q0) l) → Calls Tryd.prog 15 #[.pointer (some ⟨G, 0, none⟩)] wx fun e w' => e = .returned (.bool (wholeM (runM (some q0) l))) ∧ w' = wx) := fun wx hx => whole_any G _ wx hx
      have HCAN : Hid ((doneK 3).any (fun m => wh l m) = okM (runM (some q0) l)) := ways_ok l
      have hd0 : (doneK 0).any (fun m => wh l m) = wholeM (runM (some q0) l) := by
        show (wh l [] || false) = _
        rw [Bool.or_false, wh_run, runM_nil]
      rw [whole_bad] at HWH hd0
      obtain ⟨BD, hBD⟩ : ∃ BD, BD = decide (badU l = l.length) := ⟨_, rfl⟩
      have hbe : ((badU l : Int) == (p : Int)) = BD := by
        rw [hBD]
        have := HN.out
        by_cases h : badU l = l.length
        · rw [decide_eq_true h]; simp; omega
        · rw [decide_eq_false h]; simp; omega
      rw [← hBD] at HWH hd0
      generalize badU l = bad at *
      have hki : ¬ (k : Int) < (m : Int) + 1 := by omega
      have HD0 : Hid (_ = BD) := hd0
      clear hBD hd0
      go_wp2_with fail
      refine (HWH.out _ HK.out).mono ?_
      rintro e w5 ⟨rfl, rfl⟩
      go_wp2_with fail
      refine (HUB.out _ HB.out).mono ?_
      rintro e w6 ⟨rfl, b6⟩
      have HK6 : Hid (CkAt w6 G (runM (some q0) l)) := HK.out.below b6 HK.out.lt
      have HB6 : Hid (Below w.heap.size w w6) := HB.out.trans (b6.mono HB.out.size)
      clear b6 HK HB HUB
      go_wp2_with fail
      refine (HWH.out _ HK6.out).mono ?_
      rintro e w7 ⟨rfl, rfl⟩
      clear HWH HK6 hbe
      have HOW : Hid (((w7.alloc (.cells #[] 5)).alloc (.cells #[.slice (some ⟨w7.heap.size, 0, none⟩) 0 0] 34)).ownsRow w.heap.size 34 1 (.slice (some ⟨w7.heap.size + 1, 0, none⟩) 1 1) (waysK 0).length [.slice (some ⟨w7.heap.size, 0, none⟩) 0 0]) := by
        have h := heap_alloc_last (w7.alloc (.cells #[] 5)) (.cells #[.slice (some ⟨w7.heap.size, 0, none⟩) 0 0] 34)
        rw [World.size_alloc] at h
        exact ⟨rfl, .inr ⟨w7.heap.size + 1, 1, #[.slice (some ⟨w7.heap.size, 0, none⟩) 0 0], rfl, by have := HB6.out.size; omega, h, Nat.le_refl _, by decide, rfl, rfl⟩⟩
      have HEW : Hid (Els ((w7.alloc (.cells #[] 5)).alloc (.cells #[.slice (some ⟨w7.heap.size, 0, none⟩) 0 0] 34)) w.heap.size [.slice (some ⟨w7.heap.size, 0, none⟩) 0 0] (waysK 0)) :=
        ⟨base_le ((World.ownsRow_made w7 #[] 0 (Nat.le_refl _) (by unfold maxLen; omega) rfl : (w7.alloc (.cells #[] 5)).ownsRow w7.heap.size 5 1 (.slice (some ⟨w7.heap.size, 0, none⟩) 0 0) 0 []).alloc _) HB6.out.size, trivial⟩
      have HB7 : Hid (Below w.heap.size w ((w7.alloc (.cells #[] 5)).alloc (.cells #[.slice (some ⟨w7.heap.size, 0, none⟩) 0 0] 34))) := (HB6.out.alloc HB6.out.size _).alloc (by have := HB6.out.size; simp; omega) _
      clear HB6
      go_wp2_with fail
      go_loopw [12, 13, 14, 16, 18, 19, 20, 67] (fun cv wv _ _ _ _ _ rv wr => ∃ (r : Nat) (vs : List Value), rv = .int .i64 r ∧ r ≤ 3 ∧ cv = .bool ((doneK r).any fun m => wh l m) ∧ Hid (wr.ownsRow w.heap.size 34 1 wv (waysK r).length vs) ∧ Hid (Els wr w.heap.size vs (waysK r)) ∧ Hid (Below w.heap.size w wr)) (fun _ _ _ _ _ _ _ rv _ => 3 - (intOf rv).toNat)
      case atStart => exact ⟨0, _, rfl, by omega, by rw [HD0.out], HOW, HEW, HB7⟩
      case round =>
        clear HOW HEW HB7 HD0
        obtain ⟨r, vs, rfl, hr, rfl, HOW, HEW, HB⟩ := hrel
        by_cases hr3 : r < 3
        · have hri : (r : Int) < 3 := by omega
          obtain ⟨hwl, hwm⟩ := ways_len r (by omega)
          have HWM : Hid (∀ m ∈ waysK r, m.length ≤ 3) := hwm
          obtain ⟨aw, cw, rfl⟩ := ownN_shape HOW.out
          have HWB : Hid (∀ j, (Value.slice aw (waysK r).length cw).ownBlock = some j → j < wr.heap.size) := fun j hj => (HOW.out.lt j hj).2
          have hBN : w.heap.size ≤ wr.heap.size := HB.out.size
          have HNX : Hid (waysK (r + 1) = (waysK r).flatMap four ∧ doneK (r + 1) = doneK r ++ waysK (r + 1)) := ⟨rfl, rfl⟩
          clear hwm
          obtain ⟨WK, hWK⟩ : ∃ WK, WK = waysK r := ⟨_, rfl⟩
          obtain ⟨DK, hDK⟩ : ∃ DK, DK = doneK r := ⟨_, rfl⟩
          rw [← hWK] at HOW HEW HWM HWB HNX hwl ⊢
          rw [← hDK] at HNX ⊢
          clear hWK hDK
          obtain ⟨WL, hWL⟩ : ∃ WL, WL = WK.length := ⟨_, rfl⟩
          have HWL : Hid (WL = WK.length) := hWL
          rw [← hWL] at HOW HWB hwl ⊢
          clear hWL
          obtain ⟨BN, hBNe⟩ : ∃ BN, BN = wr.heap.size := ⟨_, rfl⟩
          have HBN : Hid (BN ≤ wr.heap.size) := by show _ ≤ _; omega
          rw [← hBNe] at HWB hBN
          clear hBNe
          go_wp2_with fail
          go_loopw [12, 14, 16, 18, 19, 20, 71] (fun cv nv _ _ _ _ iv wr => ∃ (i : Nat) (us : List Value), iv = .int .i64 i ∧ i ≤ WL ∧ cv = .bool ((DK ++ (WK.take i).flatMap four).any fun m => wh l m) ∧ Hid (wr.ownsRow BN 34 1 nv (4 * i) us) ∧ Hid (Els wr w.heap.size us ((WK.take i).flatMap four)) ∧ Hid (wr.ownsRow w.heap.size 34 1 (.slice aw WL cw) WL vs) ∧ Hid (Els wr w.heap.size vs WK) ∧ Hid (Below w.heap.size w wr) ∧ Hid (BN ≤ wr.heap.size)) (fun _ _ _ _ _ _ iv _ => WL - (intOf iv).toNat)
          case atStart => exact ⟨0, [], rfl, Nat.zero_le _, by simp, ⟨rfl, .inl ⟨rfl, rfl⟩⟩, trivial, HOW, HEW, HB, HBN⟩
          case round =>
            clear HOW HEW HB HBN
            obtain ⟨i, us, rfl, hi, rfl, HON, HEN, HOW, HEW, HB, HBN⟩ := hrel
            by_cases hiw : i < WL
            · have hiw' : i < WK.length := by have := HWL.out; omega
              obtain ⟨v, hv1, hv2⟩ := HEW.out.get i hiw'
              obtain ⟨gw, cw', ev, hgw, hcw⟩ := ownV_cell HOW.out i hiw v hv1
              injection ev with ev1 ev2 ev3
              subst ev1 ev3
              clear ev2
              have hW3 := HWM.out _ (List.getElem_mem hiw')
              have HFT : Hid ((WK.take (i + 1)).flatMap four = (WK.take i).flatMap four ++ four WK[i]) := flat_take WK i hiw'
              obtain ⟨av, cv, rfl, bv, -, nv, -⟩ := own_bts hv2
              have HGET : Hid (∀ wx, Els wx w.heap.size vs WK → wx.ownsRow w.heap.size 5 1 (.slice av WK[i].length cv) WK[i].length (cellsB WK[i])) := fun wx h => by
                obtain ⟨v', h1, h2⟩ := h.get i hiw'
                rw [hv1] at h1
                injection h1 with h1
                rw [← h1] at h2
                exact h2
              generalize WK[i] = W at *
              obtain ⟨L, hL⟩ : ∃ L, L = W.length := ⟨_, rfl⟩
              have HL : Hid (L = W.length) := hL
              rw [← hL] at hcw hW3 HGET
              clear hv1 hv2 bv nv hL hiw'
              have HX1 : Hid (Lies (wr.alloc (.cells #[.int .u8 128, .int .u8 144, .int .u8 160, .int .u8 191] 5)) wr.heap.size (rowV xs4) 5) := Lies.new wr (rowV xs4) 5
              have ab : Below wr.heap.size wr (wr.alloc (.cells #[.int .u8 128, .int .u8 144, .int .u8 160, .int .u8 191] 5)) := (Below.refl _ _).alloc (Nat.le_refl _) _
              have HON1 : Hid ((wr.alloc (.cells #[.int .u8 128, .int .u8 144, .int .u8 160, .int .u8 191] 5)).ownsRow BN 34 1 u14 (4 * i + 0) us) := HON.out.alloc _
              have HEN1 : Hid (Els (wr.alloc (.cells #[.int .u8 128, .int .u8 144, .int .u8 160, .int .u8 191] 5)) w.heap.size us ((WK.take i).flatMap four ++ (four W).take 0)) := by
                show Els _ _ _ _
                rw [List.take_zero, List.append_nil]
                exact HEN.out.below ab
              have HOW1 : Hid ((wr.alloc (.cells #[.int .u8 128, .int .u8 144, .int .u8 160, .int .u8 191] 5)).ownsRow w.heap.size 34 1 (.slice (some ⟨gw, 0, none⟩) WL cw) WL vs) := HOW.out.alloc _
              have HEW1 : Hid (Els (wr.alloc (.cells #[.int .u8 128, .int .u8 144, .int .u8 160, .int .u8 191] 5)) w.heap.size vs WK) := HEW.out.below ab
              have HB1 : Hid (Below w.heap.size w (wr.alloc (.cells #[.int .u8 128, .int .u8 144, .int .u8 160, .int .u8 191] 5))) := HB.out.alloc HB.out.size _
              have HBN1 : Hid (BN ≤ (wr.alloc (.cells #[.int .u8 128, .int .u8 144, .int .u8 160, .int .u8 191] 5)).heap.size) := by show _ ≤ _; have := HBN.out; simp; omega
              clear ab HON HEN HOW HEW HB HBN
              go_wp2_with fail
              generalize wr.heap.size = gx at *
              go_loopw [12, 14, 18, 19, 20, 77] (fun cv' nv _ _ _ jv wr => ∃ (j : Nat) (us : List Value), jv = .int .i64 j ∧ j ≤ 4 ∧ cv' = .bool ((DK ++ ((WK.take i).flatMap four ++ (four W).take j)).any fun m => wh l m) ∧ Hid (wr.ownsRow BN 34 1 nv (4 * i + j) us) ∧ Hid (Els wr w.heap.size us ((WK.take i).flatMap four ++ (four W).take j)) ∧ Hid (wr.ownsRow w.heap.size 34 1 (.slice (some ⟨gw, 0, none⟩) WL cw) WL vs) ∧ Hid (Els wr w.heap.size vs WK) ∧ Hid (Lies wr gx (rowV xs4) 5) ∧ Hid (Below w.heap.size w wr) ∧ Hid (BN ≤ wr.heap.size)) (fun _ _ _ _ _ jv _ => 4 - (intOf jv).toNat)
              case atStart => exact ⟨0, us, rfl, Nat.zero_le _, by rw [List.take_zero, List.append_nil], HON1, HEN1, HOW1, HEW1, HX1, HB1, HBN1⟩
              case round =>
                clear HON1 HEN1 HOW1 HEW1 HX1 HB1 HBN1
                obtain ⟨j, us, rfl, hj, rfl, HON, HEN, HOW, HEW, HX, HB, HBN⟩ := hrel
                have hgx := HX.out.lt
                by_cases hj4 : j < 4
                · have hj4' : j < xs4.length := hj4
                  have hxc := HX.out.cell j
                  rw [rowV_at xs4 j hj4'] at hxc
                  have HT4 : Hid ((four W).take (j + 1) = (four W).take j ++ [W ++ [xs4[j]]]) := four_take W j hj4
                  generalize xs4[j] = x at *
                  have hji : (j : Int) < 4 := by omega
                  have hC := clb_any av W cv L HL.out wr (own_btsA (HGET.out _ HEW.out)) (by omega)
                  obtain ⟨M, hM⟩ : ∃ M, M = W ++ [x] := ⟨_, rfl⟩
                  rw [← hM] at HT4
                  have HMM : Hid (M = W ++ [x]) := hM
                  have HANY : Hid ((DK ++ ((WK.take i).flatMap four ++ (four W).take (j + 1))).any (fun m => wh l m) = ((DK ++ ((WK.take i).flatMap four ++ (four W).take j)).any (fun m => wh l m) || wh l M)) := by
                    show _ = _
                    rw [HT4.out]
                    simp [List.any_append, Bool.or_assoc]
                  obtain ⟨CN, hCN⟩ : ∃ CN, CN = (DK ++ ((WK.take i).flatMap four ++ (four W).take j)).any (fun m => wh l m) := ⟨_, rfl⟩
                  rw [← hCN] at HANY ⊢
                  clear hCN hM
                  cases CN
                  · go_wp2_with fail
                    refine hC.mono ?_
                    rintro e w9 ⟨v9, rfl, o9, b9⟩
                    have HO9 : Hid (w9.ownsRow wr.heap.size 5 1 v9 L (cellsB W)) := o9
                    have HB9 : Hid (Below wr.heap.size wr w9) := b9
                    clear o9 b9 hC
                    go_wp2_with (at_builtin; refine wpList_append_byte rfl _ _ rfl wr.heap.size _ L W rfl (HO9.out.alloc _) w9 x _ rfl rfl 1 rfl (by omega) HB9.out.size ?_; intro v10 w10 ho10 hb10; obtain ⟨a10, c10, rfl⟩ := own_shape ho10)
                    have HO10 : Hid (w10.ownsRow wr.heap.size 5 1 (.slice a10 (L + 1) c10) (L + 1) (cellsB M)) := by
                      show World.ownsRow _ _ _ _ _ _ _
                      rw [HMM.out]
                      exact ho10
                    have HB10 : Hid (Below wr.heap.size wr w10) := hb10 _ _ HB9.out (Nat.le_refl _)
                    have HBW10 : Hid (Below w.heap.size w w10) := HB.out.trans (HB10.out.mono HB.out.size)
                    clear ho10 hb10 HO9 HB9
                    go_wp2_with fail
                    refine (HCL.out _ HBW10.out).mono ?_
                    rintro e w11 ⟨v11, rfl, o11, b11⟩
                    have HO11 : Hid (w11.ownsRow w10.heap.size 5 1 v11 p (cellsB l)) := o11
                    have HB11 : Hid (Below w10.heap.size w10 w11) := b11
                    obtain ⟨a10', c10', ev, bt10, hl10, nn10, hc10, hbd10⟩ := own_bts (own_below HO10.out b11)
                    injection ev with ev1 ev2 ev3
                    subst ev1 ev3
                    have HBT10 : Hid (Bts a10 M w11) := bt10
                    have HNN10 : Hid (a10 = none → c10 = 0) := nn10
                    have HLM : Hid (L + 1 = M.length) := hl10.symm
                    clear ev2 o11 b11 bt10 nn10 hl10 hc10 hbd10
                    have hz11 : w10.heap.size ≤ w11.heap.size := HB11.out.size
                    go_wp2_with (at_builtin; refine wpList_append_keep rfl _ _ rfl w10.heap.size _ p l rfl HO11.out a10 M (L + 1) c10 rfl HLM.out HBT10.out HNN10.out (by omega) hz11 ?_; intro v12 w12 ho12 hg12; obtain ⟨a12, c12, rfl⟩ := own_shape ho12)
                    have HB12 : Hid (Below w10.heap.size w10 w12) := HB11.out.grown hg12 hz11 (fun q hq => (HO11.out.lt q hq).1)
                    have HBW12 : Hid (Below w.heap.size w w12) := HBW10.out.trans (HB12.out.mono HBW10.out.size)
                    have step : ∀ w13, Below w12.heap.size w12 w13 → Hid (Below w.heap.size w w13) ∧ Hid (w13.ownsRow BN 34 1 u14 (4 * i + j) us) ∧ Hid (Els w13 w.heap.size us ((WK.take i).flatMap four ++ (four W).take j)) ∧ Hid (w13.ownsRow w.heap.size 34 1 (.slice (some ⟨gw, 0, none⟩) WL cw) WL vs) ∧ Hid (Els w13 w.heap.size vs WK) ∧ Hid (Lies w13 gx (rowV xs4) 5) ∧ Hid (BN ≤ w13.heap.size) ∧ Hid (w13.ownsRow w.heap.size 5 1 (.slice a10 (L + 1) c10) M.length (cellsB M)) := fun w13 b13 => by
                      have bb : Below wr.heap.size wr w13 := (HB10.out.trans (HB12.out.mono HB10.out.size)).trans (b13.mono (HB10.out.trans (HB12.out.mono HB10.out.size)).size)
                      refine ⟨HBW12.out.trans (b13.mono HBW12.out.size), ownN_below HON.out bb, HEN.out.below bb, ownN_below HOW.out bb, HEW.out.below bb, HX.out.below bb hgx, Nat.le_trans HBN.out bb.size, ?_⟩
                      show World.ownsRow _ _ _ _ _ _ _
                      rw [← HLM.out]
                      exact own_below (own_below (base_le HO10.out HB.out.size) HB12.out) b13
                    obtain ⟨a12', c12', ev, bt12, hl12, nn12, hc12, hbd12⟩ := own_bts ho12
                    injection ev with ev1 ev2 ev3
                    subst ev1 ev3
                    obtain ⟨N12, hN12⟩ : ∃ N12, N12 = p + (L + 1) := ⟨_, rfl⟩
                    rw [← hN12] at hl12 ⊢
                    have hUB := ubb_any a12 (l ++ M) c12 w12 ((HT.out.below HBW12.out (Nat.le_refl _)).fst) bt12 (by omega)
                    rw [hl12] at hUB
                    have hwe : ((badU (l ++ M) : Int) == (N12 : Int)) = wh l M := by
                      unfold wh
                      rw [hl12]
                      by_cases h : badU (l ++ M) = N12
                      · rw [decide_eq_true h]; simp; omega
                      · rw [decide_eq_false h]; simp; omega
                    rw [Bool.false_or] at HANY
                    generalize badU (l ++ M) = bd at *
                    clear ev2 ho12 bt12 hl12 hN12 nn12 hc12 hbd12
                    refine hUB.mono ?_
                    rintro e w13 ⟨rfl, b13⟩
                    have ST := step w13 b13
                    obtain ⟨WHM, hWHM⟩ : ∃ WHM, WHM = wh l M := ⟨_, rfl⟩
                    rw [← hWHM] at hwe HANY
                    clear step b13 hUB hWHM
                    clear HON HEN HOW HEW HX HBW10 HB10 HB HBN HO10 HO11 HB11 HBT10 HNN10 hg12 HB12 HBW12
                    obtain ⟨HB, HON, HEN, HOW, HEW, HX, HBN, HOM⟩ := ST
                    have hgx2 := HX.out.lt
                    go_wp2_with (at_builtin; refine wpList_append_slice rfl _ _ rfl BN _ (4 * i + j) us rfl (HON.out.alloc _) w13 a10 (L + 1) c10 rfl 1 rfl (by omega) HBN.out ?_; intro v14 w14 ho14 hg14)
                    have ab : Below w13.heap.size w13 (w13.alloc (.cells #[.slice a10 (L + 1) c10] 34)) := (Below.refl _ _).alloc (Nat.le_refl _) _
                    have HON2 : Hid (w14.ownsRow BN 34 1 v14 (4 * i + (j + 1)) (us ++ [.slice a10 (L + 1) c10])) := ho14
                    have hav := HON.out.alloc (.cells #[.slice a10 (L + 1) c10] 34)
                    have HEN2 : Hid (Els w14 w.heap.size (us ++ [.slice a10 (L + 1) c10]) ((WK.take i).flatMap four ++ (four W).take (j + 1))) := by
                      show Els _ _ _ _
                      rw [HT4.out, ← List.append_assoc]
                      exact Els.snoc (own_keep (own_below HOM.out ab) (fun q hq => hg14.block q ((own_below HOM.out ab).lt q hq).2 (fun e => absurd (own_kind (own_below HOM.out ab) hav hq e.symm) (by decide)))) ((HEN.out.below ab).grown hav hg14)
                    have HOW2 : Hid (w14.ownsRow w.heap.size 34 1 (.slice (some ⟨gw, 0, none⟩) WL cw) WL vs) := ownN_keep (ownN_below HOW.out ab) (fun q hq => hg14.block q ((ownN_below HOW.out ab).lt q hq).2 (fun e => by
                      have h1 := (hav.lt q e.symm).1
                      have h2 := HWB.out q hq
                      omega))
                    have HEW2 : Hid (Els w14 w.heap.size vs WK) := (HEW.out.below ab).grown hav hg14
                    have hX2 : Lies (w13.alloc (.cells #[.slice a10 (L + 1) c10] 34)) gx (rowV xs4) 5 := HX.out.alloc _
                    have HX2 : Hid (Lies w14 gx (rowV xs4) 5) := (hg14.block gx hX2.lt (fun e => (ownN_apart hav hX2 (by decide) gx e.symm) rfl)).trans hX2
                    have HB2 : Hid (Below w.heap.size w w14) := (HB.out.alloc HB.out.size _).grown hg14 (by have := HB.out.size; simp; omega) (fun q hq => by have := (hav.lt q hq).1; omega)
                    have HBN2 : Hid (BN ≤ w14.heap.size) := by
                      show _ ≤ _
                      have h1 := hg14.size
                      have h2 := HBN.out
                      simp at h1
                      omega
                    clear ho14 hg14 hav ab hX2 HON HEN HOW HEW HX HB HBN HOM
                    go_wp2
                    go_roundw
                    case rel => exact ⟨j + 1, us ++ [.slice a10 (L + 1) c10], by go_num, by omega, by rw [HANY.out], HON2, HEN2, HOW2, HEW2, HX2, HB2, HBN2⟩
                    case measure => simp [intOf]; omega
                  · go_wp2_with fail
                    refine hC.mono ?_
                    rintro e w9 ⟨v9, rfl, o9, b9⟩
                    have HO9 : Hid (w9.ownsRow wr.heap.size 5 1 v9 L (cellsB W)) := o9
                    have HB9 : Hid (Below wr.heap.size wr w9) := b9
                    clear o9 b9 hC
                    go_wp2_with (at_builtin; refine wpList_append_byte rfl _ _ rfl wr.heap.size _ L W rfl (HO9.out.alloc _) w9 x _ rfl rfl 1 rfl (by omega) HB9.out.size ?_; intro v10 w10 ho10 hb10; obtain ⟨a10, c10, rfl⟩ := own_shape ho10)
                    have HO10 : Hid (w10.ownsRow wr.heap.size 5 1 (.slice a10 (L + 1) c10) (L + 1) (cellsB M)) := by
                      show World.ownsRow _ _ _ _ _ _ _
                      rw [HMM.out]
                      exact ho10
                    have HB10 : Hid (Below wr.heap.size wr w10) := hb10 _ _ HB9.out (Nat.le_refl _)
                    have HBW10 : Hid (Below w.heap.size w w10) := HB.out.trans (HB10.out.mono HB.out.size)
                    clear ho10 hb10 HO9 HB9
                    go_wp2_with fail
                    refine (HCL.out _ HBW10.out).mono ?_
                    rintro e w11 ⟨v11, rfl, o11, b11⟩
                    have HO11 : Hid (w11.ownsRow w10.heap.size 5 1 v11 p (cellsB l)) := o11
                    have HB11 : Hid (Below w10.heap.size w10 w11) := b11
                    obtain ⟨a10', c10', ev, bt10, hl10, nn10, hc10, hbd10⟩ := own_bts (own_below HO10.out b11)
                    injection ev with ev1 ev2 ev3
                    subst ev1 ev3
                    have HBT10 : Hid (Bts a10 M w11) := bt10
                    have HNN10 : Hid (a10 = none → c10 = 0) := nn10
                    have HLM : Hid (L + 1 = M.length) := hl10.symm
                    clear ev2 o11 b11 bt10 nn10 hl10 hc10 hbd10
                    have hz11 : w10.heap.size ≤ w11.heap.size := HB11.out.size
                    go_wp2_with (at_builtin; refine wpList_append_keep rfl _ _ rfl w10.heap.size _ p l rfl HO11.out a10 M (L + 1) c10 rfl HLM.out HBT10.out HNN10.out (by omega) hz11 ?_; intro v12 w12 ho12 hg12; obtain ⟨a12, c12, rfl⟩ := own_shape ho12; apply Hid.out)
                    unfold Hid
                    have HB12 : Hid (Below w10.heap.size w10 w12) := HB11.out.grown hg12 hz11 (fun q hq => (HO11.out.lt q hq).1)
                    have HBW12 : Hid (Below w.heap.size w w12) := HBW10.out.trans (HB12.out.mono HBW10.out.size)
                    have step : ∀ w13, Below w12.heap.size w12 w13 → Hid (Below w.heap.size w w13) ∧ Hid (w13.ownsRow BN 34 1 u14 (4 * i + j) us) ∧ Hid (Els w13 w.heap.size us ((WK.take i).flatMap four ++ (four W).take j)) ∧ Hid (w13.ownsRow w.heap.size 34 1 (.slice (some ⟨gw, 0, none⟩) WL cw) WL vs) ∧ Hid (Els w13 w.heap.size vs WK) ∧ Hid (Lies w13 gx (rowV xs4) 5) ∧ Hid (BN ≤ w13.heap.size) ∧ Hid (w13.ownsRow w.heap.size 5 1 (.slice a10 (L + 1) c10) M.length (cellsB M)) := fun w13 b13 => by
                      have bb : Below wr.heap.size wr w13 := (HB10.out.trans (HB12.out.mono HB10.out.size)).trans (b13.mono (HB10.out.trans (HB12.out.mono HB10.out.size)).size)
                      refine ⟨HBW12.out.trans (b13.mono HBW12.out.size), ownN_below HON.out bb, HEN.out.below bb, ownN_below HOW.out bb, HEW.out.below bb, HX.out.below bb hgx, Nat.le_trans HBN.out bb.size, ?_⟩
                      show World.ownsRow _ _ _ _ _ _ _
                      rw [← HLM.out]
                      exact own_below (own_below (base_le HO10.out HB.out.size) HB12.out) b13
                    have ST := step w12 (Below.refl _ _)
                    rw [Bool.true_or] at HANY
                    clear step ho12
                    clear HON HEN HOW HEW HX HBW10 HB10 HB HBN HO10 HO11 HB11 HBT10 HNN10 hg12 HB12 HBW12
                    obtain ⟨HB, HON, HEN, HOW, HEW, HX, HBN, HOM⟩ := ST
                    have hgx2 := HX.out.lt
                    go_wp2_with (at_builtin; refine wpList_append_slice rfl _ _ rfl BN _ (4 * i + j) us rfl (HON.out.alloc _) w12 a10 (L + 1) c10 rfl 1 rfl (by omega) HBN.out ?_; intro v14 w14 ho14 hg14)
                    have ab : Below w12.heap.size w12 (w12.alloc (.cells #[.slice a10 (L + 1) c10] 34)) := (Below.refl _ _).alloc (Nat.le_refl _) _
                    have HON2 : Hid (w14.ownsRow BN 34 1 v14 (4 * i + (j + 1)) (us ++ [.slice a10 (L + 1) c10])) := ho14
                    have hav := HON.out.alloc (.cells #[.slice a10 (L + 1) c10] 34)
                    have HEN2 : Hid (Els w14 w.heap.size (us ++ [.slice a10 (L + 1) c10]) ((WK.take i).flatMap four ++ (four W).take (j + 1))) := by
                      show Els _ _ _ _
                      rw [HT4.out, ← List.append_assoc]
                      exact Els.snoc (own_keep (own_below HOM.out ab) (fun q hq => hg14.block q ((own_below HOM.out ab).lt q hq).2 (fun e => absurd (own_kind (own_below HOM.out ab) hav hq e.symm) (by decide)))) ((HEN.out.below ab).grown hav hg14)
                    have HOW2 : Hid (w14.ownsRow w.heap.size 34 1 (.slice (some ⟨gw, 0, none⟩) WL cw) WL vs) := ownN_keep (ownN_below HOW.out ab) (fun q hq => hg14.block q ((ownN_below HOW.out ab).lt q hq).2 (fun e => by
                      have h1 := (hav.lt q e.symm).1
                      have h2 := HWB.out q hq
                      omega))
                    have HEW2 : Hid (Els w14 w.heap.size vs WK) := (HEW.out.below ab).grown hav hg14
                    have hX2 : Lies (w12.alloc (.cells #[.slice a10 (L + 1) c10] 34)) gx (rowV xs4) 5 := HX.out.alloc _
                    have HX2 : Hid (Lies w14 gx (rowV xs4) 5) := (hg14.block gx hX2.lt (fun e => (ownN_apart hav hX2 (by decide) gx e.symm) rfl)).trans hX2
                    have HB2 : Hid (Below w.heap.size w w14) := (HB.out.alloc HB.out.size _).grown hg14 (by have := HB.out.size; simp; omega) (fun q hq => by have := (hav.lt q hq).1; omega)
                    have HBN2 : Hid (BN ≤ w14.heap.size) := by
                      show _ ≤ _
                      have h1 := hg14.size
                      have h2 := HBN.out
                      simp at h1
                      omega
                    clear ho14 hg14 hav ab hX2 HON HEN HOW HEW HX HB HBN HOM
                    go_wp2
                    go_roundw
                    case rel => exact ⟨j + 1, us ++ [.slice a10 (L + 1) c10], by go_num, by omega, by rw [HANY.out], HON2, HEN2, HOW2, HEW2, HX2, HB2, HBN2⟩
                    case measure => simp [intOf]; omega
                · obtain rfl : j = 4 := by omega
                  have e4 : (four W).take 4 = four W := rfl
                  rw [e4, ← HFT.out] at HEN ⊢
                  have HON2 : Hid (wr.ownsRow BN 34 1 u14 (4 * (i + 1)) us) := by
                    show World.ownsRow _ _ _ _ _ _ _
                    rw [show 4 * (i + 1) = 4 * i + 4 from by omega]
                    exact HON.out
                  obtain ⟨CN, hCN⟩ : ∃ CN, CN = (DK ++ (WK.take (i + 1)).flatMap four).any (fun m => wh l m) := ⟨_, rfl⟩
                  have HCN : Hid (CN = (DK ++ (WK.take (i + 1)).flatMap four).any (fun m => wh l m)) := hCN
                  rw [← hCN]
                  clear hCN HON e4
                  go_wp2
                  go_roundw
                  case rel => exact ⟨i + 1, us, by go_num, by omega, by rw [← HCN.out], HON2, HEN, HOW, HEW, HB, HBN⟩
                  case measure => simp [intOf]; omega
            · obtain rfl : i = WL := by omega
              have e1 : WK.take i = WK := List.take_of_length_le (by have := HWL.out; omega)
              rw [e1, ← HNX.out.1] at HEN
              rw [e1, ← HNX.out.1, ← HNX.out.2]
              have HON2 : Hid (wr.ownsRow w.heap.size 34 1 u14 (waysK (r + 1)).length us) := by
                show World.ownsRow _ _ _ _ _ _ _
                rw [HNX.out.1, flat_len, ← HWL.out]
                exact base_le HON.out hBN
              obtain ⟨CN, hCN⟩ : ∃ CN, CN = (doneK (r + 1)).any (fun m => wh l m) := ⟨_, rfl⟩
              have HCN : Hid (CN = (doneK (r + 1)).any (fun m => wh l m)) := hCN
              rw [← hCN]
              clear hCN HON e1
              go_wp2
              go_roundw
              case rel => exact ⟨r + 1, us, by go_num, by omega, by rw [← HCN.out], HON2, HEN, HB⟩
              case measure => simp [intOf]; omega
        · obtain rfl : r = 3 := by omega
          rw [HCAN.out]
          generalize okM (runM (some q0) l) = OK at *
          clear HOW HEW
          go_wp2_with fail
          refine (HWK.out _ HB.out).mono ?_
          rintro e w15 ⟨rfl, b15⟩
          have HB15 : Hid (Below w.heap.size w w15) := HB.out.trans (b15.mono HB.out.size)
          clear b15 HB HWK
          go_wp2
          go_ret
          exact ⟨rfl, HB15.out⟩

set_option maxRecDepth 100000 in
theorem contract (H : Type) (enc : TypeId × Value → H) (W : World) (base : Nat) (args : Array Value) (ds gs : List (DataW H)) (before : List MemPlace)
    (hval : ∀ (j : Nat) t v, Tryd.f4.params[j]? = some t → args[j]? = some v → Value.okWide Tryd.prog W .any base t v)
    (hW : DataW.Whole enc Tryd.prog Tryd.f4.params.toList Rows.runesCutSpec.vars false W args.toList ds gs before)
    (hsz : (DataW.weightsEach Tryd.prog (Tryd.f4.params.toList ++ (OpenSpec.ofChange Rows.runesCutSpec).bare.plain.varTypes Tryd.prog) (ds ++ gs)).all (· ≤ reachBytes) = true)
    (hL : laidMetH Tryd.prog Rows.runesCutRow.laid W) (hsh : W.ShapedOpen Tryd.prog) :
    Calls Tryd.prog 4 args W fun e W' => ∃ v, e = .returned v ∧ Rows.runesCutSpec.post enc Tryd.prog Tryd.f4 false true false false W args v W' := by
  have hW' := hW
  obtain ⟨p, q, hA0, hV, rfl, hfz, hnd⟩ := hW
  have hA : DataW.TrodAll enc Tryd.prog W 0 (fun _ => true) true Tryd.f4.params.toList args.toList ds p := hA0
  rw [Tryd.params4] at hA hval hsz
  obtain ⟨v0, vs0, d0, ds0, p0, q0, hargs, rfl, rfl, h0, r0⟩ := trodAll_cons hA
  obtain ⟨v1, vs1, d1, ds1, p1, q1, rfl, rfl, rfl, h1, r1⟩ := trodAll_cons r0
  obtain ⟨rfl, rfl, rfl⟩ := trodAll_nil r1
  obtain rfl : args = #[v0, v1] := by cases args; simp_all
  obtain ⟨rfl, rfl⟩ := trodVars_none hV
  have k0 := h0
  have lt0 : ∀ x ∈ p0, x.block < W.heap.size := by obtain ⟨m, hm⟩ := k0; exact DataW.trod_lt m _ _ _ hm
  obtain ⟨a0, len0, cap0, rfl⟩ := okWide_slice Tryd.underlying34 (hval 0 34 v0 rfl rfl)
  obtain ⟨l0, e0, row0, cp0, bd0⟩ := open_bytes h0
  have nn0 := open_none k0
  have k1 := h1
  have lt1 : ∀ x ∈ p1, x.block < W.heap.size := by obtain ⟨m, hm⟩ := k1; exact DataW.trod_lt m _ _ _ hm
  obtain ⟨a1, len1, cap1, rfl⟩ := okWide_slice Tryd.underlying35 (hval 1 35 v1 rfl rfl)
  obtain ⟨l1, e1, row1, bd1⟩ := open_nums h1
  clear hA0
  have s0 : l0.length ≤ 140737488351232 := by
    rcases bd0 with ⟨el, sp, rfl, hl⟩ | ⟨rfl, hl⟩
    · have := sized_slice hsz (j := 0) (t := 34) (e := 5) rfl rfl Tryd.underlying34
      rw [bytes5] at this
      simp only [reachBytes] at this
      omega
    · omega
  subst e0
  have s1 : l1.length ≤ 17592186043904 := by
    rcases bd1 with ⟨el, sp, rfl, hl⟩ | ⟨rfl, hl⟩
    · have := sized_slice hsz (j := 1) (t := 35) (e := 3) rfl rfl Tryd.underlying35
      rw [bytes3] at this
      simp only [reachBytes] at this
      omega
    · omega
  subst e1
  refine (walk a0 l0 cap0 row0 s0 cp0 nn0 (open_cap k0) a1 l1 cap1 row1 s1 (tabs_of hL hsh)).mono fun e W' ⟨he, bel⟩ => ?_
  subst he
  exact ⟨_, rfl, _, _, _, [], _, [], hW', trodAll_mk1 (shut_bool Tryd.underlying4 _), trodAll_cons_mk (Below.trod laidOut (by kernel_rfl) (of_decide_eq_true (by kernel_rfl)) k0 bel lt0) (trodAll_cons_mk (Below.trod laidOut (by kernel_rfl) (of_decide_eq_true (by kernel_rfl)) k1 bel lt1) trodAll_mk0), rfl, bel.frame _, fun h => by cases h⟩

set_option maxRecDepth 100000 in
theorem laid_met (os : Os) : laidMet Tryd.prog Rows.runesCutRow.laid ((laidWorld os).forCall (fun _ _ => 0) ⟨#[], #[.slice none 0 0, .slice none 0 0], []⟩).memory :=
  laidMet_of_run' 8 (by kernel_rfl) (by kernel_rfl)
set_option maxRecDepth 100000 in
theorem reads (os : Os) {H : Type} (enc : TypeId × Value → H) : ∃ places, DataW.whole enc Tryd.prog ((laidWorld os).forCall (fun _ _ => 0) ⟨#[], #[.slice none 0 0, .slice none 0 0], []⟩).memory Tryd.f4.params.toList Rows.runesCutSpec.vars false #[Value.slice none 0 0, Value.slice none 0 0].toList 8 = some ([.nil, .nil], [], places) :=
  ⟨[], by kernel_rfl⟩

set_option maxRecDepth 100000 in
theorem lifted (os : Os) (started : os.Started) (H : Type) (enc : TypeId × Value → H) (F : Stop.Interp) :
    ReturnsInHanded {} Tryd.checked os 4 .any ((OpenSpec.ofChange Rows.runesCutSpec).preRow enc Tryd.prog Tryd.f4 Rows.runesCutRow.domain false Rows.runesCutRow.laid) (((OpenSpec.ofChange Rows.runesCutSpec).at F).post enc Tryd.prog Tryd.f4 false true false false) := by
  obtain ⟨places, hx⟩ := reads os enc
  refine returnsInHanded_of_row (C := Tryd.checked) (s := OpenSpec.ofChange Rows.runesCutSpec) own started (by kernel_rfl) Tryd.func4
    (witness_row_at (enc := enc) (C := Tryd.checked) false (laidWorld os) #[.slice none 0 0, .slice none 0 0] rfl (by kernel_rfl) (by kernel_rfl) (by kernel_rfl)
      (OpenSpec.preRow_of_cond 8 hx (by kernel_rfl) (fun k hk => by cases hk) (by kernel_rfl) (laid_met os))) ?_
  intro W base args ds gs before hval hW _ _ hsz hL hsh _
  exact contract H enc W base args ds gs before hval hW hsz hL hsh

theorem said : Rows.RunesCutSaid :=
  OpenClaim.holds_of_cond 4 Tryd.f4 rfl rfl rfl rfl rfl rfl rfl ⟨rfl, rfl, rfl, rfl, rfl⟩ rfl rfl rfl rfl rfl (by kernel_rfl) Tryd.func4 (by kernel_rfl)
    (of_decide_eq_true (by kernel_rfl)) (by unfold Func.isWrapper; first | (rw [if_pos (by decide +kernel)]; kernel_rfl) | (rw [if_neg (by decide +kernel)]; exact ⟨rfl, rfl⟩))
    (fun os started H enc _ F => by rw [OpenClaim.pre_eq_preRow]; exact lifted os started H enc F)

/-- No parameter wants a stand-in; the program's own looks are off. -/
theorem plain (f : FuncId) (fn : Func) (hf : Tryd.pinned.checked.prog.funcNamed "posthorn/posthornlaw05.RunesCut" = some f) (hfn : Tryd.pinned.checked.prog.funcs[f]? = some fn) :
    false = Tryd.pinned.checked.prog.looks [] ∧ ∀ (j : Nat) t, fn.params[j]? = some t → Tryd.pinned.checked.prog.wantsStandIn t = false := by
  obtain rfl : f = 4 := Option.some.inj ((show Tryd.prog.funcNamed "posthorn/posthornlaw05.RunesCut" = some 4 by kernel_rfl).symm.trans hf) |>.symm
  obtain rfl : fn = Tryd.f4 := (Option.some.inj (Tryd.func4.symm.trans hfn)).symm
  refine ⟨by kernel_rfl, fun j t ht => ?_⟩
  rw [Tryd.params4] at ht
  have hm : t ∈ [34, 35] := by simpa using Array.mem_of_getElem? ht
  have hall : ([34, 35].all fun u => !Tryd.prog.wantsStandIn u) = true := by kernel_rfl
  exact (show Tryd.prog.wantsStandIn t = false by simpa using List.all_eq_true.1 hall t hm)

/-- The card. -/
theorem card : Rows.RunesCutCardSaid :=
  Claim7.holds_tied_plain_at .later [] _ _ _ _ said (fun _ h => by cases h) (by kernel_rfl) (fun _ h => by cases h) runesCut_row_tie rfl ⟨rfl, rfl⟩ (by kernel_rfl) rfl plain (by kernel_rfl)
end Go.Proofs.YtedgimkffkflbabDoor.runesCut
namespace Go.Proofs.YtedgimkffkflbabDoor
theorem runesCut_card : Rows.RunesCutCardSaid := runesCut.card
#print axioms runesCut_card
end Go.Proofs.YtedgimkffkflbabDoor
