/-
  P12.7: however the same bytes are cut, the same replies are told, and Err and Held are the same at the end.
-/
import Derived.Test.YtbfgefgadplcjaaDoorFa12
import Derived.Test.YtbfgefgadplcjaaDoorCard12
import Derived.Test.YtbfgefgadplcjaaDoorOpen4
import Derived.Test.YtbfgefgadplcjaaDoorOpenC
import Derived.ProofKit
import Derived.ChangeMaps5
import Derived.OpenShut
import Derived.ShutString
import Derived.ChangeOld
import Derived.SizedLaws
namespace Go.Proofs.YtbfgefgadplcjaaDoor.replyPieces
open Go.ChangeShapes Go.WideShapes Go.ChangeAt Go.RowKit

set_option maxHeartbeats 4000000 in
set_option maxRecDepth 100000 in
theorem walk {w : World} (a0 : Option Addr) (l0 : List UInt8) (cap0 : Nat) (hr0 : Bts a0 l0 w) (hl0 : l0.length ≤ 140737488351232) (hc0 : l0.length ≤ cap0) (_ : a0 = none → cap0 = 0) (hcm0 : cap0 ≤ 9223372036854775807) (a1 : Option Addr) (l1 : List UInt8) (cap1 : Nat) (hr1 : Bts a1 l1 w) (hl1 : l1.length ≤ 140737488351232) (_ : l1.length ≤ cap1) (_ : a1 = none → cap1 = 0) (_ : cap1 ≤ 9223372036854775807) (a2 : Option Addr) (l2 : List UInt8) (cap2 : Nat) (hr2 : Bts a2 l2 w) (hl2 : l2.length ≤ 140737488351232) (_ : l2.length ≤ cap2) (_ : a2 = none → cap2 = 0) (_ : cap2 ≤ 9223372036854775807) (ht : Tb w) :
    Calls Tryd.prog 5 #[.slice a0 l0.length cap0, .slice a1 l1.length cap1, .slice a2 l2.length cap2] w fun e w' => e = .returned (.bool true) ∧ Below w.heap.size w w' := by
  have HT : Hid (Tb w) := ht
  have HB1 : Hid (Bts a1 l1 w) := hr1
  have HB2' : Hid (Bts a2 l2 w) := hr2
  have HHD := lhead_any w ht
  obtain ⟨L, hL⟩ : ∃ L, L = l0.take 4194304 := ⟨_, rfl⟩
  have hLl : L.length ≤ 4194304 := by rw [hL, List.length_take]; omega
  have hLc : L.length ≤ cap0 := by rw [hL, List.length_take]; omega
  have hcnt := Sr.run_cnt L Sr.nil Sr.nil_ok
  have HOO : Hid ((Sr.nil.run L).o.length ≤ 1048576) := by
    show _ ≤ _
    have h1 : Sr.nil.o.length = 0 := rfl
    have h2 : Sr.nil.h.length = 0 := rfl
    omega
  have HOL : Hid ((Sr.nil.run L).o.length ≤ L.length) := by
    show _ ≤ _
    have h1 : Sr.nil.o.length = 0 := rfl
    have h2 : Sr.nil.h.length = 0 := rfl
    omega
  have HOK : Hid (Sr.nil.run L).Ok := Sr.run_ok Sr.nil Sr.nil_ok L
  have HLN : Hid (∀ r ∈ (Sr.nil.run L).o, r.ls.length ≤ 32770) := run_lines L Sr.nil Sr.nil_ok (fun r hr => by cases hr)
  have HB0 : Hid (Bts a0 L w) := by rw [hL]; exact hr0.take 4194304
  clear hcnt hr0 hr1 hr2 ht
  by_cases hbig : 4194304 < l0.length
  · have hbig' : (4194304 : Int) < (l0.length : Int) := by omega
    have hLn : L.length = 4194304 := by rw [hL, List.length_take]; omega
    have hcb : (4194304 : Int) ≤ (cap0 : Int) := by omega
    have HLN2 : Hid (L.length = 4194304) := hLn
    clear hL hLn
    go_enter Tryd.func5, Tryd.ntmps5
    go_wp2_with fail
    refine HHD.mono ?_
    rintro e w1 ⟨rfl, hB⟩
    have HB : Hid (Below w.heap.size w w1) := hB
    have HT1 : Hid (Tb w1) := HT.out.on hB
    have HBL : Hid (Bts a0 L w1) := HB0.out.below hB
    clear hB HHD
    go_wp2_with fail
    rw [← HLN2.out]
    refine (fed_all a0 L cap0 a1 l1 cap1 w1 HT1.out (by omega) HBL.out (by omega) hcm0 (by omega) (HB1.out.below HB.out) HOO.out).mono ?_
    rintro e w2 ⟨b1, rfl, hR2, hB2⟩
    have HB2 : Hid (Below w.heap.size w w2) := HB.out.trans (hB2.mono HB.out.size)
    have HR2 : Hid (Rd w2 (fun k => w1.heap.size ≤ k ∧ k < w2.heap.size) b1 (Sr.nil.run L)) := hR2
    have HS12 : Hid (w1.heap.size ≤ w2.heap.size) := hB2.size
    have HBL2 : Hid (Bts a0 L w2) := HBL.out.below hB2
    clear hR2 hB2
    go_wp2_with fail
    refine (fed_all a0 L cap0 a2 l2 cap2 w2 (HT.out.on HB2.out) (by omega) HBL2.out (by omega) hcm0 (by omega) (HB2'.out.below HB2.out) HOO.out).mono ?_
    rintro e w3 ⟨b2, rfl, hR3, hB3⟩
    have HB3 : Hid (Below w.heap.size w w3) := HB2.out.trans (hB3.mono HB2.out.size)
    have HR3 : Hid (Rd w3 (fun k => w2.heap.size ≤ k ∧ k < w3.heap.size) b2 (Sr.nil.run L)) := hR3
    have HQ3 : Hid (Rd w3 (fun k => w1.heap.size ≤ k ∧ k < w2.heap.size) b1 (Sr.nil.run L)) := HR2.out.below hB3
    have HS23 : Hid (w2.heap.size ≤ w3.heap.size) := hB3.size
    clear hR3 hB3 HR2 HBL2 HB2
    go_wp2_with fail
    refine (told_any _ b1 _ L.length w3 HQ3.out (fun k hk => Nat.lt_of_lt_of_le hk.2 HS23.out) HOL.out (by omega)).mono ?_
    rintro e w4 ⟨v4, x4, rfl, hO4, hY4, hF4, hV4, hR4, hC4⟩
    have hs4 := hC4.size
    have HQ4 : Hid (Rd w4 (fun k => w2.heap.size ≤ k ∧ k < w3.heap.size) b2 (Sr.nil.run L)) := HR3.out.chg hC4 (fun k h1 h2 => by omega)
    have HR4 : Hid (Rd w4 (fun k => w1.heap.size ≤ k ∧ k < w2.heap.size) b1 ⟨(Sr.nil.run L).p, (Sr.nil.run L).h, [], (Sr.nil.run L).b⟩) := hR4
    have HB4 : Hid (Below w.heap.size w w4) := HB3.out.trans (hC4.to_below HB3.out.size (fun k hk => Nat.le_trans HB.out.size hk.1))
    have HO4 : Hid (Ow celR 50 5 w4 v4 x4) := hO4
    have HY4 : Hid (Rys w4 x4 (Sr.nil.run L).o) := hY4
    have HF4 : Hid (∀ x ∈ x4, ∀ ad, x.a = some ad → w1.heap.size ≤ ad.block ∧ ad.block < w2.heap.size) := hF4
    have HV4 : Hid (∀ k, v4.ownBlock = some k → w3.heap.size ≤ k) := hV4
    have HS34 : Hid (w3.heap.size ≤ w4.heap.size) := hs4
    clear hO4 hY4 hF4 hV4 hR4 hC4 hs4 HQ3 HR3 HB3
    go_wp2_with fail
    refine (told_any _ b2 _ L.length w4 HQ4.out (fun k hk => Nat.lt_of_lt_of_le hk.2 HS34.out) HOL.out (by omega)).mono ?_
    rintro e w5 ⟨v5, x5, rfl, hO5, hY5, hF5, hV5, hR5, hC5⟩
    have HR5 : Hid (Rd w5 (fun k => w1.heap.size ≤ k ∧ k < w2.heap.size) b1 ⟨(Sr.nil.run L).p, (Sr.nil.run L).h, [], (Sr.nil.run L).b⟩) := HR4.out.chg hC5 (fun k h1 h2 => by omega)
    have HQ5 : Hid (Rd w5 (fun k => w2.heap.size ≤ k ∧ k < w3.heap.size) b2 ⟨(Sr.nil.run L).p, (Sr.nil.run L).h, [], (Sr.nil.run L).b⟩) := hR5
    have HB5 : Hid (Below w.heap.size w w5) := HB4.out.trans (hC5.to_below HB4.out.size (fun k hk => Nat.le_trans HB.out.size (Nat.le_trans HS12.out hk.1)))
    have HO6 : Hid (Ow celR 50 5 w5 v4 x4) := HO4.out.chg hC5 (fun k hk h2 => by have := HV4.out k hk; omega)
    have HY6 : Hid (Rys w5 x4 (Sr.nil.run L).o) := HY4.out.keep (fun x hx ad e => hC5.block _ (HY4.out.lt x hx ad e) (fun h2 => by have := HF4.out x hx ad e; omega))
    have HO5 : Hid (Ow celR 50 5 w5 v5 x5) := hO5
    have HY5 : Hid (Rys w5 x5 (Sr.nil.run L).o) := hY5
    clear hO5 hY5 hF5 hV5 hR5 hC5 HO4 HY4 HF4 HV4 HR4 HQ4 HB4
    go_wp2_with fail
    refine (sameall_yes v4 v5 x4 x5 _ w5 HO6.out HO5.out HY6.out HY5.out (by have := HOO.out; omega) (fun r hr => by have := HLN.out r hr; omega)).mono ?_
    rintro e w6 ⟨rfl, hB6⟩
    have HR6 : Hid (Rd w6 (fun k => w1.heap.size ≤ k ∧ k < w2.heap.size) b1 ⟨(Sr.nil.run L).p, (Sr.nil.run L).h, [], (Sr.nil.run L).b⟩) := HR5.out.below hB6
    have HQ6 : Hid (Rd w6 (fun k => w2.heap.size ≤ k ∧ k < w3.heap.size) b2 ⟨(Sr.nil.run L).p, (Sr.nil.run L).h, [], (Sr.nil.run L).b⟩) := HQ5.out.below hB6
    have HB6 : Hid (Below w.heap.size w w6) := HB5.out.trans (hB6.mono HB5.out.size)
    clear hB6 HR5 HQ5 HB5 HO6 HO5 HY6 HY5
    have E1 := rerr_any _ b1 _ w6 HR6.out
    have E2 := rerr_any _ b2 _ w6 HQ6.out
    have H1 := rheld_any _ b1 _ w6 HR6.out
    have H2 := rheld_any _ b2 _ w6 HQ6.out
    dsimp only at E1 E2 H1 H2
    have hbad := HOK.out.bad
    clear HR6 HQ6
    generalize (Sr.nil.run L).h = hh at *
    cases hb : (Sr.nil.run L).b with
    | false =>
      rw [hb] at E1 E2
      unfold errS at E1 E2
      simp only [Bool.false_eq_true, if_false] at E1 E2
      clear hbad hb
      generalize hh.length = hn at *
      go_wp2_with fail
      refine E1.mono ?_
      rintro e w7 ⟨rfl, rfl⟩
      go_wp2_with fail
      refine E2.mono ?_
      rintro e w7 ⟨rfl, rfl⟩
      go_wp2_with fail
      refine H1.mono ?_
      rintro e w7 ⟨rfl, rfl⟩
      go_wp2_with fail
      refine H2.mono ?_
      rintro e w7 ⟨rfl, rfl⟩
      go_wp2_with fail
      refine E1.mono ?_
      rintro e w7 ⟨rfl, rfl⟩
      go_wp2_with fail
      go_ret
      exact ⟨rfl, HB6.out⟩
    | true =>
      have hnil : hh = [] := hbad hb
      subst hnil
      rw [hb] at E1 E2
      unfold errS at E1 E2
      simp only [if_true, List.length_nil] at E1 E2 H1 H2
      clear hbad hb
      go_wp2_with fail
      refine E1.mono ?_
      rintro e w7 ⟨rfl, rfl⟩
      go_wp2_with fail
      refine E2.mono ?_
      rintro e w7 ⟨rfl, rfl⟩
      go_wp2_with fail
      refine H1.mono ?_
      rintro e w7 ⟨rfl, rfl⟩
      go_wp2_with fail
      refine H2.mono ?_
      rintro e w7 ⟨rfl, rfl⟩
      go_wp2_with fail
      refine E1.mono ?_
      rintro e w7 ⟨rfl, rfl⟩
      go_wp2_with fail
      refine E1.mono ?_
      rintro e w7 ⟨rfl, rfl⟩
      go_wp2_with fail
      refine H1.mono ?_
      rintro e w7 ⟨rfl, rfl⟩
      go_wp2_with fail
      go_ret
      exact ⟨rfl, HB6.out⟩
  · have hbig' : ¬ (4194304 : Int) < (l0.length : Int) := by omega
    have hLe : L = l0 := by rw [hL]; exact List.take_of_length_le (by omega)
    subst hLe
    clear hL
    go_enter Tryd.func5, Tryd.ntmps5
    go_wp2_with fail
    refine HHD.mono ?_
    rintro e w1 ⟨rfl, hB⟩
    have HB : Hid (Below w.heap.size w w1) := hB
    have HT1 : Hid (Tb w1) := HT.out.on hB
    have HBL : Hid (Bts a0 L w1) := HB0.out.below hB
    clear hB HHD
    go_wp2_with fail
    refine (fed_all a0 L cap0 a1 l1 cap1 w1 HT1.out (by omega) HBL.out (by omega) hcm0 (by omega) (HB1.out.below HB.out) HOO.out).mono ?_
    rintro e w2 ⟨b1, rfl, hR2, hB2⟩
    have HB2 : Hid (Below w.heap.size w w2) := HB.out.trans (hB2.mono HB.out.size)
    have HR2 : Hid (Rd w2 (fun k => w1.heap.size ≤ k ∧ k < w2.heap.size) b1 (Sr.nil.run L)) := hR2
    have HS12 : Hid (w1.heap.size ≤ w2.heap.size) := hB2.size
    have HBL2 : Hid (Bts a0 L w2) := HBL.out.below hB2
    clear hR2 hB2
    go_wp2_with fail
    refine (fed_all a0 L cap0 a2 l2 cap2 w2 (HT.out.on HB2.out) (by omega) HBL2.out (by omega) hcm0 (by omega) (HB2'.out.below HB2.out) HOO.out).mono ?_
    rintro e w3 ⟨b2, rfl, hR3, hB3⟩
    have HB3 : Hid (Below w.heap.size w w3) := HB2.out.trans (hB3.mono HB2.out.size)
    have HR3 : Hid (Rd w3 (fun k => w2.heap.size ≤ k ∧ k < w3.heap.size) b2 (Sr.nil.run L)) := hR3
    have HQ3 : Hid (Rd w3 (fun k => w1.heap.size ≤ k ∧ k < w2.heap.size) b1 (Sr.nil.run L)) := HR2.out.below hB3
    have HS23 : Hid (w2.heap.size ≤ w3.heap.size) := hB3.size
    clear hR3 hB3 HR2 HBL2 HB2
    go_wp2_with fail
    refine (told_any _ b1 _ L.length w3 HQ3.out (fun k hk => Nat.lt_of_lt_of_le hk.2 HS23.out) HOL.out (by omega)).mono ?_
    rintro e w4 ⟨v4, x4, rfl, hO4, hY4, hF4, hV4, hR4, hC4⟩
    have hs4 := hC4.size
    have HQ4 : Hid (Rd w4 (fun k => w2.heap.size ≤ k ∧ k < w3.heap.size) b2 (Sr.nil.run L)) := HR3.out.chg hC4 (fun k h1 h2 => by omega)
    have HR4 : Hid (Rd w4 (fun k => w1.heap.size ≤ k ∧ k < w2.heap.size) b1 ⟨(Sr.nil.run L).p, (Sr.nil.run L).h, [], (Sr.nil.run L).b⟩) := hR4
    have HB4 : Hid (Below w.heap.size w w4) := HB3.out.trans (hC4.to_below HB3.out.size (fun k hk => Nat.le_trans HB.out.size hk.1))
    have HO4 : Hid (Ow celR 50 5 w4 v4 x4) := hO4
    have HY4 : Hid (Rys w4 x4 (Sr.nil.run L).o) := hY4
    have HF4 : Hid (∀ x ∈ x4, ∀ ad, x.a = some ad → w1.heap.size ≤ ad.block ∧ ad.block < w2.heap.size) := hF4
    have HV4 : Hid (∀ k, v4.ownBlock = some k → w3.heap.size ≤ k) := hV4
    have HS34 : Hid (w3.heap.size ≤ w4.heap.size) := hs4
    clear hO4 hY4 hF4 hV4 hR4 hC4 hs4 HQ3 HR3 HB3
    go_wp2_with fail
    refine (told_any _ b2 _ L.length w4 HQ4.out (fun k hk => Nat.lt_of_lt_of_le hk.2 HS34.out) HOL.out (by omega)).mono ?_
    rintro e w5 ⟨v5, x5, rfl, hO5, hY5, hF5, hV5, hR5, hC5⟩
    have HR5 : Hid (Rd w5 (fun k => w1.heap.size ≤ k ∧ k < w2.heap.size) b1 ⟨(Sr.nil.run L).p, (Sr.nil.run L).h, [], (Sr.nil.run L).b⟩) := HR4.out.chg hC5 (fun k h1 h2 => by omega)
    have HQ5 : Hid (Rd w5 (fun k => w2.heap.size ≤ k ∧ k < w3.heap.size) b2 ⟨(Sr.nil.run L).p, (Sr.nil.run L).h, [], (Sr.nil.run L).b⟩) := hR5
    have HB5 : Hid (Below w.heap.size w w5) := HB4.out.trans (hC5.to_below HB4.out.size (fun k hk => Nat.le_trans HB.out.size (Nat.le_trans HS12.out hk.1)))
    have HO6 : Hid (Ow celR 50 5 w5 v4 x4) := HO4.out.chg hC5 (fun k hk h2 => by have := HV4.out k hk; omega)
    have HY6 : Hid (Rys w5 x4 (Sr.nil.run L).o) := HY4.out.keep (fun x hx ad e => hC5.block _ (HY4.out.lt x hx ad e) (fun h2 => by have := HF4.out x hx ad e; omega))
    have HO5 : Hid (Ow celR 50 5 w5 v5 x5) := hO5
    have HY5 : Hid (Rys w5 x5 (Sr.nil.run L).o) := hY5
    clear hO5 hY5 hF5 hV5 hR5 hC5 HO4 HY4 HF4 HV4 HR4 HQ4 HB4
    go_wp2_with fail
    refine (sameall_yes v4 v5 x4 x5 _ w5 HO6.out HO5.out HY6.out HY5.out (by have := HOO.out; omega) (fun r hr => by have := HLN.out r hr; omega)).mono ?_
    rintro e w6 ⟨rfl, hB6⟩
    have HR6 : Hid (Rd w6 (fun k => w1.heap.size ≤ k ∧ k < w2.heap.size) b1 ⟨(Sr.nil.run L).p, (Sr.nil.run L).h, [], (Sr.nil.run L).b⟩) := HR5.out.below hB6
    have HQ6 : Hid (Rd w6 (fun k => w2.heap.size ≤ k ∧ k < w3.heap.size) b2 ⟨(Sr.nil.run L).p, (Sr.nil.run L).h, [], (Sr.nil.run L).b⟩) := HQ5.out.below hB6
    have HB6 : Hid (Below w.heap.size w w6) := HB5.out.trans (hB6.mono HB5.out.size)
    clear hB6 HR5 HQ5 HB5 HO6 HO5 HY6 HY5
    have E1 := rerr_any _ b1 _ w6 HR6.out
    have E2 := rerr_any _ b2 _ w6 HQ6.out
    have H1 := rheld_any _ b1 _ w6 HR6.out
    have H2 := rheld_any _ b2 _ w6 HQ6.out
    dsimp only at E1 E2 H1 H2
    have hbad := HOK.out.bad
    clear HR6 HQ6
    generalize (Sr.nil.run L).h = hh at *
    cases hb : (Sr.nil.run L).b with
    | false =>
      rw [hb] at E1 E2
      unfold errS at E1 E2
      simp only [Bool.false_eq_true, if_false] at E1 E2
      clear hbad hb
      generalize hh.length = hn at *
      go_wp2_with fail
      refine E1.mono ?_
      rintro e w7 ⟨rfl, rfl⟩
      go_wp2_with fail
      refine E2.mono ?_
      rintro e w7 ⟨rfl, rfl⟩
      go_wp2_with fail
      refine H1.mono ?_
      rintro e w7 ⟨rfl, rfl⟩
      go_wp2_with fail
      refine H2.mono ?_
      rintro e w7 ⟨rfl, rfl⟩
      go_wp2_with fail
      refine E1.mono ?_
      rintro e w7 ⟨rfl, rfl⟩
      go_wp2_with fail
      go_ret
      exact ⟨rfl, HB6.out⟩
    | true =>
      have hnil : hh = [] := hbad hb
      subst hnil
      rw [hb] at E1 E2
      unfold errS at E1 E2
      simp only [if_true, List.length_nil] at E1 E2 H1 H2
      clear hbad hb
      go_wp2_with fail
      refine E1.mono ?_
      rintro e w7 ⟨rfl, rfl⟩
      go_wp2_with fail
      refine E2.mono ?_
      rintro e w7 ⟨rfl, rfl⟩
      go_wp2_with fail
      refine H1.mono ?_
      rintro e w7 ⟨rfl, rfl⟩
      go_wp2_with fail
      refine H2.mono ?_
      rintro e w7 ⟨rfl, rfl⟩
      go_wp2_with fail
      refine E1.mono ?_
      rintro e w7 ⟨rfl, rfl⟩
      go_wp2_with fail
      refine E1.mono ?_
      rintro e w7 ⟨rfl, rfl⟩
      go_wp2_with fail
      refine H1.mono ?_
      rintro e w7 ⟨rfl, rfl⟩
      go_wp2_with fail
      go_ret
      exact ⟨rfl, HB6.out⟩

set_option maxRecDepth 100000 in
theorem contract (H : Type) (enc : TypeId × Value → H) (W : World) (base : Nat) (args : Array Value) (ds gs : List (DataW H)) (before : List MemPlace)
    (hval : ∀ (j : Nat) t v, Tryd.f5.params[j]? = some t → args[j]? = some v → Value.okWide Tryd.prog W .any base t v)
    (hW : DataW.Whole enc Tryd.prog Tryd.f5.params.toList Rows.replyPiecesSpec.vars false W args.toList ds gs before)
    (hsz : (DataW.weightsEach Tryd.prog (Tryd.f5.params.toList ++ (OpenSpec.ofChange Rows.replyPiecesSpec).bare.plain.varTypes Tryd.prog) (ds ++ gs)).all (· ≤ reachBytes) = true)
    (hL : laidMetH Tryd.prog Rows.replyPiecesRow.laid W) (hsh : W.ShapedOpen Tryd.prog) :
    Calls Tryd.prog 5 args W fun e W' => ∃ v, e = .returned v ∧ Rows.replyPiecesSpec.post enc Tryd.prog Tryd.f5 false true false false W args v W' := by
  have hW' := hW
  obtain ⟨p, q, hA0, hV, rfl, hfz, hnd⟩ := hW
  have hA : DataW.TrodAll enc Tryd.prog W 0 (fun _ => true) true Tryd.f5.params.toList args.toList ds p := hA0
  rw [Tryd.params5] at hA hval hsz
  obtain ⟨v0, vs0, d0, ds0, p0, q0, hargs, rfl, rfl, h0, r0⟩ := trodAll_cons hA
  obtain ⟨v1, vs1, d1, ds1, p1, q1, rfl, rfl, rfl, h1, r1⟩ := trodAll_cons r0
  obtain ⟨v2, vs2, d2, ds2, p2, q2, rfl, rfl, rfl, h2, r2⟩ := trodAll_cons r1
  obtain ⟨rfl, rfl, rfl⟩ := trodAll_nil r2
  obtain rfl : args = #[v0, v1, v2] := by cases args; simp_all
  obtain ⟨rfl, rfl⟩ := trodVars_none hV
  have k0 := h0
  have lt0 : ∀ x ∈ p0, x.block < W.heap.size := by obtain ⟨m, hm⟩ := k0; exact DataW.trod_lt m _ _ _ hm
  obtain ⟨a0, len0, cap0, rfl⟩ := okWide_slice Tryd.underlying31 (hval 0 31 v0 rfl rfl)
  obtain ⟨l0, e0, row0, cp0, bd0⟩ := open_bytes h0
  have nn0 := open_none k0
  have k1 := h1
  have lt1 : ∀ x ∈ p1, x.block < W.heap.size := by obtain ⟨m, hm⟩ := k1; exact DataW.trod_lt m _ _ _ hm
  obtain ⟨a1, len1, cap1, rfl⟩ := okWide_slice Tryd.underlying31 (hval 1 31 v1 rfl rfl)
  obtain ⟨l1, e1, row1, cp1, bd1⟩ := open_bytes h1
  have nn1 := open_none k1
  have k2 := h2
  have lt2 : ∀ x ∈ p2, x.block < W.heap.size := by obtain ⟨m, hm⟩ := k2; exact DataW.trod_lt m _ _ _ hm
  obtain ⟨a2, len2, cap2, rfl⟩ := okWide_slice Tryd.underlying31 (hval 2 31 v2 rfl rfl)
  obtain ⟨l2, e2, row2, cp2, bd2⟩ := open_bytes h2
  have nn2 := open_none k2
  clear hA0
  have s0 : l0.length ≤ 140737488351232 := by
    rcases bd0 with ⟨el, sp, rfl, hl⟩ | ⟨rfl, hl⟩
    · have := sized_slice hsz (j := 0) (t := 31) (e := 5) rfl rfl Tryd.underlying31
      rw [bytes5] at this
      simp only [reachBytes] at this
      omega
    · omega
  subst e0
  have s1 : l1.length ≤ 140737488351232 := by
    rcases bd1 with ⟨el, sp, rfl, hl⟩ | ⟨rfl, hl⟩
    · have := sized_slice hsz (j := 1) (t := 31) (e := 5) rfl rfl Tryd.underlying31
      rw [bytes5] at this
      simp only [reachBytes] at this
      omega
    · omega
  subst e1
  have s2 : l2.length ≤ 140737488351232 := by
    rcases bd2 with ⟨el, sp, rfl, hl⟩ | ⟨rfl, hl⟩
    · have := sized_slice hsz (j := 2) (t := 31) (e := 5) rfl rfl Tryd.underlying31
      rw [bytes5] at this
      simp only [reachBytes] at this
      omega
    · omega
  subst e2
  refine (walk a0 l0 cap0 row0 s0 cp0 nn0 (open_cap k0) a1 l1 cap1 row1 s1 cp1 nn1 (open_cap k1) a2 l2 cap2 row2 s2 cp2 nn2 (open_cap k2) (tabs_of hL hsh)).mono fun e W' ⟨he, bel⟩ => ?_
  subst he
  exact ⟨_, rfl, _, _, _, [], _, [], hW', trodAll_mk1 (shut_bool Tryd.underlying4 _), trodAll_cons_mk (Below.trod laidOut (by kernel_rfl) (of_decide_eq_true (by kernel_rfl)) k0 bel lt0) (trodAll_cons_mk (Below.trod laidOut (by kernel_rfl) (of_decide_eq_true (by kernel_rfl)) k1 bel lt1) (trodAll_cons_mk (Below.trod laidOut (by kernel_rfl) (of_decide_eq_true (by kernel_rfl)) k2 bel lt2) trodAll_mk0)), rfl, bel.frame _, fun h => by cases h⟩

set_option maxRecDepth 100000 in
theorem laid_met (os : Os) : laidMet Tryd.prog Rows.replyPiecesRow.laid ((laidWorld os).forCall (fun _ _ => 0) ⟨#[], #[.slice none 0 0, .slice none 0 0, .slice none 0 0], []⟩).memory :=
  laidMet_of_run' 8 (by kernel_rfl) (by kernel_rfl)
set_option maxRecDepth 100000 in
theorem reads (os : Os) {H : Type} (enc : TypeId × Value → H) : ∃ places, DataW.whole enc Tryd.prog ((laidWorld os).forCall (fun _ _ => 0) ⟨#[], #[.slice none 0 0, .slice none 0 0, .slice none 0 0], []⟩).memory Tryd.f5.params.toList Rows.replyPiecesSpec.vars false #[Value.slice none 0 0, Value.slice none 0 0, Value.slice none 0 0].toList 8 = some ([.nil, .nil, .nil], [], places) :=
  ⟨[], by kernel_rfl⟩

set_option maxRecDepth 100000 in
theorem lifted (os : Os) (started : os.Started) (H : Type) (enc : TypeId × Value → H) (F : Stop.Interp) :
    ReturnsInHanded {} Tryd.checked os 5 .any ((OpenSpec.ofChange Rows.replyPiecesSpec).preRow enc Tryd.prog Tryd.f5 Rows.replyPiecesRow.domain false Rows.replyPiecesRow.laid) (((OpenSpec.ofChange Rows.replyPiecesSpec).at F).post enc Tryd.prog Tryd.f5 false true false false) := by
  obtain ⟨places, hx⟩ := reads os enc
  refine returnsInHanded_of_row (C := Tryd.checked) (s := OpenSpec.ofChange Rows.replyPiecesSpec) own started (by kernel_rfl) Tryd.func5
    (witness_row_at (enc := enc) (C := Tryd.checked) false (laidWorld os) #[.slice none 0 0, .slice none 0 0, .slice none 0 0] rfl (by kernel_rfl) (by kernel_rfl) (by kernel_rfl)
      (OpenSpec.preRow_of_cond 8 hx (by kernel_rfl) (fun k hk => by cases hk) (by kernel_rfl) (laid_met os))) ?_
  intro W base args ds gs before hval hW _ _ hsz hL hsh _
  exact contract H enc W base args ds gs before hval hW hsz hL hsh

theorem said : Rows.ReplyPiecesSaid :=
  OpenClaim.holds_of_cond 5 Tryd.f5 rfl rfl rfl rfl rfl rfl rfl ⟨rfl, rfl, rfl, rfl, rfl⟩ rfl rfl rfl rfl rfl (by kernel_rfl) Tryd.func5 (by kernel_rfl)
    (of_decide_eq_true (by kernel_rfl)) (by unfold Func.isWrapper; first | (rw [if_pos (by decide +kernel)]; kernel_rfl) | (rw [if_neg (by decide +kernel)]; exact ⟨rfl, rfl⟩))
    (fun os started H enc _ F => by rw [OpenClaim.pre_eq_preRow]; exact lifted os started H enc F)

/-- No parameter wants a stand-in; the program's own looks are off. -/
theorem plain (f : FuncId) (fn : Func) (hf : Tryd.pinned.checked.prog.funcNamed "posthorn/posthornlaw12.ReplyPieces" = some f) (hfn : Tryd.pinned.checked.prog.funcs[f]? = some fn) :
    false = Tryd.pinned.checked.prog.looks [] ∧ ∀ (j : Nat) t, fn.params[j]? = some t → Tryd.pinned.checked.prog.wantsStandIn t = false := by
  obtain rfl : f = 5 := Option.some.inj ((show Tryd.prog.funcNamed "posthorn/posthornlaw12.ReplyPieces" = some 5 by kernel_rfl).symm.trans hf) |>.symm
  obtain rfl : fn = Tryd.f5 := (Option.some.inj (Tryd.func5.symm.trans hfn)).symm
  refine ⟨by kernel_rfl, fun j t ht => ?_⟩
  rw [Tryd.params5] at ht
  have hm : t ∈ [31, 31, 31] := by simpa using Array.mem_of_getElem? ht
  have hall : ([31, 31, 31].all fun u => !Tryd.prog.wantsStandIn u) = true := by kernel_rfl
  exact (show Tryd.prog.wantsStandIn t = false by simpa using List.all_eq_true.1 hall t hm)

/-- The card. -/
theorem card : Rows.ReplyPiecesCardSaid :=
  Claim7.holds_tied_plain_at .later [] _ _ _ _ said (fun _ h => by cases h) (by kernel_rfl) (fun _ h => by cases h) replyPieces_row_tie rfl ⟨rfl, rfl⟩ (by kernel_rfl) rfl plain (by kernel_rfl)
end Go.Proofs.YtbfgefgadplcjaaDoor.replyPieces
namespace Go.Proofs.YtbfgefgadplcjaaDoor
theorem replyPieces_card : Rows.ReplyPiecesCardSaid := replyPieces.card
#print axioms replyPieces_card
end Go.Proofs.YtbfgefgadplcjaaDoor
