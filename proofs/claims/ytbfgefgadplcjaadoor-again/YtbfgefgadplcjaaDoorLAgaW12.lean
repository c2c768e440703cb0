/-
  ReplyAgain's walk.
-/
import Derived.Test.YtbfgefgadplcjaaDoorFa12
import Derived.Test.YtbfgefgadplcjaaDoorPp12
import Derived.Test.YtbfgefgadplcjaaDoorBnR
import Derived.Deep.CutRange
import Derived.Test.YtbfgefgadplcjaaDoorCard12
import Derived.Test.YtbfgefgadplcjaaDoorOpenC
import Derived.ProofKit
import Derived.ChangeMaps5
import Derived.OpenShut
import Derived.ShutString
import Derived.ChangeOld
import Derived.SizedLaws
namespace Go.Proofs.YtbfgefgadplcjaaDoor.replyAgain
open Go.ChangeShapes Go.WideShapes Go.ChangeAt Go.RowKit

theorem own_capT {w : World} {B n c t k : Nat} {a : Option Addr} {xs : List Value} (h : w.ownsRow B t k (.slice a n c) n xs) : c ≤ 9223372036854775807 := by
  obtain ⟨_, ⟨h1, _⟩ | ⟨g, cap, cur, hv, _, _, _, hcm, _⟩⟩ := h
  · injection h1 with _ _ e
    omega
  · injection hv with _ _ e
    unfold maxLen at hcm
    omega
theorem own_nn {w : World} {B n c : Nat} {a : Option Addr} {xs : List Value} (h : w.ownsRow B 5 1 (.slice a n c) n xs) : n ≤ c ∧ c ≤ 9223372036854775807 ∧ (a = none → c = 0) ∧ (∀ ad, a = some ad → ad.block < w.heap.size) := by
  refine ⟨?_, own_capT h, ?_, fun ad e => ?_⟩
  · obtain ⟨_, ⟨h1, h2⟩ | ⟨g, cap, cur, hv, _, _, hcap, _⟩⟩ := h
    · injection h1 with _ _ e
      omega
    · injection hv with _ _ e
      omega
  · intro e
    obtain ⟨_, ⟨h1, h2⟩ | ⟨g, cap, cur, hv, _⟩⟩ := h
    · injection h1
    · injection hv with e1
      rw [e] at e1
      cases e1
  · obtain ⟨_, ⟨h1, h2⟩ | ⟨g, cap, cur, hv, _, hc, _⟩⟩ := h
    · injection h1 with e1
      rw [e] at e1
      cases e1
    · injection hv with e1
      rw [e] at e1
      cases e1
      exact (Array.getElem?_eq_some_iff.1 hc).1
theorem may_eta (x : Rx) (r : Ry) {w : World} (h : RyAt w x r) (hm : MayR r) : mayR ⟨x.c, x.s, r.ls⟩ = true ∧ (⟨x.c, x.s, r.ls⟩ : Ry) = r := by
  obtain ⟨h1, h2, -, -⟩ := h
  rw [h1, h2]
  exact ⟨of_may hm, rfl⟩
/-- Print of a reply that may be. -/
theorem pr_call (x : Rx) (r : Ry) (w : World) (h : RyAt w x r) (hm : MayR r) (ht : Tb w) :
    Calls Tryd.prog 21 #[rxV x] w fun e w' => ∃ v, e = .returned (.tuple #[v, .int .i64 0]) ∧ w'.ownsRow w.heap.size 5 1 v (prL r).length (cellsB (prL r)) ∧ Below w.heap.size w w' := by
  obtain ⟨h1, h2, h3, h4⟩ := h.sa
  have he := may_eta x r h hm
  have hc := hm.c0
  have hn := hm.n2
  have := print_ok x r.ls (by omega) (by omega) w ht h3 h4 (fun l hl => by
    have := (hm.ls l hl).1
    unfold gT at this
    split at this
    · omega
    · simp only [List.length_append, List.length_cons] at this; omega) (by omega) he.1
  rw [he.2] at this
  exact this
theorem ck_call (x : Rx) (r : Ry) (w : World) (h : RyAt w x r) (hm : MayR r) (ht : Tb w) :
    Calls Tryd.prog 20 #[rxV x] w fun e w' => e = .returned (.int .i64 0) ∧ Below w.heap.size w w' := by
  obtain ⟨h1, h2, h3, h4⟩ := h.sa
  have he := may_eta x r h hm
  have hc := hm.c0
  have hn := hm.n2
  have := check_any x r.ls (by omega) (by omega) w ht h3 h4 (fun l hl => by
    have := (hm.ls l hl).1
    unfold gT at this
    split at this
    · omega
    · simp only [List.length_append, List.length_cons] at this; omega) (by omega)
  have hk : chkR ⟨x.c, x.s, r.ls⟩ = 0 := by unfold chkR; rw [if_pos he.1]
  rw [hk] at this
  exact this
set_option maxHeartbeats 4000000 in
set_option maxRecDepth 100000 in
theorem walk {w : World} (a0 : Option Addr) (l0 : List UInt8) (cap0 : Nat) (hr0 : Bts a0 l0 w) (hl0 : l0.length ≤ 140737488351232) (hc0 : l0.length ≤ cap0) (_ : a0 = none → cap0 = 0) (hcm0 : cap0 ≤ 9223372036854775807) (ht : Tb w) :
    Calls Tryd.prog 6 #[.slice a0 l0.length cap0] w fun e w' => e = .returned (.bool true) ∧ Below w.heap.size w w' := by
  have HT : Hid (Tb w) := ht
  have HHD := lhead_any w ht
  obtain ⟨L, hL⟩ : ∃ L, L = l0.take 4194304 := ⟨_, rfl⟩
  have hLl : L.length ≤ 4194304 := by rw [hL, List.length_take]; omega
  have hLc : L.length ≤ cap0 := by rw [hL, List.length_take]; omega
  have hcnt := Sr.run_cnt L Sr.nil Sr.nil_ok
  obtain ⟨O, hO⟩ : ∃ O, O = (Sr.nil.run L).o := ⟨_, rfl⟩
  have hOO : O.length ≤ 1048576 ∧ O.length ≤ L.length := by
    have h1 : Sr.nil.o.length = 0 := rfl
    have h2 : Sr.nil.h.length = 0 := rfl
    rw [hO]
    omega
  have HOO : Hid ((Sr.nil.run L).o.length ≤ 1048576) := by rw [← hO]; exact hOO.1
  have HMY : Hid (∀ r ∈ O, MayR r) := by rw [hO]; exact told_may L
  have HLN : Hid (∀ r ∈ O, r.ls.length ≤ 64) := fun r hr => (HMY.out r hr).n2
  have HAG : Hid (Sr.nil.run (O.flatMap prL) = ⟨Plc.nil, [], O, false⟩) := by rw [hO]; exact again_all L
  have HRO : Hid ((Sr.nil.run L).o = O) := hO.symm
  have HB0 : Hid (Bts a0 L w) := by rw [hL]; exact hr0.take 4194304
  have HFS : Hid (∀ i, ((O.take i).flatMap prL).length ≤ 32768 * i) := fun i => by
    have h1 := flat_short (O.take i) (fun r hr => HMY.out r (List.mem_of_mem_take hr))
    have h2 : (O.take i).length ≤ i := by rw [List.length_take]; omega
    exact Nat.le_trans h1 (Nat.mul_le_mul_left _ h2)
  clear hcnt hr0 ht hO
  go_enter Tryd.func6, Tryd.ntmps6
  go_wp2_with fail
  refine HHD.mono ?_
  rintro e w1 ⟨rfl, hB⟩
  have HB : Hid (Below w.heap.size w w1) := hB
  have HT1 : Hid (Tb w1) := HT.out.on hB
  have HBL : Hid (Bts a0 L w1) := HB0.out.below hB
  clear hB HHD
  go_upto_if 17 with fail
  go_cut [0] from 15 to 19 (fun v wc => wc = w1 ∧ v = .slice a0 L.length cap0)
  case first =>
    by_cases hbig : 4194304 < l0.length
    · have hbig' : (4194304 : Int) < (l0.length : Int) := by omega
      have hLn : L.length = 4194304 := by rw [hL, List.length_take]; omega
      have hcb : (4194304 : Int) ≤ (cap0 : Int) := by omega
      have HLN2 : Hid (L.length = 4194304) := hLn
      clear hL hLn
      go_wp2_with fail
      go_meet
      exact ⟨rfl, by rw [HLN2.out]⟩
    · have hbig' : ¬ (4194304 : Int) < (l0.length : Int) := by omega
      have HLe : Hid (L = l0) := by rw [hL]; exact List.take_of_length_le (by omega)
      clear hL
      go_wp2_with fail
      go_meet
      exact ⟨rfl, by rw [HLe.out]⟩
  case rest =>
    obtain ⟨rfl, rfl⟩ := hcut
    clear hL
    go_wp2_with fail
    refine (fed_all a0 L cap0 none [] 0 wc HT1.out (by omega) HBL.out (by omega) hcm0 (by simp) (.inl rfl) HOO.out).mono ?_
    rintro e w2 ⟨b1, rfl, hR2, hB2⟩
    have HB2 : Hid (Below w.heap.size w w2) := HB.out.trans (hB2.mono HB.out.size)
    have HR2 : Hid (Rd w2 (fun k => wc.heap.size ≤ k ∧ k < w2.heap.size) b1 (Sr.nil.run L)) := hR2
    have HS12 : Hid (wc.heap.size ≤ w2.heap.size) := hB2.size
    clear hR2 hB2 HBL
    go_wp2_with fail
    refine (told_any _ b1 _ L.length w2 HR2.out (fun k hk => hk.2) (by rw [HRO.out]; exact hOO.2) (by omega)).mono ?_
    rintro e w4 ⟨v4, x4, rfl, hO4, hY4, hF4, hV4, hR4, hC4⟩
    rw [HRO.out] at hY4
    have HB4 : Hid (Below w.heap.size w w4) := HB2.out.trans (hC4.to_below HB2.out.size (fun k hk => Nat.le_trans HB.out.size hk.1))
    have HO4 : Hid (Ow celR 50 5 w4 v4 x4) := hO4
    have HY4 : Hid (Rys w4 x4 O) := hY4
    have hxl : x4.length = O.length := hY4.1
    clear hO4 hY4 hF4 hV4 hR4 hC4 HR2
    obtain ⟨aa, ac, rfl, has⟩ := HO4.out.shape
    have HAS : Hid (x4 ≠ [] → ∃ g, aa = some ⟨g, 0, none⟩) := has
    have HT4 : Hid (Tb w4) := HT.out.on HB4.out
    have hxm : x4.length ≤ 1048576 := by omega
    have HXL : Hid (x4.length = O.length) := hxl
    clear has hxl
    go_wp2_with fail
    go_loopw [6, 33] (fun v iv wr => ∃ i : Nat, i ≤ x4.length ∧ iv = .int .i64 i ∧ Hid (wr.ownsRow w4.heap.size 5 1 v ((O.take i).flatMap prL).length (cellsB ((O.take i).flatMap prL))) ∧ Hid (Below w4.heap.size w4 wr)) (fun _ iv _ => x4.length - (intOf iv).toNat)
    case atStart => exact ⟨0, Nat.zero_le _, rfl, own_nil _ _, Below.refl _ _⟩
    case round =>
      obtain ⟨i, hi, rfl, HOW, HBW⟩ := hrel
      by_cases hlt : i < x4.length
      · have hlt' : (i : Int) < (x4.length : Int) := by omega
        obtain ⟨g, rfl⟩ := HAS.out (fun e => by rw [e] at hlt; cases hlt)
        have hlo : i < O.length := by rw [← HXL.out]; exact hlt
        obtain ⟨e0, e1, e2, e3, e4⟩ := ow_elem (HO4.out.below HBW.out) i hlt
        have hry : RyAt wr x4[i] O[i] := (HY4.out.2 i hlt hlo).keep (fun ad e => HBW.out.block _ ((HY4.out.2 i hlt hlo).lt ad e))
        have HMR : Hid (MayR O[i]) := HMY.out _ (List.getElem_mem hlo)
        have hft := flatR_take O i hlo
        have hfs := HFS.out i
        obtain ⟨W2, hW2⟩ : ∃ W2, W2 = wr.alloc (.cells (rxC x4[i]) 50) := ⟨_, rfl⟩
        have hb2 : Below wr.heap.size wr W2 := by subst hW2; exact (Below.refl _ _).alloc (Nat.le_refl _) _
        have HL2 : Hid (Lies W2 wr.heap.size (rxC x4[i]) 50) := by subst hW2; exact Lies.new wr _ _
        have HWW : Hid (wr.alloc (.cells #[.int .i64 x4[i].c, .int .i64 x4[i].s.1, .int .i64 x4[i].s.2.1, .int .i64 x4[i].s.2.2, .slice x4[i].a x4[i].n x4[i].k] 50) = W2) := hW2.symm
        have HB2w : Hid (Below w4.heap.size w4 W2) := HBW.out.trans (hb2.mono HBW.out.size)
        have HRY2 : Hid (RyAt W2 x4[i] O[i]) := hry.keep (fun ad e => hb2.block _ (hry.lt ad e))
        have HO2 : Hid (W2.ownsRow w4.heap.size 5 1 _ ((O.take i).flatMap prL).length (cellsB ((O.take i).flatMap prL))) := own_below HOW.out hb2
        have HFT : Hid ((O.take (i + 1)).flatMap prL = (O.take i).flatMap prL ++ prL O[i]) := hft
        have hps := prL_short HMR.out
        clear hry hft hb2 hW2
        generalize x4[i] = x at *
        generalize O[i] = r at *
        generalize (O.take i).flatMap prL = D at *
        obtain ⟨c0, c1, c2, c3, c4⟩ := rxC_cells HL2.out
        clear HOW HBW
        have hdl : D.length ≤ 34359738368 := by omega
        go_wp2_with (rw [HWW.out])
        refine (pr_call x r W2 HRY2.out HMR.out (HT4.out.on HB2w.out)).mono ?_
        rintro e w5 ⟨v5, rfl, ho5, hb5⟩
        obtain ⟨a5, k5, rfl, hbt5, hl5, hn5, hk5, -⟩ := own_bts ho5
        have HB5 : Hid (Below w4.heap.size w4 w5) := HB2w.out.trans (hb5.mono HB2w.out.size)
        have HRY5 : Hid (RyAt w5 x r) := HRY2.out.keep (fun ad e => hb5.block _ (HRY2.out.lt ad e))
        have HL5 : Hid (Lies w5 wr.heap.size (rxC x) 50) := HL2.out.below hb5 HL2.out.lt
        have HO5 : Hid (w5.ownsRow w4.heap.size 5 1 _ D.length (cellsB D)) := own_below HO2.out hb5
        have HP5 : Hid (Bts a5 (prL r) w5) := hbt5
        have HN5 : Hid (a5 = none → k5 = 0) := hn5
        clear c0 c1 c2 c3 c4
        obtain ⟨c0, c1, c2, c3, c4⟩ := rxC_cells HL5.out
        clear ho5 hb5 hbt5 hl5 hn5 hk5 HRY2 HL2 HO2 HB2w HWW
        go_wp2_with fail
        refine (ck_call x r w5 HRY5.out HMR.out (HT4.out.on HB5.out)).mono ?_
        rintro e w6 ⟨rfl, hb6⟩
        have HB6 : Hid (Below w4.heap.size w4 w6) := HB5.out.trans (hb6.mono HB5.out.size)
        have HO6 : Hid (w6.ownsRow w4.heap.size 5 1 _ D.length (cellsB D)) := own_below HO5.out hb6
        have HP6 : Hid (Bts a5 (prL r) w6) := HP5.out.below hb6
        clear hb6 HRY5 HL5 HO5 HP5 HB5 c0 c1 c2 c3 c4
        go_wp2_with (at_builtin; refine wpList_append_keep rfl _ _ rfl w4.heap.size _ _ D rfl HO6.out a5 (prL r) (prL r).length k5 rfl rfl HP6.out HN5.out (by omega) HB6.out.size ?_; intro v7 w7 ho7 hg7)
        have hb7 : Below w4.heap.size w4 w7 := HB6.out.grown hg7 HB6.out.size (fun q hq => (HO6.out.lt q hq).1)
        go_roundw
        case rel => exact ⟨i + 1, hlt, by go_num, by show World.ownsRow _ _ _ _ _ _ _; rw [HFT.out, List.length_append]; exact ho7, hb7⟩
        case measure => simp [intOf]; omega
      · have hlt' : ¬ (i : Int) < (x4.length : Int) := by omega
        have HIX : Hid (O.take i = O) := List.take_of_length_le (by rw [← HXL.out]; omega)
        have hfs := HFS.out i
        rw [HIX.out] at HOW hfs
        have hil : i ≤ 1048576 := by omega
        obtain ⟨a5, k5, rfl, hbt5, -, hn5, hk5, -⟩ := own_bts HOW.out
        have hk9 := (own_nn HOW.out).2.1
        have HX : Hid (Sr.nil.run (O.flatMap prL) = ⟨Plc.nil, [], O, false⟩) := HAG.out
        have HBw : Hid (Below w.heap.size w wr) := HB4.out.trans (HBW.out.mono HB4.out.size)
        have HDL : Hid ((O.flatMap prL).length ≤ 1099511627776) := by show _ ≤ _; omega
        have HP5 : Hid (Bts a5 (O.flatMap prL) wr) := hbt5
        have HK5 : Hid ((O.flatMap prL).length ≤ k5) := hk5
        have HOL2 : Hid (O.length ≤ 1048576 ∧ O.length ≤ L.length) := hOO
        clear hbt5 hn5 hk5 hfs HOW HAG HFS
        generalize O.flatMap prL = D at *
        go_wp2_with fail
        refine (fed_all a5 D k5 none [] 0 wr (HT4.out.on HBW.out) HDL.out HP5.out HK5.out hk9 (by simp) (.inl rfl) (by rw [HX.out]; exact HOL2.out.1)).mono ?_
        rintro e w6 ⟨b2, rfl, hR6, hB6⟩
        rw [HX.out] at hR6 ⊢
        have HB6 : Hid (Below w4.heap.size w4 w6) := HBW.out.trans (hB6.mono HBW.out.size)
        have HR6 : Hid (Rd w6 (fun k => wr.heap.size ≤ k ∧ k < w6.heap.size) b2 ⟨Plc.nil, [], O, false⟩) := hR6
        have he0 : errS (⟨Plc.nil, [], O, false⟩ : Sr).b = 0 := rfl
        rw [he0]
        clear hR6 hB6 he0 HX
        go_wp2_with fail
        refine (told_any _ b2 _ L.length w6 HR6.out (fun k hk => hk.2) HOL2.out.2 (by omega)).mono ?_
        rintro e w7 ⟨v7, x7, rfl, hO7, hY7, -, hV7, -, hC7⟩
        have hs46 : wr.heap.size ≤ w6.heap.size := by
          have := HR6.out.fb
          omega
        have HB7 : Hid (Below w4.heap.size w4 w7) := HB6.out.trans (hC7.to_below HB6.out.size (fun k hk => Nat.le_trans HBW.out.size hk.1))
        have HO8 : Hid (Ow celR 50 5 w7 _ x4) := HO4.out.below HB7.out
        have HY8 : Hid (Rys w7 x4 O) := HY4.out.keep (fun x hx ad e => HB7.out.block _ (HY4.out.lt x hx ad e))
        have HO7 : Hid (Ow celR 50 5 w7 v7 x7) := hO7
        have HY7 : Hid (Rys w7 x7 O) := hY7
        clear hO7 hY7 hV7 hC7 HR6 HB6
        go_wp2_with fail
        refine (sameall_yes v7 _ x7 x4 O w7 HO7.out HO8.out HY7.out HY8.out (by have := HOL2.out.1; omega) (fun r hr => by have := HLN.out r hr; omega)).mono ?_
        rintro e w9 ⟨rfl, hB9⟩
        have HB9 : Hid (Below w4.heap.size w4 w9) := HB7.out.trans (hB9.mono HB7.out.size)
        clear hB9
        go_wp2_with fail
        go_ret
        exact ⟨rfl, HB4.out.trans (HB9.out.mono HB4.out.size)⟩
end Go.Proofs.YtbfgefgadplcjaaDoor.replyAgain
