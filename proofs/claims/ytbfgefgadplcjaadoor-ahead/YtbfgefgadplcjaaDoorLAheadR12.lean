/-
  ReplyAhead's walk.
-/
import Derived.Test.YtbfgefgadplcjaaDoorLBackR12
import Derived.Test.YtbfgefgadplcjaaDoorSg12
import Derived.Test.YtbfgefgadplcjaaDoorOpT12
namespace Go.Proofs.YtbfgefgadplcjaaDoor.replyAhead
open Go.ChangeShapes Go.WideShapes Go.ChangeAt Go.RowKit
open Go.Proofs.YtbfgefgadplcjaaDoor.replyBack (Lp mdQ pr_sa own_apartT own_neT chg_lies own_capT)

set_option maxHeartbeats 1000000 in
set_option maxRecDepth 20000 in
theorem copied_none (w : World) : Calls Tryd.prog 26 #[.slice none 0 0] w fun e w' => ∃ v, e = .returned v ∧ Below w.heap.size w w' := by
  have HO : Hid ((w.alloc (.cells #[] 5)).ownsRow w.heap.size 5 1 (.slice (some ⟨w.heap.size, 0, none⟩) 0 0) 0 (cellsB [])) := ⟨rfl, .inr ⟨w.heap.size, 0, #[], rfl, Nat.le_refl _, heap_alloc_new w _, Nat.le_refl _, Nat.zero_le _, rfl, rfl⟩⟩
  go_enter Tryd.func26, Tryd.ntmps26
  go_wp2_with (refine wpList_append_keep rfl _ _ rfl w.heap.size (.slice (some ⟨w.heap.size, 0, none⟩) 0 0) 0 [] rfl HO.out none [] 0 0 rfl rfl (.inl rfl) (fun e => rfl) (by omega) (by simp) ?_; intro v1 w1 HO1 HG1; apply Hid.out)
  unfold Hid
  have HB2 : Hid (Below w.heap.size w w1) := ((Below.refl _ w).alloc (Nat.le_refl _) _).grown HG1 (by simp) (fun j e => by cases e; exact Nat.le_refl _)
  clear HO1 HG1
  go_wp2_with fail
  go_ret
  exact ⟨_, rfl, HB2.out⟩
theorem copied_all (a : Option Addr) (l : List UInt8) (k : Nat) (hk : a = none → k = 0) (hl : l.length ≤ 140737488355328) (w : World) (hb : Bts a l w) : Calls Tryd.prog 26 #[.slice a l.length k] w fun e w' => ∃ v, e = .returned v ∧ Below w.heap.size w w' := by
  cases a with
  | none =>
    obtain rfl := hk rfl
    obtain rfl := bts_none hb
    exact copied_none w
  | some ad =>
    refine (copied_any ad l l.length k rfl hl w hb).mono ?_
    rintro e w' ⟨v, he, _, h2⟩
    exact ⟨v, he, h2⟩
set_option maxHeartbeats 8000000 in
set_option maxRecDepth 100000 in
theorem walk {w : World} (a0 : Option Addr) (st : List Rq) (cap0 : Nat) (hq0 : Rqs a0 st w) (hc0 : st.length ≤ cap0) (hcm0 : cap0 ≤ 9223372036854775807)
    (ab : Option Addr) (B : List UInt8) (kb : Nat) (hbB : Bts ab B w) (hkb : B.length ≤ kb) (hnb : ab = none → kb = 0) (hmb : kb ≤ 9223372036854775807) (am : Option Addr) (Mo : List UInt8) (km : Nat) (hbM : Bts am Mo w) (hnm : am = none → km = 0) (hsB : B.length ≤ 140737488351232) (hsM : Mo.length ≤ 140737488351232)
    (a1 : Option Addr) (l1 : List UInt8) (cap1 : Nat) (hr1 : Bts a1 l1 w) (_ : l1.length ≤ 140737488351232) (_ : l1.length ≤ cap1) (_ : a1 = none → cap1 = 0) (_ : cap1 ≤ 9223372036854775807) (ht : Tb w) :
    Calls Tryd.prog 7 #[.slice a0 st.length cap0, .agg #[.slice ab B.length kb, .slice am Mo.length km], .slice a1 l1.length cap1] w fun e w' => e = .returned (.bool true) ∧ Below w.heap.size w w' := by
  obtain ⟨T, hT⟩ : ∃ T, T = st.take 1024 := ⟨_, rfl⟩
  have hTl : T.length ≤ 1024 := by rw [hT, List.length_take]; omega
  have hTc : T.length ≤ cap0 := by rw [hT, List.length_take]; omega
  obtain ⟨os, hos⟩ : ∃ os, os = T.map mdQ := ⟨_, rfl⟩
  have HMY : Hid (∀ r ∈ os, MayR r) := fun r hr => by
    rw [hos] at hr
    obtain ⟨x, _, rfl⟩ := List.mem_map.1 hr
    exact may_md _ _ _
  have HOL : Hid (os.length = T.length) := by rw [hos]; exact List.length_map ..
  have HOE : Hid (∀ i (h : i < T.length) (h2 : i < os.length), os[i] = mdQ T[i]) := fun i h h2 => by
    subst hos
    exact List.getElem_map ..
  obtain ⟨S, hS⟩ : ∃ S, S = Sr.nil.run B := ⟨_, rfl⟩
  have HAG : Hid (Sr.nil.run (os.flatMap prL ++ B) = ⟨S.p, S.h, os ++ S.o, S.b⟩) := by rw [hS]; exact run_both os HMY.out B
  have HSE : Hid (Sr.nil.run B = S) := hS.symm
  have HSK : Hid (S.Ok ∧ 5 * S.o.length ≤ B.length ∧ ∀ r ∈ S.o, r.ls.length ≤ 64) := by
    rw [hS]
    have hcnt := Sr.run_cnt B Sr.nil Sr.nil_ok
    have h1 : Sr.nil.o.length = 0 := rfl
    have h2 : Sr.nil.h.length = 0 := rfl
    exact ⟨Sr.run_ok Sr.nil Sr.nil_ok B, by omega, fun r hr => (told_may B r hr).n2⟩
  have HFS : Hid (∀ i, ((os.take i).flatMap prL).length ≤ 32768 * i) := fun i => by
    have h1 := flat_short (os.take i) (fun r hr => HMY.out r (List.mem_of_mem_take hr))
    have h2 : (os.take i).length ≤ i := by rw [List.length_take]; omega
    exact Nat.le_trans h1 (Nat.mul_le_mul_left _ h2)
  obtain ⟨w0, hw0⟩ : ∃ w0, w0 = w.alloc (.cells #[.slice ab B.length kb, .slice am Mo.length km] 67) := ⟨_, rfl⟩
  have hb0 : Below w.heap.size w w0 := by subst hw0; exact (Below.refl _ _).alloc (Nat.le_refl _) _
  have HB0 : Hid (Below w.heap.size w w0) := hb0
  have HX0 : Hid (Lies w0 w.heap.size #[.slice ab B.length kb, .slice am Mo.length km] 67) := by subst hw0; exact Lies.new w _ _
  have HHD := lhead_any w0 (ht.on hb0)
  have HWW0 : Hid (w.alloc (.cells #[.slice ab B.length kb, .slice am Mo.length km] 67) = w0) := hw0.symm
  have HT : Hid (Tb w) := ht
  have HQ : Hid (Rqs a0 T w) := by rw [hT]; exact hq0.take 1024
  have HBB : Hid (Bts ab B w) := hbB
  have HBM : Hid (Bts am Mo w) := hbM
  have HR1 : Hid (Bts a1 l1 w) := hr1
  clear hq0 hr1 ht hos hS hw0 hb0 hbB hbM
  go_enter Tryd.func7, Tryd.ntmps7
  go_wp2_with (rw [HWW0.out])
  refine HHD.mono ?_
  rintro e w1 ⟨rfl, hB⟩
  have HB : Hid (Below w.heap.size w w1) := HB0.out.trans (hB.mono HB0.out.size)
  have HX1 : Hid (Lies w1 w.heap.size #[.slice ab B.length kb, .slice am Mo.length km] 67) := HX0.out.below hB HX0.out.lt
  have e0 : w1.cell? ⟨w.heap.size, 0, none⟩ = some (.slice ab B.length kb) := by rw [HX1.out.cell]; rfl
  have e1 : w1.cell? ⟨w.heap.size, 1, none⟩ = some (.slice am Mo.length km) := by rw [HX1.out.cell]; rfl
  clear hB HHD HWW0 HX0 HB0
  go_upto_region 3 with fail
  go_cut [7, 8] from 27 to 30 (fun v7 v8 wx => v7 = .slice ab B.length kb ∧ v8 = .slice am Mo.length km ∧ Hid (Below w1.heap.size w1 wx))
  case first =>
    go_region
    all_goals go_wp2_with fail
    all_goals go_meet
    all_goals exact ⟨rfl, rfl, by first | exact Below.refl _ _ | exact (Below.refl _ _).drew⟩
  case rest =>
    obtain ⟨rfl, rfl, HBa⟩ := hcut
    have HB2 : Hid (Below w.heap.size w wc) := HB.out.trans (HBa.out.mono HB.out.size)
    clear HB HX1 e0 e1 HBa
    have HT1 : Hid (Tb wc) := HT.out.on HB2.out
    have HQ1 : Hid (Rqs a0 T wc) := HQ.out.below HB2.out
    have HR2 : Hid (Bts a1 l1 wc) := HR1.out.below HB2.out
    have HBB1 : Hid (Bts ab B wc) := HBB.out.below HB2.out
    have HBM1 : Hid (Bts am Mo wc) := HBM.out.below HB2.out
    clear HT HQ HR1 HBB HBM
    obtain ⟨V, hV⟩ : ∃ V, V = wc := ⟨_, rfl⟩
    subst hV
    go_upto_if 33 with fail
    go_cut [0] from 31 to 35 (fun v wc => wc = V ∧ v = .slice a0 T.length cap0)
    case first =>
      by_cases hbig : 1024 < st.length
      · have hbig' : (1024 : Int) < (st.length : Int) := by omega
        have hLn : T.length = 1024 := by rw [hT, List.length_take]; omega
        have hcb : (1024 : Int) ≤ (cap0 : Int) := by omega
        have HLN2 : Hid (T.length = 1024) := hLn
        clear hT hLn
        go_wp2_with fail
        go_meet
        exact ⟨rfl, by rw [HLN2.out]⟩
      · have hbig' : ¬ (1024 : Int) < (st.length : Int) := by omega
        have HLe : Hid (T = st) := by rw [hT]; exact List.take_of_length_le (by omega)
        clear hT
        go_wp2_with fail
        go_meet
        exact ⟨rfl, by rw [HLe.out]⟩
    case rest =>
    obtain ⟨rfl, rfl⟩ := hcut
    clear hT
    by_cases hbig : 2097152 < B.length + Mo.length
    · have hbig' : (2097152 : Int) < (B.length : Int) + (Mo.length : Int) := by omega
      go_wp2_with fail
      go_ret
      exact ⟨rfl, HB2.out⟩
    have hbig' : ¬ (2097152 : Int) < (B.length : Int) + (Mo.length : Int) := by omega
    go_wp2_with fail
    go_loopw [9, 10, 44] (fun va vw iv wr => ∃ (i : Nat) (xs : List Rx), i ≤ T.length ∧ iv = .int .i64 i ∧ xs.length = i ∧ Hid (Lp wc wr va vw xs (os.take i) ((os.take i).flatMap prL))) (fun _ _ iv _ => T.length - (intOf iv).toNat)
    case atStart => exact ⟨0, [], Nat.zero_le _, rfl, rfl, own_nil _ _, Ow.nil _ _ _ _, Sas.nil _, (fun x hx => by cases hx), (fun g e => by cases e), Below.refl _ _⟩
    case round =>
      obtain ⟨i, xs, hi, rfl, hxi, HLP⟩ := hrel
      have HXI : Hid (xs.length = i) := hxi
      have hxm : xs.length ≤ 4096 := by omega
      clear hxi
      by_cases hlt : i < T.length
      · have hlt' : (i : Int) < (T.length : Int) := by omega
        rcases HQ1.out with h | ⟨g, o, hga, hg, hcs⟩
        · exfalso; rw [h] at hlt; cases hlt
        obtain ⟨hce, hqa⟩ := hcs i hlt
        have hlo : i < os.length := by rw [HOL.out]; exact hlt
        have HOI : Hid (os[i] = mdQ T[i]) := HOE.out i hlt hlo
        have HMR : Hid (MayR os[i]) := HMY.out _ (List.getElem_mem hlo)
        have HFT : Hid ((os.take (i + 1)).flatMap prL = (os.take i).flatMap prL ++ prL os[i]) := flatR_take os i hlo
        have HTS : Hid (os.take (i + 1) = os.take i ++ [os[i]]) := List.take_succ_eq_append_getElem hlo
        have hfs := HFS.out i
        have hps := prL_short HMR.out
        subst hga
        have hbw := HLP.out.bel
        have hce2 : ∀ j, j < 5 → wr.cell? ⟨g, o + i * 5 + j, none⟩ = (celR T[i].x)[j]? := fun j hj => (hbw.cell (p := ⟨g, o + i * 5 + j, none⟩) hg).trans (hce j hj)
        have HQA : Hid (RqAt wr T[i]) := hqa.below hbw
        clear hce hqa hcs
        generalize T[i] = qr at *
        generalize os[i] = r at *
        obtain ⟨x, L⟩ := qr
        have e0 := hce2 0 (by decide)
        have e1 := hce2 1 (by decide)
        have e2 := hce2 2 (by decide)
        have e3 := hce2 3 (by decide)
        have e4 := hce2 4 (by decide)
        rw [Nat.add_zero] at e0
        replace e0 : wr.cell? ⟨g, o + i * 5, none⟩ = some (.int .i64 x.c) := e0
        replace e1 : wr.cell? ⟨g, o + i * 5 + 1, none⟩ = some (.int .i64 x.s.1) := e1
        replace e2 : wr.cell? ⟨g, o + i * 5 + 2, none⟩ = some (.int .i64 x.s.2.1) := e2
        replace e3 : wr.cell? ⟨g, o + i * 5 + 3, none⟩ = some (.int .i64 x.s.2.2) := e3
        replace e4 : wr.cell? ⟨g, o + i * 5 + 4, none⟩ = some (.slice x.a x.n x.k) := e4
        obtain ⟨W2, hW2⟩ : ∃ W2, W2 = wr.alloc (.cells (rxC x) 50) := ⟨_, rfl⟩
        have hb2 : Below wr.heap.size wr W2 := by subst hW2; exact (Below.refl _ _).alloc (Nat.le_refl _) _
        have HL2 : Hid (Lies W2 wr.heap.size (rxC x) 50) := by subst hW2; exact Lies.new wr _ _
        have HWW : Hid (wr.alloc (.cells #[.int .i64 x.c, .int .i64 x.s.1, .int .i64 x.s.2.1, .int .i64 x.s.2.2, .slice x.a x.n x.k] 50) = W2) := hW2.symm
        have HLP2 : Hid (Lp wc W2 u9 u10 xs (os.take i) ((os.take i).flatMap prL)) := HLP.out.below hb2
        have HQA2 : Hid (RqAt W2 ⟨x, L⟩) := HQA.out.below hb2
        generalize hD : (os.take i).flatMap prL = D at *
        clear hb2 hW2 hce2 hbw HLP HQA hD
        obtain ⟨c0, c1, c2, c3, c4⟩ := rxC_cells HL2.out
        go_wp2_with (rw [HWW.out])
        refine (made_any x L W2 HQA2.out.1 HQA2.out.2.1 HQA2.out.2.2).mono ?_
        rintro e w3 ⟨y, rfl, hsy, hby, hb3⟩
        have hsy2 : SaAt w3 y r := by rw [HOI.out]; exact hsy
        have HLP3 : Hid (Lp wc w3 u9 u10 xs (os.take i) D) := HLP2.out.below hb3
        have hws := hb3.size
        obtain ⟨W4, hW4⟩ : ∃ W4, W4 = w3.alloc (.cells (rxC y) 50) := ⟨_, rfl⟩
        have hb4 : Below w3.heap.size w3 W4 := by subst hW4; exact (Below.refl _ _).alloc (Nat.le_refl _) _
        have HL4 : Hid (Lies W4 w3.heap.size (rxC y) 50) := by subst hW4; exact Lies.new w3 _ _
        have HWW4 : Hid (w3.alloc (.cells #[.int .i64 y.c, .int .i64 y.s.1, .int .i64 y.s.2.1, .int .i64 y.s.2.2, .slice y.a y.n y.k] 50) = W4) := hW4.symm
        have HLP4 : Hid (Lp wc W4 u9 u10 xs (os.take i) D) := HLP3.out.below hb4
        have HSY4 : Hid (SaAt W4 y r) := hsy2.below hb4
        have HYO4 : Hid (∀ ad, y.a = some ad → ∃ cs, Lies W4 ad.block cs 9) := fun ad e => by obtain ⟨cs, hk⟩ := hby ad e; exact ⟨cs, hk.below hb4 hk.lt⟩
        clear hsy hsy2 hby hb3 hb4 hW4 HLP3 HLP2 HQA2 HOI HWW HL2 c0 c1 c2 c3 c4 e0 e1 e2 e3 e4 hws
        obtain ⟨c0, c1, c2, c3, c4⟩ := rxC_cells HL4.out
        unfold rxV
        go_wp2_with (rw [HWW4.out])
        refine (pr_sa y r W4 HSY4.out HMR.out (HT1.out.on HLP4.out.bel)).mono ?_
        rintro e w6 ⟨v6, rfl, ho6, hb6⟩
        obtain ⟨a6, k6, rfl, hbt6, -, hn6, -, -⟩ := own_bts ho6
        have HLP6 : Hid (Lp wc w6 u9 u10 xs (os.take i) D) := HLP4.out.below hb6
        have HSY6 : Hid (SaAt w6 y r) := HSY4.out.below hb6
        have HL6 : Hid (Lies w6 w3.heap.size (rxC y) 50) := HL4.out.below hb6 HL4.out.lt
        have HYO6 : Hid (∀ ad, y.a = some ad → ∃ cs, Lies w6 ad.block cs 9) := fun ad e => by obtain ⟨cs, hk⟩ := HYO4.out ad e; exact ⟨cs, hk.below hb6 hk.lt⟩
        have HP6 : Hid (Bts a6 (prL r) w6) := hbt6
        have HN6 : Hid (a6 = none → k6 = 0) := hn6
        clear ho6 hb6 hbt6 hn6 HLP4 HSY4 HL4 HYO4 HWW4 c0 c1 c2 c3 c4
        obtain ⟨ua, uc, hu, -⟩ := HLP6.out.row.shape
        subst hu
        have hdl : D.length ≤ 134217728 := by omega
        go_wp2_with (at_builtin; refine wpList_append_keep rfl _ _ rfl wc.heap.size _ _ D rfl HLP6.out.all a6 (prL r) (prL r).length k6 rfl rfl HP6.out HN6.out (by omega) HLP6.out.bel.size ?_; intro v7 w7 ho7 hg7; apply Hid.out)
        unfold Hid
        have hk6 : ∀ z : Rx, (∀ ad, z.a = some ad → ∃ cs, Lies w6 ad.block cs 9) → ∀ ad, z.a = some ad → (∃ cs, Lies w7 ad.block cs 9) ∧ w7.heap[ad.block]? = w6.heap[ad.block]? := fun z hz ad e => by
          obtain ⟨cs, hk⟩ := hz ad e
          have hn := own_apartT HLP6.out.all hk (by decide)
          exact ⟨⟨cs, chg_lies hk hg7 hn⟩, hg7.block _ hk.lt (fun e2 => hn _ e2.symm rfl)⟩
        have HSA7 : Hid (Sas w7 xs (os.take i)) := ⟨HLP6.out.sa.1, fun j h1 h2 => (HLP6.out.sa.2 j h1 h2).keep hg7.size (fun ad e => (hk6 _ (HLP6.out.ap _ (List.getElem_mem h1)) ad e).2)⟩
        have HAP7 : Hid (∀ z ∈ xs, ∀ ad, z.a = some ad → ∃ cs, Lies w7 ad.block cs 9) := fun z hz ad e => (hk6 z (HLP6.out.ap z hz) ad e).1
        have HSY7 : Hid (SaAt w7 y r) := HSY6.out.keep hg7.size (fun ad e => (hk6 y HYO6.out ad e).2)
        have HYO7 : Hid (∀ ad, y.a = some ad → ∃ cs, Lies w7 ad.block cs 9) := fun ad e => (hk6 y HYO6.out ad e).1
        have HOW7 : Hid (Ow celR 50 5 w7 (.slice ua xs.length uc) xs) := HLP6.out.row.keep (fun g hg => hg7.block g (HLP6.out.row.lt g hg) (fun e => own_neT HLP6.out.row HLP6.out.all (by decide) g hg e.symm))
        have HVB : Hid (∀ g, (Value.slice ua xs.length uc).ownBlock = some g → wc.heap.size ≤ g) := HLP6.out.vb
        have HL7 : Hid (Lies w7 w3.heap.size (rxC y) 50) := chg_lies HL6.out hg7 (own_apartT HLP6.out.all HL6.out (by decide))
        have HB7 : Hid (Below wc.heap.size wc w7) := HLP6.out.bel.grown hg7 HLP6.out.bel.size (fun q hq => (HLP6.out.all.lt q hq).1)
        have HO7 : Hid (w7.ownsRow wc.heap.size 5 1 v7 (D.length + (prL r).length) (cellsB (D ++ prL r))) := ho7
        obtain ⟨W8, hW8⟩ : ∃ W8, W8 = w7.alloc (.cells (rxC y) 50) := ⟨_, rfl⟩
        have hb8 : Below w7.heap.size w7 W8 := by subst hW8; exact (Below.refl _ _).alloc (Nat.le_refl _) _
        have HN8 : Hid (∀ j u, (celR y)[j]? = some u → W8.cell? ⟨w7.heap.size, j, none⟩ = some u) := fun j u hj => by
          subst hW8
          exact new_cells (w := w7) (t := 50) (celR y) j u hj
        have HWW8 : Hid (w7.alloc (.cells #[.int .i64 y.c, .int .i64 y.s.1, .int .i64 y.s.2.1, .int .i64 y.s.2.2, .slice y.a y.n y.k] 50) = W8) := hW8.symm
        have HSA8 : Hid (Sas W8 xs (os.take i)) := HSA7.out.below hb8
        have HAP8 : Hid (∀ z ∈ xs, ∀ ad, z.a = some ad → ∃ cs, Lies W8 ad.block cs 9) := fun z hz ad e => by obtain ⟨cs, hk⟩ := HAP7.out z hz ad e; exact ⟨cs, hk.below hb8 hk.lt⟩
        have HSY8 : Hid (SaAt W8 y r) := HSY7.out.below hb8
        have HYO8 : Hid (∀ ad, y.a = some ad → ∃ cs, Lies W8 ad.block cs 9) := fun ad e => by obtain ⟨cs, hk⟩ := HYO7.out ad e; exact ⟨cs, hk.below hb8 hk.lt⟩
        have HOW8 : Hid (Ow celR 50 5 W8 (.slice ua xs.length uc) xs) := HOW7.out.below hb8
        have HB8 : Hid (Below wc.heap.size wc W8) := HB7.out.trans (hb8.mono HB7.out.size)
        have HO8 : Hid (W8.ownsRow wc.heap.size 5 1 v7 (D.length + (prL r).length) (cellsB (D ++ prL r))) := own_below HO7.out hb8
        obtain ⟨c0, c1, c2, c3, c4⟩ := rxC_cells HL7.out
        clear ho7 hg7 hk6 hb8 hW8 HLP6 HSY6 HYO6 HL6 HP6 HN6 HSA7 HAP7 HSY7 HYO7 HOW7 HB7 HO7 HL7
        go_wp2_with (rw [HWW8.out]; refine wpList_append_ow celR_length (by decide) oneR rfl _ _ 29 rfl Tryd.underlying29 _ 56 infoER rfl _ xs rfl HOW8.out w7.heap.size 1 y rfl HN8.out (by omega) (by omega) ?_; intro g9 cap9 w9 ho9 hc9 hg9; apply Hid.out)
        unfold Hid
        have hk8 : ∀ z : Rx, (∀ ad, z.a = some ad → ∃ cs, Lies W8 ad.block cs 9) → ∀ ad, z.a = some ad → (∃ cs, Lies w9 ad.block cs 9) ∧ w9.heap[ad.block]? = W8.heap[ad.block]? := fun z hz ad e => by
          obtain ⟨cs, hk⟩ := hz ad e
          have hn : ¬ (Value.slice ua xs.length uc).ownBlock = some ad.block := fun e2 => own_apartT HOW8.out hk (by decide) _ e2 rfl
          have hb := hc9.block _ hk.lt hn
          exact ⟨⟨cs, hb.trans hk⟩, hb⟩
        have HNEW : Hid (Lp wc w9 v7 (.slice (some ⟨g9, 0, none⟩) (xs.length + 1) cap9) (xs ++ [y]) (os.take (i + 1)) (D ++ prL r)) := by
          refine ⟨?_, ho9, ?_, ?_, ?_, ?_⟩
          · rw [List.length_append]
            exact own_keep HO8.out (fun k hk => hc9.block k (HO8.out.lt k hk).2 (fun e => own_neT HO8.out HOW8.out (by decide) k hk e))
          · rw [HTS.out]
            refine Sas.snoc ⟨HSA8.out.1, fun j h1 h2 => (HSA8.out.2 j h1 h2).keep hc9.size (fun ad e => (hk8 _ (HAP8.out _ (List.getElem_mem h1)) ad e).2)⟩ (HSY8.out.keep hc9.size (fun ad e => (hk8 y HYO8.out ad e).2))
          · intro z hz ad e
            rcases List.mem_append.1 hz with hz | hz
            · exact (hk8 z (HAP8.out z hz) ad e).1
            · rw [List.mem_singleton.1 hz] at e
              exact (hk8 y HYO8.out ad e).1
          · intro q hq
            cases hq
            rcases hg9 with e | e
            · exact HVB.out _ e
            · exact Nat.le_trans HB8.out.size e
          · exact HB8.out.trans (hc9.to_below HB8.out.size (fun k hk => HVB.out k hk))
        have HLEN : Hid ((xs ++ [y]).length = i + 1) := by show _ = _; rw [List.length_append, HXI.out]; rfl
        clear ho9 hc9 hg9 hk8 HSA8 HAP8 HSY8 HYO8 HOW8 HB8 HO8 HN8 HWW8 c0 c1 c2 c3 c4 HTS
        go_wp2_with fail
        go_roundw
        case rel => exact ⟨i + 1, xs ++ [y], hlt, by go_num, HLEN.out, by rw [HFT.out]; exact HNEW.out⟩
        case measure => simp [intOf]; omega
      · have hlt' : ¬ (i : Int) < (T.length : Int) := by omega
        have HIX : Hid (os.take i = os) := List.take_of_length_le (by rw [HOL.out]; omega)
        have hfs := HFS.out i
        rw [HIX.out] at HLP hfs
        have hil : i ≤ 1024 := by omega
        obtain ⟨ua, uc, hu, -⟩ := HLP.out.row.shape
        subst hu
        have hdl : (os.flatMap prL).length ≤ 33554432 := by omega
        have hBl : B.length ≤ 2097152 := by omega
        have HOS : Hid (os.length = i) := by show _ = _; rw [HOL.out]; omega
        have HLN : Hid (∀ r ∈ os, r.ls.length ≤ 64) := fun r hr => (HMY.out r hr).n2
        have HBBw : Hid (Bts ab B wr) := HBB1.out.below HLP.out.bel
        obtain ⟨D, hD⟩ : ∃ D, D = os.flatMap prL := ⟨_, rfl⟩
        rw [← hD] at HLP HAG hdl
        have HSO : Hid (S.o.length ≤ 419431) := by have := HSK.out.2.1; show _ ≤ _; omega
        clear hfs hD HFS HQ1 HMY HOE HOL hbig hbig' hi hlt
        go_wp2_with (at_builtin; refine wpList_append_keep rfl _ _ rfl wc.heap.size _ _ D rfl HLP.out.all ab B B.length kb rfl rfl HBBw.out hnb (by omega) HLP.out.bel.size ?_; intro v6 w6 ho6 hg6; apply Hid.out)
        unfold Hid
        have HSA6 : Hid (Sas w6 xs os) := ⟨HLP.out.sa.1, fun j h1 h2 => (HLP.out.sa.2 j h1 h2).keep hg6.size (fun ad e => by
          obtain ⟨cs, hk⟩ := HLP.out.ap _ (List.getElem_mem h1) ad e
          exact hg6.block _ hk.lt (fun e2 => own_apartT HLP.out.all hk (by decide) _ e2.symm rfl))⟩
        have HOW6 : Hid (RwR ua xs w6) := Ow.rw (HLP.out.row.keep (fun g hg => hg6.block g (HLP.out.row.lt g hg) (fun e => own_neT HLP.out.row HLP.out.all (by decide) g hg e.symm)))
        have hb6 : Below wc.heap.size wc w6 := HLP.out.bel.grown hg6 HLP.out.bel.size (fun q hq => (HLP.out.all.lt q hq).1)
        have HB6 : Hid (Below w.heap.size w w6) := HB2.out.trans (hb6.mono HB2.out.size)
        have HT6 : Hid (Tb w6) := HT1.out.on hb6
        have HBB6 : Hid (Bts ab B w6) := HBB1.out.below hb6
        have HBM6 : Hid (Bts am Mo w6) := HBM1.out.below hb6
        have HR6 : Hid (Bts a1 l1 w6) := HR2.out.below hb6
        obtain ⟨a5, k5, hv5, hbt5, -, hn5, hk5, -⟩ := own_bts ho6
        have hk9 : k5 ≤ 9223372036854775807 := by rw [hv5] at ho6; exact own_capT ho6
        subst hv5
        have HP5 : Hid (Bts a5 (D ++ B) w6) := hbt5
        have HDB : Hid ((D ++ B).length = D.length + B.length) := List.length_append
        have HXX : Hid (xs.length = os.length) := HSA6.out.1
        clear ho6 hg6 hb6 hbt5 hn5 HLP HBBw HBB1 HBM1 HR2 HT1 HB2
        have HF1 := fed_all a5 (D ++ B) k5 a1 l1 cap1 w6 HT6.out (by rw [HDB.out]; omega) HP5.out (by rw [HDB.out]; exact hk5) hk9 (by omega) HR6.out (by rw [HAG.out]; show (os ++ S.o).length ≤ _; have := HSO.out; have := HOS.out; rw [List.length_append]; omega)
        rw [HAG.out, HDB.out] at HF1
        clear hk5 HP5 HAG HDB
        go_wp2_with fail
        refine HF1.mono ?_
        rintro e w7 ⟨b2, rfl, hR7, hB7⟩
        have HRa7 : Hid (Rd w7 (fun k => w6.heap.size ≤ k ∧ k < w7.heap.size) b2 ⟨S.p, S.h, os ++ S.o, S.b⟩) := hR7
        have HB7 : Hid (Below w6.heap.size w6 w7) := hB7
        have HF2 := fed_all ab B kb a1 l1 cap1 w7 (HT6.out.on hB7) (by omega) (HBB6.out.below hB7) hkb hmb (by omega) (HR6.out.below hB7) (by rw [HSE.out]; have := HSO.out; omega)
        rw [HSE.out] at HF2
        clear hR7 hB7 HF1 HSE HBB6 HR6
        generalize errS (⟨S.p, S.h, os ++ S.o, S.b⟩ : Sr).b = er1
        generalize errS S.b = er2 at HF2
        go_wp2_with fail
        refine HF2.mono ?_
        rintro e w8 ⟨b3, rfl, hR8, hB8⟩
        have HRb8 : Hid (Rd w8 (fun k => w7.heap.size ≤ k ∧ k < w8.heap.size) b3 S) := hR8
        have HRa8 : Hid (Rd w8 (fun k => w6.heap.size ≤ k ∧ k < w7.heap.size) b2 ⟨S.p, S.h, os ++ S.o, S.b⟩) := HRa7.out.below hB8
        have HS78 : Hid (w7.heap.size ≤ w8.heap.size) := hB8.size
        have HS67 : Hid (w6.heap.size ≤ w7.heap.size) := HB7.out.size
        have HB8 : Hid (Below w6.heap.size w6 w8) := HB7.out.trans (hB8.mono HB7.out.size)
        have HTD := told_any _ b2 _ (xs.length + B.length) w8 HRa8.out (fun k hk => Nat.lt_of_lt_of_le hk.2 hB8.size) (by show (os ++ S.o).length ≤ _; have := HSK.out.2.1; rw [List.length_append, HXX.out]; omega) (by omega)
        rw [show ((xs.length + B.length : Nat) : Int) = (xs.length : Int) + (B.length : Int) by omega] at HTD
        clear hR8 hB8 HF2 HRa7 HB7 HRa8
        go_wp2_with fail
        refine HTD.mono ?_
        rintro e w9 ⟨v9, x9, rfl, hO9, hY9, hF9, hV9, hR9, hC9⟩
        have hs9 := hC9.size
        have HRb9 : Hid (Rd w9 (fun k => w7.heap.size ≤ k ∧ k < w8.heap.size) b3 S) := HRb8.out.chg hC9 (fun k h1 h2 => by omega)
        have HRa9 : Hid (Rd w9 (fun k => w6.heap.size ≤ k ∧ k < w7.heap.size) b2 ⟨S.p, S.h, [], S.b⟩) := hR9
        have HB9 : Hid (Below w6.heap.size w6 w9) := HB8.out.trans (hC9.to_below HB8.out.size (fun k hk => hk.1))
        have HO9 : Hid (Ow celR 50 5 w9 v9 x9) := hO9
        have HY9 : Hid (Rys w9 x9 (os ++ S.o)) := hY9
        have HF9 : Hid (∀ x ∈ x9, ∀ ad, x.a = some ad → w6.heap.size ≤ ad.block ∧ ad.block < w7.heap.size) := hF9
        have HV9 : Hid (∀ k, v9.ownBlock = some k → w8.heap.size ≤ k) := hV9
        have HS89 : Hid (w8.heap.size ≤ w9.heap.size) := hs9
        have HTE := told_any _ b3 _ B.length w9 HRb9.out (fun k hk => Nat.lt_of_lt_of_le hk.2 hs9) (by have := HSK.out.2.1; omega) (by omega)
        clear hO9 hY9 hF9 hV9 hR9 hC9 hs9 HTD HRb8 HB8
        go_wp2_with fail
        refine HTE.mono ?_
        rintro e w10 ⟨v10, x10, rfl, hO10, hY10, hF10, hV10, hR10, hC10⟩
        have HRa10 : Hid (Rd w10 (fun k => w6.heap.size ≤ k ∧ k < w7.heap.size) b2 ⟨S.p, S.h, [], S.b⟩) := HRa9.out.chg hC10 (fun k h1 h2 => by omega)
        have HRb10 : Hid (Rd w10 (fun k => w7.heap.size ≤ k ∧ k < w8.heap.size) b3 ⟨S.p, S.h, [], S.b⟩) := hR10
        have HB10 : Hid (Below w6.heap.size w6 w10) := HB9.out.trans (hC10.to_below HB9.out.size (fun k hk => Nat.le_trans HS67.out hk.1))
        have HO10 : Hid (Ow celR 50 5 w10 v9 x9) := HO9.out.chg hC10 (fun k hk h2 => by have := HV9.out k hk; omega)
        have HY10 : Hid (Sas w10 x9 (os ++ S.o)) := (HY9.out.keep (fun x hx ad e => hC10.block _ (HY9.out.lt x hx ad e) (fun h2 => by have := HF9.out x hx ad e; omega))).sas
        have HQ10 : Hid (Ow celR 50 5 w10 v10 x10) := hO10
        have HZ10 : Hid (Sas w10 x10 S.o) := hY10.sas
        have HSA10 : Hid (Sas w10 xs os) := HSA6.out.below HB10.out
        have HOW10 : Hid (RwR ua xs w10) := HOW6.out.below HB10.out
        clear hO10 hY10 hF10 hV10 hR10 hC10 HTE HRa9 HRb9 HB9 HO9 HY9 HF9 HV9 HS89 HS78 HSA6 HOW6
        obtain ⟨a9, c9, hu9, -⟩ := HO10.out.shape
        subst hu9
        obtain ⟨a10, c10, hu10, -⟩ := HQ10.out.shape
        subst hu10
        have hl9 : x9.length = os.length + S.o.length := by have := HY10.out.1; rw [List.length_append] at this; exact this
        have hl10 : x10.length = S.o.length := HZ10.out.1
        have hlx : xs.length = os.length := HXX.out
        have hc9 := HO10.out.cap
        have HRW9 : Hid (RwR a9 x9 w10) := HO10.out.rw
        have HRW10 : Hid (RwR a10 x10 w10) := HQ10.out.rw
        have HTK : Hid (Sas w10 (x9.take xs.length) os) := by
          have := HY10.out.take xs.length
          rwa [List.take_left' HXX.out.symm] at this
        have HDK : Hid (Sas w10 (x9.drop xs.length) S.o) := by
          have := HY10.out.drop xs.length
          rwa [List.drop_left' HXX.out.symm] at this
        have HC1 := sameall_rw a9 ua c9 uc (x9.take xs.length) xs os w10 (HRW9.out.take _) HOW10.out HTK.out HSA10.out (by have := HOS.out; omega) (fun r hr => by have := HLN.out r hr; omega)
        rw [List.length_take, Nat.min_eq_left (by omega)] at HC1
        have HC2 : Hid (∀ wx, Below w10.heap.size w10 wx → Calls Tryd.prog 23 #[.slice (slV a9 xs.length c9) (x9.length - xs.length) (c9 - xs.length), .slice a10 x10.length c10] wx fun e w' => e = .returned (.bool true) ∧ Below wx.heap.size wx w') := fun wx hbx => by
          have := sameall_rw (slV a9 xs.length c9) a10 (c9 - xs.length) c10 (x9.drop xs.length) x10 S.o wx ((HRW9.out.cut xs.length c9 hc9.2).below hbx) (HRW10.out.below hbx) (HDK.out.below hbx) (HZ10.out.below hbx) (by have := HSO.out; omega) (fun r hr => by have := HSK.out.2.2 r hr; omega)
          rwa [List.length_drop] at this
        have HSV := run_slV a9 x9.length c9 xs.length (by omega)
        have hxc : xs.length ≤ c9 := by have := hc9.2; omega
        have hx9m : x9.length ≤ 1048576 := by have := HSO.out; have := HOS.out; omega
        have hneq : ((x9.length : Int) != (xs.length : Int) + (x10.length : Int)) = false := by rw [bne_eq_false_iff_eq]; omega
        have hsmall : (xs.length : Int) + (x10.length : Int) ≤ 1048576 := by omega
        have HL9 : Hid (x9.length = os.length + S.o.length ∧ x10.length = S.o.length ∧ xs.length = os.length) := ⟨hl9, hl10, hlx⟩
        clear hl9 hl10 hlx hc9 HO10 HQ10 HY10 HZ10 HSA10 HOW10 HRW9 HRW10 HTK HDK HXX
        go_wp2_with fail
        refine HC1.mono ?_
        rintro e w11 ⟨rfl, hB11⟩
        have HB11 : Hid (Below w10.heap.size w10 w11) := hB11
        clear hB11 HC1
        go_wp2_with fail
        refine (HC2.out _ HB11.out).mono ?_
        rintro e w12 ⟨rfl, hB12⟩
        have hb12 : Below w10.heap.size w10 w12 := HB11.out.trans (hB12.mono HB11.out.size)
        have HB12 : Hid (Below w6.heap.size w6 w12) := HB10.out.trans (hb12.mono HB10.out.size)
        have HRa12 : Hid (Rd w12 (fun k => w6.heap.size ≤ k ∧ k < w7.heap.size) b2 ⟨S.p, S.h, [], S.b⟩) := HRa10.out.below hb12
        have HRb12 : Hid (Rd w12 (fun k => w7.heap.size ≤ k ∧ k < w8.heap.size) b3 ⟨S.p, S.h, [], S.b⟩) := HRb10.out.below hb12
        have HBwz : Hid (Below w.heap.size w w12) := HB6.out.trans (HB12.out.mono HB6.out.size)
        have HBM12 : Hid (Bts am Mo w12) := HBM6.out.below HB12.out
        have HS712 : Hid (w7.heap.size ≤ w12.heap.size) := by have := HRb12.out.fb; have := HRb12.out.lt; show _ ≤ _; omega
        have HBAD : Hid (S.b = true → S.h = []) := HSK.out.1.bad
        have E1 := rerr_any _ b2 _ w12 HRa12.out
        have E2 := rerr_any _ b3 _ w12 HRb12.out
        have H1 := rheld_any _ b2 _ w12 HRa12.out
        have H2 := rheld_any _ b3 _ w12 HRb12.out
        dsimp only at E1 E2 H1 H2
        clear hB12 hb12 HB10 HB11 HC2 HRa10 HRb10 HRb12 HBM6 HSV hneq hsmall HL9 HLN HSK HSO HB12
        generalize S.h = hh at *
        cases hb : S.b with
        | false =>
          rw [hb] at E1 E2
          unfold errS at E1 E2
          simp only [Bool.false_eq_true, if_false] at E1 E2
          clear HBAD hb HRa12 HBM12
          generalize hh.length = hn at *
          go_wp2_with fail
          refine E1.mono ?_
          rintro e w13 ⟨rfl, rfl⟩
          go_wp2_with fail
          refine E2.mono ?_
          rintro e w13 ⟨rfl, rfl⟩
          go_wp2_with fail
          refine H1.mono ?_
          rintro e w13 ⟨rfl, rfl⟩
          go_wp2_with fail
          refine H2.mono ?_
          rintro e w13 ⟨rfl, rfl⟩
          go_wp2_with fail
          refine E1.mono ?_
          rintro e w13 ⟨rfl, rfl⟩
          go_wp2_with fail
          go_ret
          exact ⟨rfl, HBwz.out⟩
        | true =>
          obtain rfl := HBAD.out hb
          rw [hb] at E1 E2 HRa12
          unfold errS at E1 E2
          simp only [if_true, List.length_nil] at E1 E2 H1 H2
          have HCP := copied_all am Mo km hnm (by omega) w12 HBM12.out
          clear HBAD hb HBM12
          go_wp2_with fail
          refine E1.mono ?_
          rintro e w13 ⟨rfl, rfl⟩
          go_wp2_with fail
          refine E2.mono ?_
          rintro e w13 ⟨rfl, rfl⟩
          go_wp2_with fail
          refine H1.mono ?_
          rintro e w13 ⟨rfl, rfl⟩
          go_wp2_with fail
          refine H2.mono ?_
          rintro e w13 ⟨rfl, rfl⟩
          go_wp2_with fail
          refine E1.mono ?_
          rintro e w13 ⟨rfl, rfl⟩
          go_wp2_with fail
          refine HCP.mono ?_
          rintro e w14 ⟨v14, rfl, hB14⟩
          have HRa14 : Hid (Rd w14 (fun k => w6.heap.size ≤ k ∧ k < w7.heap.size) b2 ⟨S.p, [], [], true⟩) := HRa12.out.below hB14
          have HB14 : Hid (Below w.heap.size w w14) := HBwz.out.trans (hB14.mono HBwz.out.size)
          have HS14 : Hid (w7.heap.size ≤ w14.heap.size) := Nat.le_trans HS712.out hB14.size
          have HFB := feed_bad _ b2 _ v14 w14 HRa14.out rfl
          clear hB14 HCP HRa12 E1 E2 H1 H2 HS712 HBwz
          go_wp2_with fail
          refine HFB.mono ?_
          rintro e w15 ⟨rfl, rfl⟩
          have HNX := rnext_any _ b2 _ w15 HRa14.out (fun k hk => by have := HS14.out; omega)
          dsimp only at HNX
          simp only [List.isEmpty_nil, Bool.not_true, List.tail_nil] at HNX
          clear HFB
          go_wp2_with fail
          refine HNX.mono ?_
          rintro e w16 ⟨x16, rfl, -, hR16, hC16, -⟩
          have HRa16 : Hid (Rd w16 (fun k => w6.heap.size ≤ k ∧ k < w7.heap.size) b2 ⟨S.p, [], [], true⟩) := hR16
          have HB16 : Hid (Below w.heap.size w w16) := HB14.out.trans (hC16.to_below HB14.out.size (fun k hk => by have := HB6.out.size; omega))
          obtain ⟨W17, hW17⟩ : ∃ W17, W17 = w16.alloc (.cells (rxC x16) 50) := ⟨_, rfl⟩
          have hb17 : Below w16.heap.size w16 W17 := by subst hW17; exact (Below.refl _ _).alloc (Nat.le_refl _) _
          have HRa17 : Hid (Rd W17 (fun k => w6.heap.size ≤ k ∧ k < w7.heap.size) b2 ⟨S.p, [], [], true⟩) := HRa16.out.below hb17
          have HB17 : Hid (Below w.heap.size w W17) := HB16.out.trans (hb17.mono HB16.out.size)
          have HWW17 : Hid (w16.alloc (.cells #[.int .i64 x16.c, .int .i64 x16.s.1, .int .i64 x16.s.2.1, .int .i64 x16.s.2.2, .slice x16.a x16.n x16.k] 50) = W17) := hW17.symm
          have E1 := rerr_any _ b2 _ W17 HRa17.out
          have H1 := rheld_any _ b2 _ W17 HRa17.out
          dsimp only at E1 H1
          rw [show errS true = 120 from rfl] at E1
          rw [show ((([] : List UInt8).length : Nat) : Int) = 0 from rfl] at H1
          clear hR16 hC16 hW17 hb17 HNX HRa14 HRa16 HB14 HB16
          unfold rxV
          go_wp2_with (rw [HWW17.out])
          refine E1.mono ?_
          rintro e w18 ⟨rfl, rfl⟩
          go_wp2_with fail
          refine H1.mono ?_
          rintro e w18 ⟨rfl, rfl⟩
          go_wp2_with fail
          go_ret
          exact ⟨rfl, HB17.out⟩
end Go.Proofs.YtbfgefgadplcjaaDoor.replyAhead
