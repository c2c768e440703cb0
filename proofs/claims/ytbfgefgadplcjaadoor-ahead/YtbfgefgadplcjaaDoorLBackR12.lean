/-
  ReplyBack's walk.
-/
import Derived.Test.YtbfgefgadplcjaaDoorFa12
import Derived.Test.YtbfgefgadplcjaaDoorWi12
import Derived.Test.YtbfgefgadplcjaaDoorOpR12
import Derived.Deep.CutRange
import Derived.Test.YtbfgefgadplcjaaDoorCard12
import Derived.Test.YtbfgefgadplcjaaDoorOpenC
namespace Go.Proofs.YtbfgefgadplcjaaDoor.replyBack
open Go.ChangeShapes Go.WideShapes Go.ChangeAt Go.RowKit

theorem own_capT {w : World} {B n c t k : Nat} {a : Option Addr} {xs : List Value} (h : w.ownsRow B t k (.slice a n c) n xs) : c ≤ 9223372036854775807 := by
  obtain ⟨_, ⟨h1, _⟩ | ⟨g, cap, cur, hv, _, _, _, hcm, _⟩⟩ := h
  · injection h1 with _ _ e
    omega
  · injection hv with _ _ e
    unfold maxLen at hcm
    omega
/-- Rows of things of two kinds are apart. -/
theorem own_neT {w : World} {B B' t t' k k' n n' : Nat} {v v' : Value} {xs xs' : List Value} (h : w.ownsRow B t k v n xs) (h' : w.ownsRow B' t' k' v' n' xs') (ht : t ≠ t') : ∀ g, v.ownBlock = some g → v'.ownBlock ≠ some g := by
  intro g hg hg'
  rcases h.2 with ⟨rfl, _⟩ | ⟨g1, cap, cur, rfl, _, h1, _⟩
  · cases hg
  · cases hg
    rcases h'.2 with ⟨rfl, _⟩ | ⟨g2, cap', cur', rfl, _, h2, _⟩
    · cases hg'
    · cases hg'
      rw [h1] at h2
      injection h2 with h2
      injection h2 with _ h3
      exact ht h3
theorem may_etaS (x : Rx) (r : Ry) {w : World} (h : SaAt w x r) (hm : MayR r) : mayR ⟨x.c, x.s, r.ls⟩ = true ∧ (⟨x.c, x.s, r.ls⟩ : Ry) = r := by
  obtain ⟨h1, h2, -, -⟩ := h
  rw [h1, h2]
  exact ⟨of_may hm, rfl⟩
theorem short_ls {r : Ry} (hm : MayR r) : ∀ l ∈ r.ls, l.length ≤ 140737488355328 := fun l hl => by
  have := (hm.ls l hl).1
  unfold gT at this
  split at this
  · omega
  · simp only [List.length_append, List.length_cons] at this; omega
theorem pr_sa (x : Rx) (r : Ry) (w : World) (h : SaAt w x r) (hm : MayR r) (ht : Tb w) :
    Calls Tryd.prog 21 #[rxV x] w fun e w' => ∃ v, e = .returned (.tuple #[v, .int .i64 0]) ∧ w'.ownsRow w.heap.size 5 1 v (prL r).length (cellsB (prL r)) ∧ Below w.heap.size w w' := by
  obtain ⟨h1, h2, h3, h4⟩ := id h
  have he := may_etaS x r h hm
  have hc := hm.c0
  have hn := hm.n2
  have := print_ok x r.ls (by omega) (by omega) w ht h3 h4 (short_ls hm) (by omega) he.1
  rw [he.2] at this
  exact this
theorem ck_sa (x : Rx) (r : Ry) (w : World) (h : SaAt w x r) (hm : MayR r) (ht : Tb w) :
    Calls Tryd.prog 20 #[rxV x] w fun e w' => e = .returned (.int .i64 0) ∧ Below w.heap.size w w' := by
  obtain ⟨h1, h2, h3, h4⟩ := id h
  have he := may_etaS x r h hm
  have hc := hm.c0
  have hn := hm.n2
  have := check_any x r.ls (by omega) (by omega) w ht h3 h4 (short_ls hm) (by omega)
  have hk : chkR ⟨x.c, x.s, r.ls⟩ = 0 := by unfold chkR; rw [if_pos he.1]
  rw [hk] at this
  exact this
def mdQ (r : Rq) : Ry := mdR r.x.c r.x.s r.L
/-- A row and a block of another kind are apart. -/
theorem own_apartT {w : World} {B n t u k g : Nat} {v : Value} {xs : List Value} {cs : Array Value} (h : w.ownsRow B t k v n xs) (hl : Lies w g cs u) (ht : u ≠ t) : ∀ j, v.ownBlock = some j → j ≠ g := by
  intro j hj e
  subst e
  rcases h.2 with ⟨rfl, _⟩ | ⟨g', cap, cur, rfl, _, hg, _⟩
  · cases hj
  · cases hj
    exact ht (lies_kind hl hg)
theorem chg_lies {w w' : World} {v : Value} {g : Nat} {cs : Array Value} {u : Nat} (hl : Lies w g cs u) (hg : w.grownBy w' v.ownBlock) (hn : ∀ j, v.ownBlock = some j → j ≠ g) : Lies w' g cs u := (hg.block g hl.lt (fun e => hn g e.symm rfl)).trans hl
/-- What the loop holds. -/
structure Lp (V w : World) (va vw : Value) (xs : List Rx) (os : List Ry) (D : List UInt8) : Prop where
  all : w.ownsRow V.heap.size 5 1 va D.length (cellsB D)
  row : Ow celR 50 5 w vw xs
  sa : Sas w xs os
  ap : ∀ x ∈ xs, ∀ ad, x.a = some ad → ∃ cs, Lies w ad.block cs 9
  vb : ∀ g, vw.ownBlock = some g → V.heap.size ≤ g
  bel : Below V.heap.size V w
theorem Lp.below {V w w' : World} {va vw : Value} {xs : List Rx} {os : List Ry} {D : List UInt8} (h : Lp V w va vw xs os D) (hb : Below w.heap.size w w') : Lp V w' va vw xs os D :=
  ⟨own_below h.all hb, h.row.below hb, h.sa.below hb, fun x hx ad e => by obtain ⟨cs, hk⟩ := h.ap x hx ad e; exact ⟨cs, hk.below hb hk.lt⟩, h.vb, h.bel.trans (hb.mono h.bel.size)⟩
set_option maxHeartbeats 4000000 in
set_option maxRecDepth 100000 in
theorem walk {w : World} (a0 : Option Addr) (st : List Rq) (cap0 : Nat) (hq0 : Rqs a0 st w) (hc0 : st.length ≤ cap0) (hcm0 : cap0 ≤ 9223372036854775807) (a1 : Option Addr) (l1 : List UInt8) (cap1 : Nat) (hr1 : Bts a1 l1 w) (hl1 : l1.length ≤ 140737488351232) (_ : l1.length ≤ cap1) (_ : a1 = none → cap1 = 0) (_ : cap1 ≤ 9223372036854775807) (ht : Tb w) :
    Calls Tryd.prog 4 #[.slice a0 st.length cap0, .slice a1 l1.length cap1] w fun e w' => e = .returned (.bool true) ∧ Below w.heap.size w w' := by
  have HT : Hid (Tb w) := ht
  have HHD := lhead_any w ht
  obtain ⟨T, hT⟩ : ∃ T, T = st.take 4096 := ⟨_, rfl⟩
  have hTl : T.length ≤ 4096 := by rw [hT, List.length_take]; omega
  have hTc : T.length ≤ cap0 := by rw [hT, List.length_take]; omega
  obtain ⟨os, hos⟩ : ∃ os, os = T.map mdQ := ⟨_, rfl⟩
  have HMY : Hid (∀ r ∈ os, MayR r) := fun r hr => by
    rw [hos] at hr
    obtain ⟨x, _, rfl⟩ := List.mem_map.1 hr
    exact may_md _ _ _
  have HOL : Hid (os.length = T.length) := by rw [hos]; exact List.length_map ..
  have HOE : Hid (∀ i (h : i < T.length) (h2 : i < os.length), os[i] = mdQ T[i]) := fun i h h2 => by
    subst hos
    exact List.getElem_map ..
  have HAG : Hid (Sr.nil.run (os.flatMap prL) = ⟨Plc.nil, [], os, false⟩) := by
    have := run_all os [] HMY.out
    rw [List.nil_append] at this
    exact this
  have HQ0 : Hid (Rqs a0 T w) := by rw [hT]; exact hq0.take 4096
  have HR1 : Hid (Bts a1 l1 w) := hr1
  have HFS : Hid (∀ i, ((os.take i).flatMap prL).length ≤ 32768 * i) := fun i => by
    have h1 := flat_short (os.take i) (fun r hr => HMY.out r (List.mem_of_mem_take hr))
    have h2 : (os.take i).length ≤ i := by rw [List.length_take]; omega
    exact Nat.le_trans h1 (Nat.mul_le_mul_left _ h2)
  clear hq0 hr1 ht hos
  go_enter Tryd.func4, Tryd.ntmps4
  go_wp2_with fail
  refine HHD.mono ?_
  rintro e w1 ⟨rfl, hB⟩
  have HB : Hid (Below w.heap.size w w1) := hB
  have HT1 : Hid (Tb w1) := HT.out.on hB
  have HQ1 : Hid (Rqs a0 T w1) := HQ0.out.below hB
  have HR2 : Hid (Bts a1 l1 w1) := HR1.out.below hB
  clear hB HHD HQ0 HR1
  go_upto_if 18 with fail
  go_cut [0] from 16 to 20 (fun v wc => wc = w1 ∧ v = .slice a0 T.length cap0)
  case first =>
    by_cases hbig : 4096 < st.length
    · have hbig' : (4096 : Int) < (st.length : Int) := by omega
      have hLn : T.length = 4096 := by rw [hT, List.length_take]; omega
      have hcb : (4096 : Int) ≤ (cap0 : Int) := by omega
      have HLN2 : Hid (T.length = 4096) := hLn
      clear hT hLn
      go_wp2_with fail
      go_meet
      exact ⟨rfl, by rw [HLN2.out]⟩
    · have hbig' : ¬ (4096 : Int) < (st.length : Int) := by omega
      have HLe : Hid (T = st) := by rw [hT]; exact List.take_of_length_le (by omega)
      clear hT
      go_wp2_with fail
      go_meet
      exact ⟨rfl, by rw [HLe.out]⟩
  case rest =>
    obtain ⟨rfl, rfl⟩ := hcut
    clear hT
    go_wp2_with fail
    go_loopw [5, 6, 23] (fun va vw iv wr => ∃ (i : Nat) (xs : List Rx), i ≤ T.length ∧ iv = .int .i64 i ∧ xs.length = i ∧ Hid (Lp wc wr va vw xs (os.take i) ((os.take i).flatMap prL))) (fun _ _ iv _ => T.length - (intOf iv).toNat)
    case atStart => exact ⟨0, [], Nat.zero_le _, rfl, rfl, own_nil _ _, Ow.nil _ _ _ _, Sas.nil _, (fun x hx => by cases hx), (fun g e => by cases e), Below.refl _ _⟩
    case round =>
      obtain ⟨i, xs, hi, rfl, hxi, HLP⟩ := hrel
      have HXI : Hid (xs.length = i) := hxi
      have hxm : xs.length ≤ 4096 := by omega
      clear hxi
      by_cases hlt : i < T.length
      · have hlt' : (i : Int) < (T.length : Int) := by omega
        rcases HQ1.out with h | ⟨g, o, hga, hg, hcs⟩
        · exfalso; rw [h] at hlt; cases hlt
        obtain ⟨hce, hqa⟩ := hcs i hlt
        have hlo : i < os.length := by rw [HOL.out]; exact hlt
        have HOI : Hid (os[i] = mdQ T[i]) := HOE.out i hlt hlo
        have HMR : Hid (MayR os[i]) := HMY.out _ (List.getElem_mem hlo)
        have HFT : Hid ((os.take (i + 1)).flatMap prL = (os.take i).flatMap prL ++ prL os[i]) := flatR_take os i hlo
        have HTS : Hid (os.take (i + 1) = os.take i ++ [os[i]]) := List.take_succ_eq_append_getElem hlo
        have hfs := HFS.out i
        have hps := prL_short HMR.out
        subst hga
        have hbw := HLP.out.bel
        have hce2 : ∀ j, j < 5 → wr.cell? ⟨g, o + i * 5 + j, none⟩ = (celR T[i].x)[j]? := fun j hj => (hbw.cell (p := ⟨g, o + i * 5 + j, none⟩) hg).trans (hce j hj)
        have HQA : Hid (RqAt wr T[i]) := hqa.below hbw
        clear hce hqa hcs
        generalize T[i] = qr at *
        generalize os[i] = r at *
        obtain ⟨x, L⟩ := qr
        have e0 := hce2 0 (by decide)
        have e1 := hce2 1 (by decide)
        have e2 := hce2 2 (by decide)
        have e3 := hce2 3 (by decide)
        have e4 := hce2 4 (by decide)
        rw [Nat.add_zero] at e0
        replace e0 : wr.cell? ⟨g, o + i * 5, none⟩ = some (.int .i64 x.c) := e0
        replace e1 : wr.cell? ⟨g, o + i * 5 + 1, none⟩ = some (.int .i64 x.s.1) := e1
        replace e2 : wr.cell? ⟨g, o + i * 5 + 2, none⟩ = some (.int .i64 x.s.2.1) := e2
        replace e3 : wr.cell? ⟨g, o + i * 5 + 3, none⟩ = some (.int .i64 x.s.2.2) := e3
        replace e4 : wr.cell? ⟨g, o + i * 5 + 4, none⟩ = some (.slice x.a x.n x.k) := e4
        obtain ⟨W2, hW2⟩ : ∃ W2, W2 = wr.alloc (.cells (rxC x) 50) := ⟨_, rfl⟩
        have hb2 : Below wr.heap.size wr W2 := by subst hW2; exact (Below.refl _ _).alloc (Nat.le_refl _) _
        have HL2 : Hid (Lies W2 wr.heap.size (rxC x) 50) := by subst hW2; exact Lies.new wr _ _
        have HWW : Hid (wr.alloc (.cells #[.int .i64 x.c, .int .i64 x.s.1, .int .i64 x.s.2.1, .int .i64 x.s.2.2, .slice x.a x.n x.k] 50) = W2) := hW2.symm
        have HLP2 : Hid (Lp wc W2 u5 u6 xs (os.take i) ((os.take i).flatMap prL)) := HLP.out.below hb2
        have HQA2 : Hid (RqAt W2 ⟨x, L⟩) := HQA.out.below hb2
        generalize hD : (os.take i).flatMap prL = D at *
        clear hb2 hW2 hce2 hbw HLP HQA hD
        obtain ⟨c0, c1, c2, c3, c4⟩ := rxC_cells HL2.out
        go_wp2_with (rw [HWW.out])
        refine (made_any x L W2 HQA2.out.1 HQA2.out.2.1 HQA2.out.2.2).mono ?_
        rintro e w3 ⟨y, rfl, hsy, hby, hb3⟩
        have hsy2 : SaAt w3 y r := by rw [HOI.out]; exact hsy
        have HLP3 : Hid (Lp wc w3 u5 u6 xs (os.take i) D) := HLP2.out.below hb3
        have hws := hb3.size
        obtain ⟨W4, hW4⟩ : ∃ W4, W4 = w3.alloc (.cells (rxC y) 50) := ⟨_, rfl⟩
        have hb4 : Below w3.heap.size w3 W4 := by subst hW4; exact (Below.refl _ _).alloc (Nat.le_refl _) _
        have HL4 : Hid (Lies W4 w3.heap.size (rxC y) 50) := by subst hW4; exact Lies.new w3 _ _
        have HWW4 : Hid (w3.alloc (.cells #[.int .i64 y.c, .int .i64 y.s.1, .int .i64 y.s.2.1, .int .i64 y.s.2.2, .slice y.a y.n y.k] 50) = W4) := hW4.symm
        have HLP4 : Hid (Lp wc W4 u5 u6 xs (os.take i) D) := HLP3.out.below hb4
        have HSY4 : Hid (SaAt W4 y r) := hsy2.below hb4
        have HYO4 : Hid (∀ ad, y.a = some ad → ∃ cs, Lies W4 ad.block cs 9) := fun ad e => by obtain ⟨cs, hk⟩ := hby ad e; exact ⟨cs, hk.below hb4 hk.lt⟩
        clear hsy hsy2 hby hb3 hb4 hW4 HLP3 HLP2 HQA2 HOI HWW HL2 c0 c1 c2 c3 c4 e0 e1 e2 e3 e4 hws
        obtain ⟨c0, c1, c2, c3, c4⟩ := rxC_cells HL4.out
        unfold rxV
        go_wp2_with (rw [HWW4.out])
        refine (ck_sa y r W4 HSY4.out HMR.out (HT1.out.on HLP4.out.bel)).mono ?_
        rintro e w5 ⟨rfl, hb5⟩
        have HLP5 : Hid (Lp wc w5 u5 u6 xs (os.take i) D) := HLP4.out.below hb5
        have HSY5 : Hid (SaAt w5 y r) := HSY4.out.below hb5
        have HL5 : Hid (Lies w5 w3.heap.size (rxC y) 50) := HL4.out.below hb5 HL4.out.lt
        have HYO5 : Hid (∀ ad, y.a = some ad → ∃ cs, Lies w5 ad.block cs 9) := fun ad e => by obtain ⟨cs, hk⟩ := HYO4.out ad e; exact ⟨cs, hk.below hb5 hk.lt⟩
        clear hb5 HLP4 HSY4 HL4 HYO4 HWW4 c0 c1 c2 c3 c4
        obtain ⟨c0, c1, c2, c3, c4⟩ := rxC_cells HL5.out
        go_wp2_with fail
        refine (pr_sa y r w5 HSY5.out HMR.out (HT1.out.on HLP5.out.bel)).mono ?_
        rintro e w6 ⟨v6, rfl, ho6, hb6⟩
        obtain ⟨a6, k6, rfl, hbt6, -, hn6, -, -⟩ := own_bts ho6
        have HLP6 : Hid (Lp wc w6 u5 u6 xs (os.take i) D) := HLP5.out.below hb6
        have HSY6 : Hid (SaAt w6 y r) := HSY5.out.below hb6
        have HL6 : Hid (Lies w6 w3.heap.size (rxC y) 50) := HL5.out.below hb6 HL5.out.lt
        have HYO6 : Hid (∀ ad, y.a = some ad → ∃ cs, Lies w6 ad.block cs 9) := fun ad e => by obtain ⟨cs, hk⟩ := HYO5.out ad e; exact ⟨cs, hk.below hb6 hk.lt⟩
        have HP6 : Hid (Bts a6 (prL r) w6) := hbt6
        have HN6 : Hid (a6 = none → k6 = 0) := hn6
        clear ho6 hb6 hbt6 hn6 HLP5 HSY5 HL5 HYO5 c0 c1 c2 c3 c4
        obtain ⟨ua, uc, hu, -⟩ := HLP6.out.row.shape
        subst hu
        have hdl : D.length ≤ 134217728 := by omega
        go_wp2_with (at_builtin; refine wpList_append_keep rfl _ _ rfl wc.heap.size _ _ D rfl HLP6.out.all a6 (prL r) (prL r).length k6 rfl rfl HP6.out HN6.out (by omega) HLP6.out.bel.size ?_; intro v7 w7 ho7 hg7; apply Hid.out)
        unfold Hid
        have hk6 : ∀ z : Rx, (∀ ad, z.a = some ad → ∃ cs, Lies w6 ad.block cs 9) → ∀ ad, z.a = some ad → (∃ cs, Lies w7 ad.block cs 9) ∧ w7.heap[ad.block]? = w6.heap[ad.block]? := fun z hz ad e => by
          obtain ⟨cs, hk⟩ := hz ad e
          have hn := own_apartT HLP6.out.all hk (by decide)
          exact ⟨⟨cs, chg_lies hk hg7 hn⟩, hg7.block _ hk.lt (fun e2 => hn _ e2.symm rfl)⟩
        have HSA7 : Hid (Sas w7 xs (os.take i)) := ⟨HLP6.out.sa.1, fun j h1 h2 => (HLP6.out.sa.2 j h1 h2).keep hg7.size (fun ad e => (hk6 _ (HLP6.out.ap _ (List.getElem_mem h1)) ad e).2)⟩
        have HAP7 : Hid (∀ z ∈ xs, ∀ ad, z.a = some ad → ∃ cs, Lies w7 ad.block cs 9) := fun z hz ad e => (hk6 z (HLP6.out.ap z hz) ad e).1
        have HSY7 : Hid (SaAt w7 y r) := HSY6.out.keep hg7.size (fun ad e => (hk6 y HYO6.out ad e).2)
        have HYO7 : Hid (∀ ad, y.a = some ad → ∃ cs, Lies w7 ad.block cs 9) := fun ad e => (hk6 y HYO6.out ad e).1
        have HOW7 : Hid (Ow celR 50 5 w7 (.slice ua xs.length uc) xs) := HLP6.out.row.keep (fun g hg => hg7.block g (HLP6.out.row.lt g hg) (fun e => own_neT HLP6.out.row HLP6.out.all (by decide) g hg e.symm))
        have HVB : Hid (∀ g, (Value.slice ua xs.length uc).ownBlock = some g → wc.heap.size ≤ g) := HLP6.out.vb
        have HL7 : Hid (Lies w7 w3.heap.size (rxC y) 50) := chg_lies HL6.out hg7 (own_apartT HLP6.out.all HL6.out (by decide))
        have HB7 : Hid (Below wc.heap.size wc w7) := HLP6.out.bel.grown hg7 HLP6.out.bel.size (fun q hq => (HLP6.out.all.lt q hq).1)
        have HO7 : Hid (w7.ownsRow wc.heap.size 5 1 v7 (D.length + (prL r).length) (cellsB (D ++ prL r))) := ho7
        obtain ⟨W8, hW8⟩ : ∃ W8, W8 = w7.alloc (.cells (rxC y) 50) := ⟨_, rfl⟩
        have hb8 : Below w7.heap.size w7 W8 := by subst hW8; exact (Below.refl _ _).alloc (Nat.le_refl _) _
        have HN8 : Hid (∀ j u, (celR y)[j]? = some u → W8.cell? ⟨w7.heap.size, j, none⟩ = some u) := fun j u hj => by
          subst hW8
          exact new_cells (w := w7) (t := 50) (celR y) j u hj
        have HWW8 : Hid (w7.alloc (.cells #[.int .i64 y.c, .int .i64 y.s.1, .int .i64 y.s.2.1, .int .i64 y.s.2.2, .slice y.a y.n y.k] 50) = W8) := hW8.symm
        have HSA8 : Hid (Sas W8 xs (os.take i)) := HSA7.out.below hb8
        have HAP8 : Hid (∀ z ∈ xs, ∀ ad, z.a = some ad → ∃ cs, Lies W8 ad.block cs 9) := fun z hz ad e => by obtain ⟨cs, hk⟩ := HAP7.out z hz ad e; exact ⟨cs, hk.below hb8 hk.lt⟩
        have HSY8 : Hid (SaAt W8 y r) := HSY7.out.below hb8
        have HYO8 : Hid (∀ ad, y.a = some ad → ∃ cs, Lies W8 ad.block cs 9) := fun ad e => by obtain ⟨cs, hk⟩ := HYO7.out ad e; exact ⟨cs, hk.below hb8 hk.lt⟩
        have HOW8 : Hid (Ow celR 50 5 W8 (.slice ua xs.length uc) xs) := HOW7.out.below hb8
        have HB8 : Hid (Below wc.heap.size wc W8) := HB7.out.trans (hb8.mono HB7.out.size)
        have HO8 : Hid (W8.ownsRow wc.heap.size 5 1 v7 (D.length + (prL r).length) (cellsB (D ++ prL r))) := own_below HO7.out hb8
        obtain ⟨c0, c1, c2, c3, c4⟩ := rxC_cells HL7.out
        clear ho7 hg7 hk6 hb8 hW8 HLP6 HSY6 HYO6 HL6 HP6 HN6 HSA7 HAP7 HSY7 HYO7 HOW7 HB7 HO7 HL7
        go_wp2_with (rw [HWW8.out]; refine wpList_append_ow celR_length (by decide) oneR rfl _ _ 29 rfl Tryd.underlying29 _ 56 infoER rfl _ xs rfl HOW8.out w7.heap.size 1 y rfl HN8.out (by omega) (by omega) ?_; intro g9 cap9 w9 ho9 hc9 hg9; apply Hid.out)
        unfold Hid
        have hk8 : ∀ z : Rx, (∀ ad, z.a = some ad → ∃ cs, Lies W8 ad.block cs 9) → ∀ ad, z.a = some ad → (∃ cs, Lies w9 ad.block cs 9) ∧ w9.heap[ad.block]? = W8.heap[ad.block]? := fun z hz ad e => by
          obtain ⟨cs, hk⟩ := hz ad e
          have hn : ¬ (Value.slice ua xs.length uc).ownBlock = some ad.block := fun e2 => own_apartT HOW8.out hk (by decide) _ e2 rfl
          have hb := hc9.block _ hk.lt hn
          exact ⟨⟨cs, hb.trans hk⟩, hb⟩
        have HNEW : Hid (Lp wc w9 v7 (.slice (some ⟨g9, 0, none⟩) (xs.length + 1) cap9) (xs ++ [y]) (os.take (i + 1)) (D ++ prL r)) := by
          refine ⟨?_, ho9, ?_, ?_, ?_, ?_⟩
          · rw [List.length_append]
            exact own_keep HO8.out (fun k hk => hc9.block k (HO8.out.lt k hk).2 (fun e => own_neT HO8.out HOW8.out (by decide) k hk e))
          · rw [HTS.out]
            refine Sas.snoc ⟨HSA8.out.1, fun j h1 h2 => (HSA8.out.2 j h1 h2).keep hc9.size (fun ad e => (hk8 _ (HAP8.out _ (List.getElem_mem h1)) ad e).2)⟩ (HSY8.out.keep hc9.size (fun ad e => (hk8 y HYO8.out ad e).2))
          · intro z hz ad e
            rcases List.mem_append.1 hz with hz | hz
            · exact (hk8 z (HAP8.out z hz) ad e).1
            · rw [List.mem_singleton.1 hz] at e
              exact (hk8 y HYO8.out ad e).1
          · intro q hq
            cases hq
            rcases hg9 with e | e
            · exact HVB.out _ e
            · exact Nat.le_trans HB8.out.size e
          · exact HB8.out.trans (hc9.to_below HB8.out.size (fun k hk => HVB.out k hk))
        have HLEN : Hid ((xs ++ [y]).length = i + 1) := by show _ = _; rw [List.length_append, HXI.out]; rfl
        clear ho9 hc9 hg9 hk8 HSA8 HAP8 HSY8 HYO8 HOW8 HB8 HO8 HN8 HWW8 c0 c1 c2 c3 c4 HTS
        go_wp2_with fail
        go_roundw
        case rel => exact ⟨i + 1, xs ++ [y], hlt, by go_num, HLEN.out, by rw [HFT.out]; exact HNEW.out⟩
        case measure => simp [intOf]; omega
      · have hlt' : ¬ (i : Int) < (T.length : Int) := by omega
        have HIX : Hid (os.take i = os) := List.take_of_length_le (by rw [HOL.out]; omega)
        have hfs := HFS.out i
        rw [HIX.out] at HLP hfs
        have hil : i ≤ 4096 := by omega
        obtain ⟨a5, k5, hv5, hbt5, -, hn5, hk5, -⟩ := own_bts HLP.out.all
        subst hv5
        obtain ⟨ua, uc, hu, -⟩ := HLP.out.row.shape
        subst hu
        have hk9 := own_capT HLP.out.all
        have HBw : Hid (Below w.heap.size w wr) := HB.out.trans (HLP.out.bel.mono HB.out.size)
        have HTw : Hid (Tb wr) := HT1.out.on HLP.out.bel
        have HDL : Hid ((os.flatMap prL).length ≤ 1099511627776) := by show _ ≤ _; omega
        have HP5 : Hid (Bts a5 (os.flatMap prL) wr) := hbt5
        have HK5 : Hid ((os.flatMap prL).length ≤ k5) := hk5
        have HR5 : Hid (Bts a1 l1 wr) := HR2.out.below HLP.out.bel
        have HOS : Hid (os.length = i) := by show _ = _; rw [HOL.out]; omega
        have HOW : Hid (Ow celR 50 5 wr (.slice ua xs.length uc) xs) := HLP.out.row
        have HSA : Hid (Sas wr xs os) := HLP.out.sa
        have HLN : Hid (∀ r ∈ os, r.ls.length ≤ 64) := fun r hr => (HMY.out r hr).n2
        clear hbt5 hn5 hk5 hfs HLP HFS HQ1 HR2 HMY HOE
        generalize os.flatMap prL = D at *
        go_wp2_with fail
        refine (fed_all a5 D k5 a1 l1 cap1 wr HTw.out HDL.out HP5.out HK5.out hk9 (by omega) HR5.out (by rw [HAG.out]; show os.length ≤ _; rw [HOS.out]; omega)).mono ?_
        rintro e w6 ⟨b2, rfl, hR6, hB6⟩
        rw [HAG.out] at hR6 ⊢
        have HB6 : Hid (Below wr.heap.size wr w6) := hB6
        have HR6 : Hid (Rd w6 (fun k => wr.heap.size ≤ k ∧ k < w6.heap.size) b2 ⟨Plc.nil, [], os, false⟩) := hR6
        have he0 : errS (⟨Plc.nil, [], os, false⟩ : Sr).b = 0 := rfl
        rw [he0]
        have HTD := told_any _ b2 _ (xs.length + 1) w6 HR6.out (fun k hk => hk.2) (by show os.length ≤ _; rw [HOS.out, HXI.out]; omega) (by omega)
        rw [show (((xs.length + 1 : Nat)) : Int) = (xs.length : Int) + 1 by omega] at HTD
        clear hR6 hB6 he0 HAG
        go_wp2_with fail
        refine HTD.mono ?_
        rintro e w7 ⟨v7, x7, rfl, hO7, hY7, -, hV7, hR7, hC7⟩
        have HB7 : Hid (Below wr.heap.size wr w7) := HB6.out.trans (hC7.to_below HB6.out.size (fun k hk => hk.1))
        have HO8 : Hid (Ow celR 50 5 w7 (.slice ua xs.length uc) xs) := HOW.out.below HB7.out
        have HY8 : Hid (Sas w7 xs os) := HSA.out.below HB7.out
        have HO7 : Hid (Ow celR 50 5 w7 v7 x7) := hO7
        have HY7 : Hid (Sas w7 x7 os) := hY7.sas
        have HR7 : Hid (Rd w7 (fun k => wr.heap.size ≤ k ∧ k < w6.heap.size) b2 ⟨Plc.nil, [], [], false⟩) := hR7
        clear hO7 hY7 hV7 hC7 hR7 HR6 HB6 HTD
        go_wp2_with fail
        refine (sameall_sa v7 _ x7 xs os w7 HO7.out HO8.out HY7.out HY8.out (by rw [HOS.out]; omega) (fun r hr => by have := HLN.out r hr; omega)).mono ?_
        rintro e w9 ⟨rfl, hB9⟩
        have HB9 : Hid (Below wr.heap.size wr w9) := HB7.out.trans (hB9.mono HB7.out.size)
        have HR9 : Hid (Rd w9 (fun k => wr.heap.size ≤ k ∧ k < w6.heap.size) b2 ⟨Plc.nil, [], [], false⟩) := HR7.out.below hB9
        have E1 := rerr_any _ b2 _ w9 HR9.out
        have H1 := rheld_any _ b2 _ w9 HR9.out
        dsimp only at E1 H1
        rw [show errS false = 0 from rfl] at E1
        rw [show ((([] : List UInt8).length : Nat) : Int) = 0 from rfl] at H1
        clear hB9 HR7 HR9 HO7 HO8 HY7 HY8
        go_wp2_with fail
        refine H1.mono ?_
        rintro e w10 ⟨rfl, rfl⟩
        go_wp2_with fail
        refine E1.mono ?_
        rintro e w11 ⟨rfl, rfl⟩
        go_wp2_with fail
        go_ret
        exact ⟨rfl, HBw.out.trans (HB9.out.mono HBw.out.size)⟩
end Go.Proofs.YtbfgefgadplcjaaDoor.replyBack
