/-
  P14.11, P6: all is told as it comes, but dots that were dropped, and two bytes at most; proved for inputs of bulk at most 1048576.
-/
import Derived.Test.YtfifpepcmpaipabHd14
import Derived.Test.YtfifpepcmpaipabOpenN
import Derived.Test.YtfifpepcmpaipabRows
import Derived.ProofKit
import Derived.ChangeMaps5
import Derived.OpenShut
import Derived.ShutString
import Derived.ChangeOld
import Derived.SizedLaws
namespace Go.Proofs.Ytfifpepcmpaipab.dotsHeld
open Go.ChangeShapes Go.WideShapes Go.ChangeAt Go.RowKit

theorem run_slH (a : Option Addr) (n cap q : Nat) (h2 : q ≤ cap) (w : World) : (Instr.sliceAt 22 (.slice a n cap) none (some (.int .i64 (q : Int))) none).run Try.prog w = .ok (.slice a q cap) w := by
  have hu : Try.prog.underlying 22 = some (.slice (Try.prog.elem 22)) := Try.underlying22
  have hs : (sizeOf (Try.prog.elem 22)).run Try.prog w = .ok 1 w := by
    obtain ⟨i0, hi0, hz0, hz1, hz2⟩ := info_parts info5
    have : (sizeOf 5).run Try.prog w = .ok 1 w := by go_simp
    exact this
  rw [run_sliceAt_slice (h := hu), run_slice_h (ht := hu) (h0 := by omega) (h2 := by omega), hs]
  cases a <;> simp [Result.andThen, sliced, Addr.add]
theorem take_cat {xs : List Pe} {L : List UInt8} (h : cat xs = L) (i : Nat) (hi : i < xs.length) (k : Nat) (hk : L.take k = cat (xs.take i)) (hkl : k = (cat (xs.take i)).length) : L.take (k + xs[i].l.length) = L.take k ++ xs[i].l ∧ k + xs[i].l.length ≤ L.length ∧ cat (xs.take (i + 1)) = L.take k ++ xs[i].l := by
  have e1 : cat (xs.take (i + 1)) = cat (xs.take i) ++ xs[i].l := by rw [List.take_succ_eq_append_getElem hi, cat_append, cat_one]
  have e2 : L = (cat (xs.take i) ++ xs[i].l) ++ cat (xs.drop (i + 1)) := by
    rw [← e1, ← cat_append, List.take_append_drop, h]
  refine ⟨?_, ?_, ?_⟩
  · rw [hk]
    conv => lhs; rw [e2]
    rw [hkl, ← List.length_append, List.take_left]
  · have := congrArg List.length e2
    simp only [List.length_append] at this
    omega
  · rw [e1, hk]
set_option maxHeartbeats 8000000 in
set_option maxRecDepth 20000 in
theorem walk {w : World} (a1 : Option Addr) (l1 : List UInt8) (cap1 : Nat) (hr1 : Bts a1 l1 w) (hl1 : l1.length ≤ 1048576) (hc1 : l1.length ≤ cap1) (hn1 : a1 = none → cap1 = 0) (hm1 : cap1 ≤ 9223372036854775807) (ca : Option Addr) (zs : List Int) (ccap : Nat) (hz : IntsB ca zs w) (hzl : zs.length ≤ 1048576) :
    Calls Try.prog 4 #[.slice a1 l1.length cap1, .slice ca zs.length ccap] w fun e w' => e = .returned (.bool true) ∧ Below w.heap.size w w' := by
  have hlc : l1.length ≤ cap1 := hc1
  have HPE : Hid (PeOk w ⟨a1, l1, cap1⟩) := ⟨hr1, hc1, hm1, hn1⟩
  have HZ : Hid (IntsB ca zs w) := hz
  have HN1 := dnew_good 16777216 16777216 (by decide) (by decide) (by decide) (by decide) w
  have hbig : ¬ (16777216 : Int) < (l1.length : Int) := by omega
  clear hr1 hz hc1 hn1 hm1
  go_enter Try.func4, Try.ntmps4
  go_wp2_with fail
  refine HN1.mono ?_
  rintro e w1 ⟨rfl, hR1, hB1⟩
  have HR1 : Hid (Rd w1 w.heap.size 16777216 16777216 Ds.new) := hR1
  have HB1 : Hid (Below w.heap.size w w1) := hB1
  have HPC := lpieces_any a1 l1 l1.length cap1 rfl ca zs zs.length ccap rfl w1 (HPE.out.below HB1.out) (by omega) (ints_below HZ.out HB1.out (Nat.le_refl _)) (by omega)
  clear hR1 hB1 HN1
  go_wp2_with fail
  refine HPC.mono ?_
  rintro e w2 ⟨v2, xs, rfl, hO2, hN2, hX2, hP2, hL2, hB2⟩
  have HB2 : Hid (Below w.heap.size w w2) := HB1.out.trans (hB2.mono HB1.out.size)
  have HR2 : Hid (Rd w2 w.heap.size 16777216 16777216 Ds.new) := HR1.out.below hB2 HR1.out.lt
  have HX : Hid (cat xs = l1) := hX2
  have HPP : Hid (∀ x ∈ xs, PeOk w2 x ∧ ∀ ad, x.a = some ad → x.l ≠ [] → ¬ ad.block = w.heap.size) := fun x hx => ⟨(hP2 x hx).below hB2, (hP2 x hx).rd HR1.out⟩
  obtain ⟨va, vc, hv2, hvg⟩ := hO2.shape
  obtain ⟨gv, rfl⟩ := hvg (fun e => by rw [e] at hL2; cases hL2)
  subst hv2
  have HO2 : Hid (Ow celP 22 1 w2 (.slice (some ⟨gv, 0, none⟩) xs.length vc) xs) := hO2
  have HNE : Hid (gv ≠ w.heap.size) := fun e => by
    have := hN2 gv rfl
    have := HR1.out.lt
    omega
  have hxl : xs.length ≤ 1048577 := by omega
  clear hO2 hN2 hX2 hP2 hL2 hB2 HPC HB1 HR1 hvg HZ
  go_wp2_with fail
  go_loopw [7, 8, 10, 11, 12, 13, 15, 16, 17, 32] (fun tv dv _ _ _ _ _ _ _ iv wr => ∃ (i k d : Nat) (x : Ds), i ≤ xs.length ∧ k ≤ l1.length ∧ d ≤ k ∧ tv = .int .i64 k ∧ dv = .int .i64 d ∧ iv = .int .i64 i ∧ Hid (Rd wr w.heap.size 16777216 16777216 x) ∧ Hid (Chg (fun j => j = w.heap.size) w2 wr) ∧ Hid (l1.take k = cat (xs.take i) ∧ k = (cat (xs.take i)).length) ∧ Hid (Stt (l1.take k) x ∧ k = d + drp (l1.take k) + (if x.p = 3 then 1 else 0) ∧ x.size + x.held ≤ k ∧ x.row ≤ k)) (fun _ _ _ _ _ _ _ _ _ iv _ => xs.length - (intOf iv).toNat)
  case atStart => exact ⟨0, 0, 0, Ds.new, Nat.zero_le _, Nat.zero_le _, Nat.le_refl _, rfl, rfl, rfl, HR2.out, Chg.refl _ _, ⟨by simp [cat], by simp [cat]⟩, ⟨.inl ⟨rfl, .inl (by simp)⟩, by simp [drp, bgs, dotAt, Ds.new], by decide, by decide⟩⟩
  case round =>
    obtain ⟨i, k, d, x, hi, hk, hdk, rfl, rfl, rfl, HR, HC, HK, HS⟩ := hrel
    have HBW : Hid (Below w.heap.size w wr) := HB2.out.trans (HC.out.to_below HB2.out.size (fun j e => by omega))
    clear HR2
    by_cases hlt : i < xs.length
    · have hcell := pe_cell (HO2.out.chg HC.out (fun j e => by cases e; exact HNE.out)) i hlt
      have HPE2 : Hid (PeOk wr xs[i]) := (HPP.out _ (List.getElem_mem hlt)).1.chg HC.out (HPP.out _ (List.getElem_mem hlt)).2
      obtain ⟨hk1, hk2, hk3⟩ := take_cat HX.out i hlt k HK.out.1 HK.out.2
      have HK1 : Hid (l1.take (k + xs[i].l.length) = l1.take k ++ xs[i].l ∧ cat (xs.take (i + 1)) = l1.take k ++ xs[i].l) := ⟨hk1, hk3⟩
      clear hk1 hk3 HK
      generalize xs[i] = X at *
      obtain ⟨qa, q, qc⟩ := X
      dsimp only at *
      have hkl : (l1.take k).length = k := by rw [List.length_take]; omega
      have hst := HS.out
      have hxp : 1 ≤ x.p ∧ x.p ≤ 5 := by rcases hst.1 with h | h | h | h | h <;> (have := h.1; omega)
      have HTK := dtake_any w.heap.size 16777216 16777216 x qa q q.length qc rfl (by omega) wr HR.out hxp.1 (by omega) (by omega) (by omega) HPE2.out.bt
      have HRUN : Hid _ := stt_run (t := 16777216) (a := 16777216) q (l1.take k) x d hst.1 (by rw [hkl]; omega) (by rw [hkl]; omega) (by rw [hkl]; exact hst.2.1)
      have HTO := (Ds.run_to 16777216 16777216 q x).1
      have HSZ := (Ds.run_sz 16777216 16777216 q x).2.1
      have hrl := Ds.run_len 16777216 16777216 q x
      have HO3 : Hid ((x.run 16777216 16777216 q).2.1.length ≤ 2 * (x.run 16777216 16777216 q).1) := (Ds.run_sz 16777216 16777216 q x).2.2
      have HALL : Hid ((x.run 16777216 16777216 q).2.2.p < 6 → (x.run 16777216 16777216 q).1 = q.length) := Ds.run_all _ _ q x
      have HPP6 : Hid ((x.run 16777216 16777216 q).2.2.p ≤ 6) := (Ds.run_p _ _ q x hxp.1 (by omega)).2
      have HSX : Hid (x.size + x.held ≤ k ∧ x.row ≤ k) := hst.2.2
      clear hst hxp HS HR
      generalize x.run 16777216 16777216 q = R at *
      obtain ⟨n5, o5, x5⟩ := R
      dsimp only at *
      have HQ5 : Hid (x5.size + x5.held ≤ x.size + x.held + n5 ∧ x5.row ≤ x.row + n5) := ⟨HTO, HSZ⟩
      have hn5 : n5 ≤ q.length := hrl
      clear HTO HSZ hrl
      by_cases ho5 : 0 < o5.length
      · rw [(imOf_body (a := 16777216) (s := x5) ho5).1, (imOf_body (a := 16777216) (s := x5) ho5).2] at HTK
        unfold imV imC at HTK
        dsimp only [imK, imY, imH] at HTK
        go_wp2_with fail
        refine HTK.mono ?_
        rintro e w5 ⟨v5, rfl, hT5⟩
        obtain ⟨va5, vc5, rfl, -⟩ := own_bts hT5.ow
        have HR5 : Hid (Rd w5 w.heap.size 16777216 16777216 x5) := hT5.rd
        have HC5 : Hid (Chg (fun j => j = w.heap.size) w2 w5) := HC.out.trans hT5.ch
        clear hT5 HTK HC HPE2 hcell
        try dsimp only [imB]
        try rw [List.length_nil]
        obtain ⟨W6, hW6⟩ : ∃ W6, W6 = w5.alloc (.cells #[.int .i64 3, .string ⟨#[]⟩, .slice va5 o5.length vc5, .int .i64 0, .bool false] 30) := ⟨_, rfl⟩
        have hB6 : Below w5.heap.size w5 W6 := by subst hW6; exact (Below.refl _ _).alloc (Nat.le_refl _) _
        have hI6 : Lies W6 w5.heap.size #[.int .i64 3, .string ⟨#[]⟩, .slice va5 o5.length vc5, .int .i64 0, .bool false] 30 := by subst hW6; exact Lies.new w5 _ _
        have HR6 : Hid (Rd W6 w.heap.size 16777216 16777216 x5) := HR5.out.below hB6 HR5.out.lt
        have HC6 : Hid (Chg (fun j => j = w.heap.size) w2 W6) := HC5.out.below hB6
        have HB6 : Hid (Below w.heap.size w W6) := HB2.out.trans (HC6.out.to_below HB2.out.size (fun j e => by omega))
        have HW6 : Hid (w5.alloc (.cells #[.int .i64 3, .string ⟨#[]⟩, .slice va5 o5.length vc5, .int .i64 0, .bool false] 30) = W6) := hW6.symm
        obtain ⟨⟨a0, a1', a2, a3, a4⟩, -⟩ := it_cells hI6
        clear hW6 hB6 hI6 HR5 HC5
        by_cases hlq : n5 < q.length
        · have HP6 : Hid (x5.p = 6) := by
            have h1 := HPP6.out
            by_cases h : x5.p < 6
            · have := HALL.out h; omega
            · show _ = _; omega
          have hlq' : (n5 : Int) < (q.length : Int) := by omega
          have HHD := dheld_any w.heap.size 16777216 16777216 x5 W6 HR6.out
          rw [(show x5.held = 0 from by have := HP6.out; simp [Ds.held, this])] at HHD
          go_wp2_with (rw [HW6.out])
          refine HHD.mono ?_
          rintro e w7 ⟨rfl, rfl⟩
          go_wp2_with fail
          refine (wakes_any _).mono ?_
          rintro e wk ⟨rfl, hBk⟩
          have HBk : Hid (Below w.heap.size w wk) := HB6.out.trans (hBk.mono HB6.out.size)
          clear hBk
          go_wp2_with fail
          go_ret
          exact ⟨rfl, HBk.out⟩
        · obtain ⟨K, hK⟩ : ∃ K : Nat, (k : Int) + (n5 : Int) = (K : Int) := ⟨k + n5, by omega⟩
          obtain ⟨D, hD⟩ : ∃ D : Nat, (d : Int) + (o5.length : Int) = (D : Int) := ⟨d + o5.length, by omega⟩
          have hDb : D ≤ 4194304 := by have := HO3.out; omega
          have hlq' : ¬ (n5 : Int) < (q.length : Int) := by omega
          have HKQ : Hid (K = k + n5 ∧ D = d + o5.length ∧ n5 = q.length) := ⟨by omega, by omega, by omega⟩
          have hKl : K ≤ l1.length := by have := HKQ.out; omega
          have HTT : Hid (l1.take K = l1.take k ++ q ∧ (l1.take K).length = K) := ⟨by rw [HKQ.out.1, HKQ.out.2.2]; exact HK1.out.1, by rw [List.length_take]; omega⟩
          have HEV : Hid ((endsB (l1.take K) = true ∧ 3 ≤ K ∧ x5.held = 0) ∨ (x5.p < 6 ∧ Stt (l1.take K) x5 ∧ K = D + drp (l1.take K) + (if x5.p = 3 then 1 else 0))) := by
            rcases HRUN.out with ⟨h6, u, e1, e2⟩ | ⟨h6, h1, h2⟩
            · refine .inl ?_
              rw [HKQ.out.2.2, List.take_length, ← HTT.out.1] at e1
              have := ends_of e1 e2
              rw [HTT.out.2] at this
              exact ⟨this.1, this.2, by simp [Ds.held, h6]⟩
            · refine .inr ⟨h6, by rw [HTT.out.1]; exact h1, ?_⟩
              rw [← HTT.out.1, HTT.out.2] at h2
              have hq := HKQ.out.2.1
              omega
          obtain ⟨P, hP⟩ : ∃ P, l1.take K = P := ⟨_, rfl⟩
          have HPX : Hid (l1.take K = P) := hP
          rw [hP] at HEV HTT
          have HPL : Hid (P.length = K) := HTT.out.2
          have hsl := run_slH a1 l1.length cap1 K (by omega)
          have HPT : Hid (Bts a1 P w) := by rw [← hP]; exact HPE.out.bt.take K
          have HBG := lbegins_any a1 P K cap1 HPL.out.symm (by rw [HPL.out]; omega) W6 (HPT.out.below HB6.out)
          obtain ⟨B, hB⟩ : ∃ B, bgs P (P.length - 1) = B := ⟨_, rfl⟩
          rw [hB] at HBG
          have HBB : Hid (B.countP (dotAt P) = drp P) := by rw [← hB]; exact rfl
          have hbl : B.length ≤ 1048578 := by rw [← hB]; have := bgs_len P (P.length - 1); have := HPL.out; omega
          have HCP : Hid (∀ j, (B.take j).countP (dotAt P) ≤ B.length) := fun j => Nat.le_trans List.countP_le_length (by rw [List.length_take]; omega)
          have HHM := held_max x5
          have HHD : Hid (∀ w', Rd w' w.heap.size 16777216 16777216 x5 → Calls Try.prog 14 #[.pointer (some ⟨w.heap.size, 0, none⟩)] w' fun e w'' => e = .returned (.int .i64 (x5.held : Int)) ∧ w'' = w') := fun w' h => dheld_any w.heap.size 16777216 16777216 x5 w' h
          clear hP hB
          go_wp2_with (rw [HW6.out])
          refine HBG.mono ?_
          rintro e w7 ⟨g7, cap7, rfl, hO7, -, hB7⟩
          have HB7 : Hid (Below w.heap.size w w7) := HB6.out.trans (hB7.mono HB6.out.size)
          have HR7 : Hid (Rd w7 w.heap.size 16777216 16777216 x5) := HR6.out.below hB7 HR6.out.lt
          have HC7 : Hid (Chg (fun j => j = w.heap.size) w2 w7) := HC6.out.below hB7
          have HO7 : Hid (Ow celN 3 1 w7 (.slice (some ⟨g7, 0, none⟩) B.length cap7) B) := hO7
          have HBT7 : Hid (Bts a1 l1 w7) := HPE.out.bt.below HB7.out
          clear hO7 hB7 HBG HB6 HR6 HC6 HW6 a0 a1' a2 a3 a4 hsl
          go_wp2_with fail
          go_loopw [13, 15, 70] (fun cv _ jv wr => ∃ j : Nat, j ≤ B.length ∧ cv = .int .i64 (((B.take j).countP (dotAt P) : Nat) : Int) ∧ jv = .int .i64 j ∧ wr = w7) (fun _ _ jv _ => B.length - (intOf jv).toNat)
          case atStart => exact ⟨0, Nat.zero_le _, by simp, rfl, rfl⟩
          case round =>
            obtain ⟨j, hj, rfl, rfl, rfl⟩ := hrel
            by_cases hjl : j < B.length
            · have hcl := num_cell HO7.out j hjl
              have HNX : Hid ((B.take (j + 1)).countP (dotAt P) = (B.take j).countP (dotAt P) + (if dotAt P B[j] = true then 1 else 0)) := drp_take B P j hjl
              have hcp := HCP.out j
              generalize B[j] = at_ at *
              generalize (B.take j).countP (dotAt P) = cc at *
              by_cases hak : at_ < K
              · have hak' : (at_ : Int) < (K : Int) := by omega
                have hal : at_ < l1.length := by omega
                obtain ⟨gp, qp, rfl, hgp, hrow⟩ := HBT7.out.resolve_left (fun e => by rw [e] at hal; cases hal)
                have hc1 := hrow at_ hal
                have hal' : (at_ : Int) < (l1.length : Int) := by omega
                have HDA : Hid (dotAt P at_ = (l1[at_] == 46)) := by
                  unfold Hid dotAt
                  rw [← HPX.out, List.getElem?_take_of_lt hak, List.getElem?_eq_getElem hal]
                  simp
                clear hrow
                generalize l1[at_] = d1 at *
                by_cases h46 : d1 = 46
                · have k46 : ((d1.toNat : Int) == 46) = true := u8v h46
                  have HN2 : Hid ((B.take (j + 1)).countP (dotAt P) = cc + 1) := by rw [HNX.out, HDA.out, h46]; rfl
                  clear HNX HDA h46
                  go_wp2_with fail
                  go_round
                  case rel => exact ⟨j + 1, hjl, by rw [HN2.out]; go_num, by go_num, trivial⟩
                  case measure => simp [intOf]; omega
                · have k46 : ((d1.toNat : Int) == 46) = false := u8w h46
                  have HN2 : Hid ((B.take (j + 1)).countP (dotAt P) = cc) := by rw [HNX.out, HDA.out, beq_false_of_ne h46]; rfl
                  clear HNX HDA h46
                  go_wp2_with fail
                  go_round
                  case rel => exact ⟨j + 1, hjl, by rw [HN2.out], by go_num, trivial⟩
                  case measure => simp [intOf]; omega
              · have hak' : ¬ (at_ : Int) < (K : Int) := by omega
                have HN2 : Hid ((B.take (j + 1)).countP (dotAt P) = cc) := by
                  have : dotAt P at_ = false := by unfold dotAt; rw [List.getElem?_eq_none (by rw [HPL.out]; omega)]; rfl
                  rw [HNX.out, this]; rfl
                clear HNX
                go_wp2_with fail
                go_round
                case rel => exact ⟨j + 1, hjl, by rw [HN2.out], by go_num, trivial⟩
                case measure => simp [intOf]; omega
            · obtain rfl : j = B.length := by omega
              have HDR : Hid ((B.take B.length).countP (dotAt P) = drp P) := by rw [List.take_length]; exact HBB.out
              have hcp := HCP.out B.length
              generalize (B.take B.length).countP (dotAt P) = dr at *
              have HHC := HHD.out wr HR7.out
              have HNXT : Hid (3 ≤ K → endsB P = true → x5.held = 0) := fun h3 he => by
                rcases HEV.out with h | h
                · exact h.2.2
                · exact ends_held he (by rw [HPL.out]; exact h3) h.2.1
              have HGO : Hid (¬ (3 ≤ K ∧ endsB P = true) → (x5.p < 6 ∧ Stt P x5 ∧ K = D + drp P + (if x5.p = 3 then 1 else 0))) := fun hn => by
                rcases HEV.out with h | h
                · exact absurd ⟨h.2.1, h.1⟩ hn
                · exact h
              obtain ⟨M, hM⟩ : ∃ M : Nat, (M : Int) = max ((x5.held : Int) - 1) 0 := ⟨(max ((x5.held : Int) - 1) 0).toNat, by omega⟩
              have HMX : Hid (M = if x5.p = 3 then 1 else 0) := by rw [← HHM.2]; show _ = _; omega
              have m1 : max ((x5.held : Int) - 1) 0 = (M : Int) := hM.symm
              have m2 : (if (x5.held : Int) - 1 < 0 then 0 else (x5.held : Int) - 1) = (M : Int) := by rw [hM]; split <;> omega
              have h2 : ¬ (2 : Int) < (x5.held : Int) := by have := HHM.1; omega
              have h0' : ¬ (x5.held : Int) < 0 := by omega
              have hhd : x5.held ≤ 2 := HHM.1
              have hml : M ≤ 1 := by omega
              have HREL : Hid (¬ (3 ≤ K ∧ endsB P = true) → (x5.p < 6 ∧ Stt (l1.take K) x5 ∧ K = D + drp (l1.take K) + (if x5.p = 3 then 1 else 0)) ∧ K = D + dr + M) := fun hn => by
                have := HGO.out hn
                rw [HPX.out]
                exact ⟨this, by rw [HDR.out, HMX.out]; exact this.2.2⟩
              have HXZ : Hid (x5.size + x5.held ≤ K ∧ x5.row ≤ K) := by have h1 := HQ5.out; have h2 := HSX.out; have h3 := HKQ.out; show _ ∧ _; omega
              have HKN : Hid (l1.take K = cat (xs.take (i + 1)) ∧ K = (cat (xs.take (i + 1))).length) := by
                have h1 : l1.take K = cat (xs.take (i + 1)) := by rw [HPX.out, HTT.out.1]; exact HK1.out.2.symm
                exact ⟨h1, by rw [← h1, HPX.out, HPL.out]⟩
              clear HHD hM HMX HGO HEV HDR HBB HCP HHM HKQ HTT HRUN HALL HPP6 HSX HQ5 HK1
              have HXZ2 : Hid (x5.size + x5.held ≤ K ∧ x5.row ≤ K) := HXZ.out
              clear HXZ
              obtain ⟨hd, hhe⟩ : ∃ hd, x5.held = hd := ⟨_, rfl⟩
              rw [hhe] at HHC HNXT m1 m2 h2 h0' hhd
              clear hhe
              go_wp2_with fail
              refine HHC.mono ?_
              rintro e w8 ⟨rfl, rfl⟩
              clear HHC
              by_cases h3 : 3 ≤ K
              · have h3' : (3 : Int) ≤ (K : Int) := by omega
                obtain ⟨W9, hW9⟩ : ∃ W9, W9 = w8.alloc (.cells (rowV [13, 10]) 5 (2, 3)) := ⟨_, rfl⟩
                have hc9 : (convert 22 22 (.slice (some ⟨w8.heap.size, 0, none⟩) 2 2)).run Try.prog (w8.alloc (.cells #[.int .u8 13, .int .u8 10] 5)) = .ok (.slice (some ⟨w8.heap.size, 0, none⟩) 2 2) W9 := by subst hW9; exact Lib.run_convert_bytes_const w8 22 5 _ 2 2 Try.underlying22 Try.underlying5
                have hB9 : Below w8.heap.size w8 W9 := by subst hW9; exact (Below.refl _ _).alloc (Nat.le_refl _) _
                have HB9 : Hid (Below w.heap.size w W9) := HB7.out.trans (hB9.mono HB7.out.size)
                obtain ⟨g10, c10, w10, happ, hpe10, hB10⟩ := lead_app w8.heap.size a1 P K cap1 HPL.out.symm W9 (by subst hW9; exact lit_row w8 [13, 10] _) (HPT.out.below HB9.out) (by rw [HPL.out]; omega) (by rw [HPL.out]; omega)
                have HB10 : Hid (Below w.heap.size w w10) := HB9.out.trans (hB10.mono HB9.out.size)
                obtain ⟨W11, hW11⟩ : ∃ W11, W11 = w10.alloc (.cells (rowV sep5) 5 (5, 6)) := ⟨_, rfl⟩
                have hc11 : (convert 22 22 (.slice (some ⟨w10.heap.size, 0, none⟩) 5 5)).run Try.prog (w10.alloc (.cells #[.int .u8 13, .int .u8 10, .int .u8 46, .int .u8 13, .int .u8 10] 5)) = .ok (.slice (some ⟨w10.heap.size, 0, none⟩) 5 5) W11 := by subst hW11; exact Lib.run_convert_bytes_const w10 22 5 _ 5 5 Try.underlying22 Try.underlying5
                have hB11 : Below w10.heap.size w10 W11 := by subst hW11; exact (Below.refl _ _).alloc (Nat.le_refl _) _
                have HB11 : Hid (Below w.heap.size w W11) := HB10.out.trans (hB11.mono HB10.out.size)
                have HR11 : Hid (Rd W11 w.heap.size 16777216 16777216 x5) := ((HR7.out.below hB9 HR7.out.lt).below hB10 (by have := HR7.out.lt; have := hB9.size; omega)).below hB11 (by have := HR7.out.lt; have := hB9.size; have := hB10.size; omega)
                have HC11 : Hid (Chg (fun j => j = w.heap.size) w2 W11) := ((HC7.out.below hB9).below hB10).below hB11
                have HHS := bhs_any g10 (some ⟨w10.heap.size, 0, none⟩) ([13, 10] ++ P) sep5 (2 + K) 5 c10 5 (by simp [HPL.out]; omega) rfl W11 (hpe10.below hB11) (by subst hW11; exact lit_row w10 sep5 _) (by simp [HPL.out]; omega) (by decide)
                have hsl := run_slH a1 l1.length cap1 K (by omega)
                have HEE : Hid (decide (sep5.length ≤ ([13, 10] ++ P).length ∧ ([13, 10] ++ P).drop (([13, 10] ++ P).length - sep5.length) = sep5) = endsB P) := rfl
                rw [HEE.out] at HHS
                clear hW9 hB9 hpe10 hB10 hW11 hB11 HB9 HB10 HEE
                obtain ⟨E, hE⟩ : ∃ E, endsB P = E := ⟨_, rfl⟩
                rw [hE] at HHS HNXT HREL
                clear hE
                have HAP := happ
                clear happ
                have HAPP : Hid ((Builtin.append_ #[22, 22] 22 #[.slice (some ⟨w8.heap.size, 0, none⟩) 2 2, .slice a1 K cap1]).run Try.prog W9 = .ok (.slice g10 (2 + K) c10) w10) := HAP
                clear HAP
                go_wp2_with (at_builtin; refine wpList_append_runG rfl _ _ 22 rfl (.slice (some ⟨w8.heap.size, 0, none⟩) 2 2) (.slice a1 K cap1) (.slice g10 (2 + K) c10) rfl rfl HAPP.out ?_)
                refine HHS.mono ?_
                rintro e w12 ⟨rfl, rfl⟩
                clear HHS HAPP hc9 hc11 hsl
                cases E with
                | true =>
                  obtain rfl : hd = 0 := HNXT.out (by first | exact h3 | simp) (by simp)
                  go_wp2_with fail
                  refine (wakes_any _).mono ?_
                  rintro e wk ⟨rfl, hBk⟩
                  have HBk : Hid (Below w.heap.size w wk) := HB11.out.trans (hBk.mono HB11.out.size)
                  clear hBk
                  go_wp2_with fail
                  go_ret
                  exact ⟨rfl, HBk.out⟩
                | false =>
                  have hrl := HREL.out (by simp)
                  have hdK : D ≤ K := by have := hrl.2; omega
                  have HRL : Hid ((x5.p < 6 ∧ Stt (l1.take K) x5 ∧ K = D + drp (l1.take K) + (if x5.p = 3 then 1 else 0))) := hrl.1
                  have hne : ((K : Int) - (D : Int) != (dr : Int) + (M : Int)) = false := by simp; omega
                  clear hrl HREL
                  go_wp2_with fail
                  go_round
                  case rel => exact ⟨i + 1, K, D, x5, hlt, hKl, hdK, rfl, (by first | rfl | congr 1), by go_num, HR11.out, HC11.out, HKN.out, ⟨HRL.out.2.1, HRL.out.2.2, HXZ2.out.1, HXZ2.out.2⟩⟩
                  case measure => simp [intOf]; omega
              · have h3' : ¬ (3 : Int) ≤ (K : Int) := by omega
                have hrl := HREL.out (fun h => h3 h.1)
                have hdK : D ≤ K := by have := hrl.2; omega
                have HRL : Hid ((x5.p < 6 ∧ Stt (l1.take K) x5 ∧ K = D + drp (l1.take K) + (if x5.p = 3 then 1 else 0))) := hrl.1
                have hne : ((K : Int) - (D : Int) != (dr : Int) + (M : Int)) = false := by simp; omega
                clear hrl HREL
                go_wp2_with fail
                go_round
                case rel => exact ⟨i + 1, K, D, x5, hlt, hKl, hdK, rfl, (by first | rfl | congr 1), by go_num, HR7.out, HC7.out, HKN.out, ⟨HRL.out.2.1, HRL.out.2.2, HXZ2.out.1, HXZ2.out.2⟩⟩
                case measure => simp [intOf]; omega
      · obtain rfl : o5 = [] := List.eq_nil_of_length_eq_zero (by omega)
        by_cases h6 : x5.p = 6
        · rw [(imOf_fin (a := 16777216) (s := x5) h6).1, (imOf_fin (a := 16777216) (s := x5) h6).2] at HTK
          unfold imV imC at HTK
          dsimp only [imK, imY, imH] at HTK
          go_wp2_with fail
          refine HTK.mono ?_
          rintro e w5 ⟨v5, rfl, hT5⟩
          obtain ⟨va5, vc5, rfl, -⟩ := own_bts hT5.ow
          have HR5 : Hid (Rd w5 w.heap.size 16777216 16777216 x5.over) := hT5.rd
          have HC5 : Hid (Chg (fun j => j = w.heap.size) w2 w5) := HC.out.trans hT5.ch
          clear hT5 HTK HC HPE2 hcell
          try dsimp only [imB]
          try rw [List.length_nil]
          obtain ⟨W6, hW6⟩ : ∃ W6, W6 = w5.alloc (.cells #[.int .i64 4, .string ⟨#[]⟩, .slice va5 0 vc5, .int .i64 (x5.why 16777216), .bool x5.high] 30) := ⟨_, rfl⟩
          have hB6 : Below w5.heap.size w5 W6 := by subst hW6; exact (Below.refl _ _).alloc (Nat.le_refl _) _
          have hI6 : Lies W6 w5.heap.size #[.int .i64 4, .string ⟨#[]⟩, .slice va5 0 vc5, .int .i64 (x5.why 16777216), .bool x5.high] 30 := by subst hW6; exact Lies.new w5 _ _
          have HR6 : Hid (Rd W6 w.heap.size 16777216 16777216 x5.over) := HR5.out.below hB6 HR5.out.lt
          have HC6 : Hid (Chg (fun j => j = w.heap.size) w2 W6) := HC5.out.below hB6
          have HB6 : Hid (Below w.heap.size w W6) := HB2.out.trans (HC6.out.to_below HB2.out.size (fun j e => by omega))
          have HW6 : Hid (w5.alloc (.cells #[.int .i64 4, .string ⟨#[]⟩, .slice va5 0 vc5, .int .i64 (x5.why 16777216), .bool x5.high] 30) = W6) := hW6.symm
          obtain ⟨⟨a0, a1', a2, a3, a4⟩, -⟩ := it_cells hI6
          clear hW6 hB6 hI6 HR5 HC5
          have HHD := dheld_any w.heap.size 16777216 16777216 x5.over W6 HR6.out
          rw [(show x5.over.held = 0 from rfl)] at HHD
          go_wp2_with (rw [HW6.out])
          refine HHD.mono ?_
          rintro e w7 ⟨rfl, rfl⟩
          go_wp2_with fail
          refine (wakes_any _).mono ?_
          rintro e wk ⟨rfl, hBk⟩
          have HBk : Hid (Below w.heap.size w wk) := HB6.out.trans (hBk.mono HB6.out.size)
          clear hBk
          go_wp2_with fail
          go_ret
          exact ⟨rfl, HBk.out⟩
        · rw [(imOf_no (a := 16777216) (s := x5) h6).1, (imOf_no (a := 16777216) (s := x5) h6).2] at HTK
          unfold imV imC at HTK
          dsimp only [imK, imY, imH] at HTK
          have hlq : ¬ n5 < q.length := by have := HALL.out (by have := HPP6.out; omega); omega
          go_wp2_with fail
          refine HTK.mono ?_
          rintro e w5 ⟨v5, rfl, hT5⟩
          obtain ⟨va5, vc5, rfl, -⟩ := own_bts hT5.ow
          have HR5 : Hid (Rd w5 w.heap.size 16777216 16777216 x5) := hT5.rd
          have HC5 : Hid (Chg (fun j => j = w.heap.size) w2 w5) := HC.out.trans hT5.ch
          clear hT5 HTK HC HPE2 hcell
          try dsimp only [imB]
          try rw [List.length_nil]
          obtain ⟨W6, hW6⟩ : ∃ W6, W6 = w5.alloc (.cells #[.int .i64 0, .string ⟨#[]⟩, .slice va5 0 vc5, .int .i64 0, .bool false] 30) := ⟨_, rfl⟩
          have hB6 : Below w5.heap.size w5 W6 := by subst hW6; exact (Below.refl _ _).alloc (Nat.le_refl _) _
          have hI6 : Lies W6 w5.heap.size #[.int .i64 0, .string ⟨#[]⟩, .slice va5 0 vc5, .int .i64 0, .bool false] 30 := by subst hW6; exact Lies.new w5 _ _
          have HR6 : Hid (Rd W6 w.heap.size 16777216 16777216 x5) := HR5.out.below hB6 HR5.out.lt
          have HC6 : Hid (Chg (fun j => j = w.heap.size) w2 W6) := HC5.out.below hB6
          have HB6 : Hid (Below w.heap.size w W6) := HB2.out.trans (HC6.out.to_below HB2.out.size (fun j e => by omega))
          have HW6 : Hid (w5.alloc (.cells #[.int .i64 0, .string ⟨#[]⟩, .slice va5 0 vc5, .int .i64 0, .bool false] 30) = W6) := hW6.symm
          obtain ⟨⟨a0, a1', a2, a3, a4⟩, -⟩ := it_cells hI6
          clear hW6 hB6 hI6 HR5 HC5
          obtain ⟨K, hK⟩ : ∃ K : Nat, (k : Int) + (n5 : Int) = (K : Int) := ⟨k + n5, by omega⟩
          obtain ⟨D, hD⟩ : ∃ D : Nat, (d : Int) + ((0 : Nat) : Int) = (D : Int) := ⟨d + 0, by omega⟩
          have hDb : D ≤ 4194304 := by have := HO3.out; omega
          have hlq' : ¬ (n5 : Int) < (q.length : Int) := by omega
          have HKQ : Hid (K = k + n5 ∧ D = d + 0 ∧ n5 = q.length) := ⟨by omega, by omega, by omega⟩
          have hKl : K ≤ l1.length := by have := HKQ.out; omega
          have HTT : Hid (l1.take K = l1.take k ++ q ∧ (l1.take K).length = K) := ⟨by rw [HKQ.out.1, HKQ.out.2.2]; exact HK1.out.1, by rw [List.length_take]; omega⟩
          have HEV : Hid ((endsB (l1.take K) = true ∧ 3 ≤ K ∧ x5.held = 0) ∨ (x5.p < 6 ∧ Stt (l1.take K) x5 ∧ K = D + drp (l1.take K) + (if x5.p = 3 then 1 else 0))) := by
            rcases HRUN.out with ⟨h6, u, e1, e2⟩ | ⟨h6, h1, h2⟩
            · refine .inl ?_
              rw [HKQ.out.2.2, List.take_length, ← HTT.out.1] at e1
              have := ends_of e1 e2
              rw [HTT.out.2] at this
              exact ⟨this.1, this.2, by simp [Ds.held, h6]⟩
            · refine .inr ⟨h6, by rw [HTT.out.1]; exact h1, ?_⟩
              rw [← HTT.out.1, HTT.out.2] at h2
              have hq := HKQ.out.2.1
              simp only [List.length_nil] at h2
              omega
          obtain ⟨P, hP⟩ : ∃ P, l1.take K = P := ⟨_, rfl⟩
          have HPX : Hid (l1.take K = P) := hP
          rw [hP] at HEV HTT
          have HPL : Hid (P.length = K) := HTT.out.2
          have hsl := run_slH a1 l1.length cap1 K (by omega)
          have HPT : Hid (Bts a1 P w) := by rw [← hP]; exact HPE.out.bt.take K
          have HBG := lbegins_any a1 P K cap1 HPL.out.symm (by rw [HPL.out]; omega) W6 (HPT.out.below HB6.out)
          obtain ⟨B, hB⟩ : ∃ B, bgs P (P.length - 1) = B := ⟨_, rfl⟩
          rw [hB] at HBG
          have HBB : Hid (B.countP (dotAt P) = drp P) := by rw [← hB]; exact rfl
          have hbl : B.length ≤ 1048578 := by rw [← hB]; have := bgs_len P (P.length - 1); have := HPL.out; omega
          have HCP : Hid (∀ j, (B.take j).countP (dotAt P) ≤ B.length) := fun j => Nat.le_trans List.countP_le_length (by rw [List.length_take]; omega)
          have HHM := held_max x5
          have HHD : Hid (∀ w', Rd w' w.heap.size 16777216 16777216 x5 → Calls Try.prog 14 #[.pointer (some ⟨w.heap.size, 0, none⟩)] w' fun e w'' => e = .returned (.int .i64 (x5.held : Int)) ∧ w'' = w') := fun w' h => dheld_any w.heap.size 16777216 16777216 x5 w' h
          clear hP hB
          go_wp2_with (rw [HW6.out])
          refine HBG.mono ?_
          rintro e w7 ⟨g7, cap7, rfl, hO7, -, hB7⟩
          have HB7 : Hid (Below w.heap.size w w7) := HB6.out.trans (hB7.mono HB6.out.size)
          have HR7 : Hid (Rd w7 w.heap.size 16777216 16777216 x5) := HR6.out.below hB7 HR6.out.lt
          have HC7 : Hid (Chg (fun j => j = w.heap.size) w2 w7) := HC6.out.below hB7
          have HO7 : Hid (Ow celN 3 1 w7 (.slice (some ⟨g7, 0, none⟩) B.length cap7) B) := hO7
          have HBT7 : Hid (Bts a1 l1 w7) := HPE.out.bt.below HB7.out
          clear hO7 hB7 HBG HB6 HR6 HC6 HW6 a0 a1' a2 a3 a4 hsl
          go_wp2_with fail
          go_loopw [13, 15, 70] (fun cv _ jv wr => ∃ j : Nat, j ≤ B.length ∧ cv = .int .i64 (((B.take j).countP (dotAt P) : Nat) : Int) ∧ jv = .int .i64 j ∧ wr = w7) (fun _ _ jv _ => B.length - (intOf jv).toNat)
          case atStart => exact ⟨0, Nat.zero_le _, by simp, rfl, rfl⟩
          case round =>
            obtain ⟨j, hj, rfl, rfl, rfl⟩ := hrel
            by_cases hjl : j < B.length
            · have hcl := num_cell HO7.out j hjl
              have HNX : Hid ((B.take (j + 1)).countP (dotAt P) = (B.take j).countP (dotAt P) + (if dotAt P B[j] = true then 1 else 0)) := drp_take B P j hjl
              have hcp := HCP.out j
              generalize B[j] = at_ at *
              generalize (B.take j).countP (dotAt P) = cc at *
              by_cases hak : at_ < K
              · have hak' : (at_ : Int) < (K : Int) := by omega
                have hal : at_ < l1.length := by omega
                obtain ⟨gp, qp, rfl, hgp, hrow⟩ := HBT7.out.resolve_left (fun e => by rw [e] at hal; cases hal)
                have hc1 := hrow at_ hal
                have hal' : (at_ : Int) < (l1.length : Int) := by omega
                have HDA : Hid (dotAt P at_ = (l1[at_] == 46)) := by
                  unfold Hid dotAt
                  rw [← HPX.out, List.getElem?_take_of_lt hak, List.getElem?_eq_getElem hal]
                  simp
                clear hrow
                generalize l1[at_] = d1 at *
                by_cases h46 : d1 = 46
                · have k46 : ((d1.toNat : Int) == 46) = true := u8v h46
                  have HN2 : Hid ((B.take (j + 1)).countP (dotAt P) = cc + 1) := by rw [HNX.out, HDA.out, h46]; rfl
                  clear HNX HDA h46
                  go_wp2_with fail
                  go_round
                  case rel => exact ⟨j + 1, hjl, by rw [HN2.out]; go_num, by go_num, trivial⟩
                  case measure => simp [intOf]; omega
                · have k46 : ((d1.toNat : Int) == 46) = false := u8w h46
                  have HN2 : Hid ((B.take (j + 1)).countP (dotAt P) = cc) := by rw [HNX.out, HDA.out, beq_false_of_ne h46]; rfl
                  clear HNX HDA h46
                  go_wp2_with fail
                  go_round
                  case rel => exact ⟨j + 1, hjl, by rw [HN2.out], by go_num, trivial⟩
                  case measure => simp [intOf]; omega
              · have hak' : ¬ (at_ : Int) < (K : Int) := by omega
                have HN2 : Hid ((B.take (j + 1)).countP (dotAt P) = cc) := by
                  have : dotAt P at_ = false := by unfold dotAt; rw [List.getElem?_eq_none (by rw [HPL.out]; omega)]; rfl
                  rw [HNX.out, this]; rfl
                clear HNX
                go_wp2_with fail
                go_round
                case rel => exact ⟨j + 1, hjl, by rw [HN2.out], by go_num, trivial⟩
                case measure => simp [intOf]; omega
            · obtain rfl : j = B.length := by omega
              have HDR : Hid ((B.take B.length).countP (dotAt P) = drp P) := by rw [List.take_length]; exact HBB.out
              have hcp := HCP.out B.length
              generalize (B.take B.length).countP (dotAt P) = dr at *
              have HHC := HHD.out wr HR7.out
              have HNXT : Hid (3 ≤ K → endsB P = true → x5.held = 0) := fun h3 he => by
                rcases HEV.out with h | h
                · exact h.2.2
                · exact ends_held he (by rw [HPL.out]; exact h3) h.2.1
              have HGO : Hid (¬ (3 ≤ K ∧ endsB P = true) → (x5.p < 6 ∧ Stt P x5 ∧ K = D + drp P + (if x5.p = 3 then 1 else 0))) := fun hn => by
                rcases HEV.out with h | h
                · exact absurd ⟨h.2.1, h.1⟩ hn
                · exact h
              obtain ⟨M, hM⟩ : ∃ M : Nat, (M : Int) = max ((x5.held : Int) - 1) 0 := ⟨(max ((x5.held : Int) - 1) 0).toNat, by omega⟩
              have HMX : Hid (M = if x5.p = 3 then 1 else 0) := by rw [← HHM.2]; show _ = _; omega
              have m1 : max ((x5.held : Int) - 1) 0 = (M : Int) := hM.symm
              have m2 : (if (x5.held : Int) - 1 < 0 then 0 else (x5.held : Int) - 1) = (M : Int) := by rw [hM]; split <;> omega
              have h2 : ¬ (2 : Int) < (x5.held : Int) := by have := HHM.1; omega
              have h0' : ¬ (x5.held : Int) < 0 := by omega
              have hhd : x5.held ≤ 2 := HHM.1
              have hml : M ≤ 1 := by omega
              have HREL : Hid (¬ (3 ≤ K ∧ endsB P = true) → (x5.p < 6 ∧ Stt (l1.take K) x5 ∧ K = D + drp (l1.take K) + (if x5.p = 3 then 1 else 0)) ∧ K = D + dr + M) := fun hn => by
                have := HGO.out hn
                rw [HPX.out]
                exact ⟨this, by rw [HDR.out, HMX.out]; exact this.2.2⟩
              have HXZ : Hid (x5.size + x5.held ≤ K ∧ x5.row ≤ K) := by have h1 := HQ5.out; have h2 := HSX.out; have h3 := HKQ.out; show _ ∧ _; omega
              have HKN : Hid (l1.take K = cat (xs.take (i + 1)) ∧ K = (cat (xs.take (i + 1))).length) := by
                have h1 : l1.take K = cat (xs.take (i + 1)) := by rw [HPX.out, HTT.out.1]; exact HK1.out.2.symm
                exact ⟨h1, by rw [← h1, HPX.out, HPL.out]⟩
              clear HHD hM HMX HGO HEV HDR HBB HCP HHM HKQ HTT HRUN HALL HPP6 HSX HQ5 HK1
              have HXZ2 : Hid (x5.size + x5.held ≤ K ∧ x5.row ≤ K) := HXZ.out
              clear HXZ
              obtain ⟨hd, hhe⟩ : ∃ hd, x5.held = hd := ⟨_, rfl⟩
              rw [hhe] at HHC HNXT m1 m2 h2 h0' hhd
              clear hhe
              go_wp2_with fail
              refine HHC.mono ?_
              rintro e w8 ⟨rfl, rfl⟩
              clear HHC
              by_cases h3 : 3 ≤ K
              · have h3' : (3 : Int) ≤ (K : Int) := by omega
                obtain ⟨W9, hW9⟩ : ∃ W9, W9 = w8.alloc (.cells (rowV [13, 10]) 5 (2, 3)) := ⟨_, rfl⟩
                have hc9 : (convert 22 22 (.slice (some ⟨w8.heap.size, 0, none⟩) 2 2)).run Try.prog (w8.alloc (.cells #[.int .u8 13, .int .u8 10] 5)) = .ok (.slice (some ⟨w8.heap.size, 0, none⟩) 2 2) W9 := by subst hW9; exact Lib.run_convert_bytes_const w8 22 5 _ 2 2 Try.underlying22 Try.underlying5
                have hB9 : Below w8.heap.size w8 W9 := by subst hW9; exact (Below.refl _ _).alloc (Nat.le_refl _) _
                have HB9 : Hid (Below w.heap.size w W9) := HB7.out.trans (hB9.mono HB7.out.size)
                obtain ⟨g10, c10, w10, happ, hpe10, hB10⟩ := lead_app w8.heap.size a1 P K cap1 HPL.out.symm W9 (by subst hW9; exact lit_row w8 [13, 10] _) (HPT.out.below HB9.out) (by rw [HPL.out]; omega) (by rw [HPL.out]; omega)
                have HB10 : Hid (Below w.heap.size w w10) := HB9.out.trans (hB10.mono HB9.out.size)
                obtain ⟨W11, hW11⟩ : ∃ W11, W11 = w10.alloc (.cells (rowV sep5) 5 (5, 6)) := ⟨_, rfl⟩
                have hc11 : (convert 22 22 (.slice (some ⟨w10.heap.size, 0, none⟩) 5 5)).run Try.prog (w10.alloc (.cells #[.int .u8 13, .int .u8 10, .int .u8 46, .int .u8 13, .int .u8 10] 5)) = .ok (.slice (some ⟨w10.heap.size, 0, none⟩) 5 5) W11 := by subst hW11; exact Lib.run_convert_bytes_const w10 22 5 _ 5 5 Try.underlying22 Try.underlying5
                have hB11 : Below w10.heap.size w10 W11 := by subst hW11; exact (Below.refl _ _).alloc (Nat.le_refl _) _
                have HB11 : Hid (Below w.heap.size w W11) := HB10.out.trans (hB11.mono HB10.out.size)
                have HR11 : Hid (Rd W11 w.heap.size 16777216 16777216 x5) := ((HR7.out.below hB9 HR7.out.lt).below hB10 (by have := HR7.out.lt; have := hB9.size; omega)).below hB11 (by have := HR7.out.lt; have := hB9.size; have := hB10.size; omega)
                have HC11 : Hid (Chg (fun j => j = w.heap.size) w2 W11) := ((HC7.out.below hB9).below hB10).below hB11
                have HHS := bhs_any g10 (some ⟨w10.heap.size, 0, none⟩) ([13, 10] ++ P) sep5 (2 + K) 5 c10 5 (by simp [HPL.out]; omega) rfl W11 (hpe10.below hB11) (by subst hW11; exact lit_row w10 sep5 _) (by simp [HPL.out]; omega) (by decide)
                have hsl := run_slH a1 l1.length cap1 K (by omega)
                have HEE : Hid (decide (sep5.length ≤ ([13, 10] ++ P).length ∧ ([13, 10] ++ P).drop (([13, 10] ++ P).length - sep5.length) = sep5) = endsB P) := rfl
                rw [HEE.out] at HHS
                clear hW9 hB9 hpe10 hB10 hW11 hB11 HB9 HB10 HEE
                obtain ⟨E, hE⟩ : ∃ E, endsB P = E := ⟨_, rfl⟩
                rw [hE] at HHS HNXT HREL
                clear hE
                have HAP := happ
                clear happ
                have HAPP : Hid ((Builtin.append_ #[22, 22] 22 #[.slice (some ⟨w8.heap.size, 0, none⟩) 2 2, .slice a1 K cap1]).run Try.prog W9 = .ok (.slice g10 (2 + K) c10) w10) := HAP
                clear HAP
                go_wp2_with (at_builtin; refine wpList_append_runG rfl _ _ 22 rfl (.slice (some ⟨w8.heap.size, 0, none⟩) 2 2) (.slice a1 K cap1) (.slice g10 (2 + K) c10) rfl rfl HAPP.out ?_)
                refine HHS.mono ?_
                rintro e w12 ⟨rfl, rfl⟩
                clear HHS HAPP hc9 hc11 hsl
                cases E with
                | true =>
                  obtain rfl : hd = 0 := HNXT.out (by first | exact h3 | simp) (by simp)
                  go_wp2_with fail
                  refine (wakes_any _).mono ?_
                  rintro e wk ⟨rfl, hBk⟩
                  have HBk : Hid (Below w.heap.size w wk) := HB11.out.trans (hBk.mono HB11.out.size)
                  clear hBk
                  go_wp2_with fail
                  go_ret
                  exact ⟨rfl, HBk.out⟩
                | false =>
                  have hrl := HREL.out (by simp)
                  have hdK : D ≤ K := by have := hrl.2; omega
                  have HRL : Hid ((x5.p < 6 ∧ Stt (l1.take K) x5 ∧ K = D + drp (l1.take K) + (if x5.p = 3 then 1 else 0))) := hrl.1
                  have hne : ((K : Int) - (D : Int) != (dr : Int) + (M : Int)) = false := by simp; omega
                  clear hrl HREL
                  go_wp2_with fail
                  go_round
                  case rel => exact ⟨i + 1, K, D, x5, hlt, hKl, hdK, rfl, (by first | rfl | congr 1), by go_num, HR11.out, HC11.out, HKN.out, ⟨HRL.out.2.1, HRL.out.2.2, HXZ2.out.1, HXZ2.out.2⟩⟩
                  case measure => simp [intOf]; omega
              · have h3' : ¬ (3 : Int) ≤ (K : Int) := by omega
                have hrl := HREL.out (fun h => h3 h.1)
                have hdK : D ≤ K := by have := hrl.2; omega
                have HRL : Hid ((x5.p < 6 ∧ Stt (l1.take K) x5 ∧ K = D + drp (l1.take K) + (if x5.p = 3 then 1 else 0))) := hrl.1
                have hne : ((K : Int) - (D : Int) != (dr : Int) + (M : Int)) = false := by simp; omega
                clear hrl HREL
                go_wp2_with fail
                go_round
                case rel => exact ⟨i + 1, K, D, x5, hlt, hKl, hdK, rfl, (by first | rfl | congr 1), by go_num, HR7.out, HC7.out, HKN.out, ⟨HRL.out.2.1, HRL.out.2.2, HXZ2.out.1, HXZ2.out.2⟩⟩
                case measure => simp [intOf]; omega
    · go_wp2_with fail
      refine (wakes_any _).mono ?_
      rintro e wk ⟨rfl, hBk⟩
      have HBk : Hid (Below w.heap.size w wk) := HBW.out.trans (hBk.mono HBW.out.size)
      clear hBk
      go_wp2_with fail
      go_ret
      exact ⟨rfl, HBk.out⟩

theorem own : ownKnob Try.prog.godebug = none := by kernel_rfl
theorem laidOut : laidOutB Try.prog = true := by kernel_rfl
set_option maxRecDepth 100000 in
theorem contract (H : Type) (enc : TypeId × Value → H) (W : World) (base : Nat) (args : Array Value) (ds gs : List (DataW H)) (before : List MemPlace)
    (hval : ∀ (j : Nat) t v, Try.f4.params[j]? = some t → args[j]? = some v → Value.okWide Try.prog W .any base t v)
    (hW : DataW.Whole enc Try.prog Try.f4.params.toList Rows.dotsHeldSpec.vars false W args.toList ds gs before)
    (hk : Rows.uptoSmall H (ds ++ gs) = true) :
    Calls Try.prog 4 args W fun e W' => ∃ v, e = .returned v ∧ Rows.dotsHeldSpec.post enc Try.prog Try.f4 false true false false W args v W' := by
  have hW' := hW
  obtain ⟨p, q, hA0, hV, rfl, hfz, hnd⟩ := hW
  have hA : DataW.TrodAll enc Try.prog W 0 (fun _ => true) true Try.f4.params.toList args.toList ds p := hA0
  rw [Try.params4] at hA hval
  obtain ⟨v0, vs0, d0, ds0, p0, q0, hargs, rfl, rfl, h0, r0⟩ := trodAll_cons hA
  obtain ⟨v1, vs1, d1, ds1, p1, q1, rfl, rfl, rfl, h1, r1⟩ := trodAll_cons r0
  obtain ⟨rfl, rfl, rfl⟩ := trodAll_nil r1
  obtain rfl : args = #[v0, v1] := by cases args; simp_all
  obtain ⟨rfl, rfl⟩ := trodVars_none hV
  have k0 := h0
  have lt0 : ∀ x ∈ p0, x.block < W.heap.size := by obtain ⟨m, hm⟩ := k0; exact DataW.trod_lt m _ _ _ hm
  obtain ⟨a0, len0, cap0, rfl⟩ := okWide_slice Try.underlying22 (hval 0 22 v0 rfl rfl)
  obtain ⟨l0, e0, row0, cp0, bd0⟩ := open_bytes h0
  have nn0 := open_none k0
  have k1 := h1
  have lt1 : ∀ x ∈ p1, x.block < W.heap.size := by obtain ⟨m, hm⟩ := k1; exact DataW.trod_lt m _ _ _ hm
  obtain ⟨a1, len1, cap1, rfl⟩ := okWide_slice Try.underlying23 (hval 1 23 v1 rfl rfl)
  obtain ⟨l1, e1, row1, bd1⟩ := open_nums h1
  clear hA0
  have s0 : l0.length ≤ 1048576 := by
    rcases bd0 with ⟨el, sp, rfl, hl⟩ | ⟨rfl, hl⟩
    · have := bulk_slice hk (el := el) (sp := sp) (by simp)
      omega
    · omega
  subst e0
  have s1 : l1.length ≤ 1048576 := by
    rcases bd1 with ⟨el, sp, rfl, hl⟩ | ⟨rfl, hl⟩
    · have := bulk_slice hk (el := el) (sp := sp) (by simp)
      omega
    · omega
  subst e1
  refine (walk a0 l0 cap0 row0 s0 cp0 nn0 (open_cap k0) a1 l1 cap1 row1 s1).mono fun e W' ⟨he, bel⟩ => ?_
  subst he
  exact ⟨_, rfl, _, _, _, [], _, [], hW', trodAll_mk1 (shut_bool Try.underlying4 _), trodAll_cons_mk (Below.trod laidOut (by kernel_rfl) (of_decide_eq_true (by kernel_rfl)) k0 bel lt0) (trodAll_cons_mk (Below.trod laidOut (by kernel_rfl) (of_decide_eq_true (by kernel_rfl)) k1 bel lt1) trodAll_mk0), rfl, bel.frame _, fun h => by cases h⟩

set_option maxRecDepth 100000 in
theorem lifted (os : Os) (started : os.Started) (H : Type) (enc : TypeId × Value → H) (F : Stop.Interp) :
    ReturnsInHanded {} Try.checked os 4 .any ((Rows.OpenSpec.upto Rows.dotsHeldSpec).pre6 enc Try.prog Try.f4 Rows.dotsHeldUptoRow.domain false) (((Rows.OpenSpec.upto Rows.dotsHeldSpec).at F).post enc Try.prog Try.f4 false true false false) := by
  refine returnsInHanded_of_cond (C := Try.checked) (s := Rows.OpenSpec.upto Rows.dotsHeldSpec) (k := Rows.uptoSmall) rfl own started (by kernel_rfl) Try.func4
    (OpenSpec.witness (enc := enc) (C := Try.checked) (s := Rows.OpenSpec.upto Rows.dotsHeldSpec) (k := Rows.uptoSmall) rfl false ⟨#[], #[.slice none 0 0, .slice none 0 0], []⟩ 8 (by kernel_rfl) (by kernel_rfl) (by kernel_rfl)
      (x := ([.nil, .nil], [], [])) (by kernel_rfl) rfl (by kernel_rfl)) ?_
  intro W base args ds gs before hval hW _ hk _
  exact contract H enc W base args ds gs before hval hW hk

theorem over : Rows.DotsHeldUptoSaid :=
  OpenClaim.holds_of_cond 4 Try.f4 rfl rfl rfl rfl rfl rfl rfl ⟨rfl, rfl, rfl, rfl, rfl⟩ rfl rfl rfl rfl rfl (by kernel_rfl) Try.func4 (by kernel_rfl)
    (of_decide_eq_true (by kernel_rfl)) (by unfold Func.isWrapper; first | (rw [if_pos (by decide +kernel)]; kernel_rfl) | (rw [if_neg (by decide +kernel)]; exact ⟨rfl, rfl⟩))
    (fun os started H enc _ F => lifted os started H enc F)
end Go.Proofs.Ytfifpepcmpaipab.dotsHeld
namespace Go.Proofs.Ytfifpepcmpaipab
theorem dotsHeldUpto_said : Rows.DotsHeldUptoSaid := dotsHeld.over
#print axioms dotsHeldUpto_said
end Go.Proofs.Ytfifpepcmpaipab
