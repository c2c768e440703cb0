/-
  P3.4: however bytes are cut into pieces, and whatever is asked between, the digest is that of all of them; proved with no condition on the input.
-/
import Derived.Test.YtlkflikhbkhpeaaDoorHead
import Derived.Test.YtlkflikhbkhpeaaDoorKeep
import Derived.Test.YtlkflikhbkhpeaaDoorRMac
import Derived.Test.YtlkflikhbkhpeaaDoorOpenL
namespace Go.Proofs.YtlkflikhbkhpeaaDoor.hashPieces
open Go.ChangeShapes Go.WideShapes Go.ChangeAt Go.RowKit

/-- What stands between the pieces. -/
structure Ps (w0 w : World) (gh gg : Nat) (u : Value) (t : List UInt8) : Prop where
  bel : Below w0.heap.size w0 w
  own : w.ownsRow w0.heap.size 5 1 u t.length (cellsB t)
  hh : HashAt w gh t
  hg : HashAt w gg t
theorem Ps.below {w0 w w' : World} {gh gg : Nat} {u : Value} {t : List UInt8} (h : Ps w0 w gh gg u t) (hb : Below w.heap.size w w') : Ps w0 w' gh gg u t :=
  ⟨h.bel.trans (hb.mono h.bel.size), own_below h.own hb, h.hh.below hb, h.hg.below hb⟩

set_option maxHeartbeats 2000000 in
set_option maxRecDepth 100000 in
theorem walk {w : World} (a : Option Addr) (ps : List Pc) (cap : Nat) (hp : Pl ps a w) (hn : ps.length ≤ 140737488351232) (ht : Tabs w) :
    Calls Tryd.prog 7 #[.slice a ps.length cap] w fun e w' => e = .returned (.bool true) ∧ Below w.heap.size w w' := by
  have HP : Hid (Pl ps a w) := hp
  have HT : Hid (Tabs w) := ht
  have HGR : Hid _ := great_any a ps cap w hp hn
  clear hp ht
  obtain ⟨K, hK⟩ : ∃ K, K = ps.length := ⟨_, rfl⟩
  have HK : Hid (K = ps.length) := hK
  rw [← hK] at hn HGR
  rw [← hK]
  clear hK
  have hw2 : 2 ≤ w.heap.size := HT.out.size
  go_enter Tryd.func7, Tryd.ntmps7
  go_wp2_with fail
  refine Calls.mono HGR.out ?_
  clear HGR
  rintro e w1 ⟨rfl, hw⟩
  rw [hw]
  clear hw w1
  by_cases hbig : 1073741824 < gsum ps
  · rw [decide_eq_true hbig]
    go_wp2
    go_ret
    exact ⟨rfl, Below.refl _ _⟩
  rw [decide_eq_false hbig]
  have HSM : Hid ((cat ps).length ≤ 1073741824) := by have := cat_gsum ps; show _ ≤ _; omega
  clear hbig
  go_wp2_with fail
  refine (head_any w HT.out).mono ?_
  rintro e w1 ⟨rfl, hb1⟩
  have HB1 : Hid (Below w.heap.size w w1) := hb1
  clear hb1
  go_wp2_with fail
  refine (new_any w1).mono ?_
  rintro e w2 ⟨gh, rfl, hgh, hh2, hb2⟩
  have HH2 : Hid (HashAt w2 gh []) := hh2
  have HB2 : Hid (Below w.heap.size w w2) := HB1.out.trans (hb2.mono HB1.out.size)
  have hgh0 : w.heap.size ≤ gh := Nat.le_trans HB1.out.size hgh
  have hgh1 := hh2.lt
  clear hgh hh2 hb2
  go_wp2_with fail
  refine (new_any w2).mono ?_
  rintro e w3 ⟨gg, rfl, hgg, hh3, hb3⟩
  have HG3 : Hid (HashAt w3 gg []) := hh3
  have HH3 : Hid (HashAt w3 gh []) := HH2.out.below hb3
  have HB3 : Hid (Below w.heap.size w w3) := HB2.out.trans (hb3.mono HB2.out.size)
  have hne : gh ≠ gg := by omega
  have hgg0 : w.heap.size ≤ gg := by omega
  clear hgg hh3 hb3 HH2 HB1 HB2
  go_wp2_with fail
  have HPS : Hid (Ps w (w3.alloc (.cells #[] 5)) gh gg (.slice (some ⟨w3.heap.size, 0, none⟩) 0 0) (cat (ps.take 0))) := by
    refine ⟨HB3.out.alloc HB3.out.size _, ?_, HH3.out.below ((Below.refl _ _).alloc (Nat.le_refl _) _), HG3.out.below ((Below.refl _ _).alloc (Nat.le_refl _) _)⟩
    have := own_mono (World.ownsRow_made w3 #[] 0 (Nat.le_refl _) (by unfold maxLen; omega) rfl) HB3.out.size
    exact this
  generalize w3.alloc (.cells #[] 5) = w4 at HPS ⊢
  go_loopw [5, 18] (fun u i wr => ∃ k : Nat, k ≤ K ∧ i = .int .i64 k ∧ Hid (Ps w wr gh gg u (cat (ps.take k)))) (fun _ i _ => K - (intOf i).toNat)
  case atStart => exact ⟨0, by omega, rfl, HPS⟩
  case round =>
    obtain ⟨k, hk, rfl, HS⟩ := hrel
    by_cases hlt : k < K
    · have hkp : k < ps.length := by rw [← HK.out]; exact hlt
      have HPW : Hid (Pl ps a wr) := HP.out.below HS.out.bel
      obtain ⟨g, o, rfl, hg, hc⟩ := HPW.out.cell k hkp
      have HPB : Hid (Bts ps[k].at_ ps[k].bs w ∧ (ps[k].at_ = none → ps[k].cap = 0)) := ⟨HP.out.bts k hkp, HP.out.nn k hkp⟩
      have HCT : Hid (cat (ps.take (k + 1)) = cat (ps.take k) ++ ps[k].bs) := cat_snoc ps k hkp
      have HCL : Hid ((cat (ps.take k)).length + ps[k].bs.length ≤ 1073741824) := by
        have h1 := cat_le ps (k + 1)
        rw [HCT.out, List.length_append] at h1
        have := HSM.out
        show _ ≤ _
        omega
      clear HPW
      generalize ps[k] = p at hc HPB HCT HCL
      obtain ⟨pa, pb, pc⟩ := p
      simp only [] at hc HPB HCT HCL
      obtain ⟨T, hT⟩ : ∃ T, T = cat (ps.take k) := ⟨_, rfl⟩
      rw [← hT] at HS HCT HCL
      clear hT
      obtain ⟨n, hnn⟩ : ∃ n, n = pb.length := ⟨_, rfl⟩
      have HNN : Hid (n = pb.length) := hnn
      rw [← hnn] at hc
      clear hnn
      have hnb : n ≤ 1073741824 := by have := HCL.out; have := HNN.out; omega
      have HCO : Hid (∀ v, Bts pa pb v → Calls Tryd.prog 10 #[.slice pa n pc] v fun e w' => ∃ u, e = .returned u ∧ w'.ownsRow v.heap.size 5 1 u n (cellsB pb) ∧ Below v.heap.size v w') := by
        rw [HNN.out]
        exact fun v hv => copied_any pa pb pc v hv (by rw [← HNN.out]; omega)
      go_wp2_with (at_builtin; refine wpList_append_keep rfl _ _ rfl w.heap.size _ T.length T rfl HS.out.own pa pb n pc rfl HNN.out (HPB.out.1.below HS.out.bel) HPB.out.2 (by have := HCL.out; have := HNN.out; omega) HS.out.bel.size ?_; intro u5 w5 hown5 hgr5; have HS5 : Hid (HashAt w5 gh T ∧ HashAt w5 gg T ∧ w5.ownsRow w.heap.size 5 1 u5 (T ++ pb).length (cellsB (T ++ pb)) ∧ Below w.heap.size w w5) := ⟨HS.out.hh.grown HS.out.own hgr5, HS.out.hg.grown HS.out.own hgr5, by rw [List.length_append, ← HNN.out]; exact hown5, HS.out.bel.grown hgr5 HS.out.bel.size (fun q hq => (HS.out.own.lt q hq).1)⟩; clear hown5 hgr5 hc HS)
      refine Calls.mono (HCO.out w5 (HPB.out.1.below HS5.out.2.2.2)) ?_
      rintro e w6 ⟨u6, rfl, hown6, hb6⟩
      obtain ⟨a6, c6, rfl, hbt6, hlen6, hn6, hc6, hlt6⟩ := own_bts hown6
      have HS6 : Hid (HashAt w6 gh T ∧ HashAt w6 gg T ∧ w6.ownsRow w.heap.size 5 1 u5 (T ++ pb).length (cellsB (T ++ pb)) ∧ Below w.heap.size w w6) := ⟨HS5.out.1.below hb6, HS5.out.2.1.below hb6, own_below HS5.out.2.2.1 hb6, HS5.out.2.2.2.trans (hb6.mono HS5.out.2.2.2.size)⟩
      have hwr := write_any gh T pb a6 c6 w6 HS6.out.1 hbt6 (fun ad e => by have h1 := (hlt6 ad e).1; have h2 := HS5.out.1.lt; omega) (by rw [hlen6]; exact hc6) (by omega) (HT.out.below HS6.out.2.2.2) (by have := HCL.out; omega)
      rw [hlen6] at hwr
      have HWR : Hid _ := hwr
      clear hown6 hb6 hbt6 hlen6 hn6 hc6 hlt6 hwr HS5
      go_wp2_with fail
      refine Calls.mono HWR.out ?_
      clear HWR
      rintro e w7 ⟨rfl, hh7, hb7⟩
      have HS7 : Hid (HashAt w7 gh (T ++ pb) ∧ HashAt w7 gg T ∧ w7.ownsRow w.heap.size 5 1 u5 (T ++ pb).length (cellsB (T ++ pb)) ∧ Below w.heap.size w w7) := ⟨hh7, HS6.out.2.1.but hb7 (Ne.symm hne), own_but HS6.out.2.2.1 HS6.out.1 hb7, HS6.out.2.2.2.trans (hb7.below hgh0 HS6.out.2.2.2.size)⟩
      clear hh7 hb7 HS6
      go_wp2_with fail
      refine Calls.mono (HCO.out w7 (HPB.out.1.below HS7.out.2.2.2)) ?_
      rintro e w8 ⟨u8, rfl, hown8, hb8⟩
      obtain ⟨a8, c8, rfl, hbt8, hlen8, hn8, hc8, hlt8⟩ := own_bts hown8
      have HS8 : Hid (HashAt w8 gh (T ++ pb) ∧ HashAt w8 gg T ∧ w8.ownsRow w.heap.size 5 1 u5 (T ++ pb).length (cellsB (T ++ pb)) ∧ Below w.heap.size w w8) := ⟨HS7.out.1.below hb8, HS7.out.2.1.below hb8, own_below HS7.out.2.2.1 hb8, HS7.out.2.2.2.trans (hb8.mono HS7.out.2.2.2.size)⟩
      have hwr := write_any gg T pb a8 c8 w8 HS8.out.2.1 hbt8 (fun ad e => by have h1 := (hlt8 ad e).1; have h2 := HS7.out.2.1.lt; omega) (by rw [hlen8]; exact hc8) (by omega) (HT.out.below HS8.out.2.2.2) (by have := HCL.out; omega)
      rw [hlen8] at hwr
      have HWR : Hid _ := hwr
      clear hown8 hb8 hbt8 hlen8 hn8 hc8 hlt8 hwr HS7
      go_wp2_with fail
      refine Calls.mono HWR.out ?_
      clear HWR
      rintro e w9 ⟨rfl, hh9, hb9⟩
      have HS9 : Hid (Ps w w9 gh gg u5 (T ++ pb)) := ⟨HS8.out.2.2.2.trans (hb9.below hgg0 HS8.out.2.2.2.size), own_but HS8.out.2.2.1 HS8.out.2.1 hb9, HS8.out.1.but hb9 hne, hh9⟩
      clear hh9 hb9 HS8
      have HTL : Hid ((T ++ pb).length ≤ 1073741824) := by rw [List.length_append]; exact HCL
      obtain ⟨T2, hT2⟩ : ∃ T2, T2 = T ++ pb := ⟨_, rfl⟩
      rw [← hT2] at HS9 HTL HCT
      clear hT2
      by_cases heven : k % 2 = 0
      · have heI : (k : Int) % 2 = 0 := by omega
        go_wp2_with fail
        refine (sum_any gg T2 w9 HS9.out.hg (HT.out.below HS9.out.bel) (by have := HTL.out; omega)).mono ?_
        rintro e w10 ⟨rfl, hb10⟩
        have HS10 : Hid (Ps w w10 gh gg u5 T2) := HS9.out.below hb10
        clear hb10 HS9
        obtain ⟨a10, c10, rfl, hbt10, hlen10, hn10, hc10, hlt10⟩ := own_bts HS10.out.own
        have HBT : Hid (Bts a10 T2 w10) := hbt10
        clear hbt10 hlen10 hn10 hc10 hlt10
        go_wp2_with fail
        refine (copied_any a10 T2 c10 w10 HBT.out (by have := HTL.out; omega)).mono ?_
        rintro e w11 ⟨u11, rfl, hown11, hb11⟩
        obtain ⟨a11, c11, rfl, hbt11, hlen11, hn11, hc11, hlt11⟩ := own_bts hown11
        have HS11 : Hid (Ps w w11 gh gg (.slice a10 T2.length c10) T2) := HS10.out.below hb11
        have HMD : Hid _ := md5_any a11 T2 c11 w11 hbt11 (fun ad e => (hlt11 ad e).2.1) hc11 (HT.out.below HS11.out.bel) (by have := HTL.out; omega)
        clear hown11 hb11 hbt11 hlen11 hn11 hc11 hlt11 HS10 HBT
        go_wp2_with fail
        refine Calls.mono HMD.out ?_
        clear HMD
        rintro e w12 ⟨rfl, hb12⟩
        have HS12 : Hid (Ps w w12 gh gg (.slice a10 T2.length c10) (cat (ps.take (k + 1)))) := by rw [HCT.out]; exact HS11.out.below hb12
        clear hb12 HS11
        have hneq := neq_row (md5 T2) (md5_length _)
        go_wp2
        clear hneq heI
        go_roundw
        case rel => exact ⟨k + 1, by omega, by go_num, HS12⟩
        case measure => simp [intOf]; omega
      · have heI : (k : Int) % 2 = 1 := by omega
        have HS12 : Hid (Ps w w9 gh gg u5 (cat (ps.take (k + 1)))) := by rw [HCT.out]; exact HS9
        go_wp2
        clear heI
        go_roundw
        case rel => exact ⟨k + 1, by omega, by go_num, HS12⟩
        case measure => simp [intOf]; omega
    · have HSE : Hid (Ps w wr gh gg u5 (cat ps)) := by
        have h := HS.out
        rw [List.take_of_length_le (by rw [← HK.out]; omega)] at h
        exact h
      clear HS
      obtain ⟨au, cu, rfl, hbtu, hlenu, hnu, hcu, hltu⟩ := own_bts HSE.out.own
      have HBT : Hid (Bts au (cat ps) wr) := hbtu
      clear hbtu hlenu hnu hcu hltu
      obtain ⟨T, hT⟩ : ∃ T, T = cat ps := ⟨_, rfl⟩
      rw [← hT] at HSE HBT HSM
      rw [← hT]
      clear hT
      obtain ⟨N, hN⟩ : ∃ N, N = T.length := ⟨_, rfl⟩
      have HN : Hid (N = T.length) := hN
      have hNs : N ≤ 1073741824 := by rw [hN]; exact HSM.out
      rw [← hN] at HSE
      rw [← hN]
      have hcop := copied_any au T cu wr HBT.out (by rw [← hN]; omega)
      rw [← hN] at hcop
      have HCOP : Hid _ := hcop
      clear hN hcop
      go_wp2_with fail
      refine Calls.mono HCOP.out ?_
      clear HCOP
      rintro e v1 ⟨u1, rfl, hown1, hb1⟩
      obtain ⟨a1, c1, rfl, hbt1, hlen1, hn1, hc1, hlt1⟩ := own_bts hown1
      have HS1 : Hid (Ps w v1 gh gg (.slice au N cu) T) := HSE.out.below hb1
      have hmd := md5_any a1 T c1 v1 hbt1 (fun ad e => (hlt1 ad e).2.1) (by rw [hlen1]; exact hc1) (HT.out.below HS1.out.bel) (by rw [hlen1]; omega)
      rw [hlen1] at hmd
      have HMD : Hid _ := hmd
      clear hown1 hb1 hbt1 hlen1 hn1 hc1 hlt1 hmd HSE HBT
      go_wp2_with fail
      refine Calls.mono HMD.out ?_
      clear HMD
      rintro e v2 ⟨rfl, hb2⟩
      have HS2 : Hid (Ps w v2 gh gg (.slice au N cu) T) := HS1.out.below hb2
      clear hb2 HS1
      go_wp2_with (refine wpList_store_row rfl 23 _ _ rfl v2.heap.size rfl _ (rowV (md5 T)) rfl 23 (Lies.new v2 _ _) (infoMd T) (by rw [rowV_size, md5_length]; rfl) (rowV_one _) rfl ?_; refine wpList_gen (fun v3 => Hid (Lies v3 v2.heap.size (rowV (md5 T)) 23) ∧ Hid (Ps w v3 gh gg (.slice au N cu) T)) ⟨(Lies.new v2 _ _).row _, HS2.out.below (below_row ((Below.refl _ _).alloc (Nat.le_refl _) _) (Nat.le_refl _) _)⟩ ?_; rintro v3 ⟨HL3, HS3⟩)
      have HS : Hid (∀ w', Below v3.heap.size v3 w' → w'.rangeAt v2.heap.size 0 (rowV (md5 T)).toList) := fun w' hb => (HL3.out.below hb HL3.out.lt).range
      have heq := eql_row (md5 T) (md5_length T)
      refine wp_region_late (fun w' => w'.rangeAt v2.heap.size 0 (rowV (md5 T)).toList) 23 (by kernel_rfl) (HS.out _ (Below.refl _ v3).drew) (fun hHeld => ?_)
      refine wpAnyE_take (i := 0) (d := some 53) (v := ?_) rfl (by kernel_rfl) (by kernel_rfl) (by kernel_rfl) (by kernel_rfl) (fun _ _ _ h => h) rfl rfl ?hy (by assumption) ?_
      case hy => (intro w' hSw; (try dsimp only at hSw); go_simp <;> (try with_reducible rfl))
      simp only [Act.put, List.setIfInBounds_toArray, List.set_cons_zero, List.set_cons_succ]
      refine wpAnyE_take (i := 2) (d := some 55) (v := .agg (rowV (md5 T))) rfl (by kernel_rfl) (by kernel_rfl) (by kernel_rfl) (by kernel_rfl) (fun _ _ _ h => h) rfl rfl ?hy (by assumption) ?_
      case hy => exact fun w' hSw => exec_load 23 _ rfl v2.heap.size 0 rfl (rowV (md5 T)) _ hSw Tryd.underlying23 rfl (infoDl _ (md5_length T))
      simp only [Act.put, List.setIfInBounds_toArray, List.set_cons_zero, List.set_cons_succ]
      have hbv3d : Below v3.heap.size v3 v3.drew := (Below.refl _ v3).drew
      refine wpAnyE_one (i := 1) (by kernel_rfl) rfl rfl ?_
      go_simp
      refine (sum_any gh T _ (HS3.out.hh.below hbv3d) (HT.out.below (HS3.out.bel.trans (hbv3d.mono HS3.out.bel.size))) (by have := HSM.out; omega)).mono ?_
      rintro e v4 ⟨rfl, hb0⟩
      have hbv4 : Below v3.heap.size v3 v4 := hbv3d.trans (hb0.mono hbv3d.size)
      clear hb0
      have hHv4 := HS.out _ hbv4
      refine ⟨hHv4, ?_⟩
      refine wpAnyE_take (i := 3) (d := some 56) (v := ?_) rfl (by kernel_rfl) (by kernel_rfl) (by kernel_rfl) (by kernel_rfl) (fun _ _ _ h => h) rfl rfl ?hy (by assumption) ?_
      case hy => (intro w' hSw; (try dsimp only at hSw); go_simp <;> (try with_reducible rfl))
      simp only [Act.put, List.setIfInBounds_toArray, List.set_cons_zero, List.set_cons_succ]
      refine wpAnyE_take (i := 4) (d := some 57) (v := ?_) rfl (by kernel_rfl) (by kernel_rfl) (by kernel_rfl) (by kernel_rfl) (fun _ _ _ h => h) rfl rfl ?hy (by assumption) ?_
      case hy => (intro w' hSw; (try dsimp only at hSw); go_simp <;> (try with_reducible rfl))
      simp only [Act.put, List.setIfInBounds_toArray, List.set_cons_zero, List.set_cons_succ]
      refine wpAnyE_takeG (i := 5) (d := some 58) (v := ?_) rfl (by kernel_rfl) (by kernel_rfl) (by kernel_rfl) (by kernel_rfl) (fun _ _ _ h => h) rfl rfl ?hy (by assumption) ?_
      case hy => (intro w' hSw; (try dsimp only at hSw); go_simp <;> (try with_reducible rfl))
      simp only [Act.put, List.setIfInBounds_toArray, List.set_cons_zero, List.set_cons_succ]
      refine wpAnyE_takeG (i := 7) (d := some 60) (v := .agg (rowV (md5 T))) rfl (by kernel_rfl) (by kernel_rfl) (by kernel_rfl) (by kernel_rfl) (fun _ _ _ h => h) rfl rfl ?hy (by assumption) ?_
      case hy => exact fun w' hSw => exec_load 23 _ rfl v2.heap.size 0 rfl (rowV (md5 T)) _ hSw Tryd.underlying23 rfl (infoDl _ (md5_length T))
      simp only [Act.put, List.setIfInBounds_toArray, List.set_cons_zero, List.set_cons_succ]
      refine wpAnyE_oneG (i := 6) (by kernel_rfl) rfl rfl ?_
      go_simp
      refine (sum_any gg T _ (HS3.out.hg.below hbv4) (HT.out.below (HS3.out.bel.trans (hbv4.mono HS3.out.bel.size))) (by have := HSM.out; omega)).mono ?_
      rintro e v5 ⟨rfl, hb0⟩
      have hbv5 : Below v3.heap.size v3 v5 := hbv4.trans (hb0.mono hbv4.size)
      clear hb0
      have hHv5 := HS.out _ hbv5
      refine ⟨hHv5, ?_⟩
      refine wpAnyE_takeG (i := 8) (d := some 61) (v := ?_) rfl (by kernel_rfl) (by kernel_rfl) (by kernel_rfl) (by kernel_rfl) (fun _ _ _ h => h) rfl rfl ?hy (by assumption) ?_
      case hy => (intro w' hSw; (try dsimp only at hSw); go_simp <;> (try with_reducible rfl))
      simp only [Act.put, List.setIfInBounds_toArray, List.set_cons_zero, List.set_cons_succ]
      refine wpAnyE_take (i := 9) (d := some 62) (v := ?_) rfl (by kernel_rfl) (by kernel_rfl) (by kernel_rfl) (by kernel_rfl) (fun _ _ _ h => h) rfl rfl ?hy (by assumption) ?_
      case hy => (intro w' hSw; (try dsimp only at hSw); go_simp <;> (try with_reducible rfl))
      simp only [Act.put, List.setIfInBounds_toArray, List.set_cons_zero, List.set_cons_succ]
      refine wpAnyE_take (i := 10) (d := some 63) (v := ?_) rfl (by kernel_rfl) (by kernel_rfl) (by kernel_rfl) (by kernel_rfl) (fun _ _ _ h => h) rfl rfl ?hy (by assumption) ?_
      case hy => (intro w' hSw; (try dsimp only at hSw); go_simp <;> (try with_reducible rfl))
      simp only [Act.put, List.setIfInBounds_toArray, List.set_cons_zero, List.set_cons_succ]
      refine wpAnyE_takeG (i := 11) (d := some 64) (v := ?_) rfl (by kernel_rfl) (by kernel_rfl) (by kernel_rfl) (by kernel_rfl) (fun _ _ _ h => h) rfl rfl ?hy (by assumption) ?_
      case hy => (intro w' hSw; (try dsimp only at hSw); go_simp <;> (try with_reducible rfl))
      simp only [Act.put, List.setIfInBounds_toArray, List.set_cons_zero, List.set_cons_succ]
      refine wpAnyE_takeG (i := 13) (d := some 66) (v := ?_) rfl (by kernel_rfl) (by kernel_rfl) (by kernel_rfl) (by kernel_rfl) (fun _ _ _ h => h) rfl rfl ?hy (by assumption) ?_
      case hy => (intro w' hSw; (try dsimp only at hSw); go_simp <;> (try with_reducible rfl))
      simp only [Act.put, List.setIfInBounds_toArray, List.set_cons_zero, List.set_cons_succ]
      refine wpAnyE_takeG (i := 14) (d := some 67) (v := ?_) rfl (by kernel_rfl) (by kernel_rfl) (by kernel_rfl) (by kernel_rfl) (fun _ _ _ h => h) rfl rfl ?hy (by assumption) ?_
      case hy => (intro w' hSw; (try dsimp only at hSw); go_simp <;> (try with_reducible rfl))
      simp only [Act.put, List.setIfInBounds_toArray, List.set_cons_zero, List.set_cons_succ]
      refine wpAnyE_oneG (i := 12) (by kernel_rfl) rfl rfl ?_
      go_simp
      refine (len_any gh T v5 (HS3.out.hh.below hbv5)).mono ?_
      rintro e v6 ⟨rfl, hw⟩
      subst hw
      rw [← HN.out]
      try refine ⟨hHv5, ?_⟩
      refine wpAnyE_takeG (i := 15) (d := some 68) (v := ?_) rfl (by kernel_rfl) (by kernel_rfl) (by kernel_rfl) (by kernel_rfl) (fun _ _ _ h => h) rfl rfl ?hy (by assumption) ?_
      case hy => (intro w' hSw; (try dsimp only at hSw); go_simp <;> (try with_reducible rfl))
      simp only [Act.put, List.setIfInBounds_toArray, List.set_cons_zero, List.set_cons_succ]
      refine wpAnyE_take (i := 16) (d := some 69) (v := ?_) rfl (by kernel_rfl) (by kernel_rfl) (by kernel_rfl) (by kernel_rfl) (fun _ _ _ h => h) rfl rfl ?hy (by assumption) ?_
      case hy => (intro w' hSw; (try dsimp only at hSw); go_simp <;> (try with_reducible rfl))
      simp only [Act.put, List.setIfInBounds_toArray, List.set_cons_zero, List.set_cons_succ]
      refine wpAnyE_take (i := 17) (d := some 70) (v := ?_) rfl (by kernel_rfl) (by kernel_rfl) (by kernel_rfl) (by kernel_rfl) (fun _ _ _ h => h) rfl rfl ?hy (by assumption) ?_
      case hy => (intro w' hSw; (try dsimp only at hSw); go_simp <;> (try with_reducible rfl))
      simp only [Act.put, List.setIfInBounds_toArray, List.set_cons_zero, List.set_cons_succ]
      refine wpAnyE_takeG (i := 18) (d := some 71) (v := ?_) rfl (by kernel_rfl) (by kernel_rfl) (by kernel_rfl) (by kernel_rfl) (fun _ _ _ h => h) rfl rfl ?hy (by assumption) ?_
      case hy => (intro w' hSw; (try dsimp only at hSw); go_simp <;> (try with_reducible rfl))
      simp only [Act.put, List.setIfInBounds_toArray, List.set_cons_zero, List.set_cons_succ]
      refine wpAnyE_takeG (i := 20) (d := some 73) (v := .agg (rowV (md5 T))) rfl (by kernel_rfl) (by kernel_rfl) (by kernel_rfl) (by kernel_rfl) (fun _ _ _ h => h) rfl rfl ?hy (by assumption) ?_
      case hy => exact fun w' hSw => exec_load 23 _ rfl v2.heap.size 0 rfl (rowV (md5 T)) _ hSw Tryd.underlying23 rfl (infoDl _ (md5_length T))
      simp only [Act.put, List.setIfInBounds_toArray, List.set_cons_zero, List.set_cons_succ]
      refine wpAnyE_oneG (i := 19) (by kernel_rfl) rfl rfl ?_
      go_simp
      refine (sum_any gh T _ (HS3.out.hh.below hbv5) (HT.out.below (HS3.out.bel.trans (hbv5.mono HS3.out.bel.size))) (by have := HSM.out; omega)).mono ?_
      rintro e v7 ⟨rfl, hb0⟩
      have hbv7 : Below v3.heap.size v3 v7 := hbv5.trans (hb0.mono hbv5.size)
      clear hb0
      have hHv7 := HS.out _ hbv7
      refine ⟨hHv7, ?_⟩
      refine wpAnyE_takeG (i := 21) (d := some 74) (v := ?_) rfl (by kernel_rfl) (by kernel_rfl) (by kernel_rfl) (by kernel_rfl) (fun _ _ _ h => h) rfl rfl ?hy (by assumption) ?_
      case hy => (intro w' hSw; (try dsimp only at hSw); go_simp <;> (try with_reducible rfl))
      simp only [Act.put, List.setIfInBounds_toArray, List.set_cons_zero, List.set_cons_succ]
      refine wpAnyE_take (i := 22) (d := some 75) (v := ?_) rfl (by kernel_rfl) (by kernel_rfl) (by kernel_rfl) (by kernel_rfl) (fun _ _ _ h => h) rfl rfl ?hy (by assumption) ?_
      case hy => (intro w' hSw; (try dsimp only at hSw); go_simp <;> (try with_reducible rfl))
      simp only [Act.put, List.setIfInBounds_toArray, List.set_cons_zero, List.set_cons_succ]
      refine wpAnyE_one (i := 23) (by kernel_rfl) rfl rfl ?_
      go_simp
      refine wpAnyE_done (by kernel_rfl) ?_ _
      go_wp2
      go_ret
      exact ⟨rfl, HS3.out.bel.trans (hbv7.mono HS3.out.bel.size)⟩

theorem contract (H : Type) (enc : TypeId × Value → H) (W : World) (base : Nat) (args : Array Value) (ds gs : List (DataW H)) (before : List MemPlace)
    (hval : ∀ (j : Nat) t v, Tryd.f7.params[j]? = some t → args[j]? = some v → Value.okWide Tryd.prog W .any base t v)
    (hW : DataW.Whole enc Tryd.prog Tryd.f7.params.toList Rows.hashPiecesSpec.vars false W args.toList ds gs before)
    (hsz : (DataW.weightsEach Tryd.prog (Tryd.f7.params.toList ++ (OpenSpec.ofChange Rows.hashPiecesSpec).bare.plain.varTypes Tryd.prog) (ds ++ gs)).all (· ≤ reachBytes) = true)
    (hL : laidMetH Tryd.prog Rows.hashPiecesRow.laid W) :
    Calls Tryd.prog 7 args W fun e W' => ∃ v, e = .returned v ∧ Rows.hashPiecesSpec.post enc Tryd.prog Tryd.f7 false true false false W args v W' := by
  have hW' := hW
  obtain ⟨p, q, hA0, hV, rfl, hfz, hnd⟩ := hW
  have hA : DataW.TrodAll enc Tryd.prog W 0 (fun _ => true) true Tryd.f7.params.toList args.toList ds p := hA0
  rw [Tryd.params7] at hA hval hsz
  obtain ⟨v0, vs0, d0, ds0, p0, q0, hargs, rfl, rfl, h0, r0⟩ := trodAll_cons hA
  obtain ⟨rfl, rfl, rfl⟩ := trodAll_nil r0
  obtain rfl : args = #[v0] := by cases args; simp_all
  obtain ⟨rfl, rfl⟩ := trodVars_none hV
  have k0 := h0
  have lt0 : ∀ x ∈ p0, x.block < W.heap.size := by obtain ⟨m, hm⟩ := k0; exact DataW.trod_lt m _ _ _ hm
  obtain ⟨a0, len0, cap0, rfl⟩ := okWide_slice Tryd.underlying53 (hval 0 53 v0 rfl rfl)
  obtain ⟨l0, e0, row0, s0⟩ := open_lists hsz h0
  subst e0
  clear hA0
  refine (walk a0 l0 cap0 row0 s0 (tabs_of hL)).mono fun e W' ⟨he, bel⟩ => ?_
  subst he
  exact ⟨_, rfl, _, _, _, [], _, [], hW', trodAll_mk1 (shut_bool Tryd.underlying4 _), trodAll_cons_mk (Below.trod laidOut (by kernel_rfl) (of_decide_eq_true (by kernel_rfl)) k0 bel lt0) trodAll_mk0, rfl, bel.frame _, fun h => by cases h⟩

theorem laid_met (os : Os) : laidMet Tryd.prog Rows.hashPiecesRow.laid ((laidWorld os).forCall (fun _ _ => 0) ⟨#[], #[.slice none 0 0], []⟩).memory :=
  laidMet_of_run' 8 (by kernel_rfl) (by kernel_rfl)
theorem reads (os : Os) {H : Type} (enc : TypeId × Value → H) : ∃ places, DataW.whole enc Tryd.prog ((laidWorld os).forCall (fun _ _ => 0) ⟨#[], #[.slice none 0 0], []⟩).memory Tryd.f7.params.toList Rows.hashPiecesSpec.vars false #[Value.slice none 0 0].toList 8 = some ([.nil], [], places) :=
  ⟨[], by kernel_rfl⟩

set_option maxRecDepth 100000 in
theorem lifted (os : Os) (started : os.Started) (H : Type) (enc : TypeId × Value → H) (F : Stop.Interp) :
    ReturnsInHanded {} Tryd.checked os 7 .any ((OpenSpec.ofChange Rows.hashPiecesSpec).preRow enc Tryd.prog Tryd.f7 Rows.hashPiecesRow.domain false Rows.hashPiecesRow.laid) (((OpenSpec.ofChange Rows.hashPiecesSpec).at F).post enc Tryd.prog Tryd.f7 false true false false) := by
  obtain ⟨places, hx⟩ := reads os enc
  refine returnsInHanded_of_row (C := Tryd.checked) (s := OpenSpec.ofChange Rows.hashPiecesSpec) own started (by kernel_rfl) Tryd.func7
    (witness_row_at (enc := enc) (C := Tryd.checked) false (laidWorld os) #[.slice none 0 0] rfl (by kernel_rfl) (by kernel_rfl) (by kernel_rfl)
      (OpenSpec.preRow_of_cond 8 hx (by kernel_rfl) (fun k hk => by cases hk) (by kernel_rfl) (laid_met os))) ?_
  intro W base args ds gs before hval hW _ _ hsz hL _ _
  exact contract H enc W base args ds gs before hval hW hsz hL

theorem said : Rows.HashPiecesSaid :=
  OpenClaim.holds_of_cond 7 Tryd.f7 rfl rfl rfl rfl rfl rfl rfl ⟨rfl, rfl, rfl, rfl, rfl⟩ rfl rfl rfl rfl rfl (by kernel_rfl) Tryd.func7 (by kernel_rfl)
    (of_decide_eq_true (by kernel_rfl)) (by unfold Func.isWrapper; first | (rw [if_pos (by decide +kernel)]; kernel_rfl) | (rw [if_neg (by decide +kernel)]; exact ⟨rfl, rfl⟩))
    (fun os started H enc _ F => by rw [OpenClaim.pre_eq_preRow]; exact lifted os started H enc F)

/-- No parameter wants a stand-in; the program's own looks are off. -/
theorem plain (f : FuncId) (fn : Func) (hf : Tryd.pinned.checked.prog.funcNamed "posthorn/posthornlaw03.HashPieces" = some f) (hfn : Tryd.pinned.checked.prog.funcs[f]? = some fn) :
    false = Tryd.pinned.checked.prog.looks [] ∧ ∀ (j : Nat) t, fn.params[j]? = some t → Tryd.pinned.checked.prog.wantsStandIn t = false := by
  obtain rfl : f = 7 := Option.some.inj ((show Tryd.prog.funcNamed "posthorn/posthornlaw03.HashPieces" = some 7 by kernel_rfl).symm.trans hf) |>.symm
  obtain rfl : fn = Tryd.f7 := (Option.some.inj (Tryd.func7.symm.trans hfn)).symm
  refine ⟨by kernel_rfl, fun j t ht => ?_⟩
  rw [Tryd.params7] at ht
  have hm : t ∈ [53] := by simpa using Array.mem_of_getElem? ht
  have hall : ([53].all fun u => !Tryd.prog.wantsStandIn u) = true := by kernel_rfl
  exact (show Tryd.prog.wantsStandIn t = false by simpa using List.all_eq_true.1 hall t hm)

/-- The card. -/
theorem card : Rows.HashPiecesCardSaid :=
  Claim7.holds_tied_plain_at .later [] _ _ _ _ said (fun _ h => by cases h) (by kernel_rfl) (fun _ h => by cases h) hashPieces_row_tie rfl ⟨rfl, rfl⟩ (by kernel_rfl) rfl plain (by kernel_rfl)
end Go.Proofs.YtlkflikhbkhpeaaDoor.hashPieces
namespace Go.Proofs.YtlkflikhbkhpeaaDoor
theorem hashPieces_card : Rows.HashPiecesCardSaid := hashPieces.card
#print axioms hashPieces_card
end Go.Proofs.YtlkflikhbkhpeaaDoor
