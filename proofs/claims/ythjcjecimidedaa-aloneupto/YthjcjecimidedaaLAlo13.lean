/-
  P13.7: behind any line with its line end, bad or not, the next bytes are read as by a new liner; proved for inputs of bulk at most 1048576.
-/
import Derived.Test.YthjcjecimidedaaTe13
import Derived.Test.YthjcjecimidedaaAlP
import Derived.Test.YthjcjecimidedaaOpenN
import Derived.Test.YthjcjecimidedaaRows
import Derived.ProofKit
import Derived.ChangeMaps5
import Derived.OpenShut
import Derived.ShutString
import Derived.ChangeOld
import Derived.SizedLaws
namespace Go.Proofs.Ythjcjecimidedaa.lineAlone
open Go.ChangeShapes Go.WideShapes Go.ChangeAt Go.RowKit

set_option maxHeartbeats 8000000 in
set_option maxRecDepth 20000 in
theorem walk {w : World} (mo : Int) (hmo : -9223372036854775808 ≤ mo ∧ mo ≤ 9223372036854775807) (a1 : Option Addr) (l1 : List UInt8) (cap1 : Nat) (hr1 : Bts a1 l1 w) (hl1 : l1.length ≤ 1048576) (_ : l1.length ≤ cap1) (hn1 : a1 = none → cap1 = 0) (_ : cap1 ≤ 9223372036854775807) (a2 : Option Addr) (l2 : List UInt8) (cap2 : Nat) (hr2 : Bts a2 l2 w) (hl2 : l2.length ≤ 1048576) (hc2 : l2.length ≤ cap2) (hn2 : a2 = none → cap2 = 0) (hm2 : cap2 ≤ 9223372036854775807) :
    Calls Try.prog 6 #[.int .i64 mo, .slice a1 l1.length cap1, .slice a2 l2.length cap2] w fun e w' => e = .returned (.bool true) ∧ Below w.heap.size w w' := by
  have HR1 : Hid (Bts a1 l1 w) := hr1
  have HR2 : Hid (Bts a2 l2 w) := hr2
  have HN1 : Hid (a1 = none → cap1 = 0) := hn1
  have HN2 : Hid (a2 = none → cap2 = 0) := hn2
  have HWK := wakes_any w
  have HBD : Hid (∀ w', Calls Try.prog 18 #[.int .i64 mo] w' fun e w'' => (∃ m : Nat, e = .returned (.int .i64 (m : Int)) ∧ 1 ≤ m ∧ m ≤ 64) ∧ w'' = w') := fun w' => bound_any mo hmo.1 hmo.2 w'
  clear hr1 hr2 hmo hn1 hn2
  go_enter Try.func6, Try.ntmps6
  go_wp2_with fail
  refine HWK.mono ?_
  rintro e w1 ⟨rfl, hB1⟩
  have HB1 : Hid (Below w.heap.size w w1) := hB1
  clear hB1 HWK
  go_wp2_with fail
  refine (HBD.out w1).mono ?_
  rintro e w2 ⟨⟨m, rfl, hm1', hm2'⟩, rfl⟩
  clear HBD
  have HO : Hid ((w2.alloc (.cells #[] 5)).ownsRow w2.heap.size 5 1 (.slice (some ⟨w2.heap.size, 0, none⟩) 0 0) 0 (cellsB [])) := ⟨rfl, .inr ⟨w2.heap.size, 0, #[], rfl, Nat.le_refl _, heap_alloc_new w2 _, Nat.le_refl _, Nat.zero_le _, rfl, rfl⟩⟩
  go_wp2_with (refine wpList_append_keep rfl _ _ rfl w2.heap.size (.slice (some ⟨w2.heap.size, 0, none⟩) 0 0) 0 [] rfl HO.out a1 l1 _ cap1 rfl rfl ((HR1.out.below HB1.out).below ((Below.refl _ _).alloc (Nat.le_refl _) _)) HN1.out (by omega) (by simp) ?_; intro v3 w3 HO3 HG3; apply Hid.out)
  unfold Hid
  rw [Nat.zero_add, List.nil_append] at HO3
  have HB3 : Hid (Below w2.heap.size w2 w3) := ((Below.refl _ w2).alloc (Nat.le_refl _) _).grown HG3 (by simp) (fun j e => by cases e; exact Nat.le_refl _)
  have HP3 : Hid (w3.ownsRow w2.heap.size 5 1 v3 l1.length (cellsB l1)) := HO3
  obtain ⟨a3, c3, hv3⟩ := own_shape HO3
  subst hv3
  clear HO3 HG3 HO
  obtain ⟨W4, hW4⟩ : ∃ W4, W4 = w3.alloc (.cells #[.int .u8 120, .int .u8 13, .int .u8 10] 5) := ⟨_, rfl⟩
  have hb4 : Below w3.heap.size w3 W4 := by subst hW4; exact (Below.refl _ _).alloc (Nat.le_refl _) _
  have HP4 : Hid (W4.ownsRow w2.heap.size 5 1 (.slice a3 l1.length c3) l1.length (cellsB l1)) := own_below HP3.out hb4
  have HB4 : Hid (Below w2.heap.size w2 W4) := HB3.out.trans (hb4.mono HB3.out.size)
  have HX4 : Hid (Bts (some ⟨w3.heap.size, 0, none⟩) [120, 13, 10] W4) := by subst hW4; exact lit_row w3 [120, 13, 10] (0, 0)
  have HWW : Hid (w3.alloc (.cells #[.int .u8 120, .int .u8 13, .int .u8 10] 5) = W4) := hW4.symm
  clear hW4 hb4 HP3 HB3
  go_wp2_with (rw [HWW.out]; refine wpList_append_keep rfl _ _ rfl w2.heap.size (.slice a3 l1.length c3) l1.length l1 rfl HP4.out (some ⟨w3.heap.size, 0, none⟩) [120, 13, 10] 3 3 rfl rfl HX4.out (fun e => by cases e) (by omega) HB4.out.size ?_; intro v5 w5 HO5 HG5; apply Hid.out)
  unfold Hid
  have HB5 : Hid (Below w2.heap.size w2 w5) := HB4.out.grown HG5 HB4.out.size (fun j e => (HP4.out.lt j e).1)
  have HP5 : Hid (w5.ownsRow w2.heap.size 5 1 v5 (l1.length + 3) (cellsB (l1 ++ [120, 13, 10]))) := HO5
  have HX5 : Hid (Below w.heap.size w w5) := HB1.out.trans (HB5.out.mono HB1.out.size)
  clear HO5 HG5 HP4 HB4 HX4 HWW HB1
  obtain ⟨L, hL⟩ : ∃ L, L = l1 ++ [120, 13, 10] := ⟨_, rfl⟩
  have hLl : L.length = l1.length + 3 := by rw [hL, List.length_append]; rfl
  have HP6 : Hid (w5.ownsRow w2.heap.size 5 1 v5 L.length (cellsB L)) := by rw [hLl, hL]; exact HP5.out
  obtain ⟨xs, hx0, hx1, hx2⟩ := rn_ahead m l1
  rw [← hL] at hx1 hx2
  have HX1 : Hid (rn m [] L = (xs, [])) := hx1
  have HX2 : Hid (rn m [] (L ++ l2) = (xs ++ (rn m [] l2).1, (rn m [] l2).2)) := hx2 l2
  have hLm : L.length ≤ 1048579 := by omega
  have hxl : xs.length ≤ 1048579 := by
    have := (rn_len m L []).1
    rw [HX1.out] at this
    exact Nat.le_trans this hLm
  rw [← hLl] at HP5
  clear hx1 hx2 hLl hL HP5
  obtain ⟨a5, c5, hv5, hbt5, -, hnc5, hcc5, hbl5⟩ := own_bts HP6.out
  subst hv5
  have HT5 : Hid (Bts a5 L w5) := hbt5
  have HN5 : Hid (a5 = none → c5 = 0) := hnc5
  have HC5 : Hid (c5 ≤ 9223372036854775807) := own_cap HP6.out
  clear hbt5 hnc5 hbl5
  go_wp2_with fail
  refine (all_any m hm1' hm2' a5 L c5 none [] 0 w5 HT5.out (by omega) hcc5 HC5.out ⟨.inl rfl, fun z hz => by cases hz⟩ (by simp)).mono ?_
  rintro e w6 ⟨v6, rfl, hO6, hV6, hB6⟩
  rw [HX1.out] at hO6 ⊢
  have HO6 : Hid (Ow celT 51 4 w6 v6 xs) := hO6
  have HB6 : Hid (Below w.heap.size w w6) := HX5.out.trans (hB6.mono HX5.out.size)
  have HT6 : Hid (Bts a5 L w6) := HT5.out.below hB6
  obtain ⟨ax, cx, hvx, hax⟩ := HO6.out.shape
  subst hvx
  have HAX : Hid (xs ≠ [] → ∃ g, ax = some ⟨g, 0, none⟩) := hax
  clear hO6 hV6 hB6 HX5 HB5 HP6 HT5 HX1 hax
  have HO : Hid ((w6.alloc (.cells #[] 5)).ownsRow w6.heap.size 5 1 (.slice (some ⟨w6.heap.size, 0, none⟩) 0 0) 0 (cellsB [])) := ⟨rfl, .inr ⟨w6.heap.size, 0, #[], rfl, Nat.le_refl _, heap_alloc_new w6 _, Nat.le_refl _, Nat.zero_le _, rfl, rfl⟩⟩
  go_wp2_with (refine wpList_append_keep rfl _ _ rfl w6.heap.size (.slice (some ⟨w6.heap.size, 0, none⟩) 0 0) 0 [] rfl HO.out a5 L _ c5 rfl rfl (HT6.out.below ((Below.refl _ _).alloc (Nat.le_refl _) _)) HN5.out (by omega) (by simp) ?_; intro v7 w7 HO7 HG7; apply Hid.out)
  unfold Hid
  rw [Nat.zero_add, List.nil_append] at HO7
  have HB7 : Hid (Below w6.heap.size w6 w7) := ((Below.refl _ w6).alloc (Nat.le_refl _) _).grown HG7 (by simp) (fun j e => by cases e; exact Nat.le_refl _)
  have HP7 : Hid (w7.ownsRow w6.heap.size 5 1 v7 L.length (cellsB L)) := HO7
  have HR7 : Hid (Bts a2 l2 w7) := HR2.out.below (HB6.out.trans (HB7.out.mono HB6.out.size))
  obtain ⟨a7, c7, hv7⟩ := own_shape HO7
  subst hv7
  clear HO7 HG7 HO
  go_wp2_with (refine wpList_append_keep rfl _ _ rfl w6.heap.size (.slice a7 L.length c7) L.length L rfl HP7.out a2 l2 _ cap2 rfl rfl HR7.out HN2.out (by omega) HB7.out.size ?_; intro v8 w8 HO8 HG8; apply Hid.out)
  unfold Hid
  have HB8 : Hid (Below w6.heap.size w6 w8) := HB7.out.grown HG8 HB7.out.size (fun j e => (HP7.out.lt j e).1)
  have HB9 : Hid (Below w.heap.size w w8) := HB6.out.trans (HB8.out.mono HB6.out.size)
  obtain ⟨M, hM⟩ : ∃ M, M = L ++ l2 := ⟨_, rfl⟩
  have hMl : M.length = L.length + l2.length := by rw [hM, List.length_append]
  have HP9 : Hid (w8.ownsRow w6.heap.size 5 1 v8 M.length (cellsB M)) := by rw [hMl, hM]; exact HO8
  have HX9 : Hid (rn m [] M = (xs ++ (rn m [] l2).1, (rn m [] l2).2)) := by rw [hM]; exact HX2.out
  have hMm : M.length ≤ 2097160 := by omega
  have HO9 : Hid (Ow celT 51 4 w8 (.slice ax xs.length cx) xs) := HO6.out.below HB8.out
  clear HO8 HG8 hM HB7 HP7 HR7 HB6 HT6 HO6 HX2 HB8
  obtain ⟨a9, c9, hv9, hbt9, -, -, hcc9, -⟩ := own_bts HP9.out
  subst hv9
  have HT9 : Hid (Bts a9 M w8) := hbt9
  have HC9 : Hid (c9 ≤ 9223372036854775807) := own_cap HP9.out
  clear hbt9 hMl
  go_wp2_with fail
  refine (all_any m hm1' hm2' a9 M c9 none [] 0 w8 HT9.out (by omega) hcc9 HC9.out ⟨.inl rfl, fun z hz => by cases hz⟩ (by simp)).mono ?_
  rintro e w10 ⟨v10, rfl, hO10, hV10, hB10⟩
  rw [HX9.out] at hO10 ⊢
  have HO10 : Hid (Ow celT 51 4 w10 v10 (xs ++ (rn m [] l2).1)) := hO10
  have HO11 : Hid (Ow celT 51 4 w10 (.slice ax xs.length cx) xs) := HO9.out.below hB10
  have HB10 : Hid (Below w.heap.size w w10) := HB9.out.trans (hB10.mono HB9.out.size)
  clear hO10 hV10 hB10 HO9 HB9 HT9 HP9 HX9
  go_wp2_with fail
  refine (all_any m hm1' hm2' a2 l2 cap2 none [] 0 w10 (HR2.out.below HB10.out) (by omega) hc2 hm2 ⟨.inl rfl, fun z hz => by cases hz⟩ (by simp)).mono ?_
  rintro e w11 ⟨v11, rfl, hO12, hV12, hB12⟩
  have HO12 : Hid (Ow celT 51 4 w11 v11 (rn m [] l2).1) := hO12
  have HO13 : Hid (Ow celT 51 4 w11 v10 (xs ++ (rn m [] l2).1)) := HO10.out.below hB12
  have HO14 : Hid (Ow celT 51 4 w11 (.slice ax xs.length cx) xs) := HO11.out.below hB12
  have HB12 : Hid (Below w.heap.size w w11) := HB10.out.trans (hB12.mono HB10.out.size)
  have hzl := (rn_len m l2 []).1
  clear hO12 hV12 hB12 HO10 HO11 HB10 HR2
  generalize (rn m [] l2).1 = zs at *
  generalize (rn m [] l2).2.length = sn at *
  obtain ⟨az, cz, rfl, haz⟩ := HO12.out.shape
  obtain ⟨ay, cy, rfl, hay⟩ := HO13.out.shape
  have HAY : Hid (xs ++ zs ≠ [] → ∃ g, ay = some ⟨g, 0, none⟩) := hay
  have HAZ : Hid (zs ≠ [] → ∃ g, az = some ⟨g, 0, none⟩) := haz
  obtain ⟨N, hN⟩ : ∃ N, N = (xs ++ zs).length := ⟨_, rfl⟩
  have hN2 : N = xs.length + zs.length := by rw [hN, List.length_append]
  have HN : Hid (N = (xs ++ zs).length ∧ N = xs.length + zs.length) := ⟨hN, hN2⟩
  have hxp : ¬ (xs.length : Int) < 1 := by
    have : xs.length ≠ 0 := fun e => hx0 (List.eq_nil_of_length_eq_zero e)
    omega
  rw [← hN]
  have hNe : ((N : Int) != (xs.length : Int) + (zs.length : Int)) = false := by rw [hN2]; simp
  have hNx : (xs.length : Int) + (zs.length : Int) = (N : Int) := by omega
  have hNb : N ≤ 2097200 := by omega
  have HHX : Hid (xs ≠ []) := hx0
  clear haz hay hN hN2 hx0
  go_wp2_with fail
  go_loopw [17, 84] (fun _ iv wr => ∃ i : Nat, i ≤ N ∧ iv = .int .i64 i ∧ Hid (Below w11.heap.size w11 wr)) (fun _ iv _ => N - (intOf iv).toNat)
  case atStart => exact ⟨0, Nat.zero_le _, rfl, Below.refl _ _⟩
  case round =>
    obtain ⟨i, hi, rfl, HB⟩ := hrel
    by_cases hlt : i < N
    · have hlt' : (i : Int) < (N : Int) := by omega
      have HBN : Hid (Below w11.heap.size w11 wr.drew) := HB.out.drew
      have hly : i < (xs ++ zs).length := by rw [← HN.out.1]; exact hlt
      obtain ⟨gy, rfl⟩ := HAY.out (fun e => HHX.out (List.append_eq_nil_iff.1 e).1)
      obtain ⟨b1, b2, b3, b4⟩ := td_elem (HO13.out.below HB.out) i hly
      by_cases hix : i < xs.length
      · have hix' : (i : Int) < (xs.length : Int) := by omega
        have hix'' : ¬ (xs.length : Int) ≤ (i : Int) := by omega
        obtain ⟨gx, rfl⟩ := HAX.out HHX.out
        obtain ⟨a1, a2, a3, a4⟩ := td_elem (HO14.out.below HB.out) i hix
        have e : (xs ++ zs)[i] = xs[i] := List.getElem_append_left hix
        rw [e] at b1 b2 b3 b4
        clear e hly
        generalize kdI xs[i].i = kd at *
        generalize (txI xs[i].i).toArray = tx at *
        generalize yI xs[i].i = y at *
        generalize xs[i].n = nb at *
        go_wp2_with fail
        refine wp_region_late (fun wx => wx.cell? ⟨gx, i * 4, none⟩ = some (.int .i64 kd) ∧ wx.cell? ⟨gx, i * 4 + 1, none⟩ = some (.string ⟨tx⟩) ∧ wx.cell? ⟨gx, i * 4 + 2, none⟩ = some (.int .i64 y) ∧ wx.cell? ⟨gx, i * 4 + 3, none⟩ = some (.int .i64 (nb : Int)) ∧ wx.cell? ⟨gy, i * 4, none⟩ = some (.int .i64 kd) ∧ wx.cell? ⟨gy, i * 4 + 1, none⟩ = some (.string ⟨tx⟩) ∧ wx.cell? ⟨gy, i * 4 + 2, none⟩ = some (.int .i64 y) ∧ wx.cell? ⟨gy, i * 4 + 3, none⟩ = some (.int .i64 (nb : Int))) 35 (by kernel_rfl) ⟨a1, a2, a3, a4, b1, b2, b3, b4⟩ (fun hHeld => ?_)
        refine wpAnyE_tk (i := 0) (d := some 87) (v := ?_) rfl (by kernel_rfl) (by kernel_rfl) (by kernel_rfl) rfl (fun _ _ _ h => h) rfl rfl ?hy (by first | assumption | go_simp) ?_
        case hy => (intro w' hSw; (try dsimp only at hSw); go_simp <;> (first | with_reducible rfl | omega | skip))
        simp only [Act.put, List.setIfInBounds_toArray, List.set_cons_zero, List.set_cons_succ]
        refine wpAnyE_tk (i := 1) (d := some 88) (v := ?_) rfl (by kernel_rfl) (by kernel_rfl) (by kernel_rfl) rfl (fun _ _ _ h => h) rfl rfl ?hy (by first | assumption | go_simp) ?_
        case hy => (intro w' hSw; (try dsimp only at hSw); go_simp <;> (first | with_reducible rfl | omega | skip))
        simp only [Act.put, List.setIfInBounds_toArray, List.set_cons_zero, List.set_cons_succ]
        refine wpAnyE_tk (i := 2) (d := some 89) (v := ?_) rfl (by kernel_rfl) (by kernel_rfl) (by kernel_rfl) rfl (fun _ _ _ h => h) rfl rfl ?hy (by first | assumption | go_simp) ?_
        case hy => (intro w' hSw; (try dsimp only at hSw); go_simp <;> (first | with_reducible rfl | omega | skip))
        simp only [Act.put, List.setIfInBounds_toArray, List.set_cons_zero, List.set_cons_succ]
        refine wpAnyE_tk (i := 3) (d := some 90) (v := .bool true) rfl (by kernel_rfl) (by kernel_rfl) (by kernel_rfl) rfl (fun _ _ _ h => h) rfl rfl ?hy (by first | assumption | go_simp) ?_
        case hy => (intro w' hSw; (try dsimp only at hSw); go_simp <;> (first | with_reducible rfl | omega | skip))
        simp only [Act.put, List.setIfInBounds_toArray, List.set_cons_zero, List.set_cons_succ]
        refine wpAnyE_tk (i := 4) (d := some 91) (v := .bool true) rfl (by kernel_rfl) (by kernel_rfl) (by kernel_rfl) rfl (fun _ _ _ h => h) rfl rfl ?hy (by first | assumption | go_simp) ?_
        case hy => (intro w' hSw; (try dsimp only at hSw); go_simp <;> (first | with_reducible rfl | omega | skip))
        simp only [Act.put, List.setIfInBounds_toArray, List.set_cons_zero, List.set_cons_succ]
        refine wpAnyE_tk (i := 5) (d := some 92) (v := ?_) rfl (by kernel_rfl) (by kernel_rfl) (by kernel_rfl) rfl (fun _ _ _ h => h) rfl rfl ?hy (by first | assumption | go_simp) ?_
        case hy => (intro w' hSw; (try dsimp only at hSw); go_simp <;> (first | with_reducible rfl | omega | skip))
        simp only [Act.put, List.setIfInBounds_toArray, List.set_cons_zero, List.set_cons_succ]
        refine wpAnyE_tk (i := 6) (d := some 93) (v := ?_) rfl (by kernel_rfl) (by kernel_rfl) (by kernel_rfl) rfl (fun _ _ _ h => h) rfl rfl ?hy (by first | assumption | go_simp) ?_
        case hy => (intro w' hSw; (try dsimp only at hSw); go_simp <;> (first | with_reducible rfl | omega | skip))
        simp only [Act.put, List.setIfInBounds_toArray, List.set_cons_zero, List.set_cons_succ]
        refine wpAnyE_tk (i := 7) (d := some 94) (v := .pointer (some ⟨gy, i * 4, none⟩)) rfl (by kernel_rfl) (by kernel_rfl) (by kernel_rfl) rfl (fun _ _ _ h => h) rfl rfl ?hy (by first | assumption | go_simp) ?_
        case hy => (intro w' hSw; (try dsimp only at hSw); go_simp <;> (first | with_reducible rfl | omega | skip))
        simp only [Act.put, List.setIfInBounds_toArray, List.set_cons_zero, List.set_cons_succ]
        refine wpAnyE_tk (i := 8) (d := some 95) (v := .agg #[.int .i64 kd, .string ⟨tx⟩, .int .i64 y, .int .i64 (nb : Int)]) rfl (by kernel_rfl) (by kernel_rfl) (by kernel_rfl) rfl (fun _ _ _ h => h) rfl rfl ?hy (by first | assumption | go_simp) ?_
        case hy => (intro w' hSw; (try dsimp only at hSw); go_simp <;> (first | with_reducible rfl | omega | skip))
        simp only [Act.put, List.setIfInBounds_toArray, List.set_cons_zero, List.set_cons_succ]
        refine wpAnyE_tk (i := 9) (d := some 96) (v := ?_) rfl (by kernel_rfl) (by kernel_rfl) (by kernel_rfl) rfl (fun _ _ _ h => h) rfl rfl ?hy (by first | assumption | go_simp) ?_
        case hy => (intro w' hSw; (try dsimp only at hSw); go_simp <;> (first | with_reducible rfl | omega | skip))
        simp only [Act.put, List.setIfInBounds_toArray, List.set_cons_zero, List.set_cons_succ]
        refine wpAnyE_tk (i := 10) (d := some 97) (v := ?_) rfl (by kernel_rfl) (by kernel_rfl) (by kernel_rfl) rfl (fun _ _ _ h => h) rfl rfl ?hy (by first | assumption | go_simp) ?_
        case hy => (intro w' hSw; (try dsimp only at hSw); go_simp <;> (first | with_reducible rfl | omega | skip))
        simp only [Act.put, List.setIfInBounds_toArray, List.set_cons_zero, List.set_cons_succ]
        refine wpAnyE_tk (i := 11) (d := some 98) (v := .pointer (some ⟨gx, i * 4, none⟩)) rfl (by kernel_rfl) (by kernel_rfl) (by kernel_rfl) rfl (fun _ _ _ h => h) rfl rfl ?hy (by first | assumption | go_simp) ?_
        case hy => (intro w' hSw; (try dsimp only at hSw); go_simp <;> (first | with_reducible rfl | omega | skip))
        simp only [Act.put, List.setIfInBounds_toArray, List.set_cons_zero, List.set_cons_succ]
        refine wpAnyE_tk (i := 12) (d := some 99) (v := .agg #[.int .i64 kd, .string ⟨tx⟩, .int .i64 y, .int .i64 (nb : Int)]) rfl (by kernel_rfl) (by kernel_rfl) (by kernel_rfl) rfl (fun _ _ _ h => h) rfl rfl ?hy (by first | assumption | go_simp) ?_
        case hy => (intro w' hSw; (try dsimp only at hSw); go_simp <;> (first | with_reducible rfl | omega | skip))
        simp only [Act.put, List.setIfInBounds_toArray, List.set_cons_zero, List.set_cons_succ]
        refine wpAnyE_tk (i := 13) (d := some 100) (v := .bool false) rfl (by kernel_rfl) (by kernel_rfl) (by kernel_rfl) rfl (fun _ _ _ h => h) rfl rfl ?hy (by first | assumption | go_simp) ?_
        case hy => (intro w' hSw; (try dsimp only at hSw); go_simp <;> (first | with_reducible rfl | omega | skip))
        simp only [Act.put, List.setIfInBounds_toArray, List.set_cons_zero, List.set_cons_succ]
        refine wpAnyE_tk (i := 14) (d := some 101) (v := .bool false) rfl (by kernel_rfl) (by kernel_rfl) (by kernel_rfl) rfl (fun _ _ _ h => h) rfl rfl ?hy (by first | assumption | go_simp) ?_
        case hy => (intro w' hSw; (try dsimp only at hSw); go_simp <;> (first | with_reducible rfl | omega | skip))
        simp only [Act.put, List.setIfInBounds_toArray, List.set_cons_zero, List.set_cons_succ]
        refine wpAnyE_tk (i := 15) (d := some 102) (v := .bool false) rfl (by kernel_rfl) (by kernel_rfl) (by kernel_rfl) rfl (fun _ _ _ h => h) rfl rfl ?hy (by first | assumption | go_simp) ?_
        case hy => (intro w' hSw; (try dsimp only at hSw); go_simp <;> (first | with_reducible rfl | omega | skip))
        simp only [Act.put, List.setIfInBounds_toArray, List.set_cons_zero, List.set_cons_succ]
        refine wpAnyE_tk (i := 16) (d := some 103) (v := ?_) rfl (by kernel_rfl) (by kernel_rfl) (by kernel_rfl) rfl (fun _ _ _ h => h) rfl rfl ?hy (by first | assumption | go_simp) ?_
        case hy => (intro w' hSw; (try dsimp only at hSw); go_simp <;> (first | with_reducible rfl | omega | skip))
        simp only [Act.put, List.setIfInBounds_toArray, List.set_cons_zero, List.set_cons_succ]
        refine wpAnyE_tk (i := 17) (d := some 104) (v := ?_) rfl (by kernel_rfl) (by kernel_rfl) (by kernel_rfl) rfl (fun _ _ _ h => h) rfl rfl ?hy (by first | assumption | go_simp) ?_
        case hy => (intro w' hSw; (try dsimp only at hSw); go_simp <;> (first | with_reducible rfl | omega | skip))
        simp only [Act.put, List.setIfInBounds_toArray, List.set_cons_zero, List.set_cons_succ]
        refine wpAnyE_tk (i := 18) (d := some 105) (v := ?_) rfl (by kernel_rfl) (by kernel_rfl) (by kernel_rfl) rfl (fun _ _ _ h => h) rfl rfl ?hy (by first | assumption | go_simp) ?_
        case hy => (intro w' hSw; (try dsimp only at hSw); go_simp <;> (first | with_reducible rfl | omega | skip))
        simp only [Act.put, List.setIfInBounds_toArray, List.set_cons_zero, List.set_cons_succ]
        refine wpAnyE_tk (i := 19) (d := some 106) (v := .bool false) rfl (by kernel_rfl) (by kernel_rfl) (by kernel_rfl) rfl (fun _ _ _ h => h) rfl rfl ?hy (by first | assumption | go_simp) ?_
        case hy => (intro w' hSw; (try dsimp only at hSw); go_simp <;> (first | with_reducible rfl | omega | skip))
        simp only [Act.put, List.setIfInBounds_toArray, List.set_cons_zero, List.set_cons_succ]
        refine wpAnyE_tk (i := 20) (d := some 107) (v := .bool false) rfl (by kernel_rfl) (by kernel_rfl) (by kernel_rfl) rfl (fun _ _ _ h => h) rfl rfl ?hy (by first | assumption | go_simp) ?_
        case hy => (intro w' hSw; (try dsimp only at hSw); go_simp <;> (first | with_reducible rfl | omega | skip))
        simp only [Act.put, List.setIfInBounds_toArray, List.set_cons_zero, List.set_cons_succ]
        refine wpAnyE_sk (i := 21) (d := some 108) rfl (by kernel_rfl) (by kernel_rfl) (by kernel_rfl) rfl (fun _ _ _ h => h) rfl rfl (by first | assumption | go_simp) ?_
        simp only [Act.put, List.setIfInBounds_toArray, List.set_cons_zero, List.set_cons_succ]
        refine wpAnyE_sk (i := 22) (d := some 109) rfl (by kernel_rfl) (by kernel_rfl) (by kernel_rfl) rfl (fun _ _ _ h => h) rfl rfl (by first | assumption | go_simp) ?_
        simp only [Act.put, List.setIfInBounds_toArray, List.set_cons_zero, List.set_cons_succ]
        refine wpAnyE_sk (i := 23) (d := some 110) rfl (by kernel_rfl) (by kernel_rfl) (by kernel_rfl) rfl (fun _ _ _ h => h) rfl rfl (by first | assumption | go_simp) ?_
        simp only [Act.put, List.setIfInBounds_toArray, List.set_cons_zero, List.set_cons_succ]
        refine wpAnyE_sk (i := 24) (d := some 111) rfl (by kernel_rfl) (by kernel_rfl) (by kernel_rfl) rfl (fun _ _ _ h => h) rfl rfl (by first | assumption | go_simp) ?_
        simp only [Act.put, List.setIfInBounds_toArray, List.set_cons_zero, List.set_cons_succ]
        refine wpAnyE_sk (i := 25) (d := some 112) rfl (by kernel_rfl) (by kernel_rfl) (by kernel_rfl) rfl (fun _ _ _ h => h) rfl rfl (by first | assumption | go_simp) ?_
        simp only [Act.put, List.setIfInBounds_toArray, List.set_cons_zero, List.set_cons_succ]
        refine wpAnyE_sk (i := 26) (d := some 113) rfl (by kernel_rfl) (by kernel_rfl) (by kernel_rfl) rfl (fun _ _ _ h => h) rfl rfl (by first | assumption | go_simp) ?_
        simp only [Act.put, List.setIfInBounds_toArray, List.set_cons_zero, List.set_cons_succ]
        refine wpAnyE_sk (i := 27) (d := some 114) rfl (by kernel_rfl) (by kernel_rfl) (by kernel_rfl) rfl (fun _ _ _ h => h) rfl rfl (by first | assumption | go_simp) ?_
        simp only [Act.put, List.setIfInBounds_toArray, List.set_cons_zero, List.set_cons_succ]
        refine wpAnyE_sk (i := 28) (d := some 115) rfl (by kernel_rfl) (by kernel_rfl) (by kernel_rfl) rfl (fun _ _ _ h => h) rfl rfl (by first | assumption | go_simp) ?_
        simp only [Act.put, List.setIfInBounds_toArray, List.set_cons_zero, List.set_cons_succ]
        refine wpAnyE_sk (i := 29) (d := some 116) rfl (by kernel_rfl) (by kernel_rfl) (by kernel_rfl) rfl (fun _ _ _ h => h) rfl rfl (by first | assumption | go_simp) ?_
        simp only [Act.put, List.setIfInBounds_toArray, List.set_cons_zero, List.set_cons_succ]
        refine wpAnyE_sk (i := 30) (d := some 117) rfl (by kernel_rfl) (by kernel_rfl) (by kernel_rfl) rfl (fun _ _ _ h => h) rfl rfl (by first | assumption | go_simp) ?_
        simp only [Act.put, List.setIfInBounds_toArray, List.set_cons_zero, List.set_cons_succ]
        refine wpAnyE_sk (i := 31) (d := some 118) rfl (by kernel_rfl) (by kernel_rfl) (by kernel_rfl) rfl (fun _ _ _ h => h) rfl rfl (by first | assumption | go_simp) ?_
        simp only [Act.put, List.setIfInBounds_toArray, List.set_cons_zero, List.set_cons_succ]
        refine wpAnyE_sk (i := 32) (d := some 119) rfl (by kernel_rfl) (by kernel_rfl) (by kernel_rfl) rfl (fun _ _ _ h => h) rfl rfl (by first | assumption | go_simp) ?_
        simp only [Act.put, List.setIfInBounds_toArray, List.set_cons_zero, List.set_cons_succ]
        refine wpAnyE_tk (i := 33) (d := some 120) (v := .bool false) rfl (by kernel_rfl) (by kernel_rfl) (by kernel_rfl) rfl (fun _ _ _ h => h) rfl rfl ?hy (by first | assumption | go_simp) ?_
        case hy => (intro w' hSw; (try dsimp only at hSw); go_simp <;> (first | with_reducible rfl | omega | skip))
        simp only [Act.put, List.setIfInBounds_toArray, List.set_cons_zero, List.set_cons_succ]
        refine wpAnyE_tk (i := 34) (d := some 121) (v := .bool false) rfl (by kernel_rfl) (by kernel_rfl) (by kernel_rfl) rfl (fun _ _ _ h => h) rfl rfl ?hy (by first | assumption | go_simp) ?_
        case hy => (intro w' hSw; (try dsimp only at hSw); go_simp <;> (first | with_reducible rfl | omega | skip))
        simp only [Act.put, List.setIfInBounds_toArray, List.set_cons_zero, List.set_cons_succ]
        refine wpAnyE_done (by kernel_rfl) ?_ _
        clear hHeld
        go_wp2_with fail
        go_round
        case rel => exact ⟨i + 1, hlt, by go_num, HBN.out⟩
        case measure => simp [intOf]; omega
      · have hix' : ¬ (i : Int) < (xs.length : Int) := by omega
        have hix'' : (xs.length : Int) ≤ (i : Int) := by omega
        obtain ⟨j, hj⟩ : ∃ j, i = xs.length + j := ⟨i - xs.length, by omega⟩
        have hjz : j < zs.length := by have := HN.out.2; omega
        have hsub : (i : Int) - (xs.length : Int) = (j : Int) := by omega
        have hwj : IntKind.i64.wrap (j : Int) = (j : Int) := by
          simp [IntKind.wrap, IntKind.bits, IntKind.signed]
          omega
        obtain ⟨gz, rfl⟩ := HAZ.out (fun e => by rw [e] at hjz; cases hjz)
        obtain ⟨a1, a2, a3, a4⟩ := td_elem (HO12.out.below HB.out) j hjz
        have e : (xs ++ zs)[i] = zs[j] := by
          subst hj
          rw [List.getElem_append_right (by omega)]
          simp
        rw [e] at b1 b2 b3 b4
        clear e hly hj
        generalize kdI zs[j].i = kd at *
        generalize (txI zs[j].i).toArray = tx at *
        generalize yI zs[j].i = y at *
        generalize zs[j].n = nb at *
        go_wp2_with fail
        refine wp_region_late (fun wx => wx.cell? ⟨gz, j * 4, none⟩ = some (.int .i64 kd) ∧ wx.cell? ⟨gz, j * 4 + 1, none⟩ = some (.string ⟨tx⟩) ∧ wx.cell? ⟨gz, j * 4 + 2, none⟩ = some (.int .i64 y) ∧ wx.cell? ⟨gz, j * 4 + 3, none⟩ = some (.int .i64 (nb : Int)) ∧ wx.cell? ⟨gy, i * 4, none⟩ = some (.int .i64 kd) ∧ wx.cell? ⟨gy, i * 4 + 1, none⟩ = some (.string ⟨tx⟩) ∧ wx.cell? ⟨gy, i * 4 + 2, none⟩ = some (.int .i64 y) ∧ wx.cell? ⟨gy, i * 4 + 3, none⟩ = some (.int .i64 (nb : Int))) 35 (by kernel_rfl) ⟨a1, a2, a3, a4, b1, b2, b3, b4⟩ (fun hHeld => ?_)
        refine wpAnyE_tk (i := 0) (d := some 87) (v := ?_) rfl (by kernel_rfl) (by kernel_rfl) (by kernel_rfl) rfl (fun _ _ _ h => h) rfl rfl ?hy (by first | assumption | go_simp) ?_
        case hy => (intro w' hSw; (try dsimp only at hSw); go_simp <;> (first | with_reducible rfl | omega | skip))
        simp only [Act.put, List.setIfInBounds_toArray, List.set_cons_zero, List.set_cons_succ]
        refine wpAnyE_tk (i := 1) (d := some 88) (v := ?_) rfl (by kernel_rfl) (by kernel_rfl) (by kernel_rfl) rfl (fun _ _ _ h => h) rfl rfl ?hy (by first | assumption | go_simp) ?_
        case hy => (intro w' hSw; (try dsimp only at hSw); go_simp <;> (first | with_reducible rfl | omega | skip))
        simp only [Act.put, List.setIfInBounds_toArray, List.set_cons_zero, List.set_cons_succ]
        refine wpAnyE_tk (i := 2) (d := some 89) (v := ?_) rfl (by kernel_rfl) (by kernel_rfl) (by kernel_rfl) rfl (fun _ _ _ h => h) rfl rfl ?hy (by first | assumption | go_simp) ?_
        case hy => (intro w' hSw; (try dsimp only at hSw); go_simp <;> (first | with_reducible rfl | omega | skip))
        simp only [Act.put, List.setIfInBounds_toArray, List.set_cons_zero, List.set_cons_succ]
        refine wpAnyE_tk (i := 3) (d := some 90) (v := .bool false) rfl (by kernel_rfl) (by kernel_rfl) (by kernel_rfl) rfl (fun _ _ _ h => h) rfl rfl ?hy (by first | assumption | go_simp) ?_
        case hy => (intro w' hSw; (try dsimp only at hSw); go_simp <;> (first | with_reducible rfl | omega | skip))
        simp only [Act.put, List.setIfInBounds_toArray, List.set_cons_zero, List.set_cons_succ]
        refine wpAnyE_tk (i := 4) (d := some 91) (v := .bool false) rfl (by kernel_rfl) (by kernel_rfl) (by kernel_rfl) rfl (fun _ _ _ h => h) rfl rfl ?hy (by first | assumption | go_simp) ?_
        case hy => (intro w' hSw; (try dsimp only at hSw); go_simp <;> (first | with_reducible rfl | omega | skip))
        simp only [Act.put, List.setIfInBounds_toArray, List.set_cons_zero, List.set_cons_succ]
        refine wpAnyE_sk (i := 5) (d := some 92) rfl (by kernel_rfl) (by kernel_rfl) (by kernel_rfl) rfl (fun _ _ _ h => h) rfl rfl (by first | assumption | go_simp) ?_
        simp only [Act.put, List.setIfInBounds_toArray, List.set_cons_zero, List.set_cons_succ]
        refine wpAnyE_sk (i := 6) (d := some 93) rfl (by kernel_rfl) (by kernel_rfl) (by kernel_rfl) rfl (fun _ _ _ h => h) rfl rfl (by first | assumption | go_simp) ?_
        simp only [Act.put, List.setIfInBounds_toArray, List.set_cons_zero, List.set_cons_succ]
        refine wpAnyE_sk (i := 7) (d := some 94) rfl (by kernel_rfl) (by kernel_rfl) (by kernel_rfl) rfl (fun _ _ _ h => h) rfl rfl (by first | assumption | go_simp) ?_
        simp only [Act.put, List.setIfInBounds_toArray, List.set_cons_zero, List.set_cons_succ]
        refine wpAnyE_sk (i := 8) (d := some 95) rfl (by kernel_rfl) (by kernel_rfl) (by kernel_rfl) rfl (fun _ _ _ h => h) rfl rfl (by first | assumption | go_simp) ?_
        simp only [Act.put, List.setIfInBounds_toArray, List.set_cons_zero, List.set_cons_succ]
        refine wpAnyE_sk (i := 9) (d := some 96) rfl (by kernel_rfl) (by kernel_rfl) (by kernel_rfl) rfl (fun _ _ _ h => h) rfl rfl (by first | assumption | go_simp) ?_
        simp only [Act.put, List.setIfInBounds_toArray, List.set_cons_zero, List.set_cons_succ]
        refine wpAnyE_sk (i := 10) (d := some 97) rfl (by kernel_rfl) (by kernel_rfl) (by kernel_rfl) rfl (fun _ _ _ h => h) rfl rfl (by first | assumption | go_simp) ?_
        simp only [Act.put, List.setIfInBounds_toArray, List.set_cons_zero, List.set_cons_succ]
        refine wpAnyE_sk (i := 11) (d := some 98) rfl (by kernel_rfl) (by kernel_rfl) (by kernel_rfl) rfl (fun _ _ _ h => h) rfl rfl (by first | assumption | go_simp) ?_
        simp only [Act.put, List.setIfInBounds_toArray, List.set_cons_zero, List.set_cons_succ]
        refine wpAnyE_sk (i := 12) (d := some 99) rfl (by kernel_rfl) (by kernel_rfl) (by kernel_rfl) rfl (fun _ _ _ h => h) rfl rfl (by first | assumption | go_simp) ?_
        simp only [Act.put, List.setIfInBounds_toArray, List.set_cons_zero, List.set_cons_succ]
        refine wpAnyE_sk (i := 13) (d := some 100) rfl (by kernel_rfl) (by kernel_rfl) (by kernel_rfl) rfl (fun _ _ _ h => h) rfl rfl (by first | assumption | go_simp) ?_
        simp only [Act.put, List.setIfInBounds_toArray, List.set_cons_zero, List.set_cons_succ]
        refine wpAnyE_tk (i := 14) (d := some 101) (v := .bool false) rfl (by kernel_rfl) (by kernel_rfl) (by kernel_rfl) rfl (fun _ _ _ h => h) rfl rfl ?hy (by first | assumption | go_simp) ?_
        case hy => (intro w' hSw; (try dsimp only at hSw); go_simp <;> (first | with_reducible rfl | omega | skip))
        simp only [Act.put, List.setIfInBounds_toArray, List.set_cons_zero, List.set_cons_succ]
        refine wpAnyE_tk (i := 15) (d := some 102) (v := .bool false) rfl (by kernel_rfl) (by kernel_rfl) (by kernel_rfl) rfl (fun _ _ _ h => h) rfl rfl ?hy (by first | assumption | go_simp) ?_
        case hy => (intro w' hSw; (try dsimp only at hSw); go_simp <;> (first | with_reducible rfl | omega | skip))
        simp only [Act.put, List.setIfInBounds_toArray, List.set_cons_zero, List.set_cons_succ]
        refine wpAnyE_tk (i := 16) (d := some 103) (v := ?_) rfl (by kernel_rfl) (by kernel_rfl) (by kernel_rfl) rfl (fun _ _ _ h => h) rfl rfl ?hy (by first | assumption | go_simp) ?_
        case hy => (intro w' hSw; (try dsimp only at hSw); go_simp <;> (first | with_reducible rfl | omega | skip))
        simp only [Act.put, List.setIfInBounds_toArray, List.set_cons_zero, List.set_cons_succ]
        refine wpAnyE_tk (i := 17) (d := some 104) (v := ?_) rfl (by kernel_rfl) (by kernel_rfl) (by kernel_rfl) rfl (fun _ _ _ h => h) rfl rfl ?hy (by first | assumption | go_simp) ?_
        case hy => (intro w' hSw; (try dsimp only at hSw); go_simp <;> (first | with_reducible rfl | omega | skip))
        simp only [Act.put, List.setIfInBounds_toArray, List.set_cons_zero, List.set_cons_succ]
        refine wpAnyE_tk (i := 18) (d := some 105) (v := ?_) rfl (by kernel_rfl) (by kernel_rfl) (by kernel_rfl) rfl (fun _ _ _ h => h) rfl rfl ?hy (by first | assumption | go_simp) ?_
        case hy => (intro w' hSw; (try dsimp only at hSw); go_simp <;> (first | with_reducible rfl | omega | skip))
        simp only [Act.put, List.setIfInBounds_toArray, List.set_cons_zero, List.set_cons_succ]
        refine wpAnyE_tk (i := 19) (d := some 106) (v := .bool true) rfl (by kernel_rfl) (by kernel_rfl) (by kernel_rfl) rfl (fun _ _ _ h => h) rfl rfl ?hy (by first | assumption | go_simp) ?_
        case hy => (intro w' hSw; (try dsimp only at hSw); go_simp <;> (first | with_reducible rfl | omega | skip))
        simp only [Act.put, List.setIfInBounds_toArray, List.set_cons_zero, List.set_cons_succ]
        refine wpAnyE_tk (i := 20) (d := some 107) (v := .bool true) rfl (by kernel_rfl) (by kernel_rfl) (by kernel_rfl) rfl (fun _ _ _ h => h) rfl rfl ?hy (by first | assumption | go_simp) ?_
        case hy => (intro w' hSw; (try dsimp only at hSw); go_simp <;> (first | with_reducible rfl | omega | skip))
        simp only [Act.put, List.setIfInBounds_toArray, List.set_cons_zero, List.set_cons_succ]
        refine wpAnyE_tk (i := 21) (d := some 108) (v := ?_) rfl (by kernel_rfl) (by kernel_rfl) (by kernel_rfl) rfl (fun _ _ _ h => h) rfl rfl ?hy (by first | assumption | go_simp) ?_
        case hy => (intro w' hSw; (try dsimp only at hSw); go_simp <;> (first | with_reducible rfl | omega | skip))
        simp only [Act.put, List.setIfInBounds_toArray, List.set_cons_zero, List.set_cons_succ]
        refine wpAnyE_tk (i := 22) (d := some 109) (v := ?_) rfl (by kernel_rfl) (by kernel_rfl) (by kernel_rfl) rfl (fun _ _ _ h => h) rfl rfl ?hy (by first | assumption | go_simp) ?_
        case hy => (intro w' hSw; (try dsimp only at hSw); go_simp <;> (first | with_reducible rfl | omega | skip))
        simp only [Act.put, List.setIfInBounds_toArray, List.set_cons_zero, List.set_cons_succ]
        refine wpAnyE_tk (i := 23) (d := some 110) (v := .pointer (some ⟨gy, i * 4, none⟩)) rfl (by kernel_rfl) (by kernel_rfl) (by kernel_rfl) rfl (fun _ _ _ h => h) rfl rfl ?hy (by first | assumption | go_simp) ?_
        case hy => (intro w' hSw; (try dsimp only at hSw); go_simp <;> (first | with_reducible rfl | omega | skip))
        simp only [Act.put, List.setIfInBounds_toArray, List.set_cons_zero, List.set_cons_succ]
        refine wpAnyE_tk (i := 24) (d := some 111) (v := .agg #[.int .i64 kd, .string ⟨tx⟩, .int .i64 y, .int .i64 (nb : Int)]) rfl (by kernel_rfl) (by kernel_rfl) (by kernel_rfl) rfl (fun _ _ _ h => h) rfl rfl ?hy (by first | assumption | go_simp) ?_
        case hy => (intro w' hSw; (try dsimp only at hSw); go_simp <;> (first | with_reducible rfl | omega | skip))
        simp only [Act.put, List.setIfInBounds_toArray, List.set_cons_zero, List.set_cons_succ]
        refine wpAnyE_tk (i := 25) (d := some 112) (v := ?_) rfl (by kernel_rfl) (by kernel_rfl) (by kernel_rfl) rfl (fun _ _ _ h => h) rfl rfl ?hy (by first | assumption | go_simp) ?_
        case hy => (intro w' hSw; (try dsimp only at hSw); go_simp <;> (first | with_reducible rfl | omega | skip))
        simp only [Act.put, List.setIfInBounds_toArray, List.set_cons_zero, List.set_cons_succ]
        refine wpAnyE_tk (i := 26) (d := some 113) (v := ?_) rfl (by kernel_rfl) (by kernel_rfl) (by kernel_rfl) rfl (fun _ _ _ h => h) rfl rfl ?hy (by first | assumption | go_simp) ?_
        case hy => (intro w' hSw; (try dsimp only at hSw); go_simp <;> (first | with_reducible rfl | omega | skip))
        simp only [Act.put, List.setIfInBounds_toArray, List.set_cons_zero, List.set_cons_succ]
        refine wpAnyE_tk (i := 27) (d := some 114) (v := ?_) rfl (by kernel_rfl) (by kernel_rfl) (by kernel_rfl) rfl (fun _ _ _ h => h) rfl rfl ?hy (by first | assumption | go_simp) ?_
        case hy => (intro w' hSw; (try dsimp only at hSw); go_simp <;> (first | with_reducible rfl | omega | skip))
        simp only [Act.put, List.setIfInBounds_toArray, List.set_cons_zero, List.set_cons_succ]
        refine wpAnyE_tk (i := 28) (d := some 115) (v := ?_) rfl (by kernel_rfl) (by kernel_rfl) (by kernel_rfl) rfl (fun _ _ _ h => h) rfl rfl ?hy (by first | assumption | go_simp) ?_
        case hy => (intro w' hSw; (try dsimp only at hSw); go_simp <;> (first | with_reducible rfl | omega | skip))
        simp only [Act.put, List.setIfInBounds_toArray, List.set_cons_zero, List.set_cons_succ]
        refine wpAnyE_tk (i := 29) (d := some 116) (v := .int .i64 (j : Int)) rfl (by kernel_rfl) (by kernel_rfl) (by kernel_rfl) rfl (fun _ _ _ h => h) rfl rfl ?hy (by first | assumption | go_simp) ?_
        case hy => (intro w' hSw; (try dsimp only at hSw); go_simp <;> (first | with_reducible rfl | omega | skip))
        simp only [Act.put, List.setIfInBounds_toArray, List.set_cons_zero, List.set_cons_succ]
        refine wpAnyE_tk (i := 30) (d := some 117) (v := .pointer (some ⟨gz, j * 4, none⟩)) rfl (by kernel_rfl) (by kernel_rfl) (by kernel_rfl) rfl (fun _ _ _ h => h) rfl rfl ?hy (by first | assumption | go_simp) ?_
        case hy => (intro w' hSw; (try dsimp only at hSw); go_simp <;> (first | with_reducible rfl | omega | skip))
        simp only [Act.put, List.setIfInBounds_toArray, List.set_cons_zero, List.set_cons_succ]
        refine wpAnyE_tk (i := 31) (d := some 118) (v := .agg #[.int .i64 kd, .string ⟨tx⟩, .int .i64 y, .int .i64 (nb : Int)]) rfl (by kernel_rfl) (by kernel_rfl) (by kernel_rfl) rfl (fun _ _ _ h => h) rfl rfl ?hy (by first | assumption | go_simp) ?_
        case hy => (intro w' hSw; (try dsimp only at hSw); go_simp <;> (first | with_reducible rfl | omega | skip))
        simp only [Act.put, List.setIfInBounds_toArray, List.set_cons_zero, List.set_cons_succ]
        refine wpAnyE_tk (i := 32) (d := some 119) (v := .bool false) rfl (by kernel_rfl) (by kernel_rfl) (by kernel_rfl) rfl (fun _ _ _ h => h) rfl rfl ?hy (by first | assumption | go_simp) ?_
        case hy => (intro w' hSw; (try dsimp only at hSw); go_simp <;> (first | with_reducible rfl | omega | skip))
        simp only [Act.put, List.setIfInBounds_toArray, List.set_cons_zero, List.set_cons_succ]
        refine wpAnyE_tk (i := 33) (d := some 120) (v := .bool false) rfl (by kernel_rfl) (by kernel_rfl) (by kernel_rfl) rfl (fun _ _ _ h => h) rfl rfl ?hy (by first | assumption | go_simp) ?_
        case hy => (intro w' hSw; (try dsimp only at hSw); go_simp <;> (first | with_reducible rfl | omega | skip))
        simp only [Act.put, List.setIfInBounds_toArray, List.set_cons_zero, List.set_cons_succ]
        refine wpAnyE_tk (i := 34) (d := some 121) (v := .bool false) rfl (by kernel_rfl) (by kernel_rfl) (by kernel_rfl) rfl (fun _ _ _ h => h) rfl rfl ?hy (by first | assumption | go_simp) ?_
        case hy => (intro w' hSw; (try dsimp only at hSw); go_simp <;> (first | with_reducible rfl | omega | skip))
        simp only [Act.put, List.setIfInBounds_toArray, List.set_cons_zero, List.set_cons_succ]
        refine wpAnyE_done (by kernel_rfl) ?_ _
        clear hHeld
        go_wp2_with fail
        go_round
        case rel => exact ⟨i + 1, hlt, by go_num, HBN.out⟩
        case measure => simp [intOf]; omega
    · have hlt' : ¬ (i : Int) < (N : Int) := by omega
      go_wp2_with fail
      go_ret
      exact ⟨rfl, HB12.out.trans (HB.out.mono HB12.out.size)⟩

theorem own : ownKnob Try.prog.godebug = none := by kernel_rfl
theorem laidOut : laidOutB Try.prog = true := by kernel_rfl
set_option maxRecDepth 100000 in
theorem contract (H : Type) (enc : TypeId × Value → H) (W : World) (base : Nat) (args : Array Value) (ds gs : List (DataW H)) (before : List MemPlace)
    (hval : ∀ (j : Nat) t v, Try.f6.params[j]? = some t → args[j]? = some v → Value.okWide Try.prog W .any base t v)
    (hW : DataW.Whole enc Try.prog Try.f6.params.toList Rows.lineAloneSpec.vars false W args.toList ds gs before)
    (hk : Rows.uptoSmall H (ds ++ gs) = true) :
    Calls Try.prog 6 args W fun e W' => ∃ v, e = .returned v ∧ Rows.lineAloneSpec.post enc Try.prog Try.f6 false true false false W args v W' := by
  have hW' := hW
  obtain ⟨p, q, hA0, hV, rfl, hfz, hnd⟩ := hW
  have hA : DataW.TrodAll enc Try.prog W 0 (fun _ => true) true Try.f6.params.toList args.toList ds p := hA0
  rw [Try.params6] at hA hval
  obtain ⟨v0, vs0, d0, ds0, p0, q0, hargs, rfl, rfl, h0, r0⟩ := trodAll_cons hA
  obtain ⟨v1, vs1, d1, ds1, p1, q1, rfl, rfl, rfl, h1, r1⟩ := trodAll_cons r0
  obtain ⟨v2, vs2, d2, ds2, p2, q2, rfl, rfl, rfl, h2, r2⟩ := trodAll_cons r1
  obtain ⟨rfl, rfl, rfl⟩ := trodAll_nil r2
  obtain rfl : args = #[v0, v1, v2] := by cases args; simp_all
  obtain ⟨rfl, rfl⟩ := trodVars_none hV
  obtain ⟨a0, rfl, rfl, rfl, w0⟩ := open_int Try.underlying3 (hval 0 3 v0 rfl rfl) h0
  have b0 := bounds_i64 w0
  have k1 := h1
  have lt1 : ∀ x ∈ p1, x.block < W.heap.size := by obtain ⟨m, hm⟩ := k1; exact DataW.trod_lt m _ _ _ hm
  obtain ⟨a1, len1, cap1, rfl⟩ := okWide_slice Try.underlying30 (hval 1 30 v1 rfl rfl)
  obtain ⟨l1, e1, row1, cp1, bd1⟩ := open_bytes h1
  have nn1 := open_none k1
  have k2 := h2
  have lt2 : ∀ x ∈ p2, x.block < W.heap.size := by obtain ⟨m, hm⟩ := k2; exact DataW.trod_lt m _ _ _ hm
  obtain ⟨a2, len2, cap2, rfl⟩ := okWide_slice Try.underlying30 (hval 2 30 v2 rfl rfl)
  obtain ⟨l2, e2, row2, cp2, bd2⟩ := open_bytes h2
  have nn2 := open_none k2
  clear hA0
  have s1 : l1.length ≤ 1048576 := by
    rcases bd1 with ⟨el, sp, rfl, hl⟩ | ⟨rfl, hl⟩
    · have := bulk_slice hk (el := el) (sp := sp) (by simp)
      omega
    · omega
  subst e1
  have s2 : l2.length ≤ 1048576 := by
    rcases bd2 with ⟨el, sp, rfl, hl⟩ | ⟨rfl, hl⟩
    · have := bulk_slice hk (el := el) (sp := sp) (by simp)
      omega
    · omega
  subst e2
  refine (walk a0 b0 a1 l1 cap1 row1 s1 cp1 nn1 (open_cap k1) a2 l2 cap2 row2 s2 cp2 nn2 (open_cap k2)).mono fun e W' ⟨he, bel⟩ => ?_
  subst he
  exact ⟨_, rfl, _, _, _, [], _, [], hW', trodAll_mk1 (shut_bool Try.underlying4 _), trodAll_cons_mk (shut_int Try.underlying3 w0) (trodAll_cons_mk (Below.trod laidOut (by kernel_rfl) (of_decide_eq_true (by kernel_rfl)) k1 bel lt1) (trodAll_cons_mk (Below.trod laidOut (by kernel_rfl) (of_decide_eq_true (by kernel_rfl)) k2 bel lt2) trodAll_mk0)), rfl, bel.frame _, fun h => by cases h⟩

set_option maxRecDepth 100000 in
theorem lifted (os : Os) (started : os.Started) (H : Type) (enc : TypeId × Value → H) (F : Stop.Interp) :
    ReturnsInHanded {} Try.checked os 6 .any ((Rows.OpenSpec.upto Rows.lineAloneSpec).pre6 enc Try.prog Try.f6 Rows.lineAloneUptoRow.domain false) (((Rows.OpenSpec.upto Rows.lineAloneSpec).at F).post enc Try.prog Try.f6 false true false false) := by
  refine returnsInHanded_of_cond (C := Try.checked) (s := Rows.OpenSpec.upto Rows.lineAloneSpec) (k := Rows.uptoSmall) rfl own started (by kernel_rfl) Try.func6
    (OpenSpec.witness (enc := enc) (C := Try.checked) (s := Rows.OpenSpec.upto Rows.lineAloneSpec) (k := Rows.uptoSmall) rfl false ⟨#[], #[.int .i64 0, .slice none 0 0, .slice none 0 0], []⟩ 8 (by kernel_rfl) (by kernel_rfl) (by kernel_rfl)
      (x := ([.lit (.int .i64 0), .nil, .nil], [], [])) (by kernel_rfl) rfl (by kernel_rfl)) ?_
  intro W base args ds gs before hval hW _ hk _
  exact contract H enc W base args ds gs before hval hW hk

theorem over : Rows.LineAloneUptoSaid :=
  OpenClaim.holds_of_cond 6 Try.f6 rfl rfl rfl rfl rfl rfl rfl ⟨rfl, rfl, rfl, rfl, rfl⟩ rfl rfl rfl rfl rfl (by kernel_rfl) Try.func6 (by kernel_rfl)
    (of_decide_eq_true (by kernel_rfl)) (by unfold Func.isWrapper; first | (rw [if_pos (by decide +kernel)]; kernel_rfl) | (rw [if_neg (by decide +kernel)]; exact ⟨rfl, rfl⟩))
    (fun os started H enc _ F => lifted os started H enc F)
end Go.Proofs.Ythjcjecimidedaa.lineAlone
namespace Go.Proofs.Ythjcjecimidedaa
theorem lineAloneUpto_said : Rows.LineAloneUptoSaid := lineAlone.over
#print axioms lineAloneUpto_said
end Go.Proofs.Ythjcjecimidedaa
