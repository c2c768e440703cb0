/-
  P14.7, P7: a body that may be, stuffed and read again, whatever stands behind it; what may not be is not stuffed; proved for inputs of bulk at most 1048576.
-/
import Derived.Test.YtfifpepcmpaipaaHr14
import Derived.Test.YtfifpepcmpaipaaDg14
import Derived.Test.YtfifpepcmpaipaaSf14
import Derived.Test.YtfifpepcmpaipaaCl14
import Derived.Test.YtfifpepcmpaipaaCf14
import Derived.Test.YtfifpepcmpaipaaOpenN
import Derived.Test.YtfifpepcmpaipaaRows
import Derived.ProofKit
import Derived.ChangeMaps5
import Derived.OpenShut
import Derived.ShutString
import Derived.ChangeOld
import Derived.SizedLaws
namespace Go.Proofs.Ytfifpepcmpaipaa.dotsBack
open Go.ChangeShapes Go.WideShapes Go.ChangeAt Go.RowKit

set_option maxHeartbeats 4000000 in
set_option maxRecDepth 20000 in
theorem walk_bad {w : World} (a1 : Option Addr) (l1 : List UInt8) (cap1 : Nat) (hr1 : Bts a1 l1 w) (hl1 : l1.length ≤ 1048576) (hc1 : l1.length ≤ cap1) (hn1 : a1 = none → cap1 = 0) (hm1 : cap1 ≤ 9223372036854775807) (ca : Option Addr) (zs : List Int) (ccap : Nat) (a3 : Option Addr) (l3 : List UInt8) (cap3 : Nat) (hz : ¬ wholeI l1 = 0) :
    Calls Try.prog 6 #[.slice a1 l1.length cap1, .slice ca zs.length ccap, .slice a3 l3.length cap3] w fun e w' => e = .returned (.bool true) ∧ Below w.heap.size w w' := by
  have HPE : Hid (PeOk w ⟨a1, l1, cap1⟩) := ⟨hr1, hc1, hm1, hn1⟩
  have hbig : ¬ (16777216 : Int) < (l1.length : Int) := by omega
  have HK := dcheck_ok a1 l1 l1.length cap1 16777216 rfl (by omega) (by decide) (by decide) w hr1
  have HE := echeck_ok a1 l1 l1.length cap1 16777216 rfl w HPE.out (by omega) (by decide) (by decide)
  have HS := dstuff_bad a1 l1 l1.length cap1 rfl (by omega) w hr1 hz
  rw [check_small (by omega)] at HK HE
  have hzz : (wholeI l1 != 0) = true := by simp [hz]
  clear hr1 hc1 hn1 hm1 hz
  generalize wholeI l1 = Z at *
  go_enter Try.func6, Try.ntmps6
  go_wp2_with fail
  refine HK.mono ?_
  rintro e w1 ⟨rfl, rfl⟩
  clear HK
  go_wp2_with fail
  refine HS.mono ?_
  rintro e w1 ⟨rfl, rfl⟩
  clear HS
  go_wp2_with fail
  refine HE.mono ?_
  rintro e w2 ⟨rfl, hB2⟩
  have HB2 : Hid (Below w1.heap.size w1 w2) := hB2
  clear HE hB2
  go_wp2_with fail
  refine (wakes_any _).mono ?_
  rintro e wk ⟨rfl, hBk⟩
  have HBk : Hid (Below w1.heap.size w1 wk) := HB2.out.trans (hBk.mono HB2.out.size)
  clear hBk
  go_wp2_with fail
  go_ret
  exact ⟨rfl, HBk.out⟩
set_option maxHeartbeats 8000000 in
set_option maxRecDepth 20000 in
theorem walk_ok {w : World} (a1 : Option Addr) (l1 : List UInt8) (cap1 : Nat) (hr1 : Bts a1 l1 w) (hl1 : l1.length ≤ 1048576) (hc1 : l1.length ≤ cap1) (hn1 : a1 = none → cap1 = 0) (hm1 : cap1 ≤ 9223372036854775807) (ca : Option Addr) (zs : List Int) (ccap : Nat) (hz' : IntsB ca zs w) (hzl : zs.length ≤ 1048576) (a3 : Option Addr) (l3 : List UInt8) (cap3 : Nat) (hr3 : Bts a3 l3 w) (hl3 : l3.length ≤ 1048576) (_ : l3.length ≤ cap3) (hn3 : a3 = none → cap3 = 0) (_ : cap3 ≤ 9223372036854775807) (hz : wholeI l1 = 0) :
    Calls Try.prog 6 #[.slice a1 l1.length cap1, .slice ca zs.length ccap, .slice a3 l3.length cap3] w fun e w' => e = .returned (.bool true) ∧ Below w.heap.size w w' := by
  have HPE : Hid (PeOk w ⟨a1, l1, cap1⟩) := ⟨hr1, hc1, hm1, hn1⟩
  have HZI : Hid (IntsB ca zs w) := hz'
  have HB3 : Hid (Bts a3 l3 w) := hr3
  have HN3 : Hid (a3 = none → cap3 = 0) := hn3
  have hbig : ¬ (16777216 : Int) < (l1.length : Int) := by omega
  have HK := dcheck_ok a1 l1 l1.length cap1 16777216 rfl (by omega) (by decide) (by decide) w hr1
  have HS := dstuff_ok a1 l1 l1.length cap1 rfl (by omega) w hr1 hz
  have HE := fun w' (hb : Below w.heap.size w w') => echeck_ok a1 l1 l1.length cap1 16777216 rfl w' (HPE.out.below hb) (by omega) (by decide) (by decide)
  rw [check_small (by omega), hz] at HK
  rw [check_small (by omega), hz] at HE
  obtain ⟨A, hA⟩ : ∃ A : Nat, (A : Int) = max 1 (l1.length : Int) := ⟨(max 1 (l1.length : Int)).toNat, by omega⟩
  have m1 : max (1 : Int) (l1.length : Int) = (A : Int) := hA.symm
  have m2 : (if (1 : Int) < (l1.length : Int) then (l1.length : Int) else 1) = (A : Int) := by rw [hA]; split <;> omega
  have m3 : (if 1 < l1.length then (l1.length : Int) else 1) = (A : Int) := by rw [hA]; split <;> omega
  obtain ⟨y, hy1, hy2, hy3, hy4⟩ := back_all (t := 16777216) (a := A) (m := l3) hz (by omega) (by omega)
  have HY : Hid (Ds.new.run 16777216 A (stuffL l1 ++ l3) = ((stuffL l1).length, l1, y)) := hy1
  have HYI : Hid (y.ended = true ∧ y.im A = .fin 0 (anyHigh l1)) := ⟨by unfold Ds.ended; rw [decide_eq_true hy2], by unfold Ds.im; rw [if_pos hy2, hy3, hy4]⟩
  have HNW := fun w' => dnew_good 16777216 A (by decide) (by decide) (by omega) (by omega) w'
  have hsl : (stuffL l1).length ≤ 2097155 := by
    unfold stuffL
    have := stf_len l1 true
    rw [List.length_append]
    simp
    omega
  clear hr1 hc1 hn1 hm1 hz hz' hr3 hn3 hA hy1 hy2 hy3 hy4
  obtain ⟨ns, hns⟩ : ∃ ns, (stuffL l1).length = ns := ⟨_, rfl⟩
  have HNS : Hid ((stuffL l1).length = ns) := hns
  rw [hns] at hsl HS HY
  clear hns
  go_enter Try.func6, Try.ntmps6
  go_wp2_with fail
  refine HK.mono ?_
  rintro e w0 ⟨rfl, rfl⟩
  clear HK
  go_wp2_with fail
  refine HS.mono ?_
  rintro e w1 ⟨v1, rfl, hO1, hB1⟩
  obtain ⟨g1, c1, rfl, hb1, -, hn1, -⟩ := own_bts hO1
  have HB1 : Hid (Below w0.heap.size w0 w1) := hB1
  have HBT1 : Hid (Bts g1 (stuffL l1) w1) := hb1
  have HBN1 : Hid (g1 = none → c1 = 0) := hn1
  clear HS hO1 hB1 hb1 hn1
  go_wp2_with fail
  refine (HE w1 HB1.out).mono ?_
  rintro e w2 ⟨rfl, hB2⟩
  have HB2 : Hid (Below w0.heap.size w0 w2) := HB1.out.trans (hB2.mono HB1.out.size)
  have HBT2 : Hid (Bts g1 (stuffL l1) w2) := HBT1.out.below hB2
  clear HE hB2 HBT1 HB1
  go_wp2_with fail
  refine (HNW w2).mono ?_
  rintro e w3 ⟨rfl, hR3, hB3⟩
  have HB3' : Hid (Below w0.heap.size w0 w3) := HB2.out.trans (hB3.mono HB2.out.size)
  have HBT3 : Hid (Bts g1 (stuffL l1) w3) := HBT2.out.below hB3
  have HR3 : Hid (Rd w3 w2.heap.size 16777216 A Ds.new) := hR3
  have HS2 : Hid (w0.heap.size ≤ w2.heap.size) := HB2.out.size
  clear HNW hR3 hB3 HBT2 HB2
  have HCL := clone_any g1 (stuffL l1) c1 w3 HBT3.out (by rw [HNS.out]; omega) HBN1.out
  rw [HNS.out] at HCL
  go_wp2_with fail
  refine HCL.mono ?_
  rintro e w4 ⟨v4, rfl, hO4, hB4⟩
  have HO4 : Hid (w4.ownsRow w3.heap.size 5 1 v4 ns (cellsB (stuffL l1))) := hO4
  have HB4 : Hid (Below w0.heap.size w0 w4) := HB3'.out.trans (hB4.mono HB3'.out.size)
  have HB34 : Hid (Below w3.heap.size w3 w4) := hB4
  have HR4 : Hid (Rd w4 w2.heap.size 16777216 A Ds.new) := HR3.out.below hB4 HR3.out.lt
  obtain ⟨g4, c4, hv4, -⟩ := own_bts hO4
  subst hv4
  clear HCL hO4 hB4
  go_wp2_with (at_builtin; refine wpList_append_bts rfl _ _ rfl w3.heap.size _ ns (stuffL l1) rfl HO4.out a3 l3 cap3 rfl (HB3.out.below HB4.out) HN3.out (by omega) HB34.out.size ?_; intro v5 w5 hown5 hbel5; apply Hid.out)
  unfold Hid
  have hb35 : Below w3.heap.size w3 w5 := hbel5 _ _ HB34.out (Nat.le_refl _)
  have HB5 : Hid (Below w0.heap.size w0 w5) := HB3'.out.trans (hb35.mono HB3'.out.size)
  have HR5 : Hid (Rd w5 w2.heap.size 16777216 A Ds.new) := HR3.out.below hb35 HR3.out.lt
  have HBT5 : Hid (Bts g1 (stuffL l1) w5) := HBT3.out.below hb35
  obtain ⟨g5, c5, hv5, hbt5, hlen5, hnn5, hcc5, -⟩ := own_bts hown5
  subst hv5
  have hpe5 : PeOk w5 ⟨g5, stuffL l1 ++ l3, c5⟩ := ⟨hbt5, by rw [hlen5]; exact hcc5, own_cap hown5, hnn5⟩
  have HPC := lpieces_any g5 (stuffL l1 ++ l3) (ns + l3.length) c5 hlen5.symm ca zs zs.length ccap rfl w5 hpe5 (by rw [hlen5]; omega) (ints_below HZI.out HB5.out (Nat.le_refl _)) (by omega)
  clear hown5 hbel5 hb35 hbt5 hcc5 hnn5 hpe5 HO4 HB4 HB34 HR4 HR3 HB3' HBT3
  go_wp2_with fail
  refine HPC.mono ?_
  rintro e w6 ⟨v6, xs, rfl, hO6, hN6, hX6, hP6, hL6, hB6⟩
  have HB6 : Hid (Below w0.heap.size w0 w6) := HB5.out.trans (hB6.mono HB5.out.size)
  have hR6 : Rd w6 w2.heap.size 16777216 A Ds.new := HR5.out.below hB6 HR5.out.lt
  have HBT6 : Hid (Bts g1 (stuffL l1) w6) := HBT5.out.below hB6
  have HHR := lhear_any w2.heap.size 16777216 A w6 v6 xs hR6 hO6 (fun x hx => pein_of (hP6 x hx) HR5.out hB6 hN6) (by rw [hX6, hlen5]; omega) (by omega) (ns, l1, y) (by rw [hX6]; exact HY.out)
  have HN6 : Hid (∀ k, v6.ownBlock = some k → w5.heap.size ≤ k) := hN6
  have HS5 : Hid (w0.heap.size ≤ w5.heap.size) := HB5.out.size
  obtain ⟨va, vc, hv6, -⟩ := hO6.shape
  subst hv6
  simp only [hC_arr] at HHR
  rw [HYI.out.1, HYI.out.2] at HHR
  dsimp only [imK, imY, imH] at HHR
  clear HPC hO6 hN6 hX6 hP6 hL6 hB6 hR6 HR5 HB5 HBT5 hlen5
  go_wp2_with fail
  refine HHR.mono ?_
  rintro e w7 ⟨tv7, va7, vc7, rfl, hO7, hN7, hC7⟩
  obtain ⟨g7, c7, rfl, hb7, -⟩ := own_bts hO7
  have HB7 : Hid (Below w0.heap.size w0 w7) := HB6.out.trans (hC7.to_below HB6.out.size (fun k e => by
    rcases e with e | e
    · have := HS2.out; omega
    · have := HN6.out k e; have := HS5.out; omega))
  obtain ⟨Hh, hHh⟩ : ∃ Hh, anyHigh l1 = Hh := ⟨_, rfl⟩
  have HHH : Hid (anyHigh l1 = Hh) := hHh
  rw [hHh]
  clear hHh
  obtain ⟨W8, hW8⟩ : ∃ W8, W8 = w7.alloc (.cells #[.slice g7 l1.length c7, .int .i64 (ns : Int), .bool true, .int .i64 4, .string ⟨#[]⟩, .slice va7 0 vc7, .int .i64 0, .bool Hh, .bool true] 61) := ⟨_, rfl⟩
  have hB8 : Below w7.heap.size w7 W8 := by subst hW8; exact (Below.refl _ _).alloc (Nat.le_refl _) _
  have HB8 : Hid (Below w0.heap.size w0 W8) := HB7.out.trans (hB8.mono HB7.out.size)
  have HL8 : Hid (Lies W8 w7.heap.size #[.slice g7 l1.length c7, .int .i64 (ns : Int), .bool true, .int .i64 4, .string ⟨#[]⟩, .slice va7 0 vc7, .int .i64 0, .bool Hh, .bool true] 61) := by subst hW8; exact Lies.new w7 _ _
  have HWW : Hid (w7.alloc (.cells #[.slice g7 l1.length c7, .int .i64 (ns : Int), .bool true, .int .i64 4, .string ⟨#[]⟩, .slice va7 0 vc7, .int .i64 0, .bool Hh, .bool true] 61) = W8) := hW8.symm
  have HEQ := beq_yes g7 a1 l1 l1.length l1.length c7 cap1 rfl rfl W8.drew (Bts.below (hb7.below hB8) ((Below.refl _ _).drew)) (Bts.below (HPE.out.bt.below HB8.out) ((Below.refl _ _).drew))
  have HCF := scf_any a1 l1 l1.length cap1 rfl (by omega) W8.drew (Bts.below (HPE.out.bt.below HB8.out) ((Below.refl _ _).drew))
  rw [HHH.out] at HCF
  have HWK := wakes_any W8.drew
  clear HHR hO7 hN7 hC7 hb7 hW8 hB8 HB6 HB7 HBT6 HY HYI HN6
  go_wp2_with (rw [HWW.out])
  clear HWW
  refine wp_region_late (fun wx => Lies wx w7.heap.size #[.slice g7 l1.length c7, .int .i64 (ns : Int), .bool true, .int .i64 4, .string ⟨#[]⟩, .slice va7 0 vc7, .int .i64 0, .bool Hh, .bool true] 61) 37 (by kernel_rfl) HL8.out (fun hHeld => ?_)
  refine wpAnyE_tk (i := 0) (d := some 60) (v := .pointer (some ⟨w7.heap.size, 8, none⟩)) rfl (by kernel_rfl) (by kernel_rfl) (by kernel_rfl) rfl (fun _ _ _ h => h) rfl rfl ?hy hHeld ?_
  case hy => (intro w' hSw; obtain ⟨⟨c0, c1', c2, c3, c4, c5, c6, c7', c8⟩, -⟩ := hC_cells hSw; clear hSw; go_simp <;> (first | with_reducible rfl | omega | skip))
  simp only [Act.put, List.setIfInBounds_toArray, List.set_cons_zero, List.set_cons_succ]
  refine wpAnyE_tk (i := 1) (d := some 61) (v := .bool true) rfl (by kernel_rfl) (by kernel_rfl) (by kernel_rfl) rfl (fun _ _ _ h => h) rfl rfl ?hy hHeld ?_
  case hy => (intro w' hSw; obtain ⟨⟨c0, c1', c2, c3, c4, c5, c6, c7', c8⟩, -⟩ := hC_cells hSw; clear hSw; go_simp <;> (first | with_reducible rfl | omega | skip))
  simp only [Act.put, List.setIfInBounds_toArray, List.set_cons_zero, List.set_cons_succ]
  refine wpAnyE_tk (i := 2) (d := some 62) (v := .bool true) rfl (by kernel_rfl) (by kernel_rfl) (by kernel_rfl) rfl (fun _ _ _ h => h) rfl rfl ?hy hHeld ?_
  case hy => (intro w' hSw; obtain ⟨⟨c0, c1', c2, c3, c4, c5, c6, c7', c8⟩, -⟩ := hC_cells hSw; clear hSw; go_simp <;> (first | with_reducible rfl | omega | skip))
  simp only [Act.put, List.setIfInBounds_toArray, List.set_cons_zero, List.set_cons_succ]
  refine wpAnyE_tk (i := 3) (d := some 63) (v := .pointer (some ⟨w7.heap.size, 2, none⟩)) rfl (by kernel_rfl) (by kernel_rfl) (by kernel_rfl) rfl (fun _ _ _ h => h) rfl rfl ?hy hHeld ?_
  case hy => (intro w' hSw; obtain ⟨⟨c0, c1', c2, c3, c4, c5, c6, c7', c8⟩, -⟩ := hC_cells hSw; clear hSw; go_simp <;> (first | with_reducible rfl | omega | skip))
  simp only [Act.put, List.setIfInBounds_toArray, List.set_cons_zero, List.set_cons_succ]
  refine wpAnyE_tk (i := 4) (d := some 64) (v := .bool true) rfl (by kernel_rfl) (by kernel_rfl) (by kernel_rfl) rfl (fun _ _ _ h => h) rfl rfl ?hy hHeld ?_
  case hy => (intro w' hSw; obtain ⟨⟨c0, c1', c2, c3, c4, c5, c6, c7', c8⟩, -⟩ := hC_cells hSw; clear hSw; go_simp <;> (first | with_reducible rfl | omega | skip))
  simp only [Act.put, List.setIfInBounds_toArray, List.set_cons_zero, List.set_cons_succ]
  refine wpAnyE_tk (i := 5) (d := some 65) (v := .bool true) rfl (by kernel_rfl) (by kernel_rfl) (by kernel_rfl) rfl (fun _ _ _ h => h) rfl rfl ?hy hHeld ?_
  case hy => (intro w' hSw; obtain ⟨⟨c0, c1', c2, c3, c4, c5, c6, c7', c8⟩, -⟩ := hC_cells hSw; clear hSw; go_simp <;> (first | with_reducible rfl | omega | skip))
  simp only [Act.put, List.setIfInBounds_toArray, List.set_cons_zero, List.set_cons_succ]
  refine wpAnyE_tk (i := 6) (d := some 66) (v := .bool true) rfl (by kernel_rfl) (by kernel_rfl) (by kernel_rfl) rfl (fun _ _ _ h => h) rfl rfl ?hy hHeld ?_
  case hy => (intro w' hSw; obtain ⟨⟨c0, c1', c2, c3, c4, c5, c6, c7', c8⟩, -⟩ := hC_cells hSw; clear hSw; go_simp <;> (first | with_reducible rfl | omega | skip))
  simp only [Act.put, List.setIfInBounds_toArray, List.set_cons_zero, List.set_cons_succ]
  refine wpAnyE_tk (i := 7) (d := some 67) (v := .pointer (some ⟨w7.heap.size, 0, none⟩)) rfl (by kernel_rfl) (by kernel_rfl) (by kernel_rfl) rfl (fun _ _ _ h => h) rfl rfl ?hy hHeld ?_
  case hy => (intro w' hSw; obtain ⟨⟨c0, c1', c2, c3, c4, c5, c6, c7', c8⟩, -⟩ := hC_cells hSw; clear hSw; go_simp <;> (first | with_reducible rfl | omega | skip))
  simp only [Act.put, List.setIfInBounds_toArray, List.set_cons_zero, List.set_cons_succ]
  refine wpAnyE_tk (i := 8) (d := some 68) (v := .slice g7 l1.length c7) rfl (by kernel_rfl) (by kernel_rfl) (by kernel_rfl) rfl (fun _ _ _ h => h) rfl rfl ?hy hHeld ?_
  case hy => (intro w' hSw; obtain ⟨⟨c0, c1', c2, c3, c4, c5, c6, c7', c8⟩, -⟩ := hC_cells hSw; clear hSw; go_simp <;> (first | with_reducible rfl | omega | skip))
  simp only [Act.put, List.setIfInBounds_toArray, List.set_cons_zero, List.set_cons_succ]
  refine wpAnyE_tk (i := 9) (d := some 69) (v := .slice a1 l1.length cap1) rfl (by kernel_rfl) (by kernel_rfl) (by kernel_rfl) rfl (fun _ _ _ h => h) rfl rfl ?hy hHeld ?_
  case hy => (intro w' hSw; obtain ⟨⟨c0, c1', c2, c3, c4, c5, c6, c7', c8⟩, -⟩ := hC_cells hSw; clear hSw; go_simp <;> (first | with_reducible rfl | omega | skip))
  simp only [Act.put, List.setIfInBounds_toArray, List.set_cons_zero, List.set_cons_succ]
  refine wpAnyE_on (i := 10) (by kernel_rfl) rfl rfl ?_
  go_simp
  refine HEQ.mono ?_
  rintro e w9 ⟨rfl, rfl⟩
  refine ⟨hHeld, ?_⟩
  refine wpAnyE_tk (i := 11) (d := some 71) (v := .bool true) rfl (by kernel_rfl) (by kernel_rfl) (by kernel_rfl) rfl (fun _ _ _ h => h) rfl rfl ?hy hHeld ?_
  case hy => (intro w' hSw; obtain ⟨⟨c0, c1', c2, c3, c4, c5, c6, c7', c8⟩, -⟩ := hC_cells hSw; clear hSw; go_simp <;> (first | with_reducible rfl | omega | skip))
  simp only [Act.put, List.setIfInBounds_toArray, List.set_cons_zero, List.set_cons_succ]
  refine wpAnyE_tk (i := 12) (d := some 72) (v := .bool true) rfl (by kernel_rfl) (by kernel_rfl) (by kernel_rfl) rfl (fun _ _ _ h => h) rfl rfl ?hy hHeld ?_
  case hy => (intro w' hSw; obtain ⟨⟨c0, c1', c2, c3, c4, c5, c6, c7', c8⟩, -⟩ := hC_cells hSw; clear hSw; go_simp <;> (first | with_reducible rfl | omega | skip))
  simp only [Act.put, List.setIfInBounds_toArray, List.set_cons_zero, List.set_cons_succ]
  refine wpAnyE_tk (i := 13) (d := some 73) (v := .pointer (some ⟨w7.heap.size, 1, none⟩)) rfl (by kernel_rfl) (by kernel_rfl) (by kernel_rfl) rfl (fun _ _ _ h => h) rfl rfl ?hy hHeld ?_
  case hy => (intro w' hSw; obtain ⟨⟨c0, c1', c2, c3, c4, c5, c6, c7', c8⟩, -⟩ := hC_cells hSw; clear hSw; go_simp <;> (first | with_reducible rfl | omega | skip))
  simp only [Act.put, List.setIfInBounds_toArray, List.set_cons_zero, List.set_cons_succ]
  refine wpAnyE_tk (i := 14) (d := some 74) (v := .int .i64 (ns : Int)) rfl (by kernel_rfl) (by kernel_rfl) (by kernel_rfl) rfl (fun _ _ _ h => h) rfl rfl ?hy hHeld ?_
  case hy => (intro w' hSw; obtain ⟨⟨c0, c1', c2, c3, c4, c5, c6, c7', c8⟩, -⟩ := hC_cells hSw; clear hSw; go_simp <;> (first | with_reducible rfl | omega | skip))
  simp only [Act.put, List.setIfInBounds_toArray, List.set_cons_zero, List.set_cons_succ]
  refine wpAnyE_tk (i := 15) (d := some 75) (v := .slice g1 ns c1) rfl (by kernel_rfl) (by kernel_rfl) (by kernel_rfl) rfl (fun _ _ _ h => h) rfl rfl ?hy hHeld ?_
  case hy => (intro w' hSw; obtain ⟨⟨c0, c1', c2, c3, c4, c5, c6, c7', c8⟩, -⟩ := hC_cells hSw; clear hSw; go_simp <;> (first | with_reducible rfl | omega | skip))
  simp only [Act.put, List.setIfInBounds_toArray, List.set_cons_zero, List.set_cons_succ]
  refine wpAnyE_tk (i := 16) (d := some 76) (v := .int .i64 (ns : Int)) rfl (by kernel_rfl) (by kernel_rfl) (by kernel_rfl) rfl (fun _ _ _ h => h) rfl rfl ?hy hHeld ?_
  case hy => (intro w' hSw; obtain ⟨⟨c0, c1', c2, c3, c4, c5, c6, c7', c8⟩, -⟩ := hC_cells hSw; clear hSw; go_simp <;> (first | with_reducible rfl | omega | skip))
  simp only [Act.put, List.setIfInBounds_toArray, List.set_cons_zero, List.set_cons_succ]
  refine wpAnyE_tk (i := 17) (d := some 77) (v := .bool true) rfl (by kernel_rfl) (by kernel_rfl) (by kernel_rfl) rfl (fun _ _ _ h => h) rfl rfl ?hy hHeld ?_
  case hy => (intro w' hSw; obtain ⟨⟨c0, c1', c2, c3, c4, c5, c6, c7', c8⟩, -⟩ := hC_cells hSw; clear hSw; go_simp <;> (first | with_reducible rfl | omega | skip))
  simp only [Act.put, List.setIfInBounds_toArray, List.set_cons_zero, List.set_cons_succ]
  refine wpAnyE_tk (i := 18) (d := some 78) (v := .bool true) rfl (by kernel_rfl) (by kernel_rfl) (by kernel_rfl) rfl (fun _ _ _ h => h) rfl rfl ?hy hHeld ?_
  case hy => (intro w' hSw; obtain ⟨⟨c0, c1', c2, c3, c4, c5, c6, c7', c8⟩, -⟩ := hC_cells hSw; clear hSw; go_simp <;> (first | with_reducible rfl | omega | skip))
  simp only [Act.put, List.setIfInBounds_toArray, List.set_cons_zero, List.set_cons_succ]
  refine wpAnyE_tk (i := 19) (d := some 79) (v := .bool true) rfl (by kernel_rfl) (by kernel_rfl) (by kernel_rfl) rfl (fun _ _ _ h => h) rfl rfl ?hy hHeld ?_
  case hy => (intro w' hSw; obtain ⟨⟨c0, c1', c2, c3, c4, c5, c6, c7', c8⟩, -⟩ := hC_cells hSw; clear hSw; go_simp <;> (first | with_reducible rfl | omega | skip))
  simp only [Act.put, List.setIfInBounds_toArray, List.set_cons_zero, List.set_cons_succ]
  refine wpAnyE_tk (i := 20) (d := some 80) (v := .pointer (some ⟨w7.heap.size, 3, none⟩)) rfl (by kernel_rfl) (by kernel_rfl) (by kernel_rfl) rfl (fun _ _ _ h => h) rfl rfl ?hy hHeld ?_
  case hy => (intro w' hSw; obtain ⟨⟨c0, c1', c2, c3, c4, c5, c6, c7', c8⟩, -⟩ := hC_cells hSw; clear hSw; go_simp <;> (first | with_reducible rfl | omega | skip))
  simp only [Act.put, List.setIfInBounds_toArray, List.set_cons_zero, List.set_cons_succ]
  refine wpAnyE_tk (i := 21) (d := some 81) (v := .pointer (some ⟨w7.heap.size, 6, none⟩)) rfl (by kernel_rfl) (by kernel_rfl) (by kernel_rfl) rfl (fun _ _ _ h => h) rfl rfl ?hy hHeld ?_
  case hy => (intro w' hSw; obtain ⟨⟨c0, c1', c2, c3, c4, c5, c6, c7', c8⟩, -⟩ := hC_cells hSw; clear hSw; go_simp <;> (first | with_reducible rfl | omega | skip))
  simp only [Act.put, List.setIfInBounds_toArray, List.set_cons_zero, List.set_cons_succ]
  refine wpAnyE_tk (i := 22) (d := some 82) (v := .int .i64 0) rfl (by kernel_rfl) (by kernel_rfl) (by kernel_rfl) rfl (fun _ _ _ h => h) rfl rfl ?hy hHeld ?_
  case hy => (intro w' hSw; obtain ⟨⟨c0, c1', c2, c3, c4, c5, c6, c7', c8⟩, -⟩ := hC_cells hSw; clear hSw; go_simp <;> (first | with_reducible rfl | omega | skip))
  simp only [Act.put, List.setIfInBounds_toArray, List.set_cons_zero, List.set_cons_succ]
  refine wpAnyE_tk (i := 23) (d := some 83) (v := .bool true) rfl (by kernel_rfl) (by kernel_rfl) (by kernel_rfl) rfl (fun _ _ _ h => h) rfl rfl ?hy hHeld ?_
  case hy => (intro w' hSw; obtain ⟨⟨c0, c1', c2, c3, c4, c5, c6, c7', c8⟩, -⟩ := hC_cells hSw; clear hSw; go_simp <;> (first | with_reducible rfl | omega | skip))
  simp only [Act.put, List.setIfInBounds_toArray, List.set_cons_zero, List.set_cons_succ]
  refine wpAnyE_tk (i := 24) (d := some 84) (v := .bool true) rfl (by kernel_rfl) (by kernel_rfl) (by kernel_rfl) rfl (fun _ _ _ h => h) rfl rfl ?hy hHeld ?_
  case hy => (intro w' hSw; obtain ⟨⟨c0, c1', c2, c3, c4, c5, c6, c7', c8⟩, -⟩ := hC_cells hSw; clear hSw; go_simp <;> (first | with_reducible rfl | omega | skip))
  simp only [Act.put, List.setIfInBounds_toArray, List.set_cons_zero, List.set_cons_succ]
  refine wpAnyE_tk (i := 25) (d := some 85) (v := .bool true) rfl (by kernel_rfl) (by kernel_rfl) (by kernel_rfl) rfl (fun _ _ _ h => h) rfl rfl ?hy hHeld ?_
  case hy => (intro w' hSw; obtain ⟨⟨c0, c1', c2, c3, c4, c5, c6, c7', c8⟩, -⟩ := hC_cells hSw; clear hSw; go_simp <;> (first | with_reducible rfl | omega | skip))
  simp only [Act.put, List.setIfInBounds_toArray, List.set_cons_zero, List.set_cons_succ]
  refine wpAnyE_tk (i := 26) (d := some 86) (v := .pointer (some ⟨w7.heap.size, 3, none⟩)) rfl (by kernel_rfl) (by kernel_rfl) (by kernel_rfl) rfl (fun _ _ _ h => h) rfl rfl ?hy hHeld ?_
  case hy => (intro w' hSw; obtain ⟨⟨c0, c1', c2, c3, c4, c5, c6, c7', c8⟩, -⟩ := hC_cells hSw; clear hSw; go_simp <;> (first | with_reducible rfl | omega | skip))
  simp only [Act.put, List.setIfInBounds_toArray, List.set_cons_zero, List.set_cons_succ]
  refine wpAnyE_tk (i := 27) (d := some 87) (v := .pointer (some ⟨w7.heap.size, 7, none⟩)) rfl (by kernel_rfl) (by kernel_rfl) (by kernel_rfl) rfl (fun _ _ _ h => h) rfl rfl ?hy hHeld ?_
  case hy => (intro w' hSw; obtain ⟨⟨c0, c1', c2, c3, c4, c5, c6, c7', c8⟩, -⟩ := hC_cells hSw; clear hSw; go_simp <;> (first | with_reducible rfl | omega | skip))
  simp only [Act.put, List.setIfInBounds_toArray, List.set_cons_zero, List.set_cons_succ]
  refine wpAnyE_tk (i := 28) (d := some 88) (v := .bool Hh) rfl (by kernel_rfl) (by kernel_rfl) (by kernel_rfl) rfl (fun _ _ _ h => h) rfl rfl ?hy hHeld ?_
  case hy => (intro w' hSw; obtain ⟨⟨c0, c1', c2, c3, c4, c5, c6, c7', c8⟩, -⟩ := hC_cells hSw; clear hSw; go_simp <;> (first | with_reducible rfl | omega | skip))
  simp only [Act.put, List.setIfInBounds_toArray, List.set_cons_zero, List.set_cons_succ]
  refine wpAnyE_tk (i := 29) (d := some 89) (v := .slice a1 l1.length cap1) rfl (by kernel_rfl) (by kernel_rfl) (by kernel_rfl) rfl (fun _ _ _ h => h) rfl rfl ?hy hHeld ?_
  case hy => (intro w' hSw; obtain ⟨⟨c0, c1', c2, c3, c4, c5, c6, c7', c8⟩, -⟩ := hC_cells hSw; clear hSw; go_simp <;> (first | with_reducible rfl | omega | skip))
  simp only [Act.put, List.setIfInBounds_toArray, List.set_cons_zero, List.set_cons_succ]
  refine wpAnyE_on (i := 30) (by kernel_rfl) rfl rfl ?_
  go_simp
  refine HCF.mono ?_
  rintro e w9 ⟨rfl, rfl⟩
  refine ⟨hHeld, ?_⟩
  refine wpAnyE_tk (i := 31) (d := some 91) (v := .bool true) rfl (by kernel_rfl) (by kernel_rfl) (by kernel_rfl) rfl (fun _ _ _ h => h) rfl rfl ?hy hHeld ?_
  case hy => (intro w' hSw; obtain ⟨⟨c0, c1', c2, c3, c4, c5, c6, c7', c8⟩, -⟩ := hC_cells hSw; clear hSw; go_simp <;> (first | with_reducible rfl | omega | skip))
  simp only [Act.put, List.setIfInBounds_toArray, List.set_cons_zero, List.set_cons_succ]
  refine wpAnyE_tk (i := 32) (d := some 92) (v := .bool true) rfl (by kernel_rfl) (by kernel_rfl) (by kernel_rfl) rfl (fun _ _ _ h => h) rfl rfl ?hy hHeld ?_
  case hy => (intro w' hSw; obtain ⟨⟨c0, c1', c2, c3, c4, c5, c6, c7', c8⟩, -⟩ := hC_cells hSw; clear hSw; go_simp <;> (first | with_reducible rfl | omega | skip))
  simp only [Act.put, List.setIfInBounds_toArray, List.set_cons_zero, List.set_cons_succ]
  refine wpAnyE_tk (i := 33) (d := some 93) (v := .bool true) rfl (by kernel_rfl) (by kernel_rfl) (by kernel_rfl) rfl (fun _ _ _ h => h) rfl rfl ?hy hHeld ?_
  case hy => (intro w' hSw; obtain ⟨⟨c0, c1', c2, c3, c4, c5, c6, c7', c8⟩, -⟩ := hC_cells hSw; clear hSw; go_simp <;> (first | with_reducible rfl | omega | skip))
  simp only [Act.put, List.setIfInBounds_toArray, List.set_cons_zero, List.set_cons_succ]
  refine wpAnyE_on (i := 34) (by kernel_rfl) rfl rfl ?_
  go_simp
  refine HWK.mono ?_
  rintro e w9 ⟨rfl, hB9⟩
  have HB9 : Hid (Below w0.heap.size w0 w9) := HB8.out.trans ((((Below.refl W8.heap.size W8).drew).trans hB9).mono HB8.out.size)
  have hHeld9 := Lies.below hHeld hB9 (Lies.lt hHeld)
  clear hHeld hB9
  refine ⟨hHeld9, ?_⟩
  refine wpAnyE_tk (i := 35) (d := some 95) (v := .bool true) rfl (by kernel_rfl) (by kernel_rfl) (by kernel_rfl) rfl (fun _ _ _ h => h) rfl rfl ?hy hHeld9 ?_
  case hy => (intro w' hSw; obtain ⟨⟨c0, c1', c2, c3, c4, c5, c6, c7', c8⟩, -⟩ := hC_cells hSw; clear hSw; go_simp <;> (first | with_reducible rfl | omega | skip))
  simp only [Act.put, List.setIfInBounds_toArray, List.set_cons_zero, List.set_cons_succ]
  refine wpAnyE_tk (i := 36) (d := some 6) (v := .bool true) rfl (by kernel_rfl) (by kernel_rfl) (by kernel_rfl) rfl (fun _ _ _ h => h) rfl rfl ?hy hHeld9 ?_
  case hy => (intro w' hSw; obtain ⟨⟨c0, c1', c2, c3, c4, c5, c6, c7', c8⟩, -⟩ := hC_cells hSw; clear hSw; go_simp <;> (first | with_reducible rfl | omega | skip))
  simp only [Act.put, List.setIfInBounds_toArray, List.set_cons_zero, List.set_cons_succ]
  refine wpAnyE_done (by kernel_rfl) ?_ _
  clear hHeld9
  go_wp2_with fail
  go_ret
  exact ⟨rfl, HB9.out⟩
theorem walk {w : World} (a1 : Option Addr) (l1 : List UInt8) (cap1 : Nat) (hr1 : Bts a1 l1 w) (hl1 : l1.length ≤ 1048576) (hc1 : l1.length ≤ cap1) (hn1 : a1 = none → cap1 = 0) (hm1 : cap1 ≤ 9223372036854775807) (ca : Option Addr) (zs : List Int) (ccap : Nat) (hz : IntsB ca zs w) (hzl : zs.length ≤ 1048576) (a3 : Option Addr) (l3 : List UInt8) (cap3 : Nat) (hr3 : Bts a3 l3 w) (hl3 : l3.length ≤ 1048576) (h3a : l3.length ≤ cap3) (hn3 : a3 = none → cap3 = 0) (h3b : cap3 ≤ 9223372036854775807) :
    Calls Try.prog 6 #[.slice a1 l1.length cap1, .slice ca zs.length ccap, .slice a3 l3.length cap3] w fun e w' => e = .returned (.bool true) ∧ Below w.heap.size w w' := by
  by_cases h : wholeI l1 = 0
  · exact walk_ok a1 l1 cap1 hr1 hl1 hc1 hn1 hm1 ca zs ccap hz hzl a3 l3 cap3 hr3 hl3 h3a hn3 h3b h
  · exact walk_bad a1 l1 cap1 hr1 hl1 hc1 hn1 hm1 ca zs ccap a3 l3 cap3 h

theorem own : ownKnob Try.prog.godebug = none := by kernel_rfl
theorem laidOut : laidOutB Try.prog = true := by kernel_rfl
set_option maxRecDepth 100000 in
theorem contract (H : Type) (enc : TypeId × Value → H) (W : World) (base : Nat) (args : Array Value) (ds gs : List (DataW H)) (before : List MemPlace)
    (hval : ∀ (j : Nat) t v, Try.f6.params[j]? = some t → args[j]? = some v → Value.okWide Try.prog W .any base t v)
    (hW : DataW.Whole enc Try.prog Try.f6.params.toList Rows.dotsBackSpec.vars false W args.toList ds gs before)
    (hk : Rows.uptoSmall H (ds ++ gs) = true) :
    Calls Try.prog 6 args W fun e W' => ∃ v, e = .returned v ∧ Rows.dotsBackSpec.post enc Try.prog Try.f6 false true false false W args v W' := by
  have hW' := hW
  obtain ⟨p, q, hA0, hV, rfl, hfz, hnd⟩ := hW
  have hA : DataW.TrodAll enc Try.prog W 0 (fun _ => true) true Try.f6.params.toList args.toList ds p := hA0
  rw [Try.params6] at hA hval
  obtain ⟨v0, vs0, d0, ds0, p0, q0, hargs, rfl, rfl, h0, r0⟩ := trodAll_cons hA
  obtain ⟨v1, vs1, d1, ds1, p1, q1, rfl, rfl, rfl, h1, r1⟩ := trodAll_cons r0
  obtain ⟨v2, vs2, d2, ds2, p2, q2, rfl, rfl, rfl, h2, r2⟩ := trodAll_cons r1
  obtain ⟨rfl, rfl, rfl⟩ := trodAll_nil r2
  obtain rfl : args = #[v0, v1, v2] := by cases args; simp_all
  obtain ⟨rfl, rfl⟩ := trodVars_none hV
  have k0 := h0
  have lt0 : ∀ x ∈ p0, x.block < W.heap.size := by obtain ⟨m, hm⟩ := k0; exact DataW.trod_lt m _ _ _ hm
  obtain ⟨a0, len0, cap0, rfl⟩ := okWide_slice Try.underlying27 (hval 0 27 v0 rfl rfl)
  obtain ⟨l0, e0, row0, cp0, bd0⟩ := open_bytes h0
  have nn0 := open_none k0
  have k1 := h1
  have lt1 : ∀ x ∈ p1, x.block < W.heap.size := by obtain ⟨m, hm⟩ := k1; exact DataW.trod_lt m _ _ _ hm
  obtain ⟨a1, len1, cap1, rfl⟩ := okWide_slice Try.underlying59 (hval 1 59 v1 rfl rfl)
  obtain ⟨l1, e1, row1, bd1⟩ := open_nums h1
  have k2 := h2
  have lt2 : ∀ x ∈ p2, x.block < W.heap.size := by obtain ⟨m, hm⟩ := k2; exact DataW.trod_lt m _ _ _ hm
  obtain ⟨a2, len2, cap2, rfl⟩ := okWide_slice Try.underlying27 (hval 2 27 v2 rfl rfl)
  obtain ⟨l2, e2, row2, cp2, bd2⟩ := open_bytes h2
  have nn2 := open_none k2
  clear hA0
  have s0 : l0.length ≤ 1048576 := by
    rcases bd0 with ⟨el, sp, rfl, hl⟩ | ⟨rfl, hl⟩
    · have := bulk_slice hk (el := el) (sp := sp) (by simp)
      omega
    · omega
  subst e0
  have s1 : l1.length ≤ 1048576 := by
    rcases bd1 with ⟨el, sp, rfl, hl⟩ | ⟨rfl, hl⟩
    · have := bulk_slice hk (el := el) (sp := sp) (by simp)
      omega
    · omega
  subst e1
  have s2 : l2.length ≤ 1048576 := by
    rcases bd2 with ⟨el, sp, rfl, hl⟩ | ⟨rfl, hl⟩
    · have := bulk_slice hk (el := el) (sp := sp) (by simp)
      omega
    · omega
  subst e2
  refine (walk a0 l0 cap0 row0 s0 cp0 nn0 (open_cap k0) a1 l1 cap1 row1 s1 a2 l2 cap2 row2 s2 cp2 nn2 (open_cap k2)).mono fun e W' ⟨he, bel⟩ => ?_
  subst he
  exact ⟨_, rfl, _, _, _, [], _, [], hW', trodAll_mk1 (shut_bool Try.underlying4 _), trodAll_cons_mk (Below.trod laidOut (by kernel_rfl) (of_decide_eq_true (by kernel_rfl)) k0 bel lt0) (trodAll_cons_mk (Below.trod laidOut (by kernel_rfl) (of_decide_eq_true (by kernel_rfl)) k1 bel lt1) (trodAll_cons_mk (Below.trod laidOut (by kernel_rfl) (of_decide_eq_true (by kernel_rfl)) k2 bel lt2) trodAll_mk0)), rfl, bel.frame _, fun h => by cases h⟩

set_option maxRecDepth 100000 in
theorem lifted (os : Os) (started : os.Started) (H : Type) (enc : TypeId × Value → H) (F : Stop.Interp) :
    ReturnsInHanded {} Try.checked os 6 .any ((Rows.OpenSpec.upto Rows.dotsBackSpec).pre6 enc Try.prog Try.f6 Rows.dotsBackUptoRow.domain false) (((Rows.OpenSpec.upto Rows.dotsBackSpec).at F).post enc Try.prog Try.f6 false true false false) := by
  refine returnsInHanded_of_cond (C := Try.checked) (s := Rows.OpenSpec.upto Rows.dotsBackSpec) (k := Rows.uptoSmall) rfl own started (by kernel_rfl) Try.func6
    (OpenSpec.witness (enc := enc) (C := Try.checked) (s := Rows.OpenSpec.upto Rows.dotsBackSpec) (k := Rows.uptoSmall) rfl false ⟨#[], #[.slice none 0 0, .slice none 0 0, .slice none 0 0], []⟩ 8 (by kernel_rfl) (by kernel_rfl) (by kernel_rfl)
      (x := ([.nil, .nil, .nil], [], [])) (by kernel_rfl) rfl (by kernel_rfl)) ?_
  intro W base args ds gs before hval hW _ hk _
  exact contract H enc W base args ds gs before hval hW hk

theorem over : Rows.DotsBackUptoSaid :=
  OpenClaim.holds_of_cond 6 Try.f6 rfl rfl rfl rfl rfl rfl rfl ⟨rfl, rfl, rfl, rfl, rfl⟩ rfl rfl rfl rfl rfl (by kernel_rfl) Try.func6 (by kernel_rfl)
    (of_decide_eq_true (by kernel_rfl)) (by unfold Func.isWrapper; first | (rw [if_pos (by decide +kernel)]; kernel_rfl) | (rw [if_neg (by decide +kernel)]; exact ⟨rfl, rfl⟩))
    (fun os started H enc _ F => lifted os started H enc F)
end Go.Proofs.Ytfifpepcmpaipaa.dotsBack
namespace Go.Proofs.Ytfifpepcmpaipaa
theorem dotsBackUpto_said : Rows.DotsBackUptoSaid := dotsBack.over
#print axioms dotsBackUpto_said
end Go.Proofs.Ytfifpepcmpaipaa
