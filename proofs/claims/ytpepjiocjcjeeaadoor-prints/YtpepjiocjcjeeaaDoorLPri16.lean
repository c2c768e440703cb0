/-
  For every list of fields that holds at most 1048576 values and letters: Check and Print answer as the document asks, leave the fields as they were, and tell new memory (P16.2, P16.3). Conditions: those of the statement in its second form.
-/
import Derived.Test.YtpepjiocjcjeeaaDoorPh16
import Derived.ProofKit
import Derived.ChangeMaps5
import Derived.OpenShut
import Derived.ShutString
import Derived.ChangeOld
import Derived.SizedLaws
namespace Go.Proofs.YtpepjiocjcjeeaaDoor.fieldPrints
open Go.ChangeShapes Go.WideShapes Go.ChangeAt Go.RowKit

theorem lit_errno : prE [⟨[65], [49]⟩] = 0 := by
  have e : chkF [65] [49] = 0 := by
    unfold chkF
    have h0 : leH (([49] : List UInt8).drop (rwE [49] 0)) = false := by decide
    rw [if_pos (by decide), rws_off [49] 0 h0]
    decide
  unfold prE errF errF
  rw [if_neg (by decide), if_pos e]
theorem lit_text : prR [⟨[65], [49]⟩] = [65, 58, 49, 13, 10] := by
  unfold prR
  rw [if_pos lit_errno]
  rfl
set_option maxRecDepth 100000 in
set_option maxHeartbeats 16000000 in
theorem walk {w : World} (a0 : Option Addr) (l : List Fd) (cap0 : Nat) (hr : Fds a0 l w) (hn0 : a0 = none → cap0 = 0) (hl : l.length ≤ 1048576) (htt : totF l ≤ 1048576) (hT : Table w) :
    Calls Tryd.prog 4 #[.slice a0 l.length cap0] w fun e w' => e = .returned (.bool true) ∧ Below w.heap.size w w' := by
  have HR : Hid (Fds a0 l w) := hr
  have HT : Hid (Table w) := hT
  have HLE := lentF_any a0 cap0 l w hr hn0 (by omega)
  have hPl := prR_le l hl htt
  have HUP : Hid (∀ (a : Option Addr) (cap : Nat) (wx : World), Fds a l wx → Calls Tryd.prog 14 #[.slice a l.length cap] wx fun e w' => ∃ b c, e = .returned (.tuple #[.slice b (prR l).length c, .int .i64 (prE l : Int)]) ∧ Below wx.heap.size wx w' ∧ w'.ownsRow wx.heap.size 5 1 (.slice b (prR l).length c) (prR l).length (cellsB (prR l))) := fun a cap wx h => uprint_row a cap l wx h hl htt
  have HFP : Hid (∀ (a : Option Addr) (cap : Nat) (wx : World), Fds a l wx → Table wx → Calls Tryd.prog 17 #[.slice a l.length cap] wx fun e w' => ∃ b c, e = .returned (.tuple #[.slice b (prR l).length c, .int .i64 (prE l : Int)]) ∧ Below wx.heap.size wx w' ∧ w'.ownsRow wx.heap.size 5 1 (.slice b (prR l).length c) (prR l).length (cellsB (prR l))) := fun a cap wx h h2 => fprint_row a cap l wx h hl htt h2
  have HZ : Hid (∀ p ∈ l, p.name.length ≤ 1048576 ∧ p.body.length ≤ 1048576) := fun p hp => by have := totF_mem l p hp; omega
  have hlI : (l.length : Int) ≤ 1048576 := by omega
  clear hr hn0 htt hT
  generalize prR l = P at *
  generalize prE l = E at *
  go_enter Tryd.func4, Tryd.ntmps4
  go_wp2_with fail
  refine HLE.mono ?_
  rintro e w1 ⟨g, rfl, ho1, hb1⟩
  have HO1 : Hid (w1.ownsRow w.heap.size 34 2 (.slice (some ⟨g, 0, none⟩) (l.length + 70) (l.length + 70)) (l.length + 70) (cellsF (l ++ List.replicate 70 mrk))) := ho1
  have HB1 : Hid (Below w.heap.size w w1) := hb1
  clear ho1 hb1 HLE
  go_wp2_with fail
  refine (HUP.out _ _ _ (HR.out.below HB1.out)).mono ?_
  rintro e w2 ⟨b2, c2, rfl, hb2, ho2⟩
  have HO2 : Hid (w2.ownsRow w1.heap.size 5 1 (.slice b2 P.length c2) P.length (cellsB P)) := ho2
  have HI1 : Hid (w2.ownsRow w.heap.size 34 2 (.slice (some ⟨g, 0, none⟩) (l.length + 70) (l.length + 70)) (l.length + 70) (cellsF (l ++ List.replicate 70 mrk))) := ownT_below HO1.out hb2
  have HB2 : Hid (Below w.heap.size w w2) := HB1.out.trans (hb2.mono HB1.out.size)
  have hz12 : w1.heap.size ≤ w2.heap.size := hb2.size
  have hzg : g < w1.heap.size := (HO1.out.lt g rfl).2
  have hz01 : w.heap.size ≤ w1.heap.size := HB1.out.size
  clear ho2 hb2 HO1 HB1 HUP
  go_wp2_with fail
  go_loopw [6, 24] (fun _ iv wr => ∃ k : Nat, k ≤ l.length ∧ iv = .int .i64 (k : Int) ∧ Hid (Below w2.heap.size w2 wr)) (fun _ iv _ => l.length - (intOf iv).toNat)
  case atStart => exact ⟨0, Nat.zero_le _, rfl, Below.refl _ _⟩
  case round =>
    obtain ⟨k, hk, rfl, HB⟩ := hrel
    by_cases hlt : k < l.length
    · have hki : (k : Int) < (l.length : Int) := by omega
      obtain ⟨g0, o0, hga, a1, a2⟩ := (HR.out.below (HB2.out.trans (HB.out.mono HB2.out.size))).at k hlt
      have hfi := fds_fore (ownT_below HI1.out HB.out)
      obtain ⟨g', o', he, d1, d2⟩ := hfi.at k hlt
      cases he
      rw [Nat.zero_add] at d1 d2
      have hg0 : g0 < w.heap.size := by
        rcases HR.out with e | ⟨g9, o9, e9, h9, _⟩
        · rw [e] at hlt; cases hlt
        · rw [hga] at e9; cases e9; exact h9
      subst hga
      have hzk := HZ.out _ (List.getElem_mem hlt)
      have HCK : Hid (∀ wx, Table wx → Calls Tryd.prog 15 #[.agg #[.string (tx l[k].name), .string (tx l[k].body)]] wx fun e w' => e = .returned (.int .i64 (chkF l[k].name l[k].body : Int)) ∧ Below wx.heap.size wx w') := fun wx hx => by
        have := fcheck_any (tx l[k].name) (tx l[k].body) (by rw [tx_size]; omega) (by rw [tx_size]; omega) wx hx
        rw [tx_list, tx_list] at this
        exact this
      have HCU : Hid (∀ wx, Calls Tryd.prog 16 #[.agg #[.string (tx l[k].name), .string (tx l[k].body)]] wx fun e w' => e = .returned (.int .i64 (chkF l[k].name l[k].body : Int)) ∧ Below wx.heap.size wx w') := fun wx => by
        have := ucheck_any (tx l[k].name) (tx l[k].body) (by rw [tx_size]; omega) (by rw [tx_size]; omega) wx
        rw [tx_list, tx_list] at this
        exact this
      have HTR : Hid (Table wr) := tab_below HT.out (HB2.out.trans (HB.out.mono HB2.out.size))
      have hgr : g < wr.heap.size := by have := HB.out.size; omega
      have hg0r : g0 < wr.heap.size := by have := HB.out.size; omega
      clear hzk hfi
      generalize chkF l[k].name l[k].body = ck at *
      generalize tx l[k].name = t1 at *
      generalize tx l[k].body = t2 at *
      go_wp2_with fail
      refine wp_region_late (fun wx => wx.cell? ⟨g, k * 2, none⟩ = some (.string t1) ∧ wx.cell? ⟨g, k * 2 + 1, none⟩ = some (.string t2) ∧ wx.cell? ⟨g0, o0 + k * 2, none⟩ = some (.string t1) ∧ wx.cell? ⟨g0, o0 + k * 2 + 1, none⟩ = some (.string t2)) 11 (by kernel_rfl) ⟨d1, d2, a1, a2⟩ (fun hHeld => ?_)
      refine wpAnyE_tk (i := 0) (d := some 27) (v := .slice (some ⟨g, 0, none⟩) l.length (l.length + 70)) rfl (by kernel_rfl) (by kernel_rfl) (by kernel_rfl) rfl (fun _ _ _ h => h) rfl rfl ?hy (by first | assumption | exact hHeld) ?_
      case hy => (intro w' hSw; obtain ⟨q0, q1, q2, q3⟩ := hSw; go_simp <;> (first | with_reducible rfl | omega | skip))
      simp only [Act.put, List.setIfInBounds_toArray, List.set_cons_zero, List.set_cons_succ]
      refine wpAnyE_tk (i := 1) (d := some 28) (v := .int .i64 (k : Int)) rfl (by kernel_rfl) (by kernel_rfl) (by kernel_rfl) rfl (fun _ _ _ h => h) rfl rfl ?hy (by first | assumption | exact hHeld) ?_
      case hy => (intro w' hSw; obtain ⟨q0, q1, q2, q3⟩ := hSw; go_simp <;> (first | with_reducible rfl | omega | skip))
      simp only [Act.put, List.setIfInBounds_toArray, List.set_cons_zero, List.set_cons_succ]
      refine wpAnyE_tk (i := 2) (d := some 29) (v := .pointer (some ⟨g, k * 2, none⟩)) rfl (by kernel_rfl) (by kernel_rfl) (by kernel_rfl) rfl (fun _ _ _ h => h) rfl rfl ?hy (by first | assumption | exact hHeld) ?_
      case hy => (intro w' hSw; obtain ⟨q0, q1, q2, q3⟩ := hSw; go_simp <;> (first | with_reducible rfl | omega | skip))
      simp only [Act.put, List.setIfInBounds_toArray, List.set_cons_zero, List.set_cons_succ]
      refine wpAnyE_tk (i := 3) (d := some 30) (v := .agg #[.string t1, .string t2]) rfl (by kernel_rfl) (by kernel_rfl) (by kernel_rfl) rfl (fun _ _ _ h => h) rfl rfl ?hy (by first | assumption | exact hHeld) ?_
      case hy => (intro w' hSw; obtain ⟨q0, q1, q2, q3⟩ := hSw; go_simp <;> (first | with_reducible rfl | omega | skip))
      simp only [Act.put, List.setIfInBounds_toArray, List.set_cons_zero, List.set_cons_succ]
      refine wpAnyE_tk (i := 5) (d := some 32) (v := .slice (some ⟨g0, o0, none⟩) l.length cap0) rfl (by kernel_rfl) (by kernel_rfl) (by kernel_rfl) rfl (fun _ _ _ h => h) rfl rfl ?hy (by first | assumption | exact hHeld) ?_
      case hy => (intro w' hSw; obtain ⟨q0, q1, q2, q3⟩ := hSw; go_simp <;> (first | with_reducible rfl | omega | skip))
      simp only [Act.put, List.setIfInBounds_toArray, List.set_cons_zero, List.set_cons_succ]
      refine wpAnyE_tk (i := 6) (d := some 33) (v := .int .i64 (k : Int)) rfl (by kernel_rfl) (by kernel_rfl) (by kernel_rfl) rfl (fun _ _ _ h => h) rfl rfl ?hy (by first | assumption | exact hHeld) ?_
      case hy => (intro w' hSw; obtain ⟨q0, q1, q2, q3⟩ := hSw; go_simp <;> (first | with_reducible rfl | omega | skip))
      simp only [Act.put, List.setIfInBounds_toArray, List.set_cons_zero, List.set_cons_succ]
      refine wpAnyE_tk (i := 7) (d := some 34) (v := .pointer (some ⟨g0, o0 + k * 2, none⟩)) rfl (by kernel_rfl) (by kernel_rfl) (by kernel_rfl) rfl (fun _ _ _ h => h) rfl rfl ?hy (by first | assumption | exact hHeld) ?_
      case hy => (intro w' hSw; obtain ⟨q0, q1, q2, q3⟩ := hSw; go_simp <;> (first | with_reducible rfl | omega | skip))
      simp only [Act.put, List.setIfInBounds_toArray, List.set_cons_zero, List.set_cons_succ]
      refine wpAnyE_tk (i := 8) (d := some 35) (v := .agg #[.string t1, .string t2]) rfl (by kernel_rfl) (by kernel_rfl) (by kernel_rfl) rfl (fun _ _ _ h => h) rfl rfl ?hy (by first | assumption | exact hHeld) ?_
      case hy => (intro w' hSw; obtain ⟨q0, q1, q2, q3⟩ := hSw; go_simp <;> (first | with_reducible rfl | omega | skip))
      simp only [Act.put, List.setIfInBounds_toArray, List.set_cons_zero, List.set_cons_succ]
      refine wpAnyE_on (i := 4) (by kernel_rfl) rfl rfl ?_
      go_simp
      refine (HCK.out wr.drew HTR.out).mono ?_
      rintro e w3 ⟨rfl, hb3⟩
      have hHeld3 : w3.cell? ⟨g, k * 2, none⟩ = some (.string t1) ∧ w3.cell? ⟨g, k * 2 + 1, none⟩ = some (.string t2) ∧ w3.cell? ⟨g0, o0 + k * 2, none⟩ = some (.string t1) ∧ w3.cell? ⟨g0, o0 + k * 2 + 1, none⟩ = some (.string t2) := ⟨(hb3.cell (p := ⟨g, k * 2, none⟩) hgr).trans d1, (hb3.cell (p := ⟨g, k * 2 + 1, none⟩) hgr).trans d2, (hb3.cell (p := ⟨g0, o0 + k * 2, none⟩) hg0r).trans a1, (hb3.cell (p := ⟨g0, o0 + k * 2 + 1, none⟩) hg0r).trans a2⟩
      refine ⟨hHeld3, ?_⟩
      refine wpAnyE_on (i := 9) (by kernel_rfl) rfl rfl ?_
      go_simp
      refine (HCU.out _).mono ?_
      rintro e w4 ⟨rfl, hb4⟩
      have hs3 : wr.heap.size ≤ w3.heap.size := hb3.size
      have hHeld4 : w4.cell? ⟨g, k * 2, none⟩ = some (.string t1) ∧ w4.cell? ⟨g, k * 2 + 1, none⟩ = some (.string t2) ∧ w4.cell? ⟨g0, o0 + k * 2, none⟩ = some (.string t1) ∧ w4.cell? ⟨g0, o0 + k * 2 + 1, none⟩ = some (.string t2) := ⟨(hb4.cell (p := ⟨g, k * 2, none⟩) (by dsimp only; omega)).trans hHeld3.1, (hb4.cell (p := ⟨g, k * 2 + 1, none⟩) (by dsimp only; omega)).trans hHeld3.2.1, (hb4.cell (p := ⟨g0, o0 + k * 2, none⟩) (by dsimp only; omega)).trans hHeld3.2.2.1, (hb4.cell (p := ⟨g0, o0 + k * 2 + 1, none⟩) (by dsimp only; omega)).trans hHeld3.2.2.2⟩
      refine ⟨hHeld4, ?_⟩
      have HB4 : Hid (Below w2.heap.size w2 w4) := HB.out.drew.trans ((hb3.trans (hb4.mono hb3.size)).mono HB.out.size)
      clear hHeld hHeld3 hb3 hb4
      refine wpAnyE_on (i := 10) (by kernel_rfl) rfl rfl ?_
      go_simp
      refine wpAnyE_done (by kernel_rfl) ?_ _
      clear hHeld4
      go_wp2_with fail
      go_roundw
      case rel => exact ⟨k + 1, by omega, by go_num, HB4.out⟩
      case measure => simp [intOf]; omega
    · obtain rfl : k = l.length := by omega
      have HIr : Hid (wr.ownsRow w.heap.size 34 2 (.slice (some ⟨g, 0, none⟩) (l.length + 70) (l.length + 70)) (l.length + 70) (cellsF (l ++ List.replicate 70 mrk))) := ownT_below HI1.out HB.out
      have HOr : Hid (wr.ownsRow w1.heap.size 5 1 (.slice b2 P.length c2) P.length (cellsB P)) := ownT_below HO2.out HB.out
      have HBr : Hid (Below w.heap.size w wr) := HB2.out.trans (HB.out.mono HB2.out.size)
      have hz2r : w2.heap.size ≤ wr.heap.size := HB.out.size
      have HZ2 : Hid (∀ j, (Value.slice b2 P.length c2).ownBlock = some j → w1.heap.size ≤ j ∧ j < w2.heap.size) := fun j hj => HO2.out.lt j hj
      clear HB HI1 HO2 HB2 hk hlt HZ
      go_wp2_with fail
      refine (HFP.out _ _ _ (fds_fore HIr.out) (tab_below HT.out HBr.out)).mono ?_
      rintro e w3 ⟨b3, c3, rfl, hb3, ho3⟩
      have HO3 : Hid (w3.ownsRow wr.heap.size 5 1 (.slice b3 P.length c3) P.length (cellsB P)) := ho3
      have HI3 : Hid (w3.ownsRow w.heap.size 34 2 (.slice (some ⟨g, 0, none⟩) (l.length + 70) (l.length + 70)) (l.length + 70) (cellsF (l ++ List.replicate 70 mrk))) := ownT_below HIr.out hb3
      have HO23 : Hid (w3.ownsRow w1.heap.size 5 1 (.slice b2 P.length c2) P.length (cellsB P)) := ownT_below HOr.out hb3
      have HB3 : Hid (Below w.heap.size w w3) := HBr.out.trans (hb3.mono HBr.out.size)
      have hzr3 : wr.heap.size ≤ w3.heap.size := hb3.size
      have HZ3 : Hid (∀ j, (Value.slice b3 P.length c3).ownBlock = some j → wr.heap.size ≤ j ∧ j < w3.heap.size) := fun j hj => ho3.lt j hj
      clear ho3 hb3 HIr HOr HBr
      go_wp2_with fail
      refine (HFP.out _ _ _ (fds_fore HI3.out) (tab_below HT.out HB3.out)).mono ?_
      rintro e w4 ⟨b4, c4, rfl, hb4, ho4⟩
      have HO4 : Hid (w4.ownsRow w3.heap.size 5 1 (.slice b4 P.length c4) P.length (cellsB P)) := ho4
      have HI4 : Hid (w4.ownsRow w.heap.size 34 2 (.slice (some ⟨g, 0, none⟩) (l.length + 70) (l.length + 70)) (l.length + 70) (cellsF (l ++ List.replicate 70 mrk))) := ownT_below HI3.out hb4
      have HO24 : Hid (w4.ownsRow w1.heap.size 5 1 (.slice b2 P.length c2) P.length (cellsB P)) := ownT_below HO23.out hb4
      have HO34 : Hid (w4.ownsRow wr.heap.size 5 1 (.slice b3 P.length c3) P.length (cellsB P)) := ownT_below HO3.out hb4
      have HB4 : Hid (Below w.heap.size w w4) := HB3.out.trans (hb4.mono HB3.out.size)
      have HZ4 : Hid (∀ j, (Value.slice b4 P.length c4).ownBlock = some j → w3.heap.size ≤ j ∧ j < w4.heap.size) := fun j hj => ho4.lt j hj
      clear ho4 hb4 HO3 HI3 HO23 HB3
      have v2 := own_tx HO24.out
      have v3 := own_tx HO34.out
      have v4 := own_tx HO4.out
      obtain ⟨X, hX⟩ : ∃ X, X = tx P := ⟨_, rfl⟩
      rw [← hX] at v2 v3 v4
      have HX : Hid (X = tx P) := hX
      clear hX
      go_wp2_with fail
      refine (keptF_any a0 cap0 g w.heap.size l w4 (HR.out.below HB4.out) (by omega) HI4.out).mono ?_
      rintro e w5 ⟨rfl, hb5⟩
      have HI5 : Hid (w5.ownsRow w.heap.size 34 2 (.slice (some ⟨g, 0, none⟩) (l.length + 70) (l.length + 70)) (l.length + 70) (cellsF (l ++ List.replicate 70 mrk))) := ownT_below HI4.out hb5
      have HO25 : Hid (w5.ownsRow w1.heap.size 5 1 (.slice b2 P.length c2) P.length (cellsB P)) := ownT_below HO24.out hb5
      have HO35 : Hid (w5.ownsRow wr.heap.size 5 1 (.slice b3 P.length c3) P.length (cellsB P)) := ownT_below HO34.out hb5
      have HO45 : Hid (w5.ownsRow w3.heap.size 5 1 (.slice b4 P.length c4) P.length (cellsB P)) := ownT_below HO4.out hb5
      have HB5 : Hid (Below w.heap.size w w5) := HB4.out.trans (hb5.mono HB4.out.size)
      clear hb5 HI4 HO24 HO34 HO4 HB4 v2 v3 v4
      have hc3 := own_capT HO35.out
      have hc4 := own_capT HO45.out
      go_wp2_with fail
      refine (spoilB_any _ b3 P.length c3 _ w5 HO35.out (by omega) hc3).mono ?_
      rintro e w6 ⟨rfl, hg6⟩
      have HI6 : Hid (w6.ownsRow w.heap.size 34 2 (.slice (some ⟨g, 0, none⟩) (l.length + 70) (l.length + 70)) (l.length + 70) (cellsF (l ++ List.replicate 70 mrk))) := own_far HI5.out hg6 (fun j hj e => by have e2 : g = j := Option.some.inj hj; have := HZ3.out _ e; omega)
      have HO26 : Hid (w6.ownsRow w1.heap.size 5 1 (.slice b2 P.length c2) P.length (cellsB P)) := own_far HO25.out hg6 (fun j hj e => by have := HZ3.out _ e; have := HZ2.out _ hj; omega)
      have HO46 : Hid (w6.ownsRow w3.heap.size 5 1 (.slice b4 P.length c4) P.length (cellsB P)) := own_far HO45.out hg6 (fun j hj e => by have := HZ3.out _ e; have := HZ4.out _ hj; omega)
      have HB6 : Hid (Below w.heap.size w w6) := HB5.out.grown hg6 HB5.out.size (fun q hq => by have := HZ3.out _ hq; omega)
      clear hg6 HI5 HO25 HO35 HO45 HB5
      have v2 := own_tx HO26.out
      have v4 := own_tx HO46.out
      rw [← HX.out] at v2 v4
      go_wp2_with fail
      refine (spoilB_any _ b4 P.length c4 _ w6 HO46.out (by omega) hc4).mono ?_
      rintro e w7 ⟨rfl, hg7⟩
      have HI7 : Hid (w7.ownsRow w.heap.size 34 2 (.slice (some ⟨g, 0, none⟩) (l.length + 70) (l.length + 70)) (l.length + 70) (cellsF (l ++ List.replicate 70 mrk))) := own_far HI6.out hg7 (fun j hj e => by have e2 : g = j := Option.some.inj hj; have := HZ4.out _ e; omega)
      have HO27 : Hid (w7.ownsRow w1.heap.size 5 1 (.slice b2 P.length c2) P.length (cellsB P)) := own_far HO26.out hg7 (fun j hj e => by have := HZ4.out _ e; have := HZ2.out _ hj; omega)
      have HB7 : Hid (Below w.heap.size w w7) := HB6.out.grown hg7 HB6.out.size (fun q hq => by have := HZ4.out _ hq; omega)
      clear hg7 HI6 HO26 HO46 HB6 v2 v4
      go_wp2_with fail
      refine (HFP.out _ _ _ (fds_fore HI7.out) (tab_below HT.out HB7.out)).mono ?_
      rintro e w8 ⟨b8, c8, rfl, hb8, ho8⟩
      have HO8 : Hid (w8.ownsRow w7.heap.size 5 1 (.slice b8 P.length c8) P.length (cellsB P)) := ho8
      have HO28 : Hid (w8.ownsRow w1.heap.size 5 1 (.slice b2 P.length c2) P.length (cellsB P)) := ownT_below HO27.out hb8
      have HB8 : Hid (Below w.heap.size w w8) := HB7.out.trans (hb8.mono HB7.out.size)
      clear hb8 ho8 HI7 HO27 HB7
      obtain ⟨W9, hW9⟩ : ∃ W9, W9 = w8.alloc (.cells #[.string ⟨#[65]⟩, .string ⟨#[49]⟩] 34) := ⟨_, rfl⟩
      have HB9 : Hid (Below w.heap.size w W9) := by rw [hW9]; exact HB8.out.alloc HB8.out.size _
      have hlf : Fds (some ⟨w8.heap.size, 0, none⟩) [⟨[65], [49]⟩] W9 := by
        rw [hW9]
        exact .inr ⟨w8.heap.size, 0, rfl, by simp, fun j u hj => by
          rw [Nat.zero_add]
          exact ((Lies.new w8 _ _).cell j).trans (by rw [List.getElem?_toArray]; exact hj)⟩
      have HPL := fprint_row (some ⟨w8.heap.size, 0, none⟩) 1 [⟨[65], [49]⟩] W9 hlf (by decide) (by decide) (tab_below HT.out HB9.out)
      rw [lit_errno, lit_text, show ([⟨[65], [49]⟩] : List Fd).length = 1 from rfl] at HPL
      have HO89 : Hid (W9.ownsRow w7.heap.size 5 1 (.slice b8 P.length c8) P.length (cellsB P)) := by rw [hW9]; exact HO8.out.alloc _
      have HO29 : Hid (W9.ownsRow w1.heap.size 5 1 (.slice b2 P.length c2) P.length (cellsB P)) := by rw [hW9]; exact HO28.out.alloc _
      have HW9 : Hid (w8.alloc (.cells #[.string ⟨#[65]⟩, .string ⟨#[49]⟩] 34) = W9) := hW9.symm
      clear hW9 hlf HO8 HO28 HB8
      go_wp2_with fail
      rw [HW9.out]
      refine HPL.mono ?_
      rintro e wA ⟨bA, cA, rfl, hbA, hoA⟩
      have v8 := own_tx (ownT_below HO89.out hbA)
      have v2 := own_tx (ownT_below HO29.out hbA)
      have vA := own_tx hoA
      rw [← HX.out] at v8 v2
      have HBA : Hid (Below w.heap.size w wA) := HB9.out.trans (hbA.mono HB9.out.size)
      rw [show tx [65, 58, 49, 13, 10] = (⟨#[65, 58, 49, 13, 10]⟩ : ByteArray) from rfl, show ([65, 58, 49, 13, 10] : List UInt8).length = 5 from rfl] at vA
      clear hbA hoA HPL HO89 HO29 HB9 HW9
      go_wp2_with fail
      go_ret
      exact ⟨rfl, HBA.out⟩

set_option maxRecDepth 100000 in
theorem contract (H : Type) (enc : TypeId × Value → H) (W : World) (base : Nat) (args : Array Value) (ds gs : List (DataW H)) (before : List MemPlace)
    (hval : ∀ (j : Nat) t v, Tryd.f4.params[j]? = some t → args[j]? = some v → Value.okWide Tryd.prog W .any base t v)
    (hW : DataW.Whole enc Tryd.prog Tryd.f4.params.toList Rows.fieldPrintsSpec.vars false W args.toList ds gs before)
    (hk : Rows.uptoSmall H (ds ++ gs) = true) (hL : laidMetH Tryd.prog Rows.fieldPrintsUptoRow.laid W) (hsh : W.ShapedOpen Tryd.prog) :
    Calls Tryd.prog 4 args W fun e W' => ∃ v, e = .returned v ∧ Rows.fieldPrintsSpec.post enc Tryd.prog Tryd.f4 false true false false W args v W' := by
  have hW' := hW
  obtain ⟨p, q, hA0, hV, rfl, hfz, hnd⟩ := hW
  have hA : DataW.TrodAll enc Tryd.prog W 0 (fun _ => true) true Tryd.f4.params.toList args.toList ds p := hA0
  rw [Tryd.params4] at hA hval
  obtain ⟨v0, vs0, d0, ds0, p0, q0, hargs, rfl, rfl, h0, r0⟩ := trodAll_cons hA
  obtain ⟨rfl, rfl, rfl⟩ := trodAll_nil r0
  obtain rfl : args = #[v0] := by cases args; simp_all
  obtain ⟨rfl, rfl⟩ := trodVars_none hV
  have k0 := h0
  have lt0 : ∀ x ∈ p0, x.block < W.heap.size := by obtain ⟨m, hm⟩ := k0; exact DataW.trod_lt m _ _ _ hm
  obtain ⟨a0, len0, cap0, rfl⟩ := okWide_slice Tryd.underlying24 (hval 0 24 v0 rfl rfl)
  obtain ⟨l0, e0, row0, nn0, dd0⟩ := open_fds h0
  have bk0 := fds_bulk dd0
  have bu0 := Nat.le_trans (bulk_mem (d := d0) (by simp)) (of_decide_eq_true hk)
  have s0 : l0.length ≤ 1048576 := Nat.le_trans bk0.1 bu0
  have t0 : totF l0 ≤ 1048576 := Nat.le_trans bk0.2 bu0
  subst e0
  clear hA0
  refine (walk a0 l0 cap0 row0 nn0 s0 t0 (tabsX_of hL hsh)).mono fun e W' ⟨he, bel⟩ => ?_
  subst he
  exact ⟨_, rfl, _, _, _, [], _, [], hW', trodAll_mk1 (shut_bool Tryd.underlying4 _), trodAll_cons_mk (Below.trod laidOut (by kernel_rfl) (of_decide_eq_true (by kernel_rfl)) k0 bel lt0) trodAll_mk0, rfl, bel.frame _, fun h => by cases h⟩

set_option maxRecDepth 100000 in
theorem laid_met (os : Os) : laidMet Tryd.prog Rows.fieldPrintsUptoRow.laid ((laidWorld os).forCall (fun _ _ => 0) ⟨#[], #[.slice none 0 0], []⟩).memory :=
  laidMet_of_run' 8 (by kernel_rfl) (by kernel_rfl)
set_option maxRecDepth 100000 in
theorem reads (os : Os) {H : Type} (enc : TypeId × Value → H) : ∃ places, DataW.whole enc Tryd.prog ((laidWorld os).forCall (fun _ _ => 0) ⟨#[], #[.slice none 0 0], []⟩).memory Tryd.f4.params.toList Rows.fieldPrintsSpec.vars false #[Value.slice none 0 0].toList 8 = some ([.nil], [], places) :=
  ⟨[], by kernel_rfl⟩

set_option maxRecDepth 100000 in
theorem lifted (os : Os) (started : os.Started) (H : Type) (enc : TypeId × Value → H) (F : Stop.Interp) :
    ReturnsInHanded {} Tryd.checked os 4 .any ((Rows.OpenSpec.upto Rows.fieldPrintsSpec).preRow enc Tryd.prog Tryd.f4 Rows.fieldPrintsUptoRow.domain false Rows.fieldPrintsUptoRow.laid) (((Rows.OpenSpec.upto Rows.fieldPrintsSpec).at F).post enc Tryd.prog Tryd.f4 false true false false) := by
  obtain ⟨places, hx⟩ := reads os enc
  refine returnsInHanded_of_row (C := Tryd.checked) (s := Rows.OpenSpec.upto Rows.fieldPrintsSpec) own started (by kernel_rfl) Tryd.func4
    (witness_row_at (enc := enc) (C := Tryd.checked) false (laidWorld os) #[.slice none 0 0] rfl (by kernel_rfl) (by kernel_rfl) (by kernel_rfl)
      (OpenSpec.preRow_of_cond 8 hx (by kernel_rfl) (fun k hk => by cases hk; kernel_rfl) (by kernel_rfl) (laid_met os))) ?_
  intro W base args ds gs before hval hW _ hcond _ hL hsh _
  exact contract H enc W base args ds gs before hval hW (hcond _ rfl) hL hsh

theorem said : Rows.FieldPrintsUptoSaid :=
  OpenClaim.holds_of_cond 4 Tryd.f4 rfl rfl rfl rfl rfl rfl rfl ⟨rfl, rfl, rfl, rfl, rfl⟩ rfl rfl rfl rfl rfl (by kernel_rfl) Tryd.func4 (by kernel_rfl)
    (of_decide_eq_true (by kernel_rfl)) (by unfold Func.isWrapper; first | (rw [if_pos (by decide +kernel)]; kernel_rfl) | (rw [if_neg (by decide +kernel)]; exact ⟨rfl, rfl⟩))
    (fun os started H enc _ F => by rw [OpenClaim.pre_eq_preRow]; exact lifted os started H enc F)

/-- No parameter wants a stand-in; the program's own looks are off. -/
theorem plain (f : FuncId) (fn : Func) (hf : Tryd.pinned.checked.prog.funcNamed "posthorn/posthornlaw16.FieldPrints" = some f) (hfn : Tryd.pinned.checked.prog.funcs[f]? = some fn) :
    false = Tryd.pinned.checked.prog.looks [] ∧ ∀ (j : Nat) t, fn.params[j]? = some t → Tryd.pinned.checked.prog.wantsStandIn t = false := by
  obtain rfl : f = 4 := Option.some.inj ((show Tryd.prog.funcNamed "posthorn/posthornlaw16.FieldPrints" = some 4 by kernel_rfl).symm.trans hf) |>.symm
  obtain rfl : fn = Tryd.f4 := (Option.some.inj (Tryd.func4.symm.trans hfn)).symm
  refine ⟨by kernel_rfl, fun j t ht => ?_⟩
  rw [Tryd.params4] at ht
  have hm : t ∈ [24] := by simpa using Array.mem_of_getElem? ht
  have hall : ([24].all fun u => !Tryd.prog.wantsStandIn u) = true := by kernel_rfl
  exact (show Tryd.prog.wantsStandIn t = false by simpa using List.all_eq_true.1 hall t hm)

/-- The card. -/
theorem card : Rows.FieldPrintsUptoCardSaid :=
  Claim7.holds_tied_plain_at .later [] _ _ _ _ said (fun _ h => by cases h) (by kernel_rfl) (fun _ h => by cases h) fieldPrintsUpto_row_tie rfl ⟨rfl, rfl⟩ (by kernel_rfl) rfl plain (by kernel_rfl)
end Go.Proofs.YtpepjiocjcjeeaaDoor.fieldPrints
namespace Go.Proofs.YtpepjiocjcjeeaaDoor
theorem fieldPrintsUpto_card : Rows.FieldPrintsUptoCardSaid := fieldPrints.card
#print axioms fieldPrintsUpto_card
end Go.Proofs.YtpepjiocjcjeeaaDoor
