/-
  The document's PrintV6.
-/
import Derived.Test.YtnlgbopdbihnjaaGreatDoorRj8
namespace Go.Proofs.YtnlgbopdbihnjaaGreatDoor
open Go.RowKit

theorem nts_part {a : Option Addr} {l : List Nat} {w : World} {g : Nat} (ha : a = some ⟨g, 0, none⟩) (h : Nts .i64 a (natI l) w) (o : Nat) (m : List Nat) (hm : ∀ j (hj : j < m.length), l[o + j]? = some m[j]) : Nts .i64 (some ⟨g, o, none⟩) (natI m) w := by
  subst ha
  rcases h with h | ⟨g', o', e, hg, hr⟩
  · refine .inl ?_
    have hl : l = [] := by simpa [natI] using h
    subst hl
    cases m with
    | nil => rfl
    | cons x m => have := hm 0 (by simp); simp at this
  · injection e with e
    injection e with e1 e2
    subst e1 e2
    refine .inr ⟨g, o, rfl, hg, fun j hj => ?_⟩
    rw [natI_length] at hj
    obtain ⟨h1, h2⟩ := List.getElem?_eq_some_iff.1 (hm j hj)
    have := hr (o + j) (by rw [natI_length]; exact h1)
    rw [Nat.zero_add] at this
    rw [this]
    simp only [natI, List.getElem_map]
    rw [h2]
set_option maxHeartbeats 16000000 in
set_option maxRecDepth 100000 in
theorem rpv6_any (a : List Nat) (ha : a.length = 16) (hb : ∀ x ∈ a, x < 256) (w : World) : Calls Tryz.prog 28 #[.agg (bytesV a)] w fun e w' => e = .returned (.string ⟨(pr6D (grpsOf a)).toArray⟩) ∧ Below w.heap.size w w' := by
  have HL : Hid (Lies (w.alloc (.cells (bytesV a) 26)) w.heap.size (bytesV a) 26) := Lies.new w _ _
  have HB0 : Hid (Below w.heap.size w (w.alloc (.cells (bytesV a) 26))) := (Below.refl _ _).alloc (Nat.le_refl _) _
  obtain ⟨L, hL⟩ : ∃ L, L = grpsOf a := ⟨_, rfl⟩
  have hLl : L.length = 8 := by rw [hL, grpsOf_len, ha]
  have HLT : Hid (∀ x ∈ L, x < 65536) := by rw [hL]; exact grpsOf_lt a hb
  have HLA : Hid (∀ i, i < 8 → ∃ x y, x < 256 ∧ y < 256 ∧ (bytesV a)[2 * i]? = some (.int .u8 (x : Nat)) ∧ (bytesV a)[2 * i + 1]? = some (.int .u8 (y : Nat)) ∧ L[i]? = some (256 * x + y)) := fun i hi => by
    have h1 : 2 * i < a.length := by omega
    have h2 : 2 * i + 1 < a.length := by omega
    refine ⟨a[2 * i], a[2 * i + 1], hb _ (List.getElem_mem h1), hb _ (List.getElem_mem h2), bytesV_at a _ h1, bytesV_at a _ h2, ?_⟩
    rw [hL, grpsOf_at a i (by omega), List.getD_eq_getElem?_getD, List.getElem?_eq_getElem h1, List.getD_eq_getElem?_getD, List.getElem?_eq_getElem h2]
    rfl
  rw [← hL]
  clear hL
  go_enter Tryz.func28, Tryz.ntmps28
  go_upto_region 1 with fail
  generalize w.alloc (.cells (bytesV a) 26) = v0 at HL HB0 ⊢
  have HCL : Hid (∀ wx, Below v0.heap.size v0 wx → ∀ k v, (bytesV a)[k]? = some v → wx.cell? ⟨w.heap.size, k, none⟩ = some v) := fun wx hx k v hv => by rw [(HL.out.below hx HL.out.lt).cell k]; exact hv
  have hz0 : w.heap.size < v0.heap.size := HL.out.lt
  go_wp2_with fail
  go_loopw [3, 10] (fun u c wr => ∃ i : Nat, i ≤ 8 ∧ c = .int .i64 i ∧ Hid (Below v0.heap.size v0 wr) ∧ Hid (wr.ownsRow v0.heap.size 3 1 u i (cellsN .i64 (natI (L.take i))))) (fun _ c _ => 8 - (intOf c).toNat)
  case atStart => exact ⟨0, by omega, rfl, Below.refl _ _, ⟨rfl, .inl ⟨rfl, rfl⟩⟩⟩
  case round =>
    obtain ⟨i, hi, rfl, HB, HO⟩ := hrel
    by_cases hlt : i < 8
    · have hlt' : (i : Int) < 8 := by omega
      obtain ⟨x, y, hx, hy, hcx, hcy, hLi⟩ := HLA.out i hlt
      have Hx : Hid ((bytesV a)[2 * i]? = some (.int .u8 (x : Nat))) := hcx
      have Hy : Hid ((bytesV a)[2 * i + 1]? = some (.int .u8 (y : Nat))) := hcy
      have HTK : Hid (L.take (i + 1) = L.take i ++ [256 * x + y]) := by
        show _ = _
        have hil : i < L.length := by omega
        rw [List.take_succ_eq_append_getElem hil]
        rw [List.getElem?_eq_getElem hil] at hLi
        rw [Option.some.inj hLi]
      clear hcx hcy hLi HLA
      go_upto_region 5 with fail
      refine wp_region_late (fun wx => Below v0.heap.size v0 wx) 17 (by kernel_rfl) HB.out.drew (fun hHeld => ?_)
      refine wpAnyE_tk (i := 0) (d := some 13) (v := ?_) rfl (by kernel_rfl) (by kernel_rfl) (by kernel_rfl) rfl (fun _ _ _ h => h) rfl rfl ?hy (by assumption) ?_
      case hy => (intro w' hSw; (try dsimp only at hSw); go_simp <;> (first | with_reducible rfl | exact IntWalk.i64_in _ (by omega) | omega | skip))
      simp only [Act.put, List.setIfInBounds_toArray, List.set_cons_zero, List.set_cons_succ]
      refine wpAnyE_tk (i := 1) (d := some 14) (v := ?_) rfl (by kernel_rfl) (by kernel_rfl) (by kernel_rfl) rfl (fun _ _ _ h => h) rfl rfl ?hy (by assumption) ?_
      case hy => (intro w' hSw; (try dsimp only at hSw); go_simp <;> (first | with_reducible rfl | exact IntWalk.i64_in _ (by omega) | omega | skip))
      simp only [Act.put, List.setIfInBounds_toArray, List.set_cons_zero, List.set_cons_succ]
      refine wpAnyE_tk (i := 2) (d := some 15) (v := .int .i64 (2 * (i : Int))) rfl (by kernel_rfl) (by kernel_rfl) (by kernel_rfl) rfl (fun _ _ _ h => h) rfl rfl ?hy (by assumption) ?_
      case hy => (intro w' hSw; (try dsimp only at hSw); go_simp <;> (first | with_reducible rfl | exact IntWalk.i64_in _ (by omega) | omega | skip))
      simp only [Act.put, List.setIfInBounds_toArray, List.set_cons_zero, List.set_cons_succ]
      refine wpAnyE_tk (i := 3) (d := some 16) (v := .pointer (some ⟨w.heap.size, 2 * i, none⟩)) rfl (by kernel_rfl) (by kernel_rfl) (by kernel_rfl) rfl (fun _ _ _ h => h) rfl rfl ?hy (by assumption) ?_
      case hy => (intro w' hSw; (try dsimp only at hSw); go_simp; rw [if_pos ⟨by omega, by omega⟩, show (2 * (i : Int)).toNat = 2 * i from by omega])
      simp only [Act.put, List.setIfInBounds_toArray, List.set_cons_zero, List.set_cons_succ]
      refine wpAnyE_tk (i := 4) (d := some 17) (v := .int .u8 (x : Nat)) rfl (by kernel_rfl) (by kernel_rfl) (by kernel_rfl) rfl (fun _ _ _ h => h) rfl rfl ?hy (by assumption) ?_
      case hy => 
        intro w' hSw
        (try dsimp only at hSw)
        have cc : w'.cell? ⟨w.heap.size, 2 * i, none⟩ = some (.int .u8 (x : Nat)) := HCL.out w' hSw _ _ (by first | exact Hx.out)
        go_simp <;> (first | with_reducible rfl | omega | skip)
      simp only [Act.put, List.setIfInBounds_toArray, List.set_cons_zero, List.set_cons_succ]
      refine wpAnyE_tk (i := 5) (d := some 18) (v := .int .i64 (x : Nat)) rfl (by kernel_rfl) (by kernel_rfl) (by kernel_rfl) rfl (fun _ _ _ h => h) rfl rfl ?hy (by assumption) ?_
      case hy => (intro w' hSw; (try dsimp only at hSw); go_simp <;> (first | with_reducible rfl | exact IntWalk.i64_in _ (by omega) | omega | skip))
      simp only [Act.put, List.setIfInBounds_toArray, List.set_cons_zero, List.set_cons_succ]
      refine wpAnyE_tk (i := 6) (d := some 19) (v := .int .i64 (256 * (x : Int))) rfl (by kernel_rfl) (by kernel_rfl) (by kernel_rfl) rfl (fun _ _ _ h => h) rfl rfl ?hy (by assumption) ?_
      case hy => (intro w' hSw; (try dsimp only at hSw); go_simp <;> (first | with_reducible rfl | exact IntWalk.i64_in _ (by omega) | omega | skip))
      simp only [Act.put, List.setIfInBounds_toArray, List.set_cons_zero, List.set_cons_succ]
      refine wpAnyE_tk (i := 7) (d := some 20) (v := ?_) rfl (by kernel_rfl) (by kernel_rfl) (by kernel_rfl) rfl (fun _ _ _ h => h) rfl rfl ?hy (by assumption) ?_
      case hy => (intro w' hSw; (try dsimp only at hSw); go_simp <;> (first | with_reducible rfl | exact IntWalk.i64_in _ (by omega) | omega | skip))
      simp only [Act.put, List.setIfInBounds_toArray, List.set_cons_zero, List.set_cons_succ]
      refine wpAnyE_tk (i := 8) (d := some 21) (v := .int .i64 (2 * (i : Int))) rfl (by kernel_rfl) (by kernel_rfl) (by kernel_rfl) rfl (fun _ _ _ h => h) rfl rfl ?hy (by assumption) ?_
      case hy => (intro w' hSw; (try dsimp only at hSw); go_simp <;> (first | with_reducible rfl | exact IntWalk.i64_in _ (by omega) | omega | skip))
      simp only [Act.put, List.setIfInBounds_toArray, List.set_cons_zero, List.set_cons_succ]
      refine wpAnyE_tk (i := 9) (d := some 22) (v := .int .i64 (2 * (i : Int) + 1)) rfl (by kernel_rfl) (by kernel_rfl) (by kernel_rfl) rfl (fun _ _ _ h => h) rfl rfl ?hy (by assumption) ?_
      case hy => (intro w' hSw; (try dsimp only at hSw); go_simp <;> (first | with_reducible rfl | exact IntWalk.i64_in _ (by omega) | omega | skip))
      simp only [Act.put, List.setIfInBounds_toArray, List.set_cons_zero, List.set_cons_succ]
      refine wpAnyE_tk (i := 10) (d := some 23) (v := .pointer (some ⟨w.heap.size, 2 * i + 1, none⟩)) rfl (by kernel_rfl) (by kernel_rfl) (by kernel_rfl) rfl (fun _ _ _ h => h) rfl rfl ?hy (by assumption) ?_
      case hy => (intro w' hSw; (try dsimp only at hSw); go_simp; rw [if_pos ⟨by omega, by omega⟩, show (2 * (i : Int) + 1).toNat = 2 * i + 1 from by omega])
      simp only [Act.put, List.setIfInBounds_toArray, List.set_cons_zero, List.set_cons_succ]
      refine wpAnyE_tk (i := 11) (d := some 24) (v := .int .u8 (y : Nat)) rfl (by kernel_rfl) (by kernel_rfl) (by kernel_rfl) rfl (fun _ _ _ h => h) rfl rfl ?hy (by assumption) ?_
      case hy => 
        intro w' hSw
        (try dsimp only at hSw)
        have cc : w'.cell? ⟨w.heap.size, 2 * i + 1, none⟩ = some (.int .u8 (y : Nat)) := HCL.out w' hSw _ _ (by first | exact Hy.out)
        go_simp <;> (first | with_reducible rfl | omega | skip)
      simp only [Act.put, List.setIfInBounds_toArray, List.set_cons_zero, List.set_cons_succ]
      refine wpAnyE_tk (i := 12) (d := some 25) (v := .int .i64 (y : Nat)) rfl (by kernel_rfl) (by kernel_rfl) (by kernel_rfl) rfl (fun _ _ _ h => h) rfl rfl ?hy (by assumption) ?_
      case hy => (intro w' hSw; (try dsimp only at hSw); go_simp <;> (first | with_reducible rfl | exact IntWalk.i64_in _ (by omega) | omega | skip))
      simp only [Act.put, List.setIfInBounds_toArray, List.set_cons_zero, List.set_cons_succ]
      refine wpAnyE_tk (i := 13) (d := some 26) (v := .int .i64 (256 * (x : Int) + (y : Int))) rfl (by kernel_rfl) (by kernel_rfl) (by kernel_rfl) rfl (fun _ _ _ h => h) rfl rfl ?hy (by assumption) ?_
      case hy => (intro w' hSw; (try dsimp only at hSw); go_simp <;> (first | with_reducible rfl | exact IntWalk.i64_in _ (by omega) | omega | skip))
      simp only [Act.put, List.setIfInBounds_toArray, List.set_cons_zero, List.set_cons_succ]
      refine wpAnyE_on (i := 14) (by kernel_rfl) rfl rfl ?_
      go_simp
      have hB1 : Below v0.heap.size v0 (wr.drew.alloc (.cells #[.int .i64 (256 * (x : Int) + (y : Int))] 3)) := HB.out.drew.alloc HB.out.size _
      refine ⟨hB1, ?_⟩
      have HO1 : Hid ((wr.drew.alloc (.cells #[.int .i64 (256 * (x : Int) + (y : Int))] 3)).ownsRow v0.heap.size 3 1 u3 i (cellsN .i64 (natI (L.take i)))) := ownN_below HO.out (((Below.refl _ wr).drew).alloc (Nat.le_refl _) _)
      have HN1 : Hid (Nts .i64 (some ⟨wr.heap.size, 0, none⟩) [(256 * (x : Int) + (y : Int))] (wr.drew.alloc (.cells #[.int .i64 (256 * (x : Int) + (y : Int))] 3))) := one_nts wr.drew 3 .i64 _
      refine wpAnyE_on (i := 15) (by kernel_rfl) rfl rfl ?_
      refine wp_append_nums _ _ 102 3 8 .i64 Tryz.underlying102 infoI (by omega) rfl v0.heap.size _ i (natI (L.take i)) rfl HO1.out (some ⟨wr.heap.size, 0, none⟩) [(256 * (x : Int) + (y : Int))] 1 1 rfl rfl HN1.out (fun h => by cases h) (by omega) hB1.size ?_
      intro v4 w4 hown4 hgrow4
      have hB4 : Below v0.heap.size v0 w4 := hB1.grown hgrow4 hB1.size (fun q hq => (HO1.out.lt q hq).1)
      refine ⟨.inr hB4, ?_⟩
      simp only [Act.put, List.setIfInBounds_toArray]
      refine wpAnyE_tk (i := 16) (d := some 3) (v := v4) rfl (by kernel_rfl) (by kernel_rfl) (by kernel_rfl) rfl (fun _ _ _ h => h) rfl rfl ?hy (by assumption) ?_
      case hy => (intro w' hSw; (try dsimp only at hSw); go_simp <;> (first | with_reducible rfl | omega | skip))
      simp only [Act.put]
      refine wpAnyE_done (by kernel_rfl) ?_ _
      have HB9 : Hid (Below v0.heap.size v0 w4) := hB4
      have HO9 : Hid (w4.ownsRow v0.heap.size 3 1 v4 (i + 1) (cellsN .i64 (natI (L.take (i + 1))))) := by
        show World.ownsRow _ _ _ _ _ _ _
        rw [HTK.out, natI_append]
        exact hown4
      clear hown4 hgrow4 HO1 HN1 hB1 hB4 hHeld HO HB
      go_wp2
      go_roundw
      case rel => exact ⟨i + 1, by omega, by go_num, HB9, HO9⟩
      case measure => simp [intOf]; omega
    · obtain rfl : i = 8 := by omega
      have hlt' : ¬ (8 : Int) < 8 := by omega
      have ho := HO.out
      rw [List.take_of_length_le (by omega)] at ho
      obtain ⟨A, cap, rfl, hnt, _, hA0, hcap, hAd⟩ := own_nts ho
      obtain ⟨g, rfl⟩ : ∃ g, A = some ⟨g, 0, none⟩ := by
        cases A with
        | none =>
          have := nts_none hnt
          have h2 := congrArg List.length this
          rw [natI_length, hLl] at h2
          cases h2
        | some ad =>
          obtain ⟨_, _, h1, h2⟩ := hAd ad rfl
          exact ⟨ad.block, by cases ad; simp at h1 h2; rw [h1, h2]⟩
      have HNT : Hid (Nts .i64 (some ⟨g, 0, none⟩) (natI L) wr) := hnt
      have KB : Hid (Below w.heap.size w wr) := HB0.out.trans (HB.out.mono HB0.out.size)
      have HCE : Hid (∀ j x, L[j]? = some x → wr.cell? ⟨g, j, none⟩ = some (.int .i64 (x : Nat))) := fun j x hj => by
        rcases hnt with h | ⟨g', o', e, hg, hr⟩
        · have hl : L = [] := by simpa [natI] using h
          rw [hl] at hj
          cases hj
        · injection e with e
          injection e with e1 e2
          subst e1 e2
          obtain ⟨h1, h2⟩ := List.getElem?_eq_some_iff.1 hj
          have := hr j (by rw [natI_length]; exact h1)
          rw [Nat.zero_add] at this
          rw [this]
          simp only [natI, List.getElem_map]
          rw [h2]
      have hgz : g < wr.heap.size := (hAd _ rfl).2.1
      clear ho hnt hA0 hAd HO HB HLA HCL HL HB0 hz0
      obtain ⟨P, hP⟩ : ∃ P, P = L.map fun n => decide (n = 0) := ⟨_, rfl⟩
      have HPR : Hid (pr6D L = match fnd P with
        | none => joinL [58] (L.map hexD)
        | some (at', n) => joinL [58] ((L.take at').map hexD) ++ [58, 58] ++ joinL [58] ((L.drop (at' + n)).map hexD)) := by rw [hP]; rfl
      have HPL : Hid (∀ j, j < 8 → ∃ x, L[j]? = some x ∧ x < 65536 ∧ P[j]? = some (decide (x = 0))) := fun j hj => by
        have hjl : j < L.length := by omega
        refine ⟨L[j], List.getElem?_eq_getElem hjl, HLT.out _ (List.getElem_mem hjl), ?_⟩
        rw [hP, List.getElem?_map, List.getElem?_eq_getElem hjl]
        rfl
      have hPl : P.length = 8 := by rw [hP, List.length_map, hLl]
      clear hP
      generalize hwm : wr = wm at HNT KB HCE hgz ⊢
      clear hwm
      go_upto_region 7 with fail
      go_wp2_with fail
      go_loopw [5] (fun c wr => ∃ n : Nat, 1 ≤ n ∧ n ≤ 8 ∧ c = .int .i64 n ∧ Hid (fnd P = fndN P (n - 1) n) ∧ Hid (wr = wm)) (fun c _ => (intOf c).toNat)
      case atStart => exact ⟨8, by omega, by omega, rfl, rfl, rfl⟩
      case round =>
        obtain ⟨n, hn1, hn8, rfl, HF, HV⟩ := hrel
        obtain rfl : wm = wr := HV.out.symm
        clear HV
        by_cases hn2 : 2 ≤ n
        · have hn2' : (2 : Int) ≤ (n : Int) := by omega
          have HF2 : Hid (fnd P = match fndA P n (9 - n) 0 with
            | some r => some r
            | none => fndN P (n - 2) (n - 1)) := by
            show _ = _
            rw [HF.out]
            obtain ⟨m, rfl⟩ : ∃ m, n = m + 2 := ⟨n - 2, by omega⟩
            rw [show m + 2 - 1 = m + 1 from by omega, fndN]
            rfl
          clear HF
          go_wp2_with fail
          go_loopw [6] (fun c wr => ∃ t : Nat, t + n ≤ 9 ∧ c = .int .i64 t ∧ Hid (fnd P = match fndA P n (9 - n - t) t with
            | some r => some r
            | none => fndN P (n - 2) (n - 1)) ∧ Hid (wr = wm)) (fun c _ => 10 - (intOf c).toNat)
          case atStart => exact ⟨0, by omega, rfl, HF2, rfl⟩
          case round =>
            obtain ⟨t, ht, rfl, HG, HV⟩ := hrel
            obtain rfl : wm = wr := HV.out.symm
            clear HV HF2
            by_cases htn : t + n ≤ 8
            · have htn' : (t : Int) + (n : Int) ≤ 8 := by omega
              have hcap' : (t : Int) + (n : Int) ≤ (cap : Int) := by omega
              have hcq : cap - t ≠ 0 := by omega
              have HG2 : Hid (((P.drop t).take n).all id = true → fnd P = some (t, n)) := fun h => by
                rw [HG.out]
                obtain ⟨c, hc⟩ : ∃ c, 9 - n - t = c + 1 := ⟨9 - n - t - 1, by omega⟩
                rw [hc, fndA, if_pos h]
              have HG3 : Hid (¬ ((P.drop t).take n).all id = true → fnd P = match fndA P n (9 - n - (t + 1)) (t + 1) with
                | some r => some r
                | none => fndN P (n - 2) (n - 1)) := fun h => by
                rw [HG.out]
                obtain ⟨c, hc⟩ : ∃ c, 9 - n - t = c + 1 := ⟨9 - n - t - 1, by omega⟩
                rw [hc, fndA, if_neg h, show 9 - n - (t + 1) = c from by omega]
              clear HG
              go_wp2_with fail
              go_loopw [7, 47] (fun b c wr => ∃ k : Nat, k ≤ n ∧ c = .int .i64 k ∧ b = .bool (((P.drop t).take k).all id) ∧ Hid (wr = wm)) (fun _ c _ => n - (intOf c).toNat)
              case atStart => exact ⟨0, by omega, rfl, rfl, rfl⟩
              case round =>
                obtain ⟨k, hk, rfl, rfl, HV⟩ := hrel
                obtain rfl : wm = wr := HV.out.symm
                clear HV
                by_cases hkn : k < n
                · have hkn' : (k : Int) < (n : Int) := by omega
                  obtain ⟨x, hx1, hx2, hx3⟩ := HPL.out (t + k) (by omega)
                  have hcell := HCE.out _ _ hx1
                  have HST : Hid (((P.drop t).take (k + 1)).all id = (((P.drop t).take k).all id && decide (x = 0))) := by
                    show _ = _
                    have hd : (P.drop t)[k]? = some (decide (x = 0)) := by rw [List.getElem?_drop]; exact hx3
                    obtain ⟨h1, h2⟩ := List.getElem?_eq_some_iff.1 hd
                    rw [List.take_succ_eq_append_getElem h1, List.all_append, h2]
                    simp
                  generalize ((P.drop t).take k).all id = b at HST ⊢
                  have hxe : ((x : Int) == 0) = decide (x = 0) := by rw [Bool.eq_iff_iff, beq_iff_eq, decide_eq_true_eq]; omega
                  have HXE : Hid (((x : Int) == 0) = decide (x = 0)) := hxe
                  clear hx1 hx3 hxe
                  cases b
                  · go_wp2_with fail
                    go_roundw
                    case rel => exact ⟨k + 1, by omega, by go_num, ret_bv (by rw [HST.out]; rfl), trivial⟩
                    case measure => simp [intOf]; omega
                  · go_wp2_with fail
                    go_roundw
                    case rel => exact ⟨k + 1, by omega, by go_num, ret_bv (by rw [HST.out, ← HXE.out]; rfl), trivial⟩
                    case measure => simp [intOf]; omega
                · obtain rfl : k = n := by omega
                  have hkn' : ¬ (k : Int) < (k : Int) := by omega
                  have HJ1 : Hid (∀ wx, Below wm.heap.size wm wx → Calls Tryz.prog 70 #[.slice (some ⟨g, 0, none⟩) t cap] wx fun e w' => e = .returned (.string ⟨(joinL [58] ((L.take t).map hexD)).toArray⟩) ∧ Below wx.heap.size wx w') := fun wx hx => by
                    have htl : (L.take t).length = t := by rw [List.length_take]; omega
                    have := rjoin_any (some ⟨g, 0, none⟩) (L.take t) cap wx ((nts_part rfl HNT.out 0 (L.take t) (fun j hj => by
                      rw [htl] at hj
                      rw [Nat.zero_add, ← List.getElem?_eq_getElem, List.getElem?_take, if_pos hj])).below hx) (by omega) (fun x hx => HLT.out x (List.mem_of_mem_take hx)) (by omega)
                    rw [htl] at this
                    exact this
                  have HJ2 : Hid (∀ A wx, (A = some ⟨g, t + k, none⟩ ∨ t + k = 8) → Below wm.heap.size wm wx → Calls Tryz.prog 70 #[.slice A (8 - (t + k)) (cap - (t + k))] wx fun e w' => e = .returned (.string ⟨(joinL [58] ((L.drop (t + k)).map hexD)).toArray⟩) ∧ Below wx.heap.size wx w') := fun A wx hA hx => by
                    have htl : (L.drop (t + k)).length = 8 - (t + k) := by rw [List.length_drop, hLl]
                    have hN : Nts .i64 A (natI (L.drop (t + k))) wm := by
                      rcases hA with rfl | h8
                      · refine nts_part rfl HNT.out (t + k) (L.drop (t + k)) (fun j hj => ?_)
                        rw [← List.getElem?_eq_getElem, List.getElem?_drop]
                      · refine .inl ?_
                        rw [List.drop_eq_nil_of_le (by omega)]
                        rfl
                    have := rjoin_any A (L.drop (t + k)) (cap - (t + k)) wx (hN.below hx) (by omega) (fun x hx => HLT.out x (List.mem_of_mem_drop hx)) (by omega)
                    rw [htl] at this
                    exact this
                  have hz1 : (⟨(joinL [58] ((L.take t).map hexD)).toArray⟩ : ByteArray).size ≤ 1000 := by
                    rw [list_size]
                    have := join_short [58] 17 ((L.take t).map hexD) fun x hx => by
                      obtain ⟨y, _, rfl⟩ := List.mem_map.1 hx
                      exact hexD_len y
                    rw [List.length_map, List.length_take] at this
                    have h2 : min t L.length * (17 + ([58] : List UInt8).length) ≤ 8 * 18 := Nat.mul_le_mul (by omega) (Nat.le_refl _)
                    omega
                  have hz2 : (⟨(joinL [58] ((L.drop (t + k)).map hexD)).toArray⟩ : ByteArray).size ≤ 1000 := by
                    rw [list_size]
                    have := join_short [58] 17 ((L.drop (t + k)).map hexD) fun x hx => by
                      obtain ⟨y, _, rfl⟩ := List.mem_map.1 hx
                      exact hexD_len y
                    rw [List.length_map, List.length_drop] at this
                    have h2 : (L.length - (t + k)) * (17 + ([58] : List UInt8).length) ≤ 8 * 18 := Nat.mul_le_mul (by omega) (Nat.le_refl _)
                    omega
                  have HRS : Hid (((P.drop t).take k).all id = true → (⟨(pr6D L).toArray⟩ : ByteArray) = ⟨(joinL [58] ((L.take t).map hexD)).toArray⟩ ++ ⟨#[58, 58]⟩ ++ ⟨(joinL [58] ((L.drop (t + k)).map hexD)).toArray⟩) := fun h => by
                    rw [HPR.out, HG2.out h, show (⟨#[58, 58]⟩ : ByteArray) = ⟨([58, 58] : List UInt8).toArray⟩ from rfl, str_append, str_append]
                  generalize (⟨(joinL [58] ((L.take t).map hexD)).toArray⟩ : ByteArray) = J1 at HJ1 hz1 HRS
                  generalize (⟨(joinL [58] ((L.drop (t + k)).map hexD)).toArray⟩ : ByteArray) = J2 at HJ2 hz2 HRS
                  have s58 : (⟨#[58, 58]⟩ : ByteArray).size = 2 := rfl
                  have a1 : ∀ W, (Op.stringOp .add J1 ⟨#[58, 58]⟩).run Tryz.prog W = .ok (.string (J1 ++ ⟨#[58, 58]⟩)) W := fun W => run_string_add_sum _ _ _ (by omega)
                  have a2 : ∀ W, (Op.stringOp .add (J1 ++ ⟨#[58, 58]⟩) J2).run Tryz.prog W = .ok (.string (J1 ++ ⟨#[58, 58]⟩ ++ J2)) W := fun W => run_string_add_sum _ _ _ (by simp only [ByteArray.size_append]; omega)
                  clear HG2 HPR HPL HCE HNT HLT
                  generalize ((P.drop t).take k).all id = b at HRS HG3
                  cases b
                  · have HG4 := HG3.out (by decide)
                    clear HRS HJ1 HJ2 HG3
                    go_wp2_with fail
                    go_roundw
                    case rel => exact ⟨t + 1, by omega, by go_num, HG4, trivial⟩
                    case measure => simp [intOf]; omega
                  · have HRT := HRS.out rfl
                    have HRR : Hid ((⟨(pr6D L).toArray⟩ : ByteArray) = J1 ++ ⟨#[58, 58]⟩ ++ J2) := HRT
                    have htc : (t : Int) ≤ (cap : Int) := by omega
                    have htk : (t : Int) + (k : Int) ≤ (8 : Int) := by omega
                    have htk2 : (8 : Int) ≤ (cap : Int) := by omega
                    clear HG3 HRS HRT
                    go_upto_region 20 with fail
                    obtain ⟨A2, hA2⟩ : ∃ A2 : Option Addr, A2 = (if cap = t + k then some ⟨g, 0, none⟩ else some ⟨g, t + k, none⟩) := ⟨_, rfl⟩
                    have HA2 : Hid (A2 = (if cap = t + k then some ⟨g, 0, none⟩ else some ⟨g, t + k, none⟩)) := hA2
                    have HJ3 : Hid (∀ wx, Below wm.heap.size wm wx → Calls Tryz.prog 70 #[.slice A2 (8 - (t + k)) (cap - (t + k))] wx fun e w' => e = .returned (.string J2) ∧ Below wx.heap.size wx w') := fun wx hx => HJ2.out A2 wx (by
                      rw [hA2]
                      split
                      · exact .inr (by omega)
                      · exact .inl rfl) hx
                    clear hA2 HJ2
                    have KM : Hid (Below wm.heap.size wm wm) := Below.refl _ _
                    refine wp_region_late (fun wx => Below wm.heap.size wm wx) 13 (by kernel_rfl) (Below.refl _ wm).drew (fun hHeld => ?_)
                    refine wpAnyE_tk (i := 0) (d := some 58) (v := ?_) rfl (by kernel_rfl) (by kernel_rfl) (by kernel_rfl) rfl (fun _ _ _ h => h) rfl rfl ?hy (by assumption) ?_
                    case hy => (intro w' hSw; (try dsimp only at hSw); go_simp <;> (first | with_reducible rfl | omega | skip))
                    simp only [Act.put, List.setIfInBounds_toArray, List.set_cons_zero, List.set_cons_succ]
                    refine wpAnyE_tk (i := 1) (d := some 59) (v := ?_) rfl (by kernel_rfl) (by kernel_rfl) (by kernel_rfl) rfl (fun _ _ _ h => h) rfl rfl ?hy (by assumption) ?_
                    case hy => (intro w' hSw; (try dsimp only at hSw); go_simp <;> (first | with_reducible rfl | omega | skip))
                    simp only [Act.put, List.setIfInBounds_toArray, List.set_cons_zero, List.set_cons_succ]
                    refine wpAnyE_tk (i := 2) (d := some 60) (v := .slice (some ⟨g, 0, none⟩) t cap) rfl (by kernel_rfl) (by kernel_rfl) (by kernel_rfl) rfl (fun _ _ _ h => h) rfl rfl ?hy (by assumption) ?_
                    case hy => (intro w' hSw; (try dsimp only at hSw); go_simp <;> (first | with_reducible rfl | omega | skip))
                    simp only [Act.put, List.setIfInBounds_toArray, List.set_cons_zero, List.set_cons_succ]
                    refine wpAnyE_tk (i := 5) (d := some 63) (v := ?_) rfl (by kernel_rfl) (by kernel_rfl) (by kernel_rfl) rfl (fun _ _ _ h => h) rfl rfl ?hy (by assumption) ?_
                    case hy => (intro w' hSw; (try dsimp only at hSw); go_simp <;> (first | with_reducible rfl | omega | skip))
                    simp only [Act.put, List.setIfInBounds_toArray, List.set_cons_zero, List.set_cons_succ]
                    refine wpAnyE_tk (i := 6) (d := some 64) (v := ?_) rfl (by kernel_rfl) (by kernel_rfl) (by kernel_rfl) rfl (fun _ _ _ h => h) rfl rfl ?hy (by assumption) ?_
                    case hy => (intro w' hSw; (try dsimp only at hSw); go_simp <;> (first | with_reducible rfl | omega | skip))
                    simp only [Act.put, List.setIfInBounds_toArray, List.set_cons_zero, List.set_cons_succ]
                    refine wpAnyE_tk (i := 7) (d := some 65) (v := ?_) rfl (by kernel_rfl) (by kernel_rfl) (by kernel_rfl) rfl (fun _ _ _ h => h) rfl rfl ?hy (by assumption) ?_
                    case hy => (intro w' hSw; (try dsimp only at hSw); go_simp <;> (first | with_reducible rfl | omega | skip))
                    simp only [Act.put, List.setIfInBounds_toArray, List.set_cons_zero, List.set_cons_succ]
                    refine wpAnyE_tk (i := 8) (d := some 66) (v := .int .i64 ((t : Int) + (k : Int))) rfl (by kernel_rfl) (by kernel_rfl) (by kernel_rfl) rfl (fun _ _ _ h => h) rfl rfl ?hy (by assumption) ?_
                    case hy => (intro w' hSw; (try dsimp only at hSw); go_simp <;> (first | with_reducible rfl | exact IntWalk.i64_in _ (by omega) | omega | skip))
                    simp only [Act.put, List.setIfInBounds_toArray, List.set_cons_zero, List.set_cons_succ]
                    refine wpAnyE_tk (i := 9) (d := some 67) (v := .slice A2 (8 - (t + k)) (cap - (t + k))) rfl (by kernel_rfl) (by kernel_rfl) (by kernel_rfl) rfl (fun _ _ _ h => h) rfl rfl ?hy (by assumption) ?_
                    case hy => 
                      intro w' hSw
                      (try dsimp only at hSw)
                      go_simp
                      rw [if_pos (by omega), show ((t : Int) + (k : Int)).toNat = t + k from by omega, ← HA2.out]
                    simp only [Act.put, List.setIfInBounds_toArray, List.set_cons_zero, List.set_cons_succ]
                    refine wpAnyE_on (i := 3) (by kernel_rfl) rfl rfl ?_
                    go_simp
                    refine Calls.mono (HJ1.out _ (KM.out.trans (((Below.refl _ wm).drew).mono KM.out.size))) ?_
                    rintro e y1 ⟨rfl, hc1⟩
                    have hx1 : Below wm.heap.size wm y1 := ((Below.refl _ wm).drew).trans hc1
                    refine ⟨hx1, ?_⟩
                    clear hc1
                    refine wpAnyE_tk (i := 4) (d := some 62) (v := .string (J1 ++ ⟨#[58, 58]⟩)) rfl (by kernel_rfl) (by kernel_rfl) (by kernel_rfl) rfl (fun _ _ _ h => h) rfl rfl ?hy (by assumption) ?_
                    case hy => (intro w' hSw; (try dsimp only at hSw); go_simp <;> (first | with_reducible rfl | omega | skip))
                    simp only [Act.put, List.setIfInBounds_toArray, List.set_cons_zero, List.set_cons_succ]
                    refine wpAnyE_on (i := 10) (by kernel_rfl) rfl rfl ?_
                    go_simp
                    refine Calls.mono (HJ3.out _ (KM.out.trans ((hx1).mono KM.out.size))) ?_
                    rintro e y2 ⟨rfl, hc2⟩
                    have hx2 : Below wm.heap.size wm y2 := hx1.trans (hc2.mono hx1.size)
                    refine ⟨hx2, ?_⟩
                    clear hc2
                    refine wpAnyE_tk (i := 11) (d := some 69) (v := .string (J1 ++ ⟨#[58, 58]⟩ ++ J2)) rfl (by kernel_rfl) (by kernel_rfl) (by kernel_rfl) rfl (fun _ _ _ h => h) rfl rfl ?hy (by assumption) ?_
                    case hy => (intro w' hSw; (try dsimp only at hSw); go_simp <;> (first | with_reducible rfl | omega | skip))
                    simp only [Act.put, List.setIfInBounds_toArray, List.set_cons_zero, List.set_cons_succ]
                    refine wpAnyE_tk (i := 12) (d := some 2) (v := ?_) rfl (by kernel_rfl) (by kernel_rfl) (by kernel_rfl) rfl (fun _ _ _ h => h) rfl rfl ?hy (by assumption) ?_
                    case hy => (intro w' hSw; (try dsimp only at hSw); go_simp <;> (first | with_reducible rfl | omega | skip))
                    simp only [Act.put, List.setIfInBounds_toArray, List.set_cons_zero, List.set_cons_succ]
                    refine wpAnyE_done (by kernel_rfl) ?_ _
                    have KB3 : Hid (Below wm.heap.size wm y2) := KM.out.trans ((hx2).mono KM.out.size)
                    have hb3 : Hid (Below wm.heap.size wm y2) := hx2
                    clear hHeld hx1 hx2 KM
                    have KZ : Hid (Below w.heap.size w y2) := KB.out.trans (KB3.out.mono KB.out.size)
                    go_wp2
                    go_ret
                    exact ⟨by rw [HRR.out]; rfl, KZ.out⟩
            · have htn' : ¬ (t : Int) + (n : Int) ≤ 8 := by omega
              have HF3 : Hid (fnd P = fndN P (n - 1 - 1) (n - 1)) := by
                show _ = _
                rw [HG.out, show 9 - n - t = 0 from by omega, fndA]
                rfl
              clear HG
              go_wp2_with fail
              go_roundw
              case rel => exact ⟨n - 1, by omega, by omega, by go_num, HF3, trivial⟩
              case measure => simp [intOf]; omega
        · obtain rfl : n = 1 := by omega
          have HRS : Hid (pr6D L = joinL [58] (L.map hexD)) := by
            show _ = _
            rw [HPR.out, HF.out, fndN]
          have HJ : Hid (Calls Tryz.prog 70 #[.slice (some ⟨g, 0, none⟩) 8 cap] wm fun e w' => e = .returned (.string ⟨(joinL [58] (L.map hexD)).toArray⟩) ∧ Below wm.heap.size wm w') := by
            have := rjoin_any (some ⟨g, 0, none⟩) L cap wm HNT.out (by omega) HLT.out (by omega)
            rw [hLl] at this
            exact this
          obtain ⟨J, hJ⟩ : ∃ J, J = joinL [58] (L.map hexD) := ⟨_, rfl⟩
          rw [← hJ] at HJ HRS
          clear hJ HF HPR HPL HCE HNT HLT
          go_wp2_with fail
          refine HJ.out.mono ?_
          rintro e w3 ⟨rfl, b3⟩
          have KB3 : Hid (Below w.heap.size w w3) := KB.out.trans (b3.mono KB.out.size)
          clear b3 HJ
          go_wp2_with fail
          go_ret
          exact ⟨by rw [HRS.out]; rfl, KB3.out⟩
end Go.Proofs.YtnlgbopdbihnjaaGreatDoor
