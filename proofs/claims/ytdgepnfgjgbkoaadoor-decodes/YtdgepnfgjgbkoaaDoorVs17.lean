/-
  The document's Split: walked.
-/
import Derived.Test.YtdgepnfgjgbkoaaDoorNd17
import Derived.Test.YtdgepnfgjgbkoaaDoorLtU
namespace Go.Proofs.YtdgepnfgjgbkoaaDoor
open Go.RowKit
set_option maxRecDepth 100000 in
set_option maxHeartbeats 8000000 in
theorem vsplit_any (s : ByteArray) (hs : s.size ≤ 4294967000) (w : World) :
    Calls Tryd.prog 27 #[.string s] w fun e w' => (∃ v, e = .returned v ∧ Ow celP 57 3 w' v (vS s s.size)) ∧ Below w.heap.size w w' := by
  have hl : s.data.toList.length = s.size := by rw [Array.length_toList]; rfl
  go_enter Tryd.func27, Tryd.ntmps27
  go_wp2_with fail
  go_loopw [3, 4] (fun ov kv wr => ∃ k : Nat, k ≤ s.size ∧ kv = .int .i64 k ∧ Hid (Ow celP 57 3 wr ov (vS s k)) ∧ Hid (Below w.heap.size w wr) ∧ Hid (∀ g, ov.ownBlock = some g → w.heap.size ≤ g)) (fun _ kv _ => s.size - (intOf kv).toNat)
  case atStart => exact ⟨0, by omega, rfl, by exact Ow.nil _ _ _ _, Below.refl _ _, fun g h => (by cases h)⟩
  case round =>
    obtain ⟨k, hk, rfl, HO, HB, HG⟩ := hrel
    by_cases hlt : k < s.size
    · have hlti : (k : Int) < s.size := by omega
      have hkl : k < s.data.toList.length := by omega
      have hgd : s.data.toList.getD k 0 = s.data[k]'hlt := by
        rw [List.getD_eq_getElem?_getD, List.getElem?_eq_getElem hkl, Option.getD_some]
        simp
      have hln := vS_len s k
      have hsz := vS_size s k
      obtain ⟨a, c, rfl, hne⟩ := HO.out.shape
      have q1 : (k : Int) ≤ (k : Int) + 1 := by omega
      have hb3 : ((((s[k]'hlt).toNat : Int) == 32) = true ∧ vbk s k = true) ∨ ((((s[k]'hlt).toNat : Int) == 32) = false ∧ (((s[k]'hlt).toNat : Int) == 9) = true ∧ vbk s k = true) ∨ ((((s[k]'hlt).toNat : Int) == 32) = false ∧ (((s[k]'hlt).toNat : Int) == 9) = false ∧ vbk s k = false) := by
        have hv : vbk s k = blk (s[k]'hlt) := by unfold vbk; rw [hgd]; rfl
        rw [hv]
        have := u8_all (p := fun c => decide ((((c.toNat : Int) == 32) = true ∧ blk c = true) ∨ (((c.toNat : Int) == 32) = false ∧ ((c.toNat : Int) == 9) = true ∧ blk c = true) ∨ (((c.toNat : Int) == 32) = false ∧ ((c.toNat : Int) == 9) = false ∧ blk c = false))) (by decide +kernel) (s[k]'hlt)
        exact of_decide_eq_true this
      clear hgd
      rcases vS_cases s k with he | ⟨M, y, he⟩
      · have hst := vS_nil he
        have hl0i : ¬ (0 : Int) < ((vS s k).length : Int) := by rw [he]; simp
        clear he hne
        rcases hb3 with ⟨b1, hv⟩ | ⟨b1, b2, hv⟩ | ⟨b1, b2, hv⟩
        all_goals rw [hv] at hst
        · go_wp2_with (at_builtin; refine wpList_append_ow (cel := celP) (t := 57) (k := 3) celP_len (by decide) (fun x v hv => (by simp [celP] at hv; rcases hv with rfl | rfl | rfl <;> rfl)) rfl _ _ 54 rfl Tryd.underlying54 (.agg #[.int .i64 0, .string ByteArray.empty, .bool false]) 32 (by kernel_rfl) rfl (.slice a (vS s k).length c) _ rfl (HO.out.below ((Below.refl _ _).alloc (Nat.le_refl _) _)) wr.heap.size 1 (k, s.extract k (k + 1), true) rfl (fun j u hu => new_cells (celP (k, s.extract k (k + 1), true)) j u hu) (by omega) (by omega) ?_; intro g5 c5 w5 ho5 hb5 hg5)
          go_round
          case rel =>
            refine ⟨k + 1, hlt, by go_num, ?_, below_chg (HB.out.alloc HB.out.size _) (HB.out.alloc HB.out.size _).size hb5 (fun j hj => HG.out j hj), fun g hg => ?_⟩
            · show Ow _ _ _ _ _ _
              rw [hst]
              exact ho5
            · have hgg : g5 = g := by simpa [Value.ownBlock] using hg
              subst hgg
              rcases hg5 with h1 | h1
              · exact HG.out _ h1
              · exact Nat.le_trans (HB.out.alloc HB.out.size _).size h1
          case measure => simp [intOf]; omega
        · go_wp2_with (at_builtin; refine wpList_append_ow (cel := celP) (t := 57) (k := 3) celP_len (by decide) (fun x v hv => (by simp [celP] at hv; rcases hv with rfl | rfl | rfl <;> rfl)) rfl _ _ 54 rfl Tryd.underlying54 (.agg #[.int .i64 0, .string ByteArray.empty, .bool false]) 32 (by kernel_rfl) rfl (.slice a (vS s k).length c) _ rfl (HO.out.below ((Below.refl _ _).alloc (Nat.le_refl _) _)) wr.heap.size 1 (k, s.extract k (k + 1), true) rfl (fun j u hu => new_cells (celP (k, s.extract k (k + 1), true)) j u hu) (by omega) (by omega) ?_; intro g5 c5 w5 ho5 hb5 hg5)
          go_round
          case rel =>
            refine ⟨k + 1, hlt, by go_num, ?_, below_chg (HB.out.alloc HB.out.size _) (HB.out.alloc HB.out.size _).size hb5 (fun j hj => HG.out j hj), fun g hg => ?_⟩
            · show Ow _ _ _ _ _ _
              rw [hst]
              exact ho5
            · have hgg : g5 = g := by simpa [Value.ownBlock] using hg
              subst hgg
              rcases hg5 with h1 | h1
              · exact HG.out _ h1
              · exact Nat.le_trans (HB.out.alloc HB.out.size _).size h1
          case measure => simp [intOf]; omega
        · go_wp2_with (at_builtin; refine wpList_append_ow (cel := celP) (t := 57) (k := 3) celP_len (by decide) (fun x v hv => (by simp [celP] at hv; rcases hv with rfl | rfl | rfl <;> rfl)) rfl _ _ 54 rfl Tryd.underlying54 (.agg #[.int .i64 0, .string ByteArray.empty, .bool false]) 32 (by kernel_rfl) rfl (.slice a (vS s k).length c) _ rfl (HO.out.below ((Below.refl _ _).alloc (Nat.le_refl _) _)) wr.heap.size 1 (k, s.extract k (k + 1), false) rfl (fun j u hu => new_cells (celP (k, s.extract k (k + 1), false)) j u hu) (by omega) (by omega) ?_; intro g5 c5 w5 ho5 hb5 hg5)
          go_round
          case rel =>
            refine ⟨k + 1, hlt, by go_num, ?_, below_chg (HB.out.alloc HB.out.size _) (HB.out.alloc HB.out.size _).size hb5 (fun j hj => HG.out j hj), fun g hg => ?_⟩
            · show Ow _ _ _ _ _ _
              rw [hst]
              exact ho5
            · have hgg : g5 = g := by simpa [Value.ownBlock] using hg
              subst hgg
              rcases hg5 with h1 | h1
              · exact HG.out _ h1
              · exact Nat.le_trans (HB.out.alloc HB.out.size _).size h1
          case measure => simp [intOf]; omega
      · skip
        obtain ⟨ya, yt, yg⟩ := y
        have hlen : (M ++ [(ya, yt, yg)]).length = M.length + 1 := by simp
        have hML : M.length + 1 ≤ k := by rw [← hlen, ← he]; exact hln
        have hys := hsz (ya, yt, yg) (by rw [he]; simp)
        obtain ⟨g, rfl⟩ := hne (by rw [he]; simp)
        rw [he, hlen] at HO
        rw [he, hlen] at HG
        rw [he, hlen]
        have c1 : wr.cell? ⟨g, M.length * 3 + 1, none⟩ = some (.string yt) := (HO.out.cells (M.length * 3 + 1) (by rw [flat_length celP_len, hlen]; omega)).trans (celP_at M (ya, yt, yg) 1 (by decide))
        have c2 : wr.cell? ⟨g, M.length * 3 + 2, none⟩ = some (.bool yg) := (HO.out.cells (M.length * 3 + 2) (by rw [flat_length celP_len, hlen]; omega)).trans (celP_at M (ya, yt, yg) 2 (by decide))
        have f1 := HO.out.frozen (M.length * 3 + 1)
        have hX : (s.extract k (k + 1)).size = 1 := by rw [ByteArray.size_extract]; omega
        have hys : yt.size ≤ k := hys
        have hp0 : (0 : Int) < (M.length : Int) + 1 := by omega
        have d1 : wr.drew.cell? ⟨g, M.length * 3 + 1, none⟩ = some (.string yt) := c1
        have d2 : wr.drew.frozen? ⟨g, M.length * 3 + 1, none⟩ = false := f1
        have hw1 : IntKind.i64.wrap ((k : Int) + 1) = (k : Int) + 1 := wrap_small (by omega)
        have q3 : k + 1 ≤ s.size := by omega
        have hw0 : IntKind.i64.wrap (M.length : Int) = (M.length : Int) := wrap_small (by omega)
        clear hne hln hsz
        rcases hb3 with ⟨b1, hv⟩ | ⟨b1, b2, hv⟩ | ⟨b1, b2, hv⟩
        · cases yg
          · have hst := vS_new (M := M) (y := (ya, yt, false)) he (by rw [hv]; simp)
            rw [hv] at hst
            go_wp2_with (at_builtin; refine wpList_append_ow (cel := celP) (t := 57) (k := 3) celP_len (by decide) (fun x v hv => (by simp [celP] at hv; rcases hv with rfl | rfl | rfl <;> rfl)) rfl _ _ 54 rfl Tryd.underlying54 (.agg #[.int .i64 0, .string ByteArray.empty, .bool false]) 32 (by kernel_rfl) rfl (.slice (some ⟨g, 0, none⟩) (M.length + 1) c) _ rfl (HO.out.below ((Below.refl _ _).alloc (Nat.le_refl _) _)) wr.heap.size 1 (k, s.extract k (k + 1), true) rfl (fun j u hu => new_cells (celP (k, s.extract k (k + 1), true)) j u hu) (by rw [hlen]; omega) (by rw [hlen]; omega) ?_; intro g5 c5 w5 ho5 hb5 hg5)
            go_round
            case rel =>
              refine ⟨k + 1, hlt, by go_num, ?_, below_chg (HB.out.alloc HB.out.size _) (HB.out.alloc HB.out.size _).size hb5 (fun j hj => HG.out j hj), fun g hg => ?_⟩
              · show Ow _ _ _ _ _ _
                rw [hst, he]
                rw [hlen] at ho5
                exact ho5
              · have hgg : g5 = g := by simpa [Value.ownBlock] using hg
                subst hgg
                rcases hg5 with h1 | h1
                · exact HG.out _ h1
                · exact Nat.le_trans (HB.out.alloc HB.out.size _).size h1
            case measure => simp [intOf]; omega
          · have hst := vS_on (M := M) (y := (ya, yt, true)) he hv.symm
            go_wp2_with fail
            refine wp_region_late (fun wx => wx = wr.drew) 14 (by kernel_rfl) rfl (fun hHeld => ?_)
            refine wpAnyE_tkU (i := 0) (d := some 37) (v := .slice (some ⟨g, 0, none⟩) (M.length + 1) c) rfl (by kernel_rfl) (by kernel_rfl) (by kernel_rfl) [3, 4, 5, 11, 14] rfl (by kernel_rfl) (by kernel_rfl) (fun _ _ _ h => h) rfl rfl ?hy hHeld ?_
            case hy => (intro w' hSw; subst hSw; go_simp <;> (first | with_reducible rfl | omega | skip))
            simp only [Act.put, List.setIfInBounds_toArray, List.set_cons_zero, List.set_cons_succ]
            refine wpAnyE_tkU (i := 1) (d := some 38) (v := .int .i64 ((M.length : Int) + 1)) rfl (by kernel_rfl) (by kernel_rfl) (by kernel_rfl) [2, 3, 4, 5, 11, 14] rfl (by kernel_rfl) (by kernel_rfl) (fun _ _ _ h => h) rfl rfl ?hy hHeld ?_
            case hy => (intro w' hSw; subst hSw; go_simp <;> (first | with_reducible rfl | omega | skip))
            simp only [Act.put, List.setIfInBounds_toArray, List.set_cons_zero, List.set_cons_succ]
            refine wpAnyE_tkU (i := 2) (d := some 39) (v := .int .i64 (M.length : Int)) rfl (by kernel_rfl) (by kernel_rfl) (by kernel_rfl) [3, 4, 5, 11, 14] rfl (by kernel_rfl) (by kernel_rfl) (fun _ _ _ h => h) rfl rfl ?hy hHeld ?_
            case hy => (intro w' hSw; subst hSw; go_simp <;> (first | with_reducible rfl | omega | skip))
            simp only [Act.put, List.setIfInBounds_toArray, List.set_cons_zero, List.set_cons_succ]
            refine wpAnyE_tkU (i := 3) (d := some 40) (v := .pointer (some ⟨g, M.length * 3, none⟩)) rfl (by kernel_rfl) (by kernel_rfl) (by kernel_rfl) [4, 5, 11, 14] rfl (by kernel_rfl) (by kernel_rfl) (fun _ _ _ h => h) rfl rfl ?hy hHeld ?_
            case hy => (intro w' hSw; subst hSw; go_simp <;> (first | with_reducible rfl | omega | skip))
            simp only [Act.put, List.setIfInBounds_toArray, List.set_cons_zero, List.set_cons_succ]
            refine wpAnyE_tkU (i := 4) (d := some 41) (v := .pointer (some ⟨g, M.length * 3 + 1, none⟩)) rfl (by kernel_rfl) (by kernel_rfl) (by kernel_rfl) [5, 11, 14] rfl (by kernel_rfl) (by kernel_rfl) (fun _ _ _ h => h) rfl rfl ?hy hHeld ?_
            case hy => (intro w' hSw; subst hSw; go_simp <;> (first | with_reducible rfl | omega | skip))
            simp only [Act.put, List.setIfInBounds_toArray, List.set_cons_zero, List.set_cons_succ]
            refine wpAnyE_tkU (i := 5) (d := some 42) (v := .string yt) rfl (by kernel_rfl) (by kernel_rfl) (by kernel_rfl) [11, 14] rfl (by kernel_rfl) (by kernel_rfl) (fun _ _ _ h => h) rfl rfl ?hy hHeld ?_
            case hy => (intro w' hSw; subst hSw; go_simp <;> (first | with_reducible rfl | omega | skip))
            simp only [Act.put, List.setIfInBounds_toArray, List.set_cons_zero, List.set_cons_succ]
            refine wpAnyE_tkU (i := 6) (d := some 43) (v := .string s) rfl (by kernel_rfl) (by kernel_rfl) (by kernel_rfl) [10, 11, 14] rfl (by kernel_rfl) (by kernel_rfl) (fun _ _ _ h => h) rfl rfl ?hy hHeld ?_
            case hy => (intro w' hSw; subst hSw; go_simp <;> (first | with_reducible rfl | omega | skip))
            simp only [Act.put, List.setIfInBounds_toArray, List.set_cons_zero, List.set_cons_succ]
            refine wpAnyE_tkU (i := 7) (d := some 44) (v := .int .i64 (k : Int)) rfl (by kernel_rfl) (by kernel_rfl) (by kernel_rfl) [10, 11, 14] rfl (by kernel_rfl) (by kernel_rfl) (fun _ _ _ h => h) rfl rfl ?hy hHeld ?_
            case hy => (intro w' hSw; subst hSw; go_simp <;> (first | with_reducible rfl | omega | skip))
            simp only [Act.put, List.setIfInBounds_toArray, List.set_cons_zero, List.set_cons_succ]
            refine wpAnyE_tkU (i := 8) (d := some 45) (v := .int .i64 (k : Int)) rfl (by kernel_rfl) (by kernel_rfl) (by kernel_rfl) [9, 10, 11, 14] rfl (by kernel_rfl) (by kernel_rfl) (fun _ _ _ h => h) rfl rfl ?hy hHeld ?_
            case hy => (intro w' hSw; subst hSw; go_simp <;> (first | with_reducible rfl | omega | skip))
            simp only [Act.put, List.setIfInBounds_toArray, List.set_cons_zero, List.set_cons_succ]
            refine wpAnyE_tkU (i := 9) (d := some 46) (v := .int .i64 ((k : Int) + 1)) rfl (by kernel_rfl) (by kernel_rfl) (by kernel_rfl) [10, 11, 14] rfl (by kernel_rfl) (by kernel_rfl) (fun _ _ _ h => h) rfl rfl ?hy hHeld ?_
            case hy => (intro w' hSw; subst hSw; go_simp <;> (first | with_reducible rfl | omega | skip))
            simp only [Act.put, List.setIfInBounds_toArray, List.set_cons_zero, List.set_cons_succ]
            refine wpAnyE_tkU (i := 10) (d := some 47) (v := .string (s.extract k (k + 1))) rfl (by kernel_rfl) (by kernel_rfl) (by kernel_rfl) [11, 14] rfl (by kernel_rfl) (by kernel_rfl) (fun _ _ _ h => h) rfl rfl ?hy hHeld ?_
            case hy => (intro w' hSw; subst hSw; go_simp <;> (first | with_reducible rfl | omega | skip))
            simp only [Act.put, List.setIfInBounds_toArray, List.set_cons_zero, List.set_cons_succ]
            refine wpAnyE_tkU (i := 11) (d := some 48) (v := .string (yt ++ s.extract k (k + 1))) rfl (by kernel_rfl) (by kernel_rfl) (by kernel_rfl) [14] rfl (by kernel_rfl) (by kernel_rfl) (fun _ _ _ h => h) rfl rfl ?hy hHeld ?_
            case hy => (intro w' hSw; subst hSw; go_simp <;> (first | with_reducible rfl | omega | skip))
            simp only [Act.put, List.setIfInBounds_toArray, List.set_cons_zero, List.set_cons_succ]
            refine wpAnyE_tkU (i := 12) (d := some 49) (v := .pointer (some ⟨g, M.length * 3, none⟩)) rfl (by kernel_rfl) (by kernel_rfl) (by kernel_rfl) [13, 14] rfl (by kernel_rfl) (by kernel_rfl) (fun _ _ _ h => h) rfl rfl ?hy hHeld ?_
            case hy => (intro w' hSw; subst hSw; go_simp <;> (first | with_reducible rfl | omega | skip))
            simp only [Act.put, List.setIfInBounds_toArray, List.set_cons_zero, List.set_cons_succ]
            refine wpAnyE_tkU (i := 13) (d := some 50) (v := .pointer (some ⟨g, M.length * 3 + 1, none⟩)) rfl (by kernel_rfl) (by kernel_rfl) (by kernel_rfl) [14] rfl (by kernel_rfl) (by kernel_rfl) (fun _ _ _ h => h) rfl rfl ?hy hHeld ?_
            case hy => (intro w' hSw; subst hSw; go_simp <;> (first | with_reducible rfl | omega | skip))
            simp only [Act.put, List.setIfInBounds_toArray, List.set_cons_zero, List.set_cons_succ]
            refine wpAnyE_one (i := 14) (by kernel_rfl) rfl rfl ?_
            go_simp
            refine wpAnyE_done (by kernel_rfl) ?_ _
            clear hHeld
            go_wp2_with fail
            go_round
            case rel =>
              refine ⟨k + 1, hlt, by go_num, ?_, HB.out.drew.setCell (p := ⟨g, M.length * 3 + 1, none⟩) (HG.out g rfl) _, HG.out⟩
              show Ow _ _ _ _ _ _
              rw [hst]
              exact HO.out.set_at _ _ _ (by simp) (celP_set M (ya, yt, true) _)
            case measure => simp [intOf]; omega
        · cases yg
          · have hst := vS_new (M := M) (y := (ya, yt, false)) he (by rw [hv]; simp)
            rw [hv] at hst
            go_wp2_with (at_builtin; refine wpList_append_ow (cel := celP) (t := 57) (k := 3) celP_len (by decide) (fun x v hv => (by simp [celP] at hv; rcases hv with rfl | rfl | rfl <;> rfl)) rfl _ _ 54 rfl Tryd.underlying54 (.agg #[.int .i64 0, .string ByteArray.empty, .bool false]) 32 (by kernel_rfl) rfl (.slice (some ⟨g, 0, none⟩) (M.length + 1) c) _ rfl (HO.out.below ((Below.refl _ _).alloc (Nat.le_refl _) _)) wr.heap.size 1 (k, s.extract k (k + 1), true) rfl (fun j u hu => new_cells (celP (k, s.extract k (k + 1), true)) j u hu) (by rw [hlen]; omega) (by rw [hlen]; omega) ?_; intro g5 c5 w5 ho5 hb5 hg5)
            go_round
            case rel =>
              refine ⟨k + 1, hlt, by go_num, ?_, below_chg (HB.out.alloc HB.out.size _) (HB.out.alloc HB.out.size _).size hb5 (fun j hj => HG.out j hj), fun g hg => ?_⟩
              · show Ow _ _ _ _ _ _
                rw [hst, he]
                rw [hlen] at ho5
                exact ho5
              · have hgg : g5 = g := by simpa [Value.ownBlock] using hg
                subst hgg
                rcases hg5 with h1 | h1
                · exact HG.out _ h1
                · exact Nat.le_trans (HB.out.alloc HB.out.size _).size h1
            case measure => simp [intOf]; omega
          · have hst := vS_on (M := M) (y := (ya, yt, true)) he hv.symm
            go_wp2_with fail
            refine wp_region_late (fun wx => wx = wr.drew) 14 (by kernel_rfl) rfl (fun hHeld => ?_)
            refine wpAnyE_tkU (i := 0) (d := some 37) (v := .slice (some ⟨g, 0, none⟩) (M.length + 1) c) rfl (by kernel_rfl) (by kernel_rfl) (by kernel_rfl) [3, 4, 5, 11, 14] rfl (by kernel_rfl) (by kernel_rfl) (fun _ _ _ h => h) rfl rfl ?hy hHeld ?_
            case hy => (intro w' hSw; subst hSw; go_simp <;> (first | with_reducible rfl | omega | skip))
            simp only [Act.put, List.setIfInBounds_toArray, List.set_cons_zero, List.set_cons_succ]
            refine wpAnyE_tkU (i := 1) (d := some 38) (v := .int .i64 ((M.length : Int) + 1)) rfl (by kernel_rfl) (by kernel_rfl) (by kernel_rfl) [2, 3, 4, 5, 11, 14] rfl (by kernel_rfl) (by kernel_rfl) (fun _ _ _ h => h) rfl rfl ?hy hHeld ?_
            case hy => (intro w' hSw; subst hSw; go_simp <;> (first | with_reducible rfl | omega | skip))
            simp only [Act.put, List.setIfInBounds_toArray, List.set_cons_zero, List.set_cons_succ]
            refine wpAnyE_tkU (i := 2) (d := some 39) (v := .int .i64 (M.length : Int)) rfl (by kernel_rfl) (by kernel_rfl) (by kernel_rfl) [3, 4, 5, 11, 14] rfl (by kernel_rfl) (by kernel_rfl) (fun _ _ _ h => h) rfl rfl ?hy hHeld ?_
            case hy => (intro w' hSw; subst hSw; go_simp <;> (first | with_reducible rfl | omega | skip))
            simp only [Act.put, List.setIfInBounds_toArray, List.set_cons_zero, List.set_cons_succ]
            refine wpAnyE_tkU (i := 3) (d := some 40) (v := .pointer (some ⟨g, M.length * 3, none⟩)) rfl (by kernel_rfl) (by kernel_rfl) (by kernel_rfl) [4, 5, 11, 14] rfl (by kernel_rfl) (by kernel_rfl) (fun _ _ _ h => h) rfl rfl ?hy hHeld ?_
            case hy => (intro w' hSw; subst hSw; go_simp <;> (first | with_reducible rfl | omega | skip))
            simp only [Act.put, List.setIfInBounds_toArray, List.set_cons_zero, List.set_cons_succ]
            refine wpAnyE_tkU (i := 4) (d := some 41) (v := .pointer (some ⟨g, M.length * 3 + 1, none⟩)) rfl (by kernel_rfl) (by kernel_rfl) (by kernel_rfl) [5, 11, 14] rfl (by kernel_rfl) (by kernel_rfl) (fun _ _ _ h => h) rfl rfl ?hy hHeld ?_
            case hy => (intro w' hSw; subst hSw; go_simp <;> (first | with_reducible rfl | omega | skip))
            simp only [Act.put, List.setIfInBounds_toArray, List.set_cons_zero, List.set_cons_succ]
            refine wpAnyE_tkU (i := 5) (d := some 42) (v := .string yt) rfl (by kernel_rfl) (by kernel_rfl) (by kernel_rfl) [11, 14] rfl (by kernel_rfl) (by kernel_rfl) (fun _ _ _ h => h) rfl rfl ?hy hHeld ?_
            case hy => (intro w' hSw; subst hSw; go_simp <;> (first | with_reducible rfl | omega | skip))
            simp only [Act.put, List.setIfInBounds_toArray, List.set_cons_zero, List.set_cons_succ]
            refine wpAnyE_tkU (i := 6) (d := some 43) (v := .string s) rfl (by kernel_rfl) (by kernel_rfl) (by kernel_rfl) [10, 11, 14] rfl (by kernel_rfl) (by kernel_rfl) (fun _ _ _ h => h) rfl rfl ?hy hHeld ?_
            case hy => (intro w' hSw; subst hSw; go_simp <;> (first | with_reducible rfl | omega | skip))
            simp only [Act.put, List.setIfInBounds_toArray, List.set_cons_zero, List.set_cons_succ]
            refine wpAnyE_tkU (i := 7) (d := some 44) (v := .int .i64 (k : Int)) rfl (by kernel_rfl) (by kernel_rfl) (by kernel_rfl) [10, 11, 14] rfl (by kernel_rfl) (by kernel_rfl) (fun _ _ _ h => h) rfl rfl ?hy hHeld ?_
            case hy => (intro w' hSw; subst hSw; go_simp <;> (first | with_reducible rfl | omega | skip))
            simp only [Act.put, List.setIfInBounds_toArray, List.set_cons_zero, List.set_cons_succ]
            refine wpAnyE_tkU (i := 8) (d := some 45) (v := .int .i64 (k : Int)) rfl (by kernel_rfl) (by kernel_rfl) (by kernel_rfl) [9, 10, 11, 14] rfl (by kernel_rfl) (by kernel_rfl) (fun _ _ _ h => h) rfl rfl ?hy hHeld ?_
            case hy => (intro w' hSw; subst hSw; go_simp <;> (first | with_reducible rfl | omega | skip))
            simp only [Act.put, List.setIfInBounds_toArray, List.set_cons_zero, List.set_cons_succ]
            refine wpAnyE_tkU (i := 9) (d := some 46) (v := .int .i64 ((k : Int) + 1)) rfl (by kernel_rfl) (by kernel_rfl) (by kernel_rfl) [10, 11, 14] rfl (by kernel_rfl) (by kernel_rfl) (fun _ _ _ h => h) rfl rfl ?hy hHeld ?_
            case hy => (intro w' hSw; subst hSw; go_simp <;> (first | with_reducible rfl | omega | skip))
            simp only [Act.put, List.setIfInBounds_toArray, List.set_cons_zero, List.set_cons_succ]
            refine wpAnyE_tkU (i := 10) (d := some 47) (v := .string (s.extract k (k + 1))) rfl (by kernel_rfl) (by kernel_rfl) (by kernel_rfl) [11, 14] rfl (by kernel_rfl) (by kernel_rfl) (fun _ _ _ h => h) rfl rfl ?hy hHeld ?_
            case hy => (intro w' hSw; subst hSw; go_simp <;> (first | with_reducible rfl | omega | skip))
            simp only [Act.put, List.setIfInBounds_toArray, List.set_cons_zero, List.set_cons_succ]
            refine wpAnyE_tkU (i := 11) (d := some 48) (v := .string (yt ++ s.extract k (k + 1))) rfl (by kernel_rfl) (by kernel_rfl) (by kernel_rfl) [14] rfl (by kernel_rfl) (by kernel_rfl) (fun _ _ _ h => h) rfl rfl ?hy hHeld ?_
            case hy => (intro w' hSw; subst hSw; go_simp <;> (first | with_reducible rfl | omega | skip))
            simp only [Act.put, List.setIfInBounds_toArray, List.set_cons_zero, List.set_cons_succ]
            refine wpAnyE_tkU (i := 12) (d := some 49) (v := .pointer (some ⟨g, M.length * 3, none⟩)) rfl (by kernel_rfl) (by kernel_rfl) (by kernel_rfl) [13, 14] rfl (by kernel_rfl) (by kernel_rfl) (fun _ _ _ h => h) rfl rfl ?hy hHeld ?_
            case hy => (intro w' hSw; subst hSw; go_simp <;> (first | with_reducible rfl | omega | skip))
            simp only [Act.put, List.setIfInBounds_toArray, List.set_cons_zero, List.set_cons_succ]
            refine wpAnyE_tkU (i := 13) (d := some 50) (v := .pointer (some ⟨g, M.length * 3 + 1, none⟩)) rfl (by kernel_rfl) (by kernel_rfl) (by kernel_rfl) [14] rfl (by kernel_rfl) (by kernel_rfl) (fun _ _ _ h => h) rfl rfl ?hy hHeld ?_
            case hy => (intro w' hSw; subst hSw; go_simp <;> (first | with_reducible rfl | omega | skip))
            simp only [Act.put, List.setIfInBounds_toArray, List.set_cons_zero, List.set_cons_succ]
            refine wpAnyE_one (i := 14) (by kernel_rfl) rfl rfl ?_
            go_simp
            refine wpAnyE_done (by kernel_rfl) ?_ _
            clear hHeld
            go_wp2_with fail
            go_round
            case rel =>
              refine ⟨k + 1, hlt, by go_num, ?_, HB.out.drew.setCell (p := ⟨g, M.length * 3 + 1, none⟩) (HG.out g rfl) _, HG.out⟩
              show Ow _ _ _ _ _ _
              rw [hst]
              exact HO.out.set_at _ _ _ (by simp) (celP_set M (ya, yt, true) _)
            case measure => simp [intOf]; omega
        · cases yg
          · have hst := vS_on (M := M) (y := (ya, yt, false)) he hv.symm
            go_wp2_with fail
            refine wp_region_late (fun wx => wx = wr.drew) 14 (by kernel_rfl) rfl (fun hHeld => ?_)
            refine wpAnyE_tkU (i := 0) (d := some 37) (v := .slice (some ⟨g, 0, none⟩) (M.length + 1) c) rfl (by kernel_rfl) (by kernel_rfl) (by kernel_rfl) [3, 4, 5, 11, 14] rfl (by kernel_rfl) (by kernel_rfl) (fun _ _ _ h => h) rfl rfl ?hy hHeld ?_
            case hy => (intro w' hSw; subst hSw; go_simp <;> (first | with_reducible rfl | omega | skip))
            simp only [Act.put, List.setIfInBounds_toArray, List.set_cons_zero, List.set_cons_succ]
            refine wpAnyE_tkU (i := 1) (d := some 38) (v := .int .i64 ((M.length : Int) + 1)) rfl (by kernel_rfl) (by kernel_rfl) (by kernel_rfl) [2, 3, 4, 5, 11, 14] rfl (by kernel_rfl) (by kernel_rfl) (fun _ _ _ h => h) rfl rfl ?hy hHeld ?_
            case hy => (intro w' hSw; subst hSw; go_simp <;> (first | with_reducible rfl | omega | skip))
            simp only [Act.put, List.setIfInBounds_toArray, List.set_cons_zero, List.set_cons_succ]
            refine wpAnyE_tkU (i := 2) (d := some 39) (v := .int .i64 (M.length : Int)) rfl (by kernel_rfl) (by kernel_rfl) (by kernel_rfl) [3, 4, 5, 11, 14] rfl (by kernel_rfl) (by kernel_rfl) (fun _ _ _ h => h) rfl rfl ?hy hHeld ?_
            case hy => (intro w' hSw; subst hSw; go_simp <;> (first | with_reducible rfl | omega | skip))
            simp only [Act.put, List.setIfInBounds_toArray, List.set_cons_zero, List.set_cons_succ]
            refine wpAnyE_tkU (i := 3) (d := some 40) (v := .pointer (some ⟨g, M.length * 3, none⟩)) rfl (by kernel_rfl) (by kernel_rfl) (by kernel_rfl) [4, 5, 11, 14] rfl (by kernel_rfl) (by kernel_rfl) (fun _ _ _ h => h) rfl rfl ?hy hHeld ?_
            case hy => (intro w' hSw; subst hSw; go_simp <;> (first | with_reducible rfl | omega | skip))
            simp only [Act.put, List.setIfInBounds_toArray, List.set_cons_zero, List.set_cons_succ]
            refine wpAnyE_tkU (i := 4) (d := some 41) (v := .pointer (some ⟨g, M.length * 3 + 1, none⟩)) rfl (by kernel_rfl) (by kernel_rfl) (by kernel_rfl) [5, 11, 14] rfl (by kernel_rfl) (by kernel_rfl) (fun _ _ _ h => h) rfl rfl ?hy hHeld ?_
            case hy => (intro w' hSw; subst hSw; go_simp <;> (first | with_reducible rfl | omega | skip))
            simp only [Act.put, List.setIfInBounds_toArray, List.set_cons_zero, List.set_cons_succ]
            refine wpAnyE_tkU (i := 5) (d := some 42) (v := .string yt) rfl (by kernel_rfl) (by kernel_rfl) (by kernel_rfl) [11, 14] rfl (by kernel_rfl) (by kernel_rfl) (fun _ _ _ h => h) rfl rfl ?hy hHeld ?_
            case hy => (intro w' hSw; subst hSw; go_simp <;> (first | with_reducible rfl | omega | skip))
            simp only [Act.put, List.setIfInBounds_toArray, List.set_cons_zero, List.set_cons_succ]
            refine wpAnyE_tkU (i := 6) (d := some 43) (v := .string s) rfl (by kernel_rfl) (by kernel_rfl) (by kernel_rfl) [10, 11, 14] rfl (by kernel_rfl) (by kernel_rfl) (fun _ _ _ h => h) rfl rfl ?hy hHeld ?_
            case hy => (intro w' hSw; subst hSw; go_simp <;> (first | with_reducible rfl | omega | skip))
            simp only [Act.put, List.setIfInBounds_toArray, List.set_cons_zero, List.set_cons_succ]
            refine wpAnyE_tkU (i := 7) (d := some 44) (v := .int .i64 (k : Int)) rfl (by kernel_rfl) (by kernel_rfl) (by kernel_rfl) [10, 11, 14] rfl (by kernel_rfl) (by kernel_rfl) (fun _ _ _ h => h) rfl rfl ?hy hHeld ?_
            case hy => (intro w' hSw; subst hSw; go_simp <;> (first | with_reducible rfl | omega | skip))
            simp only [Act.put, List.setIfInBounds_toArray, List.set_cons_zero, List.set_cons_succ]
            refine wpAnyE_tkU (i := 8) (d := some 45) (v := .int .i64 (k : Int)) rfl (by kernel_rfl) (by kernel_rfl) (by kernel_rfl) [9, 10, 11, 14] rfl (by kernel_rfl) (by kernel_rfl) (fun _ _ _ h => h) rfl rfl ?hy hHeld ?_
            case hy => (intro w' hSw; subst hSw; go_simp <;> (first | with_reducible rfl | omega | skip))
            simp only [Act.put, List.setIfInBounds_toArray, List.set_cons_zero, List.set_cons_succ]
            refine wpAnyE_tkU (i := 9) (d := some 46) (v := .int .i64 ((k : Int) + 1)) rfl (by kernel_rfl) (by kernel_rfl) (by kernel_rfl) [10, 11, 14] rfl (by kernel_rfl) (by kernel_rfl) (fun _ _ _ h => h) rfl rfl ?hy hHeld ?_
            case hy => (intro w' hSw; subst hSw; go_simp <;> (first | with_reducible rfl | omega | skip))
            simp only [Act.put, List.setIfInBounds_toArray, List.set_cons_zero, List.set_cons_succ]
            refine wpAnyE_tkU (i := 10) (d := some 47) (v := .string (s.extract k (k + 1))) rfl (by kernel_rfl) (by kernel_rfl) (by kernel_rfl) [11, 14] rfl (by kernel_rfl) (by kernel_rfl) (fun _ _ _ h => h) rfl rfl ?hy hHeld ?_
            case hy => (intro w' hSw; subst hSw; go_simp <;> (first | with_reducible rfl | omega | skip))
            simp only [Act.put, List.setIfInBounds_toArray, List.set_cons_zero, List.set_cons_succ]
            refine wpAnyE_tkU (i := 11) (d := some 48) (v := .string (yt ++ s.extract k (k + 1))) rfl (by kernel_rfl) (by kernel_rfl) (by kernel_rfl) [14] rfl (by kernel_rfl) (by kernel_rfl) (fun _ _ _ h => h) rfl rfl ?hy hHeld ?_
            case hy => (intro w' hSw; subst hSw; go_simp <;> (first | with_reducible rfl | omega | skip))
            simp only [Act.put, List.setIfInBounds_toArray, List.set_cons_zero, List.set_cons_succ]
            refine wpAnyE_tkU (i := 12) (d := some 49) (v := .pointer (some ⟨g, M.length * 3, none⟩)) rfl (by kernel_rfl) (by kernel_rfl) (by kernel_rfl) [13, 14] rfl (by kernel_rfl) (by kernel_rfl) (fun _ _ _ h => h) rfl rfl ?hy hHeld ?_
            case hy => (intro w' hSw; subst hSw; go_simp <;> (first | with_reducible rfl | omega | skip))
            simp only [Act.put, List.setIfInBounds_toArray, List.set_cons_zero, List.set_cons_succ]
            refine wpAnyE_tkU (i := 13) (d := some 50) (v := .pointer (some ⟨g, M.length * 3 + 1, none⟩)) rfl (by kernel_rfl) (by kernel_rfl) (by kernel_rfl) [14] rfl (by kernel_rfl) (by kernel_rfl) (fun _ _ _ h => h) rfl rfl ?hy hHeld ?_
            case hy => (intro w' hSw; subst hSw; go_simp <;> (first | with_reducible rfl | omega | skip))
            simp only [Act.put, List.setIfInBounds_toArray, List.set_cons_zero, List.set_cons_succ]
            refine wpAnyE_one (i := 14) (by kernel_rfl) rfl rfl ?_
            go_simp
            refine wpAnyE_done (by kernel_rfl) ?_ _
            clear hHeld
            go_wp2_with fail
            go_round
            case rel =>
              refine ⟨k + 1, hlt, by go_num, ?_, HB.out.drew.setCell (p := ⟨g, M.length * 3 + 1, none⟩) (HG.out g rfl) _, HG.out⟩
              show Ow _ _ _ _ _ _
              rw [hst]
              exact HO.out.set_at _ _ _ (by simp) (celP_set M (ya, yt, false) _)
            case measure => simp [intOf]; omega
          · have hst := vS_new (M := M) (y := (ya, yt, true)) he (by rw [hv]; simp)
            rw [hv] at hst
            go_wp2_with (at_builtin; refine wpList_append_ow (cel := celP) (t := 57) (k := 3) celP_len (by decide) (fun x v hv => (by simp [celP] at hv; rcases hv with rfl | rfl | rfl <;> rfl)) rfl _ _ 54 rfl Tryd.underlying54 (.agg #[.int .i64 0, .string ByteArray.empty, .bool false]) 32 (by kernel_rfl) rfl (.slice (some ⟨g, 0, none⟩) (M.length + 1) c) _ rfl (HO.out.below ((Below.refl _ _).alloc (Nat.le_refl _) _)) wr.heap.size 1 (k, s.extract k (k + 1), false) rfl (fun j u hu => new_cells (celP (k, s.extract k (k + 1), false)) j u hu) (by rw [hlen]; omega) (by rw [hlen]; omega) ?_; intro g5 c5 w5 ho5 hb5 hg5)
            go_round
            case rel =>
              refine ⟨k + 1, hlt, by go_num, ?_, below_chg (HB.out.alloc HB.out.size _) (HB.out.alloc HB.out.size _).size hb5 (fun j hj => HG.out j hj), fun g hg => ?_⟩
              · show Ow _ _ _ _ _ _
                rw [hst, he]
                rw [hlen] at ho5
                exact ho5
              · have hgg : g5 = g := by simpa [Value.ownBlock] using hg
                subst hgg
                rcases hg5 with h1 | h1
                · exact HG.out _ h1
                · exact Nat.le_trans (HB.out.alloc HB.out.size _).size h1
            case measure => simp [intOf]; omega
    · obtain rfl : k = s.size := by omega
      obtain ⟨a, c, rfl, hne⟩ := HO.out.shape
      clear hne
      go_wp2_with fail
      refine bodyPost_ret (v := .slice a (vS s s.size).length c) (by simp [results, Tryd.results27, go_sem]) rfl ⟨⟨_, rfl, HO.out⟩, HB.out⟩
end Go.Proofs.YtdgepnfgjgbkoaaDoor
