/-
  The document's Parts.
-/
import Derived.Test.YtdgepnfgjgbkoabDoorWp17
import Derived.Test.YtdgepnfgjgbkoabDoorNdP
import Derived.Test.YtdgepnfgjgbkoabDoorOwn7
import Derived.Test.YtdgepnfgjgbkoabDoorWq17
namespace Go.Proofs.YtdgepnfgjgbkoabDoor
open Go.RowKit
def VpA (l : List UInt8) (A B C : ByteArray) (b : Bool) : Prop := b = (vP l).isSome ∧ ∀ p, vP l = some p → A.data.toList = p.1 ∧ B.data.toList = p.2.1 ∧ C.data.toList = p.2.2
theorem VpA.no {l : List UInt8} (h : vP l = none) (A B C : ByteArray) : VpA l A B C false := ⟨by rw [h]; rfl, fun p hp => by rw [h] at hp; cases hp⟩
theorem VpA.yes {l : List UInt8} {A B C : ByteArray} (h : vP l = some (A.data.toList, B.data.toList, C.data.toList)) : VpA l A B C true := ⟨by rw [h]; rfl, fun p hp => by rw [h] at hp; cases hp; exact ⟨rfl, rfl, rfl⟩⟩
def VpE (l : List UInt8) (e : Ending) : Prop := ∃ (A B C : ByteArray) (b : Bool), e = .returned (.tuple #[.string A, .string B, .string C, .bool b]) ∧ VpA l A B C b
theorem VpE.no {l : List UInt8} (h : vP l = none) (A B C : ByteArray) : VpE l (.returned (.tuple #[.string A, .string B, .string C, .bool false])) := ⟨A, B, C, false, rfl, VpA.no h _ _ _⟩
theorem VpE.yes {l : List UInt8} {A B C : ByteArray} (h : vP l = some (A.data.toList, B.data.toList, C.data.toList)) : VpE l (.returned (.tuple #[.string A, .string B, .string C, .bool true])) := ⟨A, B, C, true, rfl, VpA.yes h⟩
theorem wrap_small {x : Int} (h : -9223372036854775808 ≤ x ∧ x ≤ 9223372036854775807) : IntKind.i64.wrap x = x := by
  rw [IntKind.wrap_i64]; omega
theorem ext_cut (s : ByteArray) (f t : Nat) : (s.extract f t).data.toList = cutW s.data.toList f t := by
  rw [ext_list, List.drop_take]
  rfl
theorem below_chg {B : Nat} {w W W' : World} {F : Nat → Prop} (h : Below B w W) (hB : B ≤ W.heap.size) (hc : Chg F W W') (hF : ∀ k, F k → B ≤ k) : Below B w W' :=
  h.trans ⟨hc.os, hc.tape, hc.output, hc.size, fun k hk => hc.block k (by omega) (fun f => by have := hF k f; omega)⟩
def celI (x : Nat) : List Value := [.int .i64 (x : Int)]
set_option maxRecDepth 100000 in
set_option maxHeartbeats 4000000 in
theorem vparts_any (s : ByteArray) (hs : s.size ≤ 4294967000) (w : World) :
    Calls Tryd.prog 19 #[.string s] w fun e w' => VpE s.data.toList e ∧ Below w.heap.size w w' := by
  have hl : s.data.toList.length = s.size := by rw [Array.length_toList]; rfl
  go_enter Tryd.func19, Tryd.ntmps19
  go_wp2_with fail
  go_loopw [6, 7] (fun mv kv wr => ∃ k : Nat, k ≤ s.size ∧ kv = .int .i64 k ∧ Hid (Ow celI 3 1 wr mv (mks 0 (s.data.toList.take k))) ∧ Hid (Below w.heap.size w wr) ∧ Hid (∀ g, mv.ownBlock = some g → w.heap.size ≤ g) ∧ Hid (∀ j, j < k → ∀ h : j < s.data.toList.length, 33 ≤ (s.data.toList[j]).toNat ∧ (s.data.toList[j]).toNat ≤ 126)) (fun _ kv _ => s.size - (intOf kv).toNat)
  case atStart => exact ⟨0, by omega, rfl, by exact Ow.nil _ _ _ _, Below.refl _ _, fun g h => (by cases h), fun j h => (by omega)⟩
  case round =>
    obtain ⟨k, hk, rfl, HO, HB, HG, HA⟩ := hrel
    by_cases hlt : k < s.size
    · have hlti : (k : Int) < s.size := by omega
      have hkl : k < s.data.toList.length := by omega
      have hsk : s[k] = s.data.toList[k] := by simp; rfl
      have htk := mks_take s.data.toList k hkl
      by_cases hg : 33 ≤ (s[k]).toNat ∧ (s[k]).toNat ≤ 126
      · obtain ⟨a, c, rfl, hne⟩ := HO.out.shape
        have hgd : 33 ≤ (s.data[k]'hlt).toNat ∧ (s.data[k]'hlt).toNat ≤ 126 := hg
        obtain ⟨hga, hgb⟩ := hgd
        by_cases h63 : s[k] = 63
        · rw [hsk] at h63
          rw [if_pos h63] at htk
          rw [← hsk] at h63
          have h63n : (s[k]).toNat = 63 := by rw [h63]; rfl
          have h63q : (((s.data[k]'hlt).toNat : Int) == 63) = true := by rw [show (s.data[k]'hlt).toNat = 63 from h63n]; rfl
          have hml := mks_len (s.data.toList.take k) 0
          rw [List.length_take, Nat.min_eq_left (by omega)] at hml
          go_wp2_with (at_builtin; refine wpList_append_ow (cel := celI) (t := 3) (k := 1) (fun _ => rfl) (by decide) (fun x v hv => (by simp [celI] at hv; subst hv; rfl)) rfl _ _ 80 rfl Tryd.underlying80 (.int .i64 0) 8 (by kernel_rfl) rfl (.slice a (mks 0 (s.data.toList.take k)).length c) _ rfl (HO.out.below ((Below.refl _ _).alloc (Nat.le_refl _) _)) wr.heap.size 1 k rfl (fun j u hu => new_cells (celI k) j u hu) (by omega) (by omega) ?_; intro g5 c5 w5 ho5 hb5 hg5)
          have HAA : Hid (∀ j, j < k + 1 → ∀ h : j < s.data.toList.length, 33 ≤ (s.data.toList[j]).toNat ∧ (s.data.toList[j]).toNat ≤ 126) := fun j hj h => by
            rcases (by omega : j < k ∨ j = k) with h1 | rfl
            · exact HA.out j h1 h
            · rw [← hsk]; exact hg
          go_round
          case rel =>
            refine ⟨k + 1, hlt, by go_num, ?_, below_chg (HB.out.alloc HB.out.size _) (HB.out.alloc HB.out.size _).size hb5 (fun j hj => HG.out j hj), fun g hg => ?_, HAA.out⟩
            · show Ow _ _ _ _ _ _
              rw [htk]
              exact ho5
            · have hgg : g5 = g := by simpa [Value.ownBlock] using hg
              subst hgg
              rcases hg5 with h1 | h1
              · exact HG.out _ h1
              · exact Nat.le_trans (HB.out.alloc HB.out.size _).size h1
          case measure => simp [intOf]; omega
        · rw [hsk] at h63
          rw [if_neg h63, List.append_nil] at htk
          rw [← hsk] at h63
          have h63n : ¬ (s[k]).toNat = 63 := fun e => h63 (UInt8.toNat_inj.1 e)
          have h63q : (((s.data[k]'hlt).toNat : Int) == 63) = false := by
            have : ¬ (s.data[k]'hlt).toNat = 63 := h63n
            rw [beq_eq_false_iff_ne]; omega
          have HAA : Hid (∀ j, j < k + 1 → ∀ h : j < s.data.toList.length, 33 ≤ (s.data.toList[j]).toNat ∧ (s.data.toList[j]).toNat ≤ 126) := fun j hj h => by
            rcases (by omega : j < k ∨ j = k) with h1 | rfl
            · exact HA.out j h1 h
            · rw [← hsk]; exact hg
          have HO2 : Hid (Ow celI 3 1 wr (.slice a (mks 0 (s.data.toList.take k)).length c) (mks 0 (s.data.toList.take (k + 1)))) := by
            show Ow _ _ _ _ _ _
            rw [htk]
            exact HO.out
          go_wp2_with fail
          go_round
          case rel => exact ⟨k + 1, hlt, by go_num, HO2.out, HB.out, HG.out, HAA.out⟩
          case measure => simp [intOf]; omega
      · have hv := vP_bad k hkl (by rw [← hsk]; exact hg)
        have hg2 : (s.data[k]'hlt).toNat < 33 ∨ (¬ (s.data[k]'hlt).toNat < 33 ∧ 126 < (s.data[k]'hlt).toNat) := by
          have h3 : ¬ (33 ≤ (s.data[k]'hlt).toNat ∧ (s.data[k]'hlt).toNat ≤ 126) := hg
          omega
        rcases hg2 with hg2 | ⟨hg3, hg2⟩
        · go_wp2_with fail
          refine bodyPost_ret (v := .tuple #[.string ⟨#[]⟩, .string ⟨#[]⟩, .string ⟨#[]⟩, .bool false]) (by simp [results, Tryd.results19, go_sem]) rfl ⟨VpE.no hv _ _ _, HB.out⟩
        · go_wp2_with fail
          refine bodyPost_ret (v := .tuple #[.string ⟨#[]⟩, .string ⟨#[]⟩, .string ⟨#[]⟩, .bool false]) (by simp [results, Tryd.results19, go_sem]) rfl ⟨VpE.no hv _ _ _, HB.out⟩
    · obtain rfl : k = s.size := by omega
      have hM : s.data.toList.take s.size = s.data.toList := List.take_of_length_le (by omega)
      rw [hM] at HO
      have hall : s.data.toList.all good33 = true := List.all_eq_true.2 (fun x hx => by
        obtain ⟨j, hj, rfl⟩ := List.mem_iff_getElem.1 hx
        have := HA.out j (by omega) hj
        simp only [good33, Bool.and_eq_true, decide_eq_true_eq]
        exact this)
      obtain ⟨av, c, rfl, hne⟩ := HO.out.shape
      by_cases h4 : (mks 0 s.data.toList).length = 4
      · obtain ⟨g, rfl⟩ := hne (fun e => by rw [e] at h4; cases h4)
        obtain ⟨a, b, c2, d, hM4⟩ : ∃ a b c d, mks 0 s.data.toList = [a, b, c, d] := by
          match hq : mks 0 s.data.toList, h4 with
          | [a, b, c, d], _ => exact ⟨a, b, c, d, rfl⟩
        have hord := mks_four hM4
        have hvP := vP_four hM4 hall
        rw [hM4] at HO
        have m0 : wr.cell? ⟨g, 0, none⟩ = some (.int .i64 (a : Int)) := HO.out.cells 0 (by simp [celI])
        have m1 : wr.cell? ⟨g, 1, none⟩ = some (.int .i64 (b : Int)) := HO.out.cells 1 (by simp [celI])
        have m2 : wr.cell? ⟨g, 2, none⟩ = some (.int .i64 (c2 : Int)) := HO.out.cells 2 (by simp [celI])
        have m3 : wr.cell? ⟨g, 3, none⟩ = some (.int .i64 (d : Int)) := HO.out.cells 3 (by simp [celI])
        rw [hM4]
        clear hM4 hM h4 HA hne hall
        have hsz : 0 < s.size := by omega
        by_cases ha : a = 1
        · subst ha
          by_cases hd : d + 2 = s.size
          · have hdq : (d : Int) = (s.size : Int) - 2 := by omega
            have hzl : s.size - 1 < s.size := by omega
            have hl0 : s.data.toList[0]? = some (s[0]'hsz) := by
              rw [Array.getElem?_toList]
              exact Array.getElem?_eq_getElem _
            have hlz : s.data.toList[s.data.toList.length - 1]? = some (s[s.size - 1]'hzl) := by
              rw [hl, Array.getElem?_toList]
              exact Array.getElem?_eq_getElem _
            by_cases h0 : s[0]'hsz = 61
            · have h0q : ((s[0]'hsz).toNat : Int) = 61 := by rw [h0]; rfl
              by_cases hz : s[s.size - 1]'hzl = 61
              · have hzq : (((s[s.size - 1]'hzl).toNat : Int) != 61) = false := by rw [hz]; rfl
                rw [hl0, h0, hlz, hz] at hvP
                clear hl0 hlz h0 hz
                go_wp2_with fail
                have n1 : wr.drew.cell? ⟨g, 1, none⟩ = some (.int .i64 (b : Int)) := m1
                have n2 : wr.drew.cell? ⟨g, 2, none⟩ = some (.int .i64 (c2 : Int)) := m2
                have n3 : wr.drew.cell? ⟨g, 3, none⟩ = some (.int .i64 (d : Int)) := m3
                have q1 : b ≤ s.size := by omega
                have q2 : (2 : Int) ≤ b := by omega
                have q3 : c2 ≤ s.size := by omega
                have q4 : (0 : Int) ≤ (b : Int) + 1 := by omega
                have q5 : (b : Int) + 1 ≤ c2 := by omega
                have q6 : d ≤ s.size := by omega
                have q7 : (0 : Int) ≤ (c2 : Int) + 1 := by omega
                have q8 : (c2 : Int) + 1 ≤ d := by omega
                have hw1 : IntKind.i64.wrap ((b : Int) + 1) = (b : Int) + 1 := wrap_small (by omega)
                have hw2 : IntKind.i64.wrap ((c2 : Int) + 1) = (c2 : Int) + 1 := wrap_small (by omega)
                have HD2 : Hid (d + 2 = s.data.toList.length) := by show _ = _; omega
                clear hdq hd
                refine wp_region_late (fun wx => wx = wr.drew) 26 (by kernel_rfl) rfl (fun hHeld => ?_)
                refine wpAnyE_tk (i := 0) (d := some 67) (v := .string s) rfl (by kernel_rfl) (by kernel_rfl) (by kernel_rfl) rfl (fun _ _ _ h => h) rfl rfl ?hy hHeld ?_
                case hy => (intro w' hSw; subst hSw; go_simp <;> (first | with_reducible rfl | omega | skip))
                simp only [Act.put, List.setIfInBounds_toArray, List.set_cons_zero, List.set_cons_succ]
                refine wpAnyE_tk (i := 1) (d := some 68) (v := .slice (some ⟨g, 0, none⟩) 4 c) rfl (by kernel_rfl) (by kernel_rfl) (by kernel_rfl) rfl (fun _ _ _ h => h) rfl rfl ?hy hHeld ?_
                case hy => (intro w' hSw; subst hSw; go_simp <;> (first | with_reducible rfl | omega | skip))
                simp only [Act.put, List.setIfInBounds_toArray, List.set_cons_zero, List.set_cons_succ]
                refine wpAnyE_tk (i := 2) (d := some 69) (v := .pointer (some ⟨g, 1, none⟩)) rfl (by kernel_rfl) (by kernel_rfl) (by kernel_rfl) rfl (fun _ _ _ h => h) rfl rfl ?hy hHeld ?_
                case hy => (intro w' hSw; subst hSw; go_simp <;> (first | with_reducible rfl | omega | skip))
                simp only [Act.put, List.setIfInBounds_toArray, List.set_cons_zero, List.set_cons_succ]
                refine wpAnyE_tk (i := 3) (d := some 70) (v := .int .i64 (b : Int)) rfl (by kernel_rfl) (by kernel_rfl) (by kernel_rfl) rfl (fun _ _ _ h => h) rfl rfl ?hy hHeld ?_
                case hy => (intro w' hSw; subst hSw; go_simp <;> (first | with_reducible rfl | omega | skip))
                simp only [Act.put, List.setIfInBounds_toArray, List.set_cons_zero, List.set_cons_succ]
                refine wpAnyE_tk (i := 4) (d := some 71) (v := .string (s.extract 2 b)) rfl (by kernel_rfl) (by kernel_rfl) (by kernel_rfl) rfl (fun _ _ _ h => h) rfl rfl ?hy hHeld ?_
                case hy => (intro w' hSw; subst hSw; go_simp <;> (first | with_reducible rfl | omega | skip))
                simp only [Act.put, List.setIfInBounds_toArray, List.set_cons_zero, List.set_cons_succ]
                refine wpAnyE_tk (i := 5) (d := some 72) (v := .string s) rfl (by kernel_rfl) (by kernel_rfl) (by kernel_rfl) rfl (fun _ _ _ h => h) rfl rfl ?hy hHeld ?_
                case hy => (intro w' hSw; subst hSw; go_simp <;> (first | with_reducible rfl | omega | skip))
                simp only [Act.put, List.setIfInBounds_toArray, List.set_cons_zero, List.set_cons_succ]
                refine wpAnyE_tk (i := 6) (d := some 73) (v := .slice (some ⟨g, 0, none⟩) 4 c) rfl (by kernel_rfl) (by kernel_rfl) (by kernel_rfl) rfl (fun _ _ _ h => h) rfl rfl ?hy hHeld ?_
                case hy => (intro w' hSw; subst hSw; go_simp <;> (first | with_reducible rfl | omega | skip))
                simp only [Act.put, List.setIfInBounds_toArray, List.set_cons_zero, List.set_cons_succ]
                refine wpAnyE_tk (i := 7) (d := some 74) (v := .pointer (some ⟨g, 1, none⟩)) rfl (by kernel_rfl) (by kernel_rfl) (by kernel_rfl) rfl (fun _ _ _ h => h) rfl rfl ?hy hHeld ?_
                case hy => (intro w' hSw; subst hSw; go_simp <;> (first | with_reducible rfl | omega | skip))
                simp only [Act.put, List.setIfInBounds_toArray, List.set_cons_zero, List.set_cons_succ]
                refine wpAnyE_tk (i := 8) (d := some 75) (v := .int .i64 (b : Int)) rfl (by kernel_rfl) (by kernel_rfl) (by kernel_rfl) rfl (fun _ _ _ h => h) rfl rfl ?hy hHeld ?_
                case hy => (intro w' hSw; subst hSw; go_simp <;> (first | with_reducible rfl | omega | skip))
                simp only [Act.put, List.setIfInBounds_toArray, List.set_cons_zero, List.set_cons_succ]
                refine wpAnyE_tk (i := 9) (d := some 76) (v := .int .i64 ((b : Int) + 1)) rfl (by kernel_rfl) (by kernel_rfl) (by kernel_rfl) rfl (fun _ _ _ h => h) rfl rfl ?hy hHeld ?_
                case hy => (intro w' hSw; subst hSw; go_simp <;> (first | with_reducible rfl | omega | skip))
                simp only [Act.put, List.setIfInBounds_toArray, List.set_cons_zero, List.set_cons_succ]
                refine wpAnyE_tk (i := 10) (d := some 77) (v := .slice (some ⟨g, 0, none⟩) 4 c) rfl (by kernel_rfl) (by kernel_rfl) (by kernel_rfl) rfl (fun _ _ _ h => h) rfl rfl ?hy hHeld ?_
                case hy => (intro w' hSw; subst hSw; go_simp <;> (first | with_reducible rfl | omega | skip))
                simp only [Act.put, List.setIfInBounds_toArray, List.set_cons_zero, List.set_cons_succ]
                refine wpAnyE_tk (i := 11) (d := some 78) (v := .pointer (some ⟨g, 2, none⟩)) rfl (by kernel_rfl) (by kernel_rfl) (by kernel_rfl) rfl (fun _ _ _ h => h) rfl rfl ?hy hHeld ?_
                case hy => (intro w' hSw; subst hSw; go_simp <;> (first | with_reducible rfl | omega | skip))
                simp only [Act.put, List.setIfInBounds_toArray, List.set_cons_zero, List.set_cons_succ]
                refine wpAnyE_tk (i := 12) (d := some 79) (v := .int .i64 (c2 : Int)) rfl (by kernel_rfl) (by kernel_rfl) (by kernel_rfl) rfl (fun _ _ _ h => h) rfl rfl ?hy hHeld ?_
                case hy => (intro w' hSw; subst hSw; go_simp <;> (first | with_reducible rfl | omega | skip))
                simp only [Act.put, List.setIfInBounds_toArray, List.set_cons_zero, List.set_cons_succ]
                refine wpAnyE_tk (i := 13) (d := some 80) (v := .string (s.extract (b + 1) c2)) rfl (by kernel_rfl) (by kernel_rfl) (by kernel_rfl) rfl (fun _ _ _ h => h) rfl rfl ?hy hHeld ?_
                case hy => (intro w' hSw; subst hSw; go_simp <;> (first | with_reducible rfl | omega | skip))
                simp only [Act.put, List.setIfInBounds_toArray, List.set_cons_zero, List.set_cons_succ]
                refine wpAnyE_tk (i := 14) (d := some 81) (v := .string s) rfl (by kernel_rfl) (by kernel_rfl) (by kernel_rfl) rfl (fun _ _ _ h => h) rfl rfl ?hy hHeld ?_
                case hy => (intro w' hSw; subst hSw; go_simp <;> (first | with_reducible rfl | omega | skip))
                simp only [Act.put, List.setIfInBounds_toArray, List.set_cons_zero, List.set_cons_succ]
                refine wpAnyE_tk (i := 15) (d := some 82) (v := .slice (some ⟨g, 0, none⟩) 4 c) rfl (by kernel_rfl) (by kernel_rfl) (by kernel_rfl) rfl (fun _ _ _ h => h) rfl rfl ?hy hHeld ?_
                case hy => (intro w' hSw; subst hSw; go_simp <;> (first | with_reducible rfl | omega | skip))
                simp only [Act.put, List.setIfInBounds_toArray, List.set_cons_zero, List.set_cons_succ]
                refine wpAnyE_tk (i := 16) (d := some 83) (v := .pointer (some ⟨g, 2, none⟩)) rfl (by kernel_rfl) (by kernel_rfl) (by kernel_rfl) rfl (fun _ _ _ h => h) rfl rfl ?hy hHeld ?_
                case hy => (intro w' hSw; subst hSw; go_simp <;> (first | with_reducible rfl | omega | skip))
                simp only [Act.put, List.setIfInBounds_toArray, List.set_cons_zero, List.set_cons_succ]
                refine wpAnyE_tk (i := 17) (d := some 84) (v := .int .i64 (c2 : Int)) rfl (by kernel_rfl) (by kernel_rfl) (by kernel_rfl) rfl (fun _ _ _ h => h) rfl rfl ?hy hHeld ?_
                case hy => (intro w' hSw; subst hSw; go_simp <;> (first | with_reducible rfl | omega | skip))
                simp only [Act.put, List.setIfInBounds_toArray, List.set_cons_zero, List.set_cons_succ]
                refine wpAnyE_tk (i := 18) (d := some 85) (v := .int .i64 ((c2 : Int) + 1)) rfl (by kernel_rfl) (by kernel_rfl) (by kernel_rfl) rfl (fun _ _ _ h => h) rfl rfl ?hy hHeld ?_
                case hy => (intro w' hSw; subst hSw; go_simp <;> (first | with_reducible rfl | omega | skip))
                simp only [Act.put, List.setIfInBounds_toArray, List.set_cons_zero, List.set_cons_succ]
                refine wpAnyE_tk (i := 19) (d := some 86) (v := .slice (some ⟨g, 0, none⟩) 4 c) rfl (by kernel_rfl) (by kernel_rfl) (by kernel_rfl) rfl (fun _ _ _ h => h) rfl rfl ?hy hHeld ?_
                case hy => (intro w' hSw; subst hSw; go_simp <;> (first | with_reducible rfl | omega | skip))
                simp only [Act.put, List.setIfInBounds_toArray, List.set_cons_zero, List.set_cons_succ]
                refine wpAnyE_tk (i := 20) (d := some 87) (v := .pointer (some ⟨g, 3, none⟩)) rfl (by kernel_rfl) (by kernel_rfl) (by kernel_rfl) rfl (fun _ _ _ h => h) rfl rfl ?hy hHeld ?_
                case hy => (intro w' hSw; subst hSw; go_simp <;> (first | with_reducible rfl | omega | skip))
                simp only [Act.put, List.setIfInBounds_toArray, List.set_cons_zero, List.set_cons_succ]
                refine wpAnyE_tk (i := 21) (d := some 88) (v := .int .i64 (d : Int)) rfl (by kernel_rfl) (by kernel_rfl) (by kernel_rfl) rfl (fun _ _ _ h => h) rfl rfl ?hy hHeld ?_
                case hy => (intro w' hSw; subst hSw; go_simp <;> (first | with_reducible rfl | omega | skip))
                simp only [Act.put, List.setIfInBounds_toArray, List.set_cons_zero, List.set_cons_succ]
                refine wpAnyE_tk (i := 22) (d := some 89) (v := .string (s.extract (c2 + 1) d)) rfl (by kernel_rfl) (by kernel_rfl) (by kernel_rfl) rfl (fun _ _ _ h => h) rfl rfl ?hy hHeld ?_
                case hy => (intro w' hSw; subst hSw; go_simp <;> (first | with_reducible rfl | omega | skip))
                simp only [Act.put, List.setIfInBounds_toArray, List.set_cons_zero, List.set_cons_succ]
                refine wpAnyE_tk (i := 23) (d := some 8) (v := .string (s.extract 2 b)) rfl (by kernel_rfl) (by kernel_rfl) (by kernel_rfl) rfl (fun _ _ _ h => h) rfl rfl ?hy hHeld ?_
                case hy => (intro w' hSw; subst hSw; go_simp <;> (first | with_reducible rfl | omega | skip))
                simp only [Act.put, List.setIfInBounds_toArray, List.set_cons_zero, List.set_cons_succ]
                refine wpAnyE_tk (i := 24) (d := some 9) (v := .string (s.extract (b + 1) c2)) rfl (by kernel_rfl) (by kernel_rfl) (by kernel_rfl) rfl (fun _ _ _ h => h) rfl rfl ?hy hHeld ?_
                case hy => (intro w' hSw; subst hSw; go_simp <;> (first | with_reducible rfl | omega | skip))
                simp only [Act.put, List.setIfInBounds_toArray, List.set_cons_zero, List.set_cons_succ]
                refine wpAnyE_tk (i := 25) (d := some 10) (v := .string (s.extract (c2 + 1) d)) rfl (by kernel_rfl) (by kernel_rfl) (by kernel_rfl) rfl (fun _ _ _ h => h) rfl rfl ?hy hHeld ?_
                case hy => (intro w' hSw; subst hSw; go_simp <;> (first | with_reducible rfl | omega | skip))
                simp only [Act.put, List.setIfInBounds_toArray, List.set_cons_zero, List.set_cons_succ]
                refine wpAnyE_done (by kernel_rfl) ?_ _
                rw [← ext_cut, ← ext_cut, ← ext_cut] at hvP
                generalize s.extract 2 b = A at *
                generalize s.extract (b + 1) c2 = B at *
                generalize s.extract (c2 + 1) d = C at *
                have hd2 : d + 2 = s.data.toList.length := HD2.out
                have HVP : Hid (vP s.data.toList = if A.data.toList ≠ [] ∧ isBQ B.data.toList = true then some (A.data.toList, B.data.toList, C.data.toList) else none) := by
                  show _ = _
                  rw [hvP]
                  simp [hd2]
                have eA := ByteArray.toList_eq A
                have eB := ByteArray.toList_eq B
                rw [← eA, ← eB] at HVP
                clear hvP eA eB hd2 n1 n2 n3 m1 m2 m3 m0 q1 q2 q3 q4 q5 q6 q7 q8 hw1 hw2 hHeld
                have hb5 : (B.toList == [66]) = true ∨ ((B.toList == [66]) = false ∧ (B.toList == [98]) = true) ∨ ((B.toList == [66]) = false ∧ (B.toList == [98]) = false ∧ (B.toList == [81]) = true) ∨ ((B.toList == [66]) = false ∧ (B.toList == [98]) = false ∧ (B.toList == [81]) = false ∧ (B.toList == [113]) = true) ∨ ((B.toList == [66]) = false ∧ (B.toList == [98]) = false ∧ (B.toList == [81]) = false ∧ (B.toList == [113]) = false) := by
                  cases (B.toList == [66]) <;> cases (B.toList == [98]) <;> cases (B.toList == [81]) <;> cases (B.toList == [113]) <;> simp
                have ha2 : A.toList.isEmpty = true ∨ A.toList.isEmpty = false := by cases A.toList.isEmpty <;> simp
                rcases ha2 with a1 | a1
                · have nb : ¬ (A.toList ≠ [] ∧ isBQ B.toList = true) := fun h => h.1 (List.isEmpty_iff.1 a1)
                  rcases hb5 with b1 | ⟨b1, b2⟩ | ⟨b1, b2, b3⟩ | ⟨b1, b2, b3, b4⟩ | ⟨b1, b2, b3, b4⟩
                  · go_wp2_with fail
                    refine bodyPost_ret (v := .tuple #[.string A, .string B, .string C, .bool false]) (by simp [results, Tryd.results19, go_sem]) rfl ⟨VpE.no (by rw [HVP.out]; exact if_neg nb) _ _ _, HB.out.drew⟩
                  · go_wp2_with fail
                    refine bodyPost_ret (v := .tuple #[.string A, .string B, .string C, .bool false]) (by simp [results, Tryd.results19, go_sem]) rfl ⟨VpE.no (by rw [HVP.out]; exact if_neg nb) _ _ _, HB.out.drew⟩
                  · go_wp2_with fail
                    refine bodyPost_ret (v := .tuple #[.string A, .string B, .string C, .bool false]) (by simp [results, Tryd.results19, go_sem]) rfl ⟨VpE.no (by rw [HVP.out]; exact if_neg nb) _ _ _, HB.out.drew⟩
                  · go_wp2_with fail
                    refine bodyPost_ret (v := .tuple #[.string A, .string B, .string C, .bool false]) (by simp [results, Tryd.results19, go_sem]) rfl ⟨VpE.no (by rw [HVP.out]; exact if_neg nb) _ _ _, HB.out.drew⟩
                  · go_wp2_with fail
                    refine bodyPost_ret (v := .tuple #[.string A, .string B, .string C, .bool false]) (by simp [results, Tryd.results19, go_sem]) rfl ⟨VpE.no (by rw [HVP.out]; exact if_neg nb) _ _ _, HB.out.drew⟩
                · rcases hb5 with b1 | ⟨b1, b2⟩ | ⟨b1, b2, b3⟩ | ⟨b1, b2, b3, b4⟩ | ⟨b1, b2, b3, b4⟩
                  · have bq : isBQ B.toList = true := by unfold isBQ; rw [b1]; rfl
                    go_wp2_with fail
                    refine bodyPost_ret (v := .tuple #[.string A, .string B, .string C, .bool true]) (by simp [results, Tryd.results19, go_sem]) rfl ⟨VpE.yes (by rw [HVP.out, if_pos (show A.toList ≠ [] ∧ isBQ B.toList = true from ⟨fun e => (by rw [e] at a1; cases a1), bq⟩), ByteArray.toList_eq A, ByteArray.toList_eq B]), HB.out.drew⟩
                  · have bq : isBQ B.toList = true := by unfold isBQ; rw [b1, b2]; rfl
                    go_wp2_with fail
                    refine bodyPost_ret (v := .tuple #[.string A, .string B, .string C, .bool true]) (by simp [results, Tryd.results19, go_sem]) rfl ⟨VpE.yes (by rw [HVP.out, if_pos (show A.toList ≠ [] ∧ isBQ B.toList = true from ⟨fun e => (by rw [e] at a1; cases a1), bq⟩), ByteArray.toList_eq A, ByteArray.toList_eq B]), HB.out.drew⟩
                  · have bq : isBQ B.toList = true := by unfold isBQ; rw [b1, b2, b3]; rfl
                    go_wp2_with fail
                    refine bodyPost_ret (v := .tuple #[.string A, .string B, .string C, .bool true]) (by simp [results, Tryd.results19, go_sem]) rfl ⟨VpE.yes (by rw [HVP.out, if_pos (show A.toList ≠ [] ∧ isBQ B.toList = true from ⟨fun e => (by rw [e] at a1; cases a1), bq⟩), ByteArray.toList_eq A, ByteArray.toList_eq B]), HB.out.drew⟩
                  · have bq : isBQ B.toList = true := by unfold isBQ; rw [b1, b2, b3, b4]; rfl
                    go_wp2_with fail
                    refine bodyPost_ret (v := .tuple #[.string A, .string B, .string C, .bool true]) (by simp [results, Tryd.results19, go_sem]) rfl ⟨VpE.yes (by rw [HVP.out, if_pos (show A.toList ≠ [] ∧ isBQ B.toList = true from ⟨fun e => (by rw [e] at a1; cases a1), bq⟩), ByteArray.toList_eq A, ByteArray.toList_eq B]), HB.out.drew⟩
                  · have nb : ¬ (A.toList ≠ [] ∧ isBQ B.toList = true) := fun h => by have h2 := h.2; unfold isBQ at h2; rw [b1, b2, b3, b4] at h2; cases h2
                    go_wp2_with fail
                    refine bodyPost_ret (v := .tuple #[.string A, .string B, .string C, .bool false]) (by simp [results, Tryd.results19, go_sem]) rfl ⟨VpE.no (by rw [HVP.out]; exact if_neg nb) _ _ _, HB.out.drew⟩
              · have hv : vP s.data.toList = none := by rw [hvP, if_neg (fun h => hz (Option.some.inj (hlz.symm.trans h.2.2.2.1)))]
                have hzq : (((s[s.size - 1]'hzl).toNat : Int) != 61) = true := by
                  rw [bne_iff_ne]
                  intro e
                  exact hz (UInt8.toNat_inj.1 (by show _ = 61; omega))
                go_wp2_with fail
                refine bodyPost_ret (v := .tuple #[.string ⟨#[]⟩, .string ⟨#[]⟩, .string ⟨#[]⟩, .bool false]) (by simp [results, Tryd.results19, go_sem]) rfl ⟨VpE.no hv _ _ _, HB.out⟩
            · have hv : vP s.data.toList = none := by rw [hvP, if_neg (fun h => h0 (Option.some.inj (hl0.symm.trans h.2.2.1)))]
              have h0q : ¬ ((s[0]'hsz).toNat : Int) = 61 := by
                intro e
                exact h0 (UInt8.toNat_inj.1 (by show _ = 61; omega))
              go_wp2_with fail
              refine bodyPost_ret (v := .tuple #[.string ⟨#[]⟩, .string ⟨#[]⟩, .string ⟨#[]⟩, .bool false]) (by simp [results, Tryd.results19, go_sem]) rfl ⟨VpE.no hv _ _ _, HB.out⟩
          · have hv : vP s.data.toList = none := by rw [hvP, if_neg (fun h => hd (by omega))]
            have hdq : ((d : Int) == (s.size : Int) - 2) = false := by rw [beq_eq_false_iff_ne]; omega
            go_wp2_with fail
            refine bodyPost_ret (v := .tuple #[.string ⟨#[]⟩, .string ⟨#[]⟩, .string ⟨#[]⟩, .bool false]) (by simp [results, Tryd.results19, go_sem]) rfl ⟨VpE.no hv _ _ _, HB.out⟩
        · have hv : vP s.data.toList = none := by rw [hvP, if_neg (fun h => ha h.1)]
          have haq : ((a : Int) == 1) = false := by rw [beq_eq_false_iff_ne]; omega
          go_wp2_with fail
          refine bodyPost_ret (v := .tuple #[.string ⟨#[]⟩, .string ⟨#[]⟩, .string ⟨#[]⟩, .bool false]) (by simp [results, Tryd.results19, go_sem]) rfl ⟨VpE.no hv _ _ _, HB.out⟩
      · have hv := vP_len h4
        have h4q : (((mks 0 s.data.toList).length : Int) == 4) = false := by rw [beq_eq_false_iff_ne]; omega
        generalize mks 0 s.data.toList = M at *
        go_wp2_with fail
        refine bodyPost_ret (v := .tuple #[.string ⟨#[]⟩, .string ⟨#[]⟩, .string ⟨#[]⟩, .bool false]) (by simp [results, Tryd.results19, go_sem]) rfl ⟨VpE.no hv _ _ _, HB.out⟩
end Go.Proofs.YtdgepnfgjgbkoabDoor
