/-
  The contract of domain.asciiDomain.
-/
import Derived.Test.YtnlgbopdbihnjaaGreatDoorAdD
import Derived.Lib.SplitLaws
namespace Go.Proofs.YtnlgbopdbihnjaaGreatDoor
open Go.RowKit

theorem splitD_B : ∀ s : List UInt8, splitD s = splitB 46 s
  | [] => rfl
  | c :: r => by
    rw [splitD, splitB, splitD_B r]
    rfl
theorem index_none (d : UInt8) : ∀ x : List UInt8, (∀ c ∈ x, c ≠ d) → Lib.index x [d] = -1
  | [], _ => rfl
  | c :: r, h => by
    have hc : ¬ d = c := fun e => h c (by simp) e.symm
    rw [Lib.index, index_none d r fun x hx => h x (by simp [hx])]
    simp [List.isPrefixOf, hc]
theorem index_at (d : UInt8) : ∀ (x y : List UInt8), (∀ c ∈ x, c ≠ d) → Lib.index (x ++ d :: y) [d] = (x.length : Int)
  | [], y, _ => by
    rw [List.nil_append, Lib.index]
    simp [List.isPrefixOf]
  | c :: r, y, h => by
    have hc : ¬ d = c := fun e => h c (by simp) e.symm
    rw [List.cons_append, Lib.index, index_at d r y fun x hx => h x (by simp [hx])]
    simp [List.isPrefixOf, hc]
theorem splitK_B (d : UInt8) (s : List UInt8) : ∀ k, s.count d ≤ k → Lib.splitK [d] 0 k s = splitB d s := by
  induction hn : s.length using Nat.strongRecOn generalizing s with
  | _ n ih =>
    intro k hk
    have hcases : (∀ c ∈ s, c ≠ d) ∨ ∃ x y, (∀ c ∈ x, c ≠ d) ∧ s = x ++ d :: y := by
      clear ih hn hk
      induction s with
      | nil => exact Or.inl fun c hc => by cases hc
      | cons c r ih =>
        by_cases hc : c = d
        · exact Or.inr ⟨[], r, fun c hc => (by cases hc), by rw [hc]; rfl⟩
        · rcases ih with h | ⟨x, y, h, e⟩
          · refine Or.inl fun b hb => ?_
            rcases List.mem_cons.1 hb with rfl | hb
            · exact hc
            · exact h b hb
          · refine Or.inr ⟨c :: x, y, fun b hb => ?_, by rw [e]; rfl⟩
            rcases List.mem_cons.1 hb with rfl | hb
            · exact hc
            · exact h b hb
    rcases hcases with h0 | ⟨x, y, hx, rfl⟩
    · rw [splitB_none d s h0]
      cases k with
      | zero => rfl
      | succ k =>
        rw [Lib.splitK, index_none d s h0]
        rfl
    · rw [splitB_at d x y hx]
      have hc : (x ++ d :: y).count d = y.count d + 1 := by
        rw [List.count_append, List.count_cons_self, List.count_eq_zero.2 fun hd => hx d hd rfl, Nat.zero_add]
      rw [hc] at hk
      cases k with
      | zero => omega
      | succ k =>
        rw [Lib.splitK, index_at d x y hx]
        have e1 : ((x.length : Int) == -1) = false := by rw [beq_eq_false_iff_ne]; omega
        rw [e1, if_neg (by decide), Int.toNat_natCast, Nat.add_zero, List.take_left, List.length_singleton, ← List.drop_drop, List.drop_left]
        show x :: Lib.splitK [d] 0 k y = _
        rw [ih y.length (by rw [← hn]; simp; omega) y rfl k (by omega)]
theorem split_cells (s : ByteArray) (d : UInt8) : ((Lib.splitB ⟨#[d]⟩ 0 (Lib.countB s ⟨#[d]⟩) s).map Value.string).toArray = strsV (splitB d s.data.toList) ∧ Lib.countB s ⟨#[d]⟩ + 1 = (splitB d s.data.toList).length := by
  have hc : Lib.countB s ⟨#[d]⟩ = s.data.toList.count d := by
    show Lib.count s.data.toList [d] = _
    exact Lib.count_one d _
  have hd := Lib.splitB_data ⟨#[d]⟩ 0 (Lib.countB s ⟨#[d]⟩) s
  have hd2 : (Lib.splitB ⟨#[d]⟩ 0 (Lib.countB s ⟨#[d]⟩) s).map (·.data.toList) = splitB d s.data.toList := by
    rw [hd]
    exact splitK_B d s.data.toList _ (by rw [hc]; exact Nat.le_refl _)
  refine ⟨?_, ?_⟩
  · unfold strsV
    rw [← hd2, List.map_map]
    congr 1
  · rw [← hd2, List.length_map, Lib.splitB_all ⟨#[d]⟩ (show 1 ≤ (⟨#[d]⟩ : ByteArray).size from Nat.le_refl _) 0 _ s rfl]
theorem splitD_short (s : List UInt8) : (∀ l ∈ splitD s, l.length ≤ s.length) ∧ (splitD s).length ≤ s.length + 1 := by
  induction hn : s.length using Nat.strongRecOn generalizing s with
  | _ n ih =>
    rcases split_cases s with h0 | ⟨x, y, hx, rfl⟩
    · rw [splitD_none s h0]
      exact ⟨fun l hl => by rw [List.mem_singleton.1 hl]; omega, by simp⟩
    · rw [splitD_dot x y hx]
      have hl : (x ++ 46 :: y).length = x.length + 1 + y.length := by simp; omega
      obtain ⟨h1, h2⟩ := ih y.length (by omega) y rfl
      refine ⟨fun l hl' => ?_, by rw [List.length_cons]; omega⟩
      rcases List.mem_cons.1 hl' with rfl | hl'
      · omega
      · have := h1 l hl'
        omega
/-- The labels, so many of them done. -/
def someA (L : List (List UInt8)) (i : Nat) : List (List UInt8) := (L.take i).map asciiL ++ L.drop i
theorem someA_set (L : List (List UInt8)) (i : Nat) (hi : i < L.length) : (someA L i).set i (asciiL L[i]) = someA L (i + 1) := by
  unfold someA
  have hl : ((L.take i).map asciiL).length = i := by rw [List.length_map, List.length_take]; omega
  rw [List.set_append_right _ _ (by omega), hl, Nat.sub_self, List.drop_eq_getElem_cons hi, List.set_cons_zero, List.take_succ_eq_append_getElem hi, List.map_append]
  simp
theorem someA_at (L : List (List UInt8)) (i : Nat) (hi : i < L.length) : (strsV (someA L i))[i]? = some (.string ⟨(L[i]).toArray⟩) := by
  have hl : ((L.take i).map asciiL).length = i := by rw [List.length_map, List.length_take]; omega
  unfold strsV someA
  rw [List.getElem?_toArray, List.getElem?_map, List.getElem?_append_right (by omega), hl, Nat.sub_self, List.getElem?_drop, Nat.add_zero, List.getElem?_eq_getElem hi]
  rfl
theorem long_yes (L : List (List UInt8)) (i : Nat) (hi : i < L.length) (h : 63 < (asciiL L[i]).length) : longB (L.map asciiL) = true :=
  List.any_eq_true.2 ⟨asciiL L[i], List.mem_map.2 ⟨L[i], List.getElem_mem hi, rfl⟩, decide_eq_true h⟩
theorem long_no (L : List (List UInt8)) (h : ∀ j (hj : j < L.length), (asciiL L[j]).length ≤ 63) : longB (L.map asciiL) = false := by
  unfold longB
  rw [List.any_eq_false]
  intro x hx
  obtain ⟨y, hy, rfl⟩ := List.mem_map.1 hx
  obtain ⟨j, hj, rfl⟩ := List.mem_iff_getElem.1 hy
  have := h j hj
  simp
  omega

set_option maxHeartbeats 4000000 in
set_option maxRecDepth 100000 in
theorem ad_any (s : ByteArray) (w : World) (hT : Tc w) (hs : s.size ≤ 255) : Calls Tryz.prog 34 #[.string s] w fun e w' => e = .returned (printV (asciiD asciiL s.data.toList)) ∧ Below w.heap.size w w' := by
  have HT : Hid (∀ wx, Below w.heap.size w wx → Tc wx) := fun wx hb => hT.below hb
  have HSM : Hid (Calls Tryz.prog 36 #[.string s] w fun e w' => e = .returned (.string (smS s)) ∧ Below w.heap.size w w') := small_any s w (by unfold maxLen; omega)
  have hss : (smS s).size ≤ 255 := by
    show (sml s.data.toList).toArray.size ≤ 255
    rw [List.size_toArray, sml, List.length_map, len_list]
    exact hs
  have hsd : (smS s).data.toList = sml s.data.toList := by simp [smS]
  obtain ⟨L, hL⟩ : ∃ L, L = splitD (sml s.data.toList) := ⟨_, rfl⟩
  obtain ⟨hsp1, hsp2⟩ := split_cells (smS s) 46
  rw [hsd, ← splitD_B, ← hL] at hsp1 hsp2
  obtain ⟨hll, hln⟩ := splitD_short (sml s.data.toList)
  rw [← hL, sml_len, len_list] at hll hln
  have HV : Hid (asciiD asciiL s.data.toList = if longB (L.map asciiL) = true then ([], 80) else if 255 < (joinL [46] (L.map asciiL)).length then ([], 81) else (joinL [46] (L.map asciiL), 0)) := by
    show _ = _
    unfold asciiD
    rw [← hL]
  have HSP : Hid (∀ wx, Tc wx → Calls Tryz.prog 57 #[.string (smS s), .string ⟨#[46]⟩] wx fun e w' => e = .returned (.slice (some ⟨wx.heap.size, 0, none⟩) L.length L.length) ∧ w' = wx.alloc (.cells (strsV L) 9)) := fun wx hx => by
    obtain ⟨m, hm⟩ := hx.ml
    have := Tryz.strings_Split (smS s) ⟨#[46]⟩ m wx (by omega) hm (by decide)
    rw [hsp1, hsp2] at this
    exact this
  have HLL : Hid (∀ l ∈ L, l.length ≤ s.size) := hll
  have hln' : (L.length : Int) ≤ 256 := by omega
  clear hT hsd hsp1 hsp2 hL hll
  generalize smS s = sm at HSM hss HSP
  go_enter Tryz.func34, Tryz.ntmps34
  go_wp2_with fail
  refine HSM.out.mono ?_
  rintro e w1 ⟨rfl, hb1⟩
  have HB1 : Hid (Below w.heap.size w w1) := hb1
  clear hb1 HSM
  go_wp2_with fail
  refine (HSP.out _ (HT.out _ HB1.out)).mono ?_
  rintro e w2 ⟨rfl, rfl⟩
  have HB2 : Hid (Below w.heap.size w (w1.alloc (.cells (strsV L) 9))) := HB1.out.alloc HB1.out.size _
  have HS2 : Hid (Lies (w1.alloc (.cells (strsV L) 9)) w1.heap.size (strsV (someA L 0)) 9) := Lies.new w1 _ _
  have HZ : Hid (w.heap.size ≤ w1.heap.size) := HB1.out.size
  clear HSP HB1
  generalize w1.alloc (.cells (strsV L) 9) = w2 at HB2 HS2 ⊢
  go_wp2_with fail
  go_loopw [13] (fun c wr => ∃ i : Nat, i ≤ L.length ∧ c = .int .i64 i ∧ Hid (Lies wr w1.heap.size (strsV (someA L i)) 9) ∧ Hid (Below w.heap.size w wr) ∧ Hid (∀ j (hj : j < L.length), j < i → (asciiL L[j]).length ≤ 63)) (fun c _ => L.length - (intOf c).toNat)
  case atStart => exact ⟨0, by omega, rfl, HS2, HB2, fun j _ h => absurd h (by omega)⟩
  case round =>
    obtain ⟨i, hi, rfl, HS, HB, HK⟩ := hrel
    clear HS2 HB2
    have hz := HS.out.lt
    by_cases hlt : i < L.length
    · have hlt' : (i : Int) < (L.length : Int) := by omega
      have hc : wr.cell? ⟨w1.heap.size, i, none⟩ = some (.string ⟨(L[i]).toArray⟩) := (HS.out.cell i).trans (someA_at L i hlt)
      have HAL : Hid (Calls Tryz.prog 82 #[.string ⟨(L[i]).toArray⟩] wr fun e w' => e = .returned (.string ⟨(asciiL L[i]).toArray⟩) ∧ Below wr.heap.size wr w') := by
        have := al_any ⟨(L[i]).toArray⟩ wr (HT.out _ HB.out).tb (by rw [← len_list, str_list]; have := HLL.out _ (List.getElem_mem hlt); omega)
        rw [str_list] at this
        exact this
      have HST := someA_set L i hlt
      have HYS := long_yes L i hlt
      have HK2 : Hid ((asciiL L[i]).length ≤ 63 → ∀ j (hj : j < L.length), j < i + 1 → (asciiL L[j]).length ≤ 63) := fun h63 j hj hji => by
        rcases Nat.lt_or_ge j i with h | h
        · exact HK.out j hj h
        · obtain rfl : j = i := by omega
          exact h63
      generalize L[i] = x at hc HAL HST HYS HK2
      generalize asciiL x = y at HAL HST HYS HK2
      have hi0 : (0 : Int) ≤ (i : Int) := by omega
      go_wp2_with fail
      refine HAL.out.mono ?_
      rintro e w3 ⟨rfl, hb3⟩
      have HB3 : Hid (Below w.heap.size w w3) := HB.out.trans (hb3.mono HB.out.size)
      have HS3 : Hid (Lies w3 w1.heap.size (strsV (someA L i)) 9) := HS.out.below hb3 hz
      clear hb3 HAL hc
      by_cases h63 : 63 < y.length
      · have h63' : (63 : Int) < (y.length : Int) := by omega
        have HVV : Hid (asciiD asciiL s.data.toList = ([], 80)) := by show _ = _; rw [HV.out, if_pos (HYS h63)]
        clear HST HYS HK2 h63 HK
        go_wp2_with fail
        refine bodyPost_ret (v := .tuple #[.string ⟨#[]⟩, .int .i64 80]) (by simp [results, Tryz.results34, go_sem]) rfl ⟨by rw [HVV.out]; rfl, HB3.out⟩
      · have h63' : ¬ (63 : Int) < (y.length : Int) := by omega
        have HN : Hid (Lies (w3.setCell ⟨w1.heap.size, i, none⟩ (.string ⟨y.toArray⟩)) w1.heap.size (strsV (someA L (i + 1))) 9) := by
          have := HS3.out.set i (.string ⟨y.toArray⟩)
          rw [strsV_set, HST] at this
          exact this
        have HBN : Hid (Below w.heap.size w (w3.setCell ⟨w1.heap.size, i, none⟩ (.string ⟨y.toArray⟩))) := HB3.out.setCell (p := ⟨w1.heap.size, i, none⟩) HZ.out _
        have HKN : Hid (∀ j (hj : j < L.length), j < i + 1 → (asciiL L[j]).length ≤ 63) := HK2.out (by omega)
        have hc3 : wr.cell? ⟨w1.heap.size, i, none⟩ = some (.string ⟨x.toArray⟩) ∨ True := Or.inr trivial
        obtain ⟨v3, hv3⟩ : ∃ v, w3.cell? ⟨w1.heap.size, i, none⟩ = some v := ⟨_, (HS3.out.cell i).trans (someA_at L i hlt)⟩
        have hf3 := HS3.out.frozen i
        have hz3 := HS3.out.lt
        clear HST HYS HK2 h63 HK hc3 HS3 HS HB
        go_wp2_with fail
        go_roundw
        case rel => exact ⟨i + 1, by omega, by go_num, HN, HBN, HKN⟩
        case measure => simp [intOf]; omega
    · obtain rfl : i = L.length := by omega
      have hlt' : ¬ (L.length : Int) < (L.length : Int) := by omega
      have HVN : Hid (asciiD asciiL s.data.toList = if 255 < (joinL [46] (L.map asciiL)).length then ([], 81) else (joinL [46] (L.map asciiL), 0)) := by
        show _ = _
        rw [HV.out, if_neg (by rw [long_no L fun j hj => HK.out j hj hj]; decide)]
      have HSL : Hid (Lies wr w1.heap.size (strsV (L.map asciiL)) 9) := by
        have := HS.out
        unfold someA at this
        rw [List.take_of_length_le (Nat.le_refl _), List.drop_eq_nil_of_le (Nat.le_refl _), List.append_nil] at this
        exact this
      have hjl : (joinL [46] (L.map asciiL)).length ≤ 100000 := by
        have := joinL_len [46] 63 rfl (L.map asciiL) fun x hx => by
          obtain ⟨y, hy, rfl⟩ := List.mem_map.1 hx
          obtain ⟨j, hj, rfl⟩ := List.mem_iff_getElem.1 hy
          exact HK.out j hj hj
        rw [List.length_map] at this
        omega
      have HJ : Hid (Calls Tryz.prog 50 #[.slice (some ⟨w1.heap.size, 0, none⟩) L.length L.length, .string ⟨#[46]⟩] wr fun e w' => e = .returned (.string ⟨(joinL [46] (L.map asciiL)).toArray⟩) ∧ Below wr.heap.size wr w') := by
        have := join_some HSL.out 0 L.length L.length ⟨#[46]⟩ (by rw [List.length_map]; omega) (Nat.le_refl _) (by rw [List.drop_zero, List.take_of_length_le (by rw [List.length_map]; exact Nat.le_refl _)]; exact Nat.le_trans hjl (by decide)) (by rw [List.length_map]; omega)
        rw [List.drop_zero, List.take_of_length_le (by rw [List.length_map]; exact Nat.le_refl _)] at this
        exact this
      generalize joinL [46] (L.map asciiL) = nm at HVN hjl HJ
      clear HSL HS HK HV
      go_wp2_with fail
      refine HJ.out.mono ?_
      rintro e w3 ⟨rfl, hb3⟩
      have HB3 : Hid (Below w.heap.size w w3) := HB.out.trans (hb3.mono HB.out.size)
      clear hb3 HJ HB
      by_cases h255 : 255 < nm.length
      · have h255' : (255 : Int) < (nm.length : Int) := by omega
        have HVV : Hid (asciiD asciiL s.data.toList = ([], 81)) := by show _ = _; rw [HVN.out, if_pos h255]
        clear HVN h255
        go_wp2_with fail
        refine bodyPost_ret (v := .tuple #[.string ⟨#[]⟩, .int .i64 81]) (by simp [results, Tryz.results34, go_sem]) rfl ⟨by rw [HVV.out]; rfl, HB3.out⟩
      · have h255' : ¬ (255 : Int) < (nm.length : Int) := by omega
        have HVV : Hid (asciiD asciiL s.data.toList = (nm, 0)) := by show _ = _; rw [HVN.out, if_neg h255]
        clear HVN h255
        go_wp2_with fail
        refine bodyPost_ret (v := .tuple #[.string ⟨nm.toArray⟩, .int .i64 0]) (by simp [results, Tryz.results34, go_sem]) rfl ⟨by rw [HVV.out]; rfl, HB3.out⟩
end Go.Proofs.YtnlgbopdbihnjaaGreatDoor
