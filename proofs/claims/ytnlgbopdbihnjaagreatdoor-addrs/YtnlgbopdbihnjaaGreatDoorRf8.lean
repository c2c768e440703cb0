/-
  The contract of domain.asciiLabel.
-/
import Derived.Test.YtnlgbopdbihnjaaGreatDoorNum
import Derived.Test.YtnlgbopdbihnjaaGreatDoorDec
import Derived.Test.YtnlgbopdbihnjaaGreatDoorPun
import Derived.Test.YtnlgbopdbihnjaaGreatDoorRowl
import Derived.Test.YtnlgbopdbihnjaaGreatDoorAdD
import Derived.Lib.SplitLaws
import Derived.Test.YtnlgbopdbihnjaaGreatDoorChk
namespace Go.Proofs.YtnlgbopdbihnjaaGreatDoor
open Go.RowKit

theorem punL_len (l : List Int) : ∀ (rest : List Nat) (f : Nat → Int) (n : Int) (i h bias : Nat) (first : Bool) (d : List UInt8), punL l rest f n i h bias first = some d → d.length ≤ 11 * rest.length
  | [], _, _, _, _, _, _, d, e => by
    simp only [punL] at e
    injection e with e
    subst e
    exact Nat.zero_le _
  | a :: rest, f, n, i, h, bias, first, d, e => by
    simp only [punL] at e
    split at e
    · cases e
    · rename_i hov
      rw [Option.map_eq_some_iff] at e
      obtain ⟨d', e1, e2⟩ := e
      subst e2
      have h1 := punL_len l rest _ _ _ _ _ _ d' e1
      have h2 := digs_short (stp l f n i h a).toNat 0 bias 10 (by omega)
      rw [List.length_append, List.length_cons]
      omega
theorem punT_small (l : List Int) : (punT l).size ≤ 12 * l.length + 1 := by
  unfold punT
  split
  · exact Nat.zero_le _
  · cases hd : punD l with
    | none => exact Nat.zero_le _
    | some d =>
      have h1 := punL_len l _ _ _ _ _ _ _ d hd
      have h2 := ordW_length l
      have h3 := lowB_length l l.length
      show (punH l ++ d).toArray.size ≤ _
      rw [List.size_toArray, List.length_append]
      unfold punH
      rw [List.length_append]
      have h4 : (if lowB l l.length = [] then ([] : List UInt8) else [45]).length ≤ 1 := by split <;> simp
      omega
/-- What a label becomes on old wires. -/
def asciiL (l : List UInt8) : List UInt8 := if l.all (fun c => decide (c.toNat < 128)) = true then l else [120, 110, 45, 45] ++ (punT (decR l)).data.toList
theorem spB_all (f : UInt8 → Bool) : ∀ l : List UInt8, spB f l = l.length ↔ l.all f = true
  | [] => by simp [spB]
  | c :: r => by
    have := spB_all f r
    have hle := spB_le f r
    rw [spB, List.length_cons, List.all_cons, Bool.and_eq_true, ← this]
    by_cases h : f c = true
    · rw [if_pos h]
      simp [h]
    · rw [if_neg h]
      simp [h]
/-- All tables. -/
structure Tc (w : World) : Prop where
  tb : Tb w
  pow : PowTab w
  ml : ∃ m, w.cell? ⟨1, 0, none⟩ = some (.int .i64 m)
theorem Tc.below {w w' : World} (h : Tc w) (hb : Below w.heap.size w w') : Tc w' := by
  obtain ⟨m, hm⟩ := h.ml
  exact ⟨h.tb.below hb, h.pow.below hb, m, (hb.cell (p := ⟨1, 0, none⟩) (World.block_lt_of_cell? w _ hm)).trans hm⟩
theorem decE_two (l : List UInt8) : ∃ a b : Int, decE l = #[.int .i64 a, .int .i64 b] := by
  unfold decE
  split
  · exact ⟨_, _, rfl⟩
  · exact ⟨_, _, rfl⟩
theorem decR_len (l : List UInt8) : (decR l).length ≤ l.length := by
  unfold decR
  split
  · exact Nat.zero_le _
  · exact decL_length l
set_option maxHeartbeats 2000000 in
set_option maxRecDepth 100000 in
theorem al_any (s : ByteArray) (w : World) (hT : Tb w) (hs : s.size ≤ 1000) : Calls Tryz.prog 82 #[.string s] w fun e w' => e = .returned (.string ⟨(asciiL s.data.toList).toArray⟩) ∧ Below w.heap.size w w' := by
  have HBAD : Hid (Calls Tryz.prog 84 #[.int .i64 13, .string s] w fun e w' => e = .returned (.int .i64 (spB (fun c => decide (c.toNat < 128)) s.data.toList : Nat)) ∧ w' = w) := by
    have := bad_anyT 13 s w hT.cls (by unfold maxLen; omega)
    rw [badN_spB 13 (fun c => decide (c.toNat < 128)) (fun b => (ld_is b).2.2.2.2)] at this
    exact this
  have hiff := spB_all (fun c => decide (c.toNat < 128)) s.data.toList
  rw [len_list] at hiff
  have HF : Hid (Fst w) := hT.fst
  obtain ⟨n, hn⟩ : ∃ n, n = spB (fun c => decide (c.toNat < 128)) s.data.toList := ⟨_, rfl⟩
  rw [← hn] at HBAD hiff
  clear hn hT
  by_cases hall : n = s.size
  · have HV : Hid (asciiL s.data.toList = s.data.toList) := by
      show _ = _
      unfold asciiL
      rw [if_pos (hiff.1 hall)]
    have he : ((n : Int) == (s.size : Int)) = true := by rw [beq_iff_eq]; omega
    clear hall hiff
    go_enter Tryz.func82, Tryz.ntmps82
    go_wp2_with fail
    refine HBAD.out.mono ?_
    rintro e w1 ⟨rfl, rfl⟩
    go_wp2_with fail
    go_ret
    exact ⟨by rw [HV.out, Array.toArray_toList]; rfl, Below.refl _ _⟩
  · have HV : Hid (asciiL s.data.toList = [120, 110, 45, 45] ++ (punT (decR s.data.toList)).data.toList) := by
      show _ = _
      unfold asciiL
      rw [if_neg (fun h => hall (hiff.2 h))]
    have he : ((n : Int) == (s.size : Int)) = false := by rw [beq_eq_false_iff_ne]; omega
    obtain ⟨ea, eb, hE⟩ := decE_two s.data.toList
    have HD := dec_any s w HF.out (by omega)
    rw [hE] at HD
    have HDD : Hid (Calls Tryz.prog 111 #[.string s] w fun e w' => (∃ v, e = .returned (.tuple #[v, .agg #[.int .i64 ea, .int .i64 eb]]) ∧ w'.ownsRow w.heap.size 21 1 v (decR s.data.toList).length (cellsN .i32 (decR s.data.toList))) ∧ Below w.heap.size w w') := HD
    have hdl := decR_len s.data.toList
    rw [len_list] at hdl
    have hps := punT_small (decR s.data.toList)
    generalize decR s.data.toList = l at HV HDD hdl hps
    have HF2 : Hid ((⟨(asciiL s.data.toList).toArray⟩ : ByteArray) = ⟨#[120, 110, 45, 45]⟩ ++ punT l) := by
      show _ = _
      rw [HV.out, show (⟨#[120, 110, 45, 45]⟩ : ByteArray) = ⟨([120, 110, 45, 45] : List UInt8).toArray⟩ from rfl]
      conv => rhs; rw [show punT l = ⟨(punT l).data.toList.toArray⟩ from by rw [Array.toArray_toList]]
      rw [str_append]
    have ad1 : ∀ W, (Op.stringOp .add ⟨#[120, 110, 45, 45]⟩ (punT l)).run Tryz.prog W = .ok (.string (⟨#[120, 110, 45, 45]⟩ ++ punT l)) W := fun W => run_string_add_sum _ _ _ (by show 4 + (punT l).size ≤ _; omega)
    clear hall hiff HD hE HV
    go_enter Tryz.func82, Tryz.ntmps82
    go_wp2_with fail
    refine HBAD.out.mono ?_
    rintro e w1 ⟨rfl, rfl⟩
    go_wp2_with fail
    refine HDD.out.mono ?_
    rintro e w2 ⟨⟨v, rfl, ho⟩, hb2⟩
    obtain ⟨a, cap, rfl, hnt, -⟩ := own_nts ho
    have HN : Hid (Nts .i32 a l (w2.alloc (.cells #[.int .i64 ea, .int .i64 eb] 30))) := hnt.below ((Below.refl _ _).alloc (Nat.le_refl _) _)
    have HB2 : Hid (Below w1.heap.size w1 (w2.alloc (.cells #[.int .i64 ea, .int .i64 eb] 30))) := hb2.alloc hb2.size _
    clear ho hnt hb2 HDD HBAD
    go_upto_region 4 with fail
    generalize w2.alloc (.cells #[.int .i64 ea, .int .i64 eb] 30) = w3 at HN HB2 ⊢
    go_wp2_with fail
    refine (puny_any a l cap w3 HN.out (by omega)).mono ?_
    rintro e w4 ⟨rfl, hb4⟩
    have HB4 : Hid (Below w1.heap.size w1 w4) := HB2.out.trans (hb4.mono HB2.out.size)
    clear hb4
    go_wp2_with fail
    go_ret
    exact ⟨by rw [HF2.out]; rfl, HB4.out⟩
end Go.Proofs.YtnlgbopdbihnjaaGreatDoor
/-
  The contract of domain.asciiDomain.
-/
namespace Go.Proofs.YtnlgbopdbihnjaaGreatDoor
open Go.RowKit

theorem splitD_B : ∀ s : List UInt8, splitD s = splitB 46 s
  | [] => rfl
  | c :: r => by
    rw [splitD, splitB, splitD_B r]
    rfl
theorem index_none (d : UInt8) : ∀ x : List UInt8, (∀ c ∈ x, c ≠ d) → Lib.index x [d] = -1
  | [], _ => rfl
  | c :: r, h => by
    have hc : ¬ d = c := fun e => h c (by simp) e.symm
    rw [Lib.index, index_none d r fun x hx => h x (by simp [hx])]
    simp [List.isPrefixOf, hc]
theorem index_at (d : UInt8) : ∀ (x y : List UInt8), (∀ c ∈ x, c ≠ d) → Lib.index (x ++ d :: y) [d] = (x.length : Int)
  | [], y, _ => by
    rw [List.nil_append, Lib.index]
    simp [List.isPrefixOf]
  | c :: r, y, h => by
    have hc : ¬ d = c := fun e => h c (by simp) e.symm
    rw [List.cons_append, Lib.index, index_at d r y fun x hx => h x (by simp [hx])]
    simp [List.isPrefixOf, hc]
theorem splitK_B (d : UInt8) (s : List UInt8) : ∀ k, s.count d ≤ k → Lib.splitK [d] 0 k s = splitB d s := by
  induction hn : s.length using Nat.strongRecOn generalizing s with
  | _ n ih =>
    intro k hk
    have hcases : (∀ c ∈ s, c ≠ d) ∨ ∃ x y, (∀ c ∈ x, c ≠ d) ∧ s = x ++ d :: y := by
      clear ih hn hk
      induction s with
      | nil => exact Or.inl fun c hc => by cases hc
      | cons c r ih =>
        by_cases hc : c = d
        · exact Or.inr ⟨[], r, fun c hc => (by cases hc), by rw [hc]; rfl⟩
        · rcases ih with h | ⟨x, y, h, e⟩
          · refine Or.inl fun b hb => ?_
            rcases List.mem_cons.1 hb with rfl | hb
            · exact hc
            · exact h b hb
          · refine Or.inr ⟨c :: x, y, fun b hb => ?_, by rw [e]; rfl⟩
            rcases List.mem_cons.1 hb with rfl | hb
            · exact hc
            · exact h b hb
    rcases hcases with h0 | ⟨x, y, hx, rfl⟩
    · rw [splitB_none d s h0]
      cases k with
      | zero => rfl
      | succ k =>
        rw [Lib.splitK, index_none d s h0]
        rfl
    · rw [splitB_at d x y hx]
      have hc : (x ++ d :: y).count d = y.count d + 1 := by
        rw [List.count_append, List.count_cons_self, List.count_eq_zero.2 fun hd => hx d hd rfl, Nat.zero_add]
      rw [hc] at hk
      cases k with
      | zero => omega
      | succ k =>
        rw [Lib.splitK, index_at d x y hx]
        have e1 : ((x.length : Int) == -1) = false := by rw [beq_eq_false_iff_ne]; omega
        rw [e1, if_neg (by decide), Int.toNat_natCast, Nat.add_zero, List.take_left, List.length_singleton, ← List.drop_drop, List.drop_left]
        show x :: Lib.splitK [d] 0 k y = _
        rw [ih y.length (by rw [← hn]; simp; omega) y rfl k (by omega)]
theorem split_cells (s : ByteArray) (d : UInt8) : ((Lib.splitB ⟨#[d]⟩ 0 (Lib.countB s ⟨#[d]⟩) s).map Value.string).toArray = strsV (splitB d s.data.toList) ∧ Lib.countB s ⟨#[d]⟩ + 1 = (splitB d s.data.toList).length := by
  have hc : Lib.countB s ⟨#[d]⟩ = s.data.toList.count d := by
    show Lib.count s.data.toList [d] = _
    exact Lib.count_one d _
  have hd := Lib.splitB_data ⟨#[d]⟩ 0 (Lib.countB s ⟨#[d]⟩) s
  have hd2 : (Lib.splitB ⟨#[d]⟩ 0 (Lib.countB s ⟨#[d]⟩) s).map (·.data.toList) = splitB d s.data.toList := by
    rw [hd]
    exact splitK_B d s.data.toList _ (by rw [hc]; exact Nat.le_refl _)
  refine ⟨?_, ?_⟩
  · unfold strsV
    rw [← hd2, List.map_map]
    congr 1
  · rw [← hd2, List.length_map, Lib.splitB_all ⟨#[d]⟩ (show 1 ≤ (⟨#[d]⟩ : ByteArray).size from Nat.le_refl _) 0 _ s rfl]
theorem splitD_short (s : List UInt8) : (∀ l ∈ splitD s, l.length ≤ s.length) ∧ (splitD s).length ≤ s.length + 1 := by
  induction hn : s.length using Nat.strongRecOn generalizing s with
  | _ n ih =>
    rcases split_cases s with h0 | ⟨x, y, hx, rfl⟩
    · rw [splitD_none s h0]
      exact ⟨fun l hl => by rw [List.mem_singleton.1 hl]; omega, by simp⟩
    · rw [splitD_dot x y hx]
      have hl : (x ++ 46 :: y).length = x.length + 1 + y.length := by simp; omega
      obtain ⟨h1, h2⟩ := ih y.length (by omega) y rfl
      refine ⟨fun l hl' => ?_, by rw [List.length_cons]; omega⟩
      rcases List.mem_cons.1 hl' with rfl | hl'
      · omega
      · have := h1 l hl'
        omega
/-- The labels, so many of them done. -/
def someA (L : List (List UInt8)) (i : Nat) : List (List UInt8) := (L.take i).map asciiL ++ L.drop i
theorem someA_set (L : List (List UInt8)) (i : Nat) (hi : i < L.length) : (someA L i).set i (asciiL L[i]) = someA L (i + 1) := by
  unfold someA
  have hl : ((L.take i).map asciiL).length = i := by rw [List.length_map, List.length_take]; omega
  rw [List.set_append_right _ _ (by omega), hl, Nat.sub_self, List.drop_eq_getElem_cons hi, List.set_cons_zero, List.take_succ_eq_append_getElem hi, List.map_append]
  simp
theorem someA_at (L : List (List UInt8)) (i : Nat) (hi : i < L.length) : (strsV (someA L i))[i]? = some (.string ⟨(L[i]).toArray⟩) := by
  have hl : ((L.take i).map asciiL).length = i := by rw [List.length_map, List.length_take]; omega
  unfold strsV someA
  rw [List.getElem?_toArray, List.getElem?_map, List.getElem?_append_right (by omega), hl, Nat.sub_self, List.getElem?_drop, Nat.add_zero, List.getElem?_eq_getElem hi]
  rfl
theorem long_yes (L : List (List UInt8)) (i : Nat) (hi : i < L.length) (h : 63 < (asciiL L[i]).length) : longB (L.map asciiL) = true :=
  List.any_eq_true.2 ⟨asciiL L[i], List.mem_map.2 ⟨L[i], List.getElem_mem hi, rfl⟩, decide_eq_true h⟩
theorem long_no (L : List (List UInt8)) (h : ∀ j (hj : j < L.length), (asciiL L[j]).length ≤ 63) : longB (L.map asciiL) = false := by
  unfold longB
  rw [List.any_eq_false]
  intro x hx
  obtain ⟨y, hy, rfl⟩ := List.mem_map.1 hx
  obtain ⟨j, hj, rfl⟩ := List.mem_iff_getElem.1 hy
  have := h j hj
  simp
  omega

set_option maxHeartbeats 4000000 in
set_option maxRecDepth 100000 in
theorem ad_any (s : ByteArray) (w : World) (hT : Tc w) (hs : s.size ≤ 255) : Calls Tryz.prog 34 #[.string s] w fun e w' => e = .returned (printV (asciiD asciiL s.data.toList)) ∧ Below w.heap.size w w' := by
  have HT : Hid (∀ wx, Below w.heap.size w wx → Tc wx) := fun wx hb => hT.below hb
  have HSM : Hid (Calls Tryz.prog 36 #[.string s] w fun e w' => e = .returned (.string (smS s)) ∧ Below w.heap.size w w') := small_any s w (by unfold maxLen; omega)
  have hss : (smS s).size ≤ 255 := by
    show (sml s.data.toList).toArray.size ≤ 255
    rw [List.size_toArray, sml, List.length_map, len_list]
    exact hs
  have hsd : (smS s).data.toList = sml s.data.toList := by simp [smS]
  obtain ⟨L, hL⟩ : ∃ L, L = splitD (sml s.data.toList) := ⟨_, rfl⟩
  obtain ⟨hsp1, hsp2⟩ := split_cells (smS s) 46
  rw [hsd, ← splitD_B, ← hL] at hsp1 hsp2
  obtain ⟨hll, hln⟩ := splitD_short (sml s.data.toList)
  rw [← hL, sml_len, len_list] at hll hln
  have HV : Hid (asciiD asciiL s.data.toList = if longB (L.map asciiL) = true then ([], 80) else if 255 < (joinL [46] (L.map asciiL)).length then ([], 81) else (joinL [46] (L.map asciiL), 0)) := by
    show _ = _
    unfold asciiD
    rw [← hL]
  have HSP : Hid (∀ wx, Tc wx → Calls Tryz.prog 57 #[.string (smS s), .string ⟨#[46]⟩] wx fun e w' => e = .returned (.slice (some ⟨wx.heap.size, 0, none⟩) L.length L.length) ∧ w' = wx.alloc (.cells (strsV L) 9)) := fun wx hx => by
    obtain ⟨m, hm⟩ := hx.ml
    have := Tryz.strings_Split (smS s) ⟨#[46]⟩ m wx (by omega) hm (by decide)
    rw [hsp1, hsp2] at this
    exact this
  have HLL : Hid (∀ l ∈ L, l.length ≤ s.size) := hll
  have hln' : (L.length : Int) ≤ 256 := by omega
  clear hT hsd hsp1 hsp2 hL hll
  generalize smS s = sm at HSM hss HSP
  go_enter Tryz.func34, Tryz.ntmps34
  go_wp2_with fail
  refine HSM.out.mono ?_
  rintro e w1 ⟨rfl, hb1⟩
  have HB1 : Hid (Below w.heap.size w w1) := hb1
  clear hb1 HSM
  go_wp2_with fail
  refine (HSP.out _ (HT.out _ HB1.out)).mono ?_
  rintro e w2 ⟨rfl, rfl⟩
  have HB2 : Hid (Below w.heap.size w (w1.alloc (.cells (strsV L) 9))) := HB1.out.alloc HB1.out.size _
  have HS2 : Hid (Lies (w1.alloc (.cells (strsV L) 9)) w1.heap.size (strsV (someA L 0)) 9) := Lies.new w1 _ _
  have HZ : Hid (w.heap.size ≤ w1.heap.size) := HB1.out.size
  clear HSP HB1
  generalize w1.alloc (.cells (strsV L) 9) = w2 at HB2 HS2 ⊢
  go_wp2_with fail
  go_loopw [13] (fun c wr => ∃ i : Nat, i ≤ L.length ∧ c = .int .i64 i ∧ Hid (Lies wr w1.heap.size (strsV (someA L i)) 9) ∧ Hid (Below w.heap.size w wr) ∧ Hid (∀ j (hj : j < L.length), j < i → (asciiL L[j]).length ≤ 63)) (fun c _ => L.length - (intOf c).toNat)
  case atStart => exact ⟨0, by omega, rfl, HS2, HB2, fun j _ h => absurd h (by omega)⟩
  case round =>
    obtain ⟨i, hi, rfl, HS, HB, HK⟩ := hrel
    clear HS2 HB2
    have hz := HS.out.lt
    by_cases hlt : i < L.length
    · have hlt' : (i : Int) < (L.length : Int) := by omega
      have hc : wr.cell? ⟨w1.heap.size, i, none⟩ = some (.string ⟨(L[i]).toArray⟩) := (HS.out.cell i).trans (someA_at L i hlt)
      have HAL : Hid (Calls Tryz.prog 82 #[.string ⟨(L[i]).toArray⟩] wr fun e w' => e = .returned (.string ⟨(asciiL L[i]).toArray⟩) ∧ Below wr.heap.size wr w') := by
        have := al_any ⟨(L[i]).toArray⟩ wr (HT.out _ HB.out).tb (by rw [← len_list, str_list]; have := HLL.out _ (List.getElem_mem hlt); omega)
        rw [str_list] at this
        exact this
      have HST := someA_set L i hlt
      have HYS := long_yes L i hlt
      have HK2 : Hid ((asciiL L[i]).length ≤ 63 → ∀ j (hj : j < L.length), j < i + 1 → (asciiL L[j]).length ≤ 63) := fun h63 j hj hji => by
        rcases Nat.lt_or_ge j i with h | h
        · exact HK.out j hj h
        · obtain rfl : j = i := by omega
          exact h63
      generalize L[i] = x at hc HAL HST HYS HK2
      generalize asciiL x = y at HAL HST HYS HK2
      have hi0 : (0 : Int) ≤ (i : Int) := by omega
      go_wp2_with fail
      refine HAL.out.mono ?_
      rintro e w3 ⟨rfl, hb3⟩
      have HB3 : Hid (Below w.heap.size w w3) := HB.out.trans (hb3.mono HB.out.size)
      have HS3 : Hid (Lies w3 w1.heap.size (strsV (someA L i)) 9) := HS.out.below hb3 hz
      clear hb3 HAL hc
      by_cases h63 : 63 < y.length
      · have h63' : (63 : Int) < (y.length : Int) := by omega
        have HVV : Hid (asciiD asciiL s.data.toList = ([], 80)) := by show _ = _; rw [HV.out, if_pos (HYS h63)]
        clear HST HYS HK2 h63 HK
        go_wp2_with fail
        refine bodyPost_ret (v := .tuple #[.string ⟨#[]⟩, .int .i64 80]) (by simp [results, Tryz.results34, go_sem]) rfl ⟨by rw [HVV.out]; rfl, HB3.out⟩
      · have h63' : ¬ (63 : Int) < (y.length : Int) := by omega
        have HN : Hid (Lies (w3.setCell ⟨w1.heap.size, i, none⟩ (.string ⟨y.toArray⟩)) w1.heap.size (strsV (someA L (i + 1))) 9) := by
          have := HS3.out.set i (.string ⟨y.toArray⟩)
          rw [strsV_set, HST] at this
          exact this
        have HBN : Hid (Below w.heap.size w (w3.setCell ⟨w1.heap.size, i, none⟩ (.string ⟨y.toArray⟩))) := HB3.out.setCell (p := ⟨w1.heap.size, i, none⟩) HZ.out _
        have HKN : Hid (∀ j (hj : j < L.length), j < i + 1 → (asciiL L[j]).length ≤ 63) := HK2.out (by omega)
        have hc3 : wr.cell? ⟨w1.heap.size, i, none⟩ = some (.string ⟨x.toArray⟩) ∨ True := Or.inr trivial
        obtain ⟨v3, hv3⟩ : ∃ v, w3.cell? ⟨w1.heap.size, i, none⟩ = some v := ⟨_, (HS3.out.cell i).trans (someA_at L i hlt)⟩
        have hf3 := HS3.out.frozen i
        have hz3 := HS3.out.lt
        clear HST HYS HK2 h63 HK hc3 HS3 HS HB
        go_wp2_with fail
        go_roundw
        case rel => exact ⟨i + 1, by omega, by go_num, HN, HBN, HKN⟩
        case measure => simp [intOf]; omega
    · obtain rfl : i = L.length := by omega
      have hlt' : ¬ (L.length : Int) < (L.length : Int) := by omega
      have HVN : Hid (asciiD asciiL s.data.toList = if 255 < (joinL [46] (L.map asciiL)).length then ([], 81) else (joinL [46] (L.map asciiL), 0)) := by
        show _ = _
        rw [HV.out, if_neg (by rw [long_no L fun j hj => HK.out j hj hj]; decide)]
      have HSL : Hid (Lies wr w1.heap.size (strsV (L.map asciiL)) 9) := by
        have := HS.out
        unfold someA at this
        rw [List.take_of_length_le (Nat.le_refl _), List.drop_eq_nil_of_le (Nat.le_refl _), List.append_nil] at this
        exact this
      have hjl : (joinL [46] (L.map asciiL)).length ≤ 100000 := by
        have := joinL_len [46] 63 rfl (L.map asciiL) fun x hx => by
          obtain ⟨y, hy, rfl⟩ := List.mem_map.1 hx
          obtain ⟨j, hj, rfl⟩ := List.mem_iff_getElem.1 hy
          exact HK.out j hj hj
        rw [List.length_map] at this
        omega
      have HJ : Hid (Calls Tryz.prog 50 #[.slice (some ⟨w1.heap.size, 0, none⟩) L.length L.length, .string ⟨#[46]⟩] wr fun e w' => e = .returned (.string ⟨(joinL [46] (L.map asciiL)).toArray⟩) ∧ Below wr.heap.size wr w') := by
        have := join_some HSL.out 0 L.length L.length ⟨#[46]⟩ (by rw [List.length_map]; omega) (Nat.le_refl _) (by rw [List.drop_zero, List.take_of_length_le (by rw [List.length_map]; exact Nat.le_refl _)]; exact Nat.le_trans hjl (by decide)) (by rw [List.length_map]; omega)
        rw [List.drop_zero, List.take_of_length_le (by rw [List.length_map]; exact Nat.le_refl _)] at this
        exact this
      generalize joinL [46] (L.map asciiL) = nm at HVN hjl HJ
      clear HSL HS HK HV
      go_wp2_with fail
      refine HJ.out.mono ?_
      rintro e w3 ⟨rfl, hb3⟩
      have HB3 : Hid (Below w.heap.size w w3) := HB.out.trans (hb3.mono HB.out.size)
      clear hb3 HJ HB
      by_cases h255 : 255 < nm.length
      · have h255' : (255 : Int) < (nm.length : Int) := by omega
        have HVV : Hid (asciiD asciiL s.data.toList = ([], 81)) := by show _ = _; rw [HVN.out, if_pos h255]
        clear HVN h255
        go_wp2_with fail
        refine bodyPost_ret (v := .tuple #[.string ⟨#[]⟩, .int .i64 81]) (by simp [results, Tryz.results34, go_sem]) rfl ⟨by rw [HVV.out]; rfl, HB3.out⟩
      · have h255' : ¬ (255 : Int) < (nm.length : Int) := by omega
        have HVV : Hid (asciiD asciiL s.data.toList = (nm, 0)) := by show _ = _; rw [HVN.out, if_neg h255]
        clear HVN h255
        go_wp2_with fail
        refine bodyPost_ret (v := .tuple #[.string ⟨nm.toArray⟩, .int .i64 0]) (by simp [results, Tryz.results34, go_sem]) rfl ⟨by rw [HVV.out]; rfl, HB3.out⟩
end Go.Proofs.YtnlgbopdbihnjaaGreatDoor
/-
  The document's whole4.
-/
namespace Go.Proofs.YtnlgbopdbihnjaaGreatDoor
open Go.RowKit

theorem results_mixR {P : Program} {fn : Func} {p q : Tmp} {ty : TypeId} (h : fn.results = #[.cell p ty, .tmp q]) (tmps : Array Value) (w : World) (g : Nat) (cs : Array Value) (d : TypeDesc) (v : Value) (hp : tmps.getD p undef = .pointer (some ⟨g, 0, none⟩)) (hq : tmps.getD q undef = v) (hg : Lies w g cs ty)
    (hu : P.underlying ty = some d) (ha : (match d with | .struct _ | .array _ _ => true | _ => false) = true) (hz : (P.info? ty).map (·.size) = some cs.size) : (results fn tmps).run P w = .ok (.tuple #[.agg cs, v]) w := by
  have hp' : tmps[p]?.getD undef = .pointer (some ⟨g, 0, none⟩) := by simpa using hp
  have hq' : tmps[q]?.getD undef = v := by simpa using hq
  simp [results, h, hp', hq', asAddr, run_loadVar_row w g ty ty cs (0, 0) d hg hu ha hz]
def w4V (s : List UInt8) : Value := .tuple #[.agg (bytesV ((whole4 s).getD [0, 0, 0, 0])), .bool (whole4 s).isSome]
/-- The numbers of the first texts. -/
def Nms (L : List (List UInt8)) (ns : List Nat) : Prop := ns.length ≤ L.length ∧ ∀ j (h : j < ns.length) (h' : j < L.length), dNum L[j] = some ns[j] ∧ ns[j] < 256
theorem Nms.nil (L : List (List UInt8)) : Nms L [] := ⟨Nat.zero_le _, fun j h => by simp at h⟩
theorem Nms.step {L : List (List UInt8)} {ns : List Nat} (h : Nms L ns) (hl : ns.length < L.length) {n : Nat} (hn : dNum L[ns.length] = some n) : Nms L (ns ++ [n]) := by
  refine ⟨by simp; omega, fun j hj hj' => ?_⟩
  rcases Nat.lt_or_ge j ns.length with h1 | h1
  · rw [List.getElem_append_left h1]
    exact h.2 j h1 hj'
  · obtain rfl : j = ns.length := by simp at hj; omega
    rw [List.getElem_append_right (Nat.le_refl _)]
    simp
    exact ⟨hn, ((dNum_iff _ _).1 hn).2⟩
theorem w4_len {s : List UInt8} (h : (splitB 46 s).length ≠ 4) : whole4 s = none := by
  unfold whole4
  split
  · rename_i p q r t e
    rw [e] at h
    exact absurd rfl h
  · rfl
theorem w4_bad {s : List UInt8} {j : Nat} (hj : j < (splitB 46 s).length) (h4 : (splitB 46 s).length = 4) (h : dNum (splitB 46 s)[j] = none) : whole4 s = none := by
  unfold whole4
  generalize splitB 46 s = L at *
  match L, h4 with
  | [p, q, r, t], _ =>
    dsimp only
    match j, hj with
    | 0, _ => have h' : dNum p = none := h; rw [h']
    | 1, _ => have h' : dNum q = none := h; rw [h']; cases dNum p <;> rfl
    | 2, _ => have h' : dNum r = none := h; rw [h']; cases dNum p <;> cases dNum q <;> rfl
    | 3, _ => have h' : dNum t = none := h; rw [h']; cases dNum p <;> cases dNum q <;> cases dNum r <;> rfl
    | j + 4, hj => exact absurd hj (by simp)
theorem w4_all {s : List UInt8} {ns : List Nat} (h4 : (splitB 46 s).length = 4) (hn : ns.length = 4) (h : Nms (splitB 46 s) ns) : whole4 s = some ns := by
  unfold whole4
  generalize splitB 46 s = L at *
  match L, h4, ns, hn with
  | [p, q, r, t], _, [a, b, c, d], _ =>
    dsimp only
    have h0 := (h.2 0 (by simp) (by simp)).1
    have h1 := (h.2 1 (by simp) (by simp)).1
    have h2 := (h.2 2 (by simp) (by simp)).1
    have h3 := (h.2 3 (by simp) (by simp)).1
    simp at h0 h1 h2 h3
    rw [h0, h1, h2, h3]
theorem pad_set (ns : List Nat) (n : Nat) (h : ns.length < 4) : (ns ++ List.replicate (4 - ns.length) 0).set ns.length n = (ns ++ [n]) ++ List.replicate (4 - (ns ++ [n]).length) 0 := by
  rw [List.set_append_right _ _ (Nat.le_refl _), Nat.sub_self, show 4 - ns.length = (4 - (ns ++ [n]).length) + 1 from by simp; omega, List.replicate_succ, List.set_cons_zero]
  simp
structure W4S (w : World) (L : List (List UInt8)) (ns : List Nat) (wr : World) : Prop where
  r : Lies wr w.heap.size (bytesV [0, 0, 0, 0]) 46
  a : Lies wr (w.heap.size + 1) (bytesV (ns ++ List.replicate (4 - ns.length) 0)) 46
  l : Lies wr (w.heap.size + 2) (strsV L) 9
  below : Below w.heap.size w wr
set_option maxHeartbeats 8000000 in
set_option maxRecDepth 100000 in
theorem rw4_any (s : ByteArray) (w : World) (hT : ∃ m, w.cell? ⟨1, 0, none⟩ = some (.int .i64 m)) (hs : s.size ≤ 2000000) : Calls Tryz.prog 65 #[.string s] w fun e w' => e = .returned (w4V s.data.toList) ∧ Below w.heap.size w w' := by
  obtain ⟨m, hm⟩ := hT
  have hgm : 1 < w.heap.size := World.block_lt_of_cell? w _ hm
  obtain ⟨L, hL⟩ : ∃ L, L = splitB 46 s.data.toList := ⟨_, rfl⟩
  obtain ⟨hsp1, hsp2⟩ := split_cells s 46
  rw [← hL] at hsp1 hsp2
  have hln : L.length ≤ s.size + 1 := by
    have := (splitD_short s.data.toList).2
    rw [splitD_B, ← hL, len_list] at this
    exact this
  have hll : ∀ l ∈ L, l.length ≤ s.size := by
    have := (splitD_short s.data.toList).1
    rw [splitD_B, ← hL, len_list] at this
    exact this
  have HSP : Hid (∀ wx, Below w.heap.size w wx → Calls Tryz.prog 57 #[.string s, .string ⟨#[46]⟩] wx fun e w' => e = .returned (.slice (some ⟨wx.heap.size, 0, none⟩) L.length L.length) ∧ w' = wx.alloc (.cells (strsV L) 9)) := fun wx hx => by
    have := Tryz.strings_Split s ⟨#[46]⟩ m wx (by omega) ((hx.cell (p := ⟨1, 0, none⟩) hgm).trans hm) (by decide)
    rw [hsp1, hsp2] at this
    exact this
  have HB0 : Hid (Below w.heap.size w ((w.alloc (.cells (bytesV [0, 0, 0, 0]) 46)).alloc (.cells (bytesV [0, 0, 0, 0]) 46))) := ((Below.refl _ _).alloc (Nat.le_refl _) _).alloc (by simp) _
  have H0 : Hid (W4S w L [] (((w.alloc (.cells (bytesV [0, 0, 0, 0]) 46)).alloc (.cells (bytesV [0, 0, 0, 0]) 46)).alloc (.cells (strsV L) 9))) :=
    ⟨((Lies.new w _ _).alloc _).alloc _, (new_one w _ _ _).alloc _, new_two w _ _ _ _, HB0.out.alloc (by simp; omega) _⟩
  have HW : Hid (L = splitB 46 s.data.toList) := hL
  have HLL : Hid (∀ l ∈ L, l.length ≤ s.size) := hll
  clear hsp1 hsp2 hL hm hgm hll
  go_enter Tryz.func65, Tryz.ntmps65
  go_wp2_with fail
  refine (HSP.out _ HB0.out).mono ?_
  rintro e w2 ⟨rfl, hw2⟩
  obtain ⟨wa, hwa⟩ : ∃ wa, wa = ((w.alloc (.cells (bytesV [0, 0, 0, 0]) 46)).alloc (.cells (bytesV [0, 0, 0, 0]) 46)).alloc (.cells (strsV L) 9) := ⟨_, rfl⟩
  obtain rfl : w2 = wa := hw2.trans hwa.symm
  have HS0 : Hid (W4S w L [] w2) := by rw [hw2]; exact H0.out
  have hq : ((w.alloc (.cells (bytesV [0, 0, 0, 0]) 46)).alloc (.cells (bytesV [0, 0, 0, 0]) 46)).heap.size = w.heap.size + 2 := by simp
  rw [hq]
  clear hw2 hwa H0 HSP HB0 hq
  have hln' : (L.length : Int) ≤ 3000000 := by omega
  by_cases h4 : L.length = 4
  · have h4b : ((L.length : Int) != 4) = false := by rw [h4]; rfl
    have H4 : Hid (L.length = 4) := h4
    have hL4 : (L.length : Int) = 4 := by omega
    clear h4
    go_wp2_with fail
    go_loopw [18] (fun c wr => ∃ ns : List Nat, ns.length ≤ 4 ∧ c = .int .i64 ns.length ∧ Hid (W4S w L ns wr) ∧ Hid (Nms L ns)) (fun c _ => 4 - (intOf c).toNat)
    case atStart => exact ⟨[], by simp, rfl, HS0, Nms.nil L⟩
    case round =>
      obtain ⟨ns, hns, rfl, HS, HN⟩ := hrel
      clear HS0
      by_cases hlt : ns.length < 4
      · have hil : ns.length < L.length := by rw [H4.out]; exact hlt
        have hlt' : (ns.length : Int) < (L.length : Int) := by omega
        have hc : wr.cell? ⟨w.heap.size + 2, ns.length, none⟩ = some (.string ⟨(L[ns.length]).toArray⟩) := (HS.out.l.cell _).trans (strsV_at L _ hil)
        have hz2 : w.heap.size + 2 < wr.heap.size := HS.out.l.lt
        have HX : Hid (∀ n, dNum L[ns.length] = some n → Nms L (ns ++ [n])) := fun n h => HN.out.step hil h
        have HY : Hid (dNum L[ns.length] = none → whole4 s.data.toList = none) := fun h => w4_bad (j := ns.length) (by rw [← HW.out]; exact hil) (by rw [← HW.out]; exact H4.out) (by
          have h' := h
          simp only [HW.out] at h'
          exact h')
        have HNU : Hid (Calls Tryz.prog 103 #[.string ⟨(L[ns.length]).toArray⟩] wr fun e w' => ∃ v, e = .returned v ∧ NumA L[ns.length] v ∧ w' = wr) := by
          have := rnum_any ⟨(L[ns.length]).toArray⟩ wr (by
            have h1 := HLL.out _ (List.getElem_mem hil)
            show (L[ns.length]).toArray.size ≤ maxLen
            rw [List.size_toArray]
            unfold maxLen
            omega)
          rw [show (⟨(L[ns.length]).toArray⟩ : ByteArray).data.toList = L[ns.length] from by simp] at this
          exact this
        generalize L[ns.length] = x at hc HX HY HNU
        have hi0 : (0 : Int) ≤ (ns.length : Int) := by omega
        clear HN
        go_wp2_with fail
        refine HNU.out.mono ?_
        rintro e w3 ⟨v, rfl, ⟨y, rfl, hy⟩, hw3⟩
        obtain rfl : wr = w3 := hw3.symm
        clear hw3 HNU hc
        cases hx : dNum x with
        | none =>
          have HR : Hid (w4V s.data.toList = .tuple #[.agg #[.int .u8 0, .int .u8 0, .int .u8 0, .int .u8 0], .bool false]) := by
            show _ = _
            unfold w4V
            rw [HY.out hx]
            rfl
          have HRR : Hid (Lies wr w.heap.size #[.int .u8 0, .int .u8 0, .int .u8 0, .int .u8 0] 46) := HS.out.r
          have HB : Hid (Below w.heap.size w wr) := HS.out.below
          clear HX HY HS hx hy
          go_wp2_with (refine wpList_store_row rfl 46 _ _ rfl w.heap.size rfl _ #[.int .u8 0, .int .u8 0, .int .u8 0, .int .u8 0] rfl 46 HRR.out info4 rfl (by simp [Value.oneCell']) rfl ?_)
          exact bodyPost_ret (results_mixR (p := 2) (q := 3) (by kernel_rfl) _ _ w.heap.size _ _ (.bool false) rfl rfl (HRR.out.row _) Tryz.underlying46 rfl info4) rfl ⟨by rw [HR.out], below_row HB.out (Nat.le_refl _) _⟩
        | some n =>
          obtain rfl := hy n hx
          have hn2 : n < 256 := ((dNum_iff _ _).1 hx).2
          have HN2 : Hid (Nms L (ns ++ [n])) := HX.out n hx
          have HS2 : Hid (W4S w L (ns ++ [n]) (wr.setCell ⟨w.heap.size + 1, ns.length, none⟩ (.int .u8 (n : Nat)))) := by
            refine ⟨HS.out.r.set_other (a := ⟨w.heap.size + 1, ns.length, none⟩) (by show w.heap.size ≠ w.heap.size + 1; omega) _, ?_, HS.out.l.set_other (a := ⟨w.heap.size + 1, ns.length, none⟩) (by show w.heap.size + 2 ≠ w.heap.size + 1; omega) _, HS.out.below.setCell (p := ⟨w.heap.size + 1, ns.length, none⟩) (by show w.heap.size ≤ w.heap.size + 1; omega) _⟩
            have := HS.out.a.set ns.length (.int .u8 (n : Nat))
            rw [bytesV_set, pad_set ns n hlt] at this
            exact this
          obtain ⟨v9, hv9⟩ : ∃ v, wr.cell? ⟨w.heap.size + 1, ns.length, none⟩ = some v := by
            refine ⟨_, (HS.out.a.cell _).trans (bytesV_at _ _ (by simp; omega))⟩
          have hf9 := HS.out.a.frozen ns.length
          have hz9 : w.heap.size + 1 < wr.heap.size := HS.out.a.lt
          have hn4 : (ns.length : Int) < 4 := by omega
          have hns2 : (ns ++ [n]).length = ns.length + 1 := by simp
          have HNL : Hid ((ns ++ [n]).length = ns.length + 1) := hns2
          clear HX HY HS hx hy hns2
          go_wp2_with fail
          go_roundw
          case rel => exact ⟨ns ++ [n], by rw [HNL.out]; omega, by rw [HNL.out]; go_num, HS2, HN2⟩
          case measure => simp [intOf]; omega
      · have hn4 : ns.length = 4 := by omega
        have hlt' : ¬ (ns.length : Int) < (L.length : Int) := by omega
        have HR : Hid (w4V s.data.toList = .tuple #[.agg (bytesV ns), .bool true]) := by
          show _ = _
          unfold w4V
          rw [w4_all (by rw [← HW.out]; exact H4.out) hn4 (by rw [← HW.out]; exact HN.out)]
          rfl
        have HA : Hid (Lies wr (w.heap.size + 1) (bytesV ns) 46) := by
          have := HS.out.a
          rw [hn4, Nat.sub_self, List.replicate_zero, List.append_nil] at this
          exact this
        have HRR : Hid (Lies wr w.heap.size #[.int .u8 0, .int .u8 0, .int .u8 0, .int .u8 0] 46) := HS.out.r
        have HB : Hid (Below w.heap.size w wr) := HS.out.below
        have hbz : (bytesV ns).size = 4 := by rw [bytesV_size]; exact hn4
        have hbo : (bytesV ns).all (·.oneCell') = true := by
          rw [Array.all_eq_true_iff_forall_mem]
          intro v hv
          unfold bytesV at hv
          rw [List.mem_toArray] at hv
          obtain ⟨n, _, rfl⟩ := List.mem_map.1 hv
          rfl
        generalize bytesV ns = V at HR HA hbz hbo
        clear HS HN
        go_wp2_with (first | (refine wpList_load_row rfl 46 _ rfl (w.heap.size + 1) rfl V 46 _ HA.out Tryz.underlying46 rfl (by rw [hbz]; exact info4) ?_) | (refine wpList_store_row rfl 46 _ _ rfl w.heap.size rfl _ V rfl 46 HRR.out (by rw [hbz]; exact info4) (by rw [hbz]; rfl) hbo rfl ?_))
        exact bodyPost_ret (results_mixR (p := 2) (q := 3) (by kernel_rfl) _ _ w.heap.size _ _ (.bool true) rfl rfl (HRR.out.row _) Tryz.underlying46 rfl (by rw [hbz]; exact info4)) rfl ⟨by rw [HR.out], below_row HB.out (Nat.le_refl _) _⟩
  · have h4b : ((L.length : Int) != 4) = true := by rw [bne_iff_ne]; omega
    have HR : Hid (w4V s.data.toList = .tuple #[.agg #[.int .u8 0, .int .u8 0, .int .u8 0, .int .u8 0], .bool false]) := by
      show _ = _
      unfold w4V
      rw [w4_len (by rw [← HW.out]; exact h4)]
      rfl
    have HA : Hid (Lies w2 (w.heap.size + 1) #[.int .u8 0, .int .u8 0, .int .u8 0, .int .u8 0] 46) := HS0.out.a
    have HRR : Hid (Lies w2 w.heap.size #[.int .u8 0, .int .u8 0, .int .u8 0, .int .u8 0] 46) := HS0.out.r
    have HB : Hid (Below w.heap.size w w2) := HS0.out.below
    clear h4 HS0 HW HLL
    go_wp2_with (first | (refine wpList_load_row rfl 46 _ rfl (w.heap.size + 1) rfl #[.int .u8 0, .int .u8 0, .int .u8 0, .int .u8 0] 46 _ HA.out Tryz.underlying46 rfl info4 ?_) | (refine wpList_store_row rfl 46 _ _ rfl w.heap.size rfl _ #[.int .u8 0, .int .u8 0, .int .u8 0, .int .u8 0] rfl 46 HRR.out info4 rfl (by simp [Value.oneCell']) rfl ?_))
    exact bodyPost_ret (results_mixR (p := 2) (q := 3) (by kernel_rfl) _ _ w.heap.size _ _ (.bool false) rfl rfl (HRR.out.row _) Tryz.underlying46 rfl info4) rfl ⟨by rw [HR.out], below_row HB.out (Nat.le_refl _) _⟩
end Go.Proofs.YtnlgbopdbihnjaaGreatDoor
