/-
  The document's Encode.
-/
import Derived.Test.YtdgepnfgjgbkoaaDoorVk17
import Derived.Test.YtdgepnfgjgbkoaaDoorPcP
import Derived.Test.YtdgepnfgjgbkoaaDoorChk2
import Derived.Test.YtdgepnfgjgbkoaaDoorShelf
namespace Go.Proofs.YtdgepnfgjgbkoaaDoor
open Go.RowKit

/-- A row of runes of the call's own, as runes in memory. -/
theorem own_rns {w : World} {base n : Nat} {v : Value} {l : List Int} (h : w.ownsRow base 21 1 v n (cellsN .i32 l)) : ∃ a cap, v = .slice a n cap ∧ Rns a l w ∧ l.length = n ∧ n ≤ cap := by
  obtain ⟨h1, h2⟩ := id h
  have hl : l.length = n := by rw [cellsN_length] at h1; omega
  rcases h2 with ⟨rfl, h0⟩ | ⟨g, cap, cur, rfl, hb, hg, hcap, _⟩
  · exact ⟨none, 0, by rw [h0], .inl (List.eq_nil_of_length_eq_zero (hl.trans h0)), hl, by omega⟩
  · refine ⟨_, cap, rfl, .inr ⟨g, 0, rfl, (Array.getElem?_eq_some_iff.1 hg).1, fun j hj => ?_⟩, hl, hcap⟩
    have := h.cellAt j (by omega)
    rw [Nat.zero_add, this, cellsN_at .i32 l j hj]
theorem wrT_lenV (q : Bool) (l : List UInt8) : (wrT q l).length ≤ 76 * (l.length + 1) := by
  have h2 := decL_length l
  have h3 := jn_wlen q (decL l) (fun r hr => decL_isR l r hr)
  unfold wrT
  omega
set_option maxRecDepth 100000 in
set_option maxHeartbeats 8000000 in
theorem venc_any (s : ByteArray) (sh : Bool) (hs : s.size ≤ 1048576) (w : World) :
    Calls Tryd.prog 13 #[.string s, .bool sh] w fun e w' => e = .returned (.tuple #[.string (bS (encW s.data.toList sh)), .int .i64 (encE s.data.toList : Nat)]) ∧ Below w.heap.size w w' := by
  have HDD := ddec_any s w (by omega)
  have hll := len_list s
  by_cases hb : badU s.data.toList < s.data.toList.length
  · have h1 : encW s.data.toList sh = [] := by unfold encW; rw [if_pos hb]
    have h2 : encE s.data.toList = 50 := by unfold encE; rw [if_pos hb]
    have h3 : decE s.data.toList = #[.int .i64 50, .int .i64 (badU s.data.toList)] := if_pos hb
    have HD2 : Calls Tryd.prog 25 #[.string s] w fun e w' => (∃ v, e = .returned (.tuple #[v, .agg #[.int .i64 50, .int .i64 (badU s.data.toList)]])) ∧ Below w.heap.size w w' := by
      refine HDD.mono ?_
      rintro e w' ⟨⟨v, he, -⟩, hb'⟩
      exact ⟨⟨v, by rw [he, h3]⟩, hb'⟩
    have HE1 : Hid (encW s.data.toList sh = []) := h1
    have HE2 : Hid (encE s.data.toList = 50) := h2
    clear h1 h2 h3 HDD hb
    generalize badU s.data.toList = bd at *
    go_enter Tryd.func13, Tryd.ntmps13
    go_wp2_with fail
    refine HD2.mono ?_
    rintro e w1 ⟨⟨v, rfl⟩, hb1⟩
    obtain ⟨W2, hW2⟩ : ∃ W2, W2 = w1.alloc (.cells #[.int .i64 50, .int .i64 (bd : Int)] 25) := ⟨_, rfl⟩
    have HB2 : Hid (Below w.heap.size w W2) := by subst hW2; exact hb1.alloc hb1.size _
    have HL2 : Hid (Lies W2 w1.heap.size #[.int .i64 50, .int .i64 (bd : Int)] 25) := by subst hW2; exact Lies.new w1 _ _
    have HWW : Hid (w1.alloc (.cells #[.int .i64 50, .int .i64 (bd : Int)] 25) = W2) := hW2.symm
    have c0 := HL2.out.cell 0
    simp only [List.getElem?_toArray, List.getElem?_cons_zero] at c0
    clear HD2 hb1 hW2
    go_wp2_with (rw [HWW.out])
    go_region
    all_goals go_wp2
    all_goals go_ret2
    all_goals exact ⟨by rw [HE1.out, HE2.out]; rfl, by first | exact HB2.out | exact HB2.out.drew⟩
  · have h1 : encW s.data.toList sh = if sh = true ∧ (wrT true s.data.toList).length < (wrT false s.data.toList).length then wrT true s.data.toList else wrT false s.data.toList := by unfold encW; rw [if_neg hb]
    have h2 : encE s.data.toList = 0 := by unfold encE; rw [if_neg hb]
    have h3 : decE s.data.toList = #[.int .i64 0, .int .i64 0] := if_neg hb
    have h4 : decR s.data.toList = decL s.data.toList := if_neg hb
    have hdl := decL_length s.data.toList
    have HD2 : Calls Tryd.prog 25 #[.string s] w fun e w' => (∃ a cap, e = .returned (.tuple #[.slice a (decL s.data.toList).length cap, .agg #[.int .i64 0, .int .i64 0]]) ∧ Rns a (decL s.data.toList) w' ∧ (decL s.data.toList).length ≤ cap) ∧ Below w.heap.size w w' := by
      refine HDD.mono ?_
      rintro e w' ⟨⟨v, he, ho⟩, hb'⟩
      rw [h4] at ho
      obtain ⟨a, cap, rfl, hr, -, hc⟩ := own_rns ho
      exact ⟨⟨a, cap, by rw [he, h3], hr, hc⟩, hb'⟩
    have HE1 : Hid (encW s.data.toList sh = if sh = true ∧ (wrT true s.data.toList).length < (wrT false s.data.toList).length then wrT true s.data.toList else wrT false s.data.toList) := h1
    have HE2 : Hid (encE s.data.toList = 0) := h2
    have HVW : Hid (∀ q a cap n wx, n = (decL s.data.toList).length → n ≤ cap → Rns a (decL s.data.toList) wx → Calls Tryd.prog 26 #[.slice a n cap, .bool q] wx fun e w' => e = .returned (.string (bS (wrT q s.data.toList))) ∧ Below wx.heap.size wx w') := fun q a cap n wx hn hc hr => vwritten_any q _ (decL s.data.toList) (Nat.le_refl _) (decL_isR _) a cap n wx hn hc hr (by omega)
    have hT := wrT_lenV true s.data.toList
    have hF := wrT_lenV false s.data.toList
    have hsT : (bS (wrT true s.data.toList)).size = (wrT true s.data.toList).length := List.size_toArray
    have hsF : (bS (wrT false s.data.toList)).size = (wrT false s.data.toList).length := List.size_toArray
    generalize hN : (decL s.data.toList).length = N at *
    have HN : Hid ((decL s.data.toList).length = N) := hN
    clear h1 h2 h3 h4 HDD hb hN hT hF
    go_enter Tryd.func13, Tryd.ntmps13
    go_wp2_with fail
    refine HD2.mono ?_
    rintro e w1 ⟨⟨a, cap, rfl, hr1, hcap⟩, hb1⟩
    obtain ⟨W2, hW2⟩ : ∃ W2, W2 = w1.alloc (.cells #[.int .i64 0, .int .i64 0] 25) := ⟨_, rfl⟩
    have hb2 : Below w1.heap.size w1 W2 := by subst hW2; exact (Below.refl _ w1).alloc (Nat.le_refl _) _
    have HB2 : Hid (Below w.heap.size w W2) := hb1.trans (hb2.mono hb1.size)
    have HL2 : Hid (Lies W2 w1.heap.size #[.int .i64 0, .int .i64 0] 25) := by subst hW2; exact Lies.new w1 _ _
    have HWW : Hid (w1.alloc (.cells #[.int .i64 0, .int .i64 0] 25) = W2) := hW2.symm
    have HR2 : Hid (Rns a (decL s.data.toList) W2) := hr1.below hb2
    have HCP : Hid (N ≤ cap) := hcap
    clear HD2 hb1 hb2 hW2 hr1 hcap
    go_wp2_with fail
    rw [HWW.out]
    refine (HVW.out false a cap N W2 rfl HCP.out HR2.out).mono ?_
    rintro e w3 ⟨rfl, hb3⟩
    have HB3 : Hid (Below w.heap.size w w3) := HB2.out.trans (hb3.mono HB2.out.size)
    have HR3 : Hid (Rns a (decL s.data.toList) w3) := HR2.out.below hb3
    clear hb3
    go_wp2_with fail
    refine (HVW.out true a cap N w3 rfl HCP.out HR3.out).mono ?_
    rintro e w4 ⟨rfl, hb4⟩
    have HB4 : Hid (Below w.heap.size w w4) := HB3.out.trans (hb4.mono HB3.out.size)
    clear hb4 HVW HR3 HR2 HB3 HB2 HWW HL2
    cases sh with
    | false =>
      have HX : Hid (bS (encW s.data.toList false) = bS (wrT false s.data.toList)) := by
        show _ = _
        rw [HE1.out, if_neg (by simp)]
      clear HE1
      go_wp2_with fail
      go_ret2
      exact ⟨by rw [HX.out, HE2.out]; rfl, HB4.out⟩
    | true =>
      by_cases hlt : (wrT true s.data.toList).length < (wrT false s.data.toList).length
      · have HX : Hid (bS (encW s.data.toList true) = bS (wrT true s.data.toList)) := by
          show _ = _
          rw [HE1.out, if_pos ⟨rfl, hlt⟩]
        rw [← hsT, ← hsF] at hlt
        have hlt2 : ((bS (wrT true s.data.toList)).size : Int) < ((bS (wrT false s.data.toList)).size : Int) := by omega
        clear HE1 hsT hsF
        go_wp2_with fail
        go_ret2
        exact ⟨by rw [HX.out, HE2.out]; rfl, HB4.out⟩
      · have HX : Hid (bS (encW s.data.toList true) = bS (wrT false s.data.toList)) := by
          show _ = _
          rw [HE1.out, if_neg (fun h => hlt h.2)]
        rw [← hsT, ← hsF] at hlt
        have hlt2 : ¬ ((bS (wrT true s.data.toList)).size : Int) < ((bS (wrT false s.data.toList)).size : Int) := by omega
        clear HE1 hsT hsF
        go_wp2_with fail
        go_ret2
        exact ⟨by rw [HX.out, HE2.out]; rfl, HB4.out⟩
end Go.Proofs.YtdgepnfgjgbkoaaDoor
/-
  strings.IndexByte of the signs that stand for themselves in Q.
-/
namespace Go.Proofs.YtdgepnfgjgbkoaaDoor
open Go.RowKit

def sgS : ByteArray := ⟨#[33, 42, 43, 45, 47]⟩
theorem sg_fin : ∀ b : Fin 256, decide (0 ≤ Lib.indexByte sgS.data.toList (UInt8.ofNat b.val)) = (UInt8.ofNat b.val == 33 || UInt8.ofNat b.val == 42 || UInt8.ofNat b.val == 43 || UInt8.ofNat b.val == 45 || UInt8.ofNat b.val == 47) := by decide +kernel
theorem sidx_any (c : UInt8) (w : World) : Calls Tryd.prog 78 #[.string sgS, .int .u8 (c.toNat : Int)] w fun e w' => ∃ x : Int, e = .returned (.int .i64 x) ∧ w' = w ∧ decide (0 ≤ x) = (c == 33 || c == 42 || c == 43 || c == 45 || c == 47) := by
  refine (Tryd.strings_IndexByte sgS (c.toNat : Int) w).mono ?_
  rintro e w' ⟨rfl, rfl⟩
  refine ⟨_, rfl, rfl, ?_⟩
  have h := sg_fin ⟨c.toNat, c.toNat_lt⟩
  have e : UInt8.ofNat c.toNat = c := by simp
  simp only [e] at h
  rw [← h]
  simp
end Go.Proofs.YtdgepnfgjgbkoaaDoor
