/-
  parse: is a word encoded, and its parts.
-/
import Derived.Test.YtdgepnfgjgbkoaaDoorPcP
import Derived.Test.YtdgepnfgjgbkoaaDoorSpan4
import Derived.Test.YtdgepnfgjgbkoaaDoorShelf
import Derived.Lib.Strings
import Derived.Test.YtdgepnfgjgbkoaaDoorLate5
namespace Go.Proofs.YtdgepnfgjgbkoaaDoor
open Go.RowKit

def bS (l : List UInt8) : ByteArray := ⟨l.toArray⟩
theorem bS_list (l : List UInt8) : (bS l).data.toList = l := by simp [bS]
theorem bS_of (s : ByteArray) : bS s.data.toList = s := by simp [bS]
/-- The cells of an encoded word. -/
def enC (f t : Nat) : Option (List UInt8 × Bool × List UInt8) → Array Value
  | none => #[.string ⟨#[]⟩, .string ⟨#[]⟩, .string ⟨#[]⟩, .int .i64 0, .int .i64 0]
  | some p => #[.string (bS p.1), .string (cdS p.2.1), .string (bS p.2.2), .int .i64 ((f + 2 : Nat) : Int), .int .i64 ((t - 2 - p.2.2.length : Nat) : Int)]
theorem pW_bad {w : List UInt8} (h : badN 12 w < w.length) : pW w = none := by rw [pW, if_pos h]
theorem pW_five {w : List UInt8} (h : ¬ badN 12 w < w.length) (a cs cd tx e : List UInt8) (hp : pcs 4 w = [a, cs, cd, tx, e]) :
    pW w = if a = [61] ∧ cs ≠ [] ∧ e = [61] ∧ (upL cd = [66] ∨ upL cd = [81]) then some (cs, decide (upL cd = [81]), tx) else none := by rw [pW, if_neg h, hp]
theorem pW_not {w : List UInt8} (h : (pcs 4 w).length ≠ 5) : pW w = none := by
  unfold pW
  split
  · rfl
  · split
    · rename_i hp
      rw [hp] at h
      simp at h
    · rfl
theorem five {α : Type} {l : List α} (h : l.length = 5) : ∃ a b c d e, l = [a, b, c, d, e] := by
  match l, h with
  | [a, b, c, d, e], _ => exact ⟨a, b, c, d, e, rfl⟩
set_option maxRecDepth 100000 in
set_option maxHeartbeats 4000000 in
theorem wparse_any (s : ByteArray) (f t : Nat) (hft : f ≤ t) (ht : t ≤ s.size) (hs : s.size ≤ 4294967200) (w : World) (tb : Tb w) :
    Calls Tryd.prog 21 #[.string s, .int .i64 (f : Int), .int .i64 (t : Int)] w fun e w' =>
      e = .returned (.tuple #[.agg (enC f t (pW (cutW s.data.toList f t))), .bool (pW (cutW s.data.toList f t)).isSome]) ∧ Below w.heap.size w w' := by
  obtain ⟨W, hW⟩ : ∃ W, W = s.extract f t := ⟨_, rfl⟩
  have hWL : W.data.toList = cutW s.data.toList f t := by
    rw [hW, Lib.extract_data]
    rfl
  have hWs : W.size = t - f := by rw [hW]; simp; omega
  obtain ⟨w1, hw1⟩ : ∃ w1, w1 = w.alloc (.cells #[.string ⟨#[]⟩, .string ⟨#[]⟩, .string ⟨#[]⟩, .int .i64 0, .int .i64 0] 44) := ⟨_, rfl⟩
  have hb1 : Below w.heap.size w w1 := by rw [hw1]; exact (Below.refl _ _).alloc (Nat.le_refl _) _
  have tb1 := tb.below hb1
  have hsz1 : w1.heap.size = w.heap.size + 1 := by rw [hw1]; simp
  have hL1 : Lies w1 w.heap.size #[.string ⟨#[]⟩, .string ⟨#[]⟩, .string ⟨#[]⟩, .int .i64 0, .int .i64 0] 44 := by rw [hw1]; exact Lies.new w _ _
  obtain ⟨m, hm⟩ := tb1.ml
  have hBad := bad_anyT 12 W w1 tb1.cls (by unfold maxLen; omega)
  have hSp := Tryd.strings_SplitN W ⟨#[63]⟩ 5 m w1 (by omega) hm (by decide) (by omega) (by omega)
  have hpc := split_pcs W
  have hle := badN_le 12 W.data.toList
  rw [len_list] at hle
  rw [← hWL]
  obtain ⟨y, hy⟩ : ∃ y, y = badN 12 W.data.toList := ⟨_, rfl⟩
  rw [← hy] at hBad hle
  have HW1 : Hid (w.alloc (.cells #[.string ⟨#[]⟩, .string ⟨#[]⟩, .string ⟨#[]⟩, .int .i64 0, .int .i64 0] 44) = w1) := hw1.symm
  obtain ⟨N, hN⟩ : ∃ N, N = min 5 (W.size + 1) := ⟨_, rfl⟩
  rw [← hN] at hSp hpc
  have hpl := Lib.splitB_length_le ⟨#[63]⟩ 0 (N - 1) W
  obtain ⟨PS, hPS⟩ : ∃ PS, PS = Lib.splitB ⟨#[63]⟩ 0 (N - 1) W := ⟨_, rfl⟩
  rw [← hPS] at hSp hpc hpl
  rw [hsz1] at hSp
  have hftI : (f : Int) ≤ (t : Int) := by omega
  have htI : (t : Int) ≤ (s.size : Int) := by omega
  have HB1 : Hid (Below w.heap.size w w1) := hb1
  by_cases hyb : y < W.size
  · have HR : Hid (pW W.data.toList = none) := pW_bad (by rw [← hy, len_list]; exact hyb)
    have hyi : (y : Int) < (W.size : Int) := by omega
    have c0 := hL1.cell 0
    have c1 := hL1.cell 1
    have c2 := hL1.cell 2
    have c3 := hL1.cell 3
    have c4 := hL1.cell 4
    have f0 := hL1.frozen 0
    have f1 := hL1.frozen 1
    have f2 := hL1.frozen 2
    have f3 := hL1.frozen 3
    have f4 := hL1.frozen 4
    rw [hW] at hBad hyi
    clear hSp hpc hPS hWL hy hw1 hW hN hpl hb1 hsz1
    go_enter Tryd.func21, Tryd.ntmps21
    go_wp2_with (rw [HW1.out])
    refine hBad.mono ?_
    rintro e wB ⟨rfl, rfl⟩
    go_wp2
    refine bodyPost_ret (v := .tuple #[.agg #[.string ⟨#[]⟩, .string ⟨#[]⟩, .string ⟨#[]⟩, .int .i64 0, .int .i64 0], .bool false]) (by simp [results, Tryd.results21, go_sem, c0, c1, c2, c3, c4]) rfl ⟨by rw [HR.out]; rfl, ?_⟩
    exact ((((HB1.out.setCell (p := ⟨w.heap.size, 0, none⟩) (Nat.le_refl _) _).setCell (p := ⟨w.heap.size, 1, none⟩) (Nat.le_refl _) _).setCell (p := ⟨w.heap.size, 2, none⟩) (Nat.le_refl _) _).setCell (p := ⟨w.heap.size, 3, none⟩) (Nat.le_refl _) _).setCell (p := ⟨w.heap.size, 4, none⟩) (Nat.le_refl _) _
  · have hbn : ¬ badN 12 W.data.toList < W.data.toList.length := by rw [← hy, len_list]; exact hyb
    have hyi : ¬ (y : Int) < (W.size : Int) := by omega
    obtain ⟨w2, hw2⟩ : ∃ w2, w2 = w1.alloc (.cells (Lib.cellsOf PS N) 9) := ⟨_, rfl⟩
    rw [← hw2] at hSp
    have hL2 : Lies w2 w.heap.size #[.string ⟨#[]⟩, .string ⟨#[]⟩, .string ⟨#[]⟩, .int .i64 0, .int .i64 0] 44 := by rw [hw2]; exact hL1.alloc _
    have hP2 : Lies w2 (w.heap.size + 1) (Lib.cellsOf PS N) 9 := by rw [hw2, ← hsz1]; exact Lies.new w1 _ _
    have HB2 : Hid (Below w.heap.size w w2) := by show Below _ _ _; rw [hw2]; exact hb1.alloc (by omega) _
    have c0 := hL2.cell 0
    have c1 := hL2.cell 1
    have c2 := hL2.cell 2
    have c3 := hL2.cell 3
    have c4 := hL2.cell 4
    have f0 := hL2.frozen 0
    have f1 := hL2.frozen 1
    have f2 := hL2.frozen 2
    have f3 := hL2.frozen 3
    have f4 := hL2.frozen 4
    have HSP := hSp
    by_cases h5 : PS.length = 5
    · obtain ⟨A, C, D, X, E, rfl⟩ := five h5
      have hN5 : N = 5 := by simp only [List.length_cons, List.length_nil] at hpl; omega
      subst hN5
      have hDs0 : D.size ≤ maxLen := by
        have := pcs_le 4 W.data.toList (D.data.toList) (by rw [← hpc]; simp)
        rw [len_list, len_list] at this
        unfold maxLen
        omega
      have hXs : X.size + 2 ≤ t - f := by
        have h := pcs_tot 4 W.data.toList
        rw [← hpc] at h
        simp only [List.map_cons, List.map_nil, List.sum_cons, List.sum_nil, List.length_cons, List.length_nil, len_list] at h
        omega
      have hPw := pW_five hbn A.data.toList C.data.toList D.data.toList X.data.toList E.data.toList hpc.symm
      have q0 : w2.cell? ⟨w.heap.size + 1, 0, none⟩ = some (.string A) := hP2.cell 0
      have q1 : w2.cell? ⟨w.heap.size + 1, 1, none⟩ = some (.string C) := hP2.cell 1
      have q2 : w2.cell? ⟨w.heap.size + 1, 2, none⟩ = some (.string D) := hP2.cell 2
      have q3 : w2.cell? ⟨w.heap.size + 1, 3, none⟩ = some (.string X) := hP2.cell 3
      have q4 : w2.cell? ⟨w.heap.size + 1, 4, none⟩ = some (.string E) := hP2.cell 4
      rw [hW] at hBad hyi hSp
      have HL2 : Hid (Lies w2 w.heap.size #[.string ⟨#[]⟩, .string ⟨#[]⟩, .string ⟨#[]⟩, .int .i64 0, .int .i64 0] 44) := hL2
      have HP2 : Hid (Lies w2 (w.heap.size + 1) #[.string A, .string C, .string D, .string X, .string E] 9) := hP2
      have hz2 : w.heap.size + 2 ≤ w2.heap.size := HP2.out.lt
      have hDs : D.size ≤ maxLen := hDs0
      clear HSP hPS hWL hy hw1 hW hN hb1 hw2 hP2 hbn h5 hpl hL1 hL2
      by_cases hA : A.data.toList = [61]
      · by_cases hC : C.data.toList = []
        · have HR : Hid (pW W.data.toList = none) := by show _ = _; rw [hPw, if_neg (by rintro ⟨_, h, _⟩; exact h hC)]
          have kA : (A.toList == [61]) = true := by rw [ByteArray.toList_eq, hA]; rfl
          have kC : C.toList.isEmpty = true := by rw [ByteArray.toList_eq, hC]; rfl
          clear hPw hA hC hpc
          go_enter Tryd.func21, Tryd.ntmps21
          go_wp2_with (rw [HW1.out])
          refine hBad.mono ?_
          rintro e wB ⟨rfl, rfl⟩
          go_wp2_with fail
          refine hSp.mono ?_
          rintro e wB ⟨rfl, rfl⟩
          go_wp2
          refine bodyPost_ret (v := .tuple #[.agg #[.string ⟨#[]⟩, .string ⟨#[]⟩, .string ⟨#[]⟩, .int .i64 0, .int .i64 0], .bool false]) (by simp [results, Tryd.results21, go_sem, c0, c1, c2, c3, c4]) rfl ⟨by rw [HR.out]; rfl, ?_⟩
          exact ((((HB2.out.setCell (p := ⟨w.heap.size, 0, none⟩) (Nat.le_refl _) _).setCell (p := ⟨w.heap.size, 1, none⟩) (Nat.le_refl _) _).setCell (p := ⟨w.heap.size, 2, none⟩) (Nat.le_refl _) _).setCell (p := ⟨w.heap.size, 3, none⟩) (Nat.le_refl _) _).setCell (p := ⟨w.heap.size, 4, none⟩) (Nat.le_refl _) _
        · by_cases hE : E.data.toList = [61]
          · have kA : (A.toList == [61]) = true := by rw [ByteArray.toList_eq, hA]; rfl
            have kC : C.toList.isEmpty = false := by rw [ByteArray.toList_eq, List.isEmpty_eq_false_iff]; exact hC
            have kE : (E.toList == [61]) = true := by rw [ByteArray.toList_eq, hE]; rfl
            have hU := upper_any D w2 hDs
            by_cases hB : upL D.data.toList = [66]
            · have HR : Hid (pW W.data.toList = some (C.data.toList, false, X.data.toList)) := by show _ = _; rw [hPw, if_pos ⟨hA, hC, hE, .inl hB⟩, hB]; rfl
              have HU := ups_list D
              have hUU : upS D = cdS false := by
                have : bS (upS D).data.toList = bS [66] := by rw [← ByteArray.toList_eq, HU, hB]
                rw [bS_of] at this
                rw [this]
                rfl
              rw [hUU] at hU
              have hXl : X.size + 2 ≤ t - f := hXs
              clear hPw hA hC hE hpc hB HU hUU c0 c1 c2 c3 c4 f0 f1 f2 f3 f4
              rw [show cdS false = ⟨#[66]⟩ from rfl] at hU
              go_enter Tryd.func21, Tryd.ntmps21
              go_wp2_with (rw [HW1.out])
              refine hBad.mono ?_
              rintro e wB ⟨rfl, rfl⟩
              go_wp2_with fail
              refine hSp.mono ?_
              rintro e wB ⟨rfl, rfl⟩
              go_wp2_with fail
              refine hU.mono ?_
              rintro e w3 ⟨rfl, hb3⟩
              have hL3 : Lies w3 w.heap.size #[.string ⟨#[]⟩, .string ⟨#[]⟩, .string ⟨#[]⟩, .int .i64 0, .int .i64 0] 44 := HL2.out.below hb3 (by omega)
              have hP3 : Lies w3 (w.heap.size + 1) #[.string A, .string C, .string D, .string X, .string E] 9 := HP2.out.below hb3 (by omega)
              have HB3 : Hid (Below w.heap.size w w3) := HB2.out.trans (hb3.mono (by omega))
              have HL3 : Hid (Lies w3 w.heap.size #[.string ⟨#[]⟩, .string ⟨#[]⟩, .string ⟨#[]⟩, .int .i64 0, .int .i64 0] 44) := hL3
              have hz3 : w.heap.size + 2 ≤ w3.heap.size := hP3.lt
              have p1 : w3.cell? ⟨w.heap.size + 1, 1, none⟩ = some (.string C) := hP3.cell 1
              have p3 : w3.cell? ⟨w.heap.size + 1, 3, none⟩ = some (.string X) := hP3.cell 3
              clear hL3 hP3 hb3 q0 q1 q2 q3 q4
              go_wp2_with fail
              refine wp_region_late (fun wx => Below w3.heap.size w3 wx) 10 (by kernel_rfl) (Below.refl _ _).drew (fun hHeld => ?_)
              refine wpAnyE_tk (i := 0) (d := some 57) (v := .slice (some ⟨w.heap.size + 1, 0, none⟩) 5 5) rfl (by kernel_rfl) (by kernel_rfl) (by kernel_rfl) rfl (fun _ _ _ h => h) rfl rfl ?hy (by assumption) ?_
              case hy => (intro w' hSw; go_simp <;> (first | with_reducible rfl | omega | skip))
              simp only [Act.put, List.setIfInBounds_toArray, List.set_cons_zero, List.set_cons_succ]
              refine wpAnyE_tk (i := 1) (d := some 58) (v := .pointer (some ⟨w.heap.size + 1, 1, none⟩)) rfl (by kernel_rfl) (by kernel_rfl) (by kernel_rfl) rfl (fun _ _ _ h => h) rfl rfl ?hy (by assumption) ?_
              case hy => (intro w' hSw; go_simp <;> (first | with_reducible rfl | omega | skip))
              simp only [Act.put, List.setIfInBounds_toArray, List.set_cons_zero, List.set_cons_succ]
              refine wpAnyE_tk (i := 2) (d := some 59) (v := .string C) rfl (by kernel_rfl) (by kernel_rfl) (by kernel_rfl) rfl (fun _ _ _ h => h) rfl rfl ?hy (by assumption) ?_
              case hy => (intro w' hSw; have h1 := (hSw.cell (p := ⟨w.heap.size + 1, 1, none⟩) (by show w.heap.size + 1 < _; omega)).trans p1; go_simp <;> (first | with_reducible rfl | omega | skip))
              simp only [Act.put, List.setIfInBounds_toArray, List.set_cons_zero, List.set_cons_succ]
              refine wpAnyE_tk (i := 3) (d := some 60) (v := .string ⟨#[66]⟩) rfl (by kernel_rfl) (by kernel_rfl) (by kernel_rfl) rfl (fun _ _ _ h => h) rfl rfl ?hy (by assumption) ?_
              case hy => (intro w' hSw; go_simp <;> (first | with_reducible rfl | omega | skip))
              simp only [Act.put, List.setIfInBounds_toArray, List.set_cons_zero, List.set_cons_succ]
              refine wpAnyE_tk (i := 4) (d := some 61) (v := .slice (some ⟨w.heap.size + 1, 0, none⟩) 5 5) rfl (by kernel_rfl) (by kernel_rfl) (by kernel_rfl) rfl (fun _ _ _ h => h) rfl rfl ?hy (by assumption) ?_
              case hy => (intro w' hSw; go_simp <;> (first | with_reducible rfl | omega | skip))
              simp only [Act.put, List.setIfInBounds_toArray, List.set_cons_zero, List.set_cons_succ]
              refine wpAnyE_tk (i := 5) (d := some 62) (v := .pointer (some ⟨w.heap.size + 1, 3, none⟩)) rfl (by kernel_rfl) (by kernel_rfl) (by kernel_rfl) rfl (fun _ _ _ h => h) rfl rfl ?hy (by assumption) ?_
              case hy => (intro w' hSw; go_simp <;> (first | with_reducible rfl | omega | skip))
              simp only [Act.put, List.setIfInBounds_toArray, List.set_cons_zero, List.set_cons_succ]
              refine wpAnyE_tk (i := 6) (d := some 63) (v := .string X) rfl (by kernel_rfl) (by kernel_rfl) (by kernel_rfl) rfl (fun _ _ _ h => h) rfl rfl ?hy (by assumption) ?_
              case hy => (intro w' hSw; have h1 := (hSw.cell (p := ⟨w.heap.size + 1, 3, none⟩) (by show w.heap.size + 1 < _; omega)).trans p3; go_simp <;> (first | with_reducible rfl | omega | skip))
              simp only [Act.put, List.setIfInBounds_toArray, List.set_cons_zero, List.set_cons_succ]
              refine wpAnyE_tk (i := 7) (d := some 64) (v := .agg #[.string C, .string ⟨#[66]⟩, .string X, .int .i64 0, .int .i64 0]) rfl (by kernel_rfl) (by kernel_rfl) (by kernel_rfl) rfl (fun _ _ _ h => h) rfl rfl ?hy (by assumption) ?_
              case hy => (intro w' hSw; go_simp <;> (first | with_reducible rfl | omega | skip))
              simp only [Act.put, List.setIfInBounds_toArray, List.set_cons_zero, List.set_cons_succ]
              refine wpAnyE_on (i := 8) (by kernel_rfl) rfl rfl ?_
              go_simp
              refine ⟨((Below.refl _ _).alloc (Nat.le_refl _) _).drew, ?_⟩
              obtain ⟨w4, hw4⟩ : ∃ w4, w4 = (w3.alloc (.cells #[.string ⟨#[]⟩, .string ⟨#[]⟩, .string ⟨#[]⟩, .int .i64 0, .int .i64 0] 44)).drew := ⟨_, rfl⟩
              have hb4 : Below w3.heap.size w3 w4 := by rw [hw4]; exact ((Below.refl _ _).alloc (Nat.le_refl _) _).drew
              have hL4 : Lies w4 w3.heap.size #[.string ⟨#[]⟩, .string ⟨#[]⟩, .string ⟨#[]⟩, .int .i64 0, .int .i64 0] 44 := by rw [hw4]; exact (Lies.new w3 _ _)
              have HR4 : Hid (Lies w4 w.heap.size #[.string ⟨#[]⟩, .string ⟨#[]⟩, .string ⟨#[]⟩, .int .i64 0, .int .i64 0] 44) := HL3.out.below hb4 (by omega)
              have HB4 : Hid (Below w.heap.size w w4) := HB3.out.trans (hb4.mono (by omega))
              rw [← hw4]
              have d0 := hL4.cell 0
              have d1 := hL4.cell 1
              have d2 := hL4.cell 2
              have d3 := hL4.cell 3
              have d4 := hL4.cell 4
              have e0 := hL4.frozen 0
              have e1 := hL4.frozen 1
              have e2 := hL4.frozen 2
              have e3 := hL4.frozen 3
              have e4 := hL4.frozen 4
              have HL4 : Hid (Lies w4 w3.heap.size #[.string ⟨#[]⟩, .string ⟨#[]⟩, .string ⟨#[]⟩, .int .i64 0, .int .i64 0] 44) := hL4
              have HBB4 : Hid (Below w3.heap.size w3 w4) := hb4
              have HRR := HL3
              clear hL4 hw4 hb4 hHeld p1 p3 HL3
              refine wpAnyE_on (i := 9) (by kernel_rfl) rfl rfl ?_
              go_simp
              obtain ⟨w5, hw5⟩ : ∃ w5, w5 = (((((w4.setCell ⟨w3.heap.size, 0, none⟩ (.string C)).setCell ⟨w3.heap.size, 1, none⟩ (.string ⟨#[66]⟩)).setCell ⟨w3.heap.size, 2, none⟩ (.string X)).setCell ⟨w3.heap.size, 3, none⟩ (.int .i64 0)).setCell ⟨w3.heap.size, 4, none⟩ (.int .i64 0)) := ⟨_, rfl⟩
              have hb5 : Below w3.heap.size w3 w5 := by rw [hw5]; exact ((((HBB4.out.setCell (p := ⟨w3.heap.size, 0, none⟩) (Nat.le_refl _) _).setCell (p := ⟨w3.heap.size, 1, none⟩) (Nat.le_refl _) _).setCell (p := ⟨w3.heap.size, 2, none⟩) (Nat.le_refl _) _).setCell (p := ⟨w3.heap.size, 3, none⟩) (Nat.le_refl _) _).setCell (p := ⟨w3.heap.size, 4, none⟩) (Nat.le_refl _) _
              have hL5 : Lies w5 w3.heap.size #[.string C, .string ⟨#[66]⟩, .string X, .int .i64 0, .int .i64 0] 44 := by rw [hw5]; exact ((((HL4.out.set 0 _).set 1 _).set 2 _).set 3 _).set 4 _
              have hR5 : Lies w5 w.heap.size #[.string ⟨#[]⟩, .string ⟨#[]⟩, .string ⟨#[]⟩, .int .i64 0, .int .i64 0] 44 := HRR.out.below hb5 (by omega)
              have HB5 : Hid (Below w.heap.size w w5) := HB3.out.trans (hb5.mono (by omega))
              rw [← hw5]
              refine ⟨hb5, ?_⟩
              refine wpAnyE_done (by kernel_rfl) ?_ _
              clear hw5 hb5 HL4 HBB4 HB4 HR4 d0 d1 d2 d3 d4 e0 e1 e2 e3 e4 HB3 HRR
              generalize w3.heap.size = g at *
              have n1 : w.heap.size ≠ g := by omega
              have n2 : g ≠ w.heap.size := by omega
              have c0 := hR5.cell 0
              have c1 := hR5.cell 1
              have c2 := hR5.cell 2
              have c3 := hR5.cell 3
              have c4 := hR5.cell 4
              have f0 := hR5.frozen 0
              have f1 := hR5.frozen 1
              have f2 := hR5.frozen 2
              have f3 := hR5.frozen 3
              have f4 := hR5.frozen 4
              have d0 := hL5.cell 0
              have d1 := hL5.cell 1
              have d2 := hL5.cell 2
              have d3 := hL5.cell 3
              have d4 := hL5.cell 4
              have e3 := hL5.frozen 3
              have e4 := hL5.frozen 4
              have hXsI : (X.size : Int) + 2 ≤ (t : Int) - (f : Int) := by omega
              clear hL5 hR5
              go_wp2
              refine bodyPost_ret (v := .tuple #[.agg #[.string C, .string ⟨#[66]⟩, .string X, .int .i64 ((f : Int) + 2), .int .i64 ((t : Int) - 2 - (X.size : Int))], .bool true]) (by simp [results, Tryd.results21, go_sem, c0, c1, c2, c3, c4]) rfl ⟨?_, ?_⟩
              · rw [HR.out]
                have e2 : ((t - 2 - X.data.toList.length : Nat) : Int) = (t : Int) - 2 - (X.size : Int) := by rw [len_list]; omega
                have e1 : ((f + 2 : Nat) : Int) = (f : Int) + 2 := by omega
                simp only [enC, bS_of, cdS, e1, e2]
                rfl
              · exact ((((((HB5.out.setCell (p := ⟨g, 3, none⟩) (by show _ ≤ g; omega) _).setCell (p := ⟨g, 4, none⟩) (by show _ ≤ g; omega) _).setCell (p := ⟨w.heap.size, 0, none⟩) (Nat.le_refl _) _).setCell (p := ⟨w.heap.size, 1, none⟩) (Nat.le_refl _) _).setCell (p := ⟨w.heap.size, 2, none⟩) (Nat.le_refl _) _).setCell (p := ⟨w.heap.size, 3, none⟩) (Nat.le_refl _) _).setCell (p := ⟨w.heap.size, 4, none⟩) (Nat.le_refl _) _
            · by_cases hQ : upL D.data.toList = [81]
              · have HR : Hid (pW W.data.toList = some (C.data.toList, true, X.data.toList)) := by show _ = _; rw [hPw, if_pos ⟨hA, hC, hE, .inr hQ⟩, hQ]; rfl
                have HU := ups_list D
                have hUU : upS D = cdS true := by
                  have : bS (upS D).data.toList = bS [81] := by rw [← ByteArray.toList_eq, HU, hQ]
                  rw [bS_of] at this
                  rw [this]
                  rfl
                rw [hUU] at hU
                have hXl : X.size + 2 ≤ t - f := hXs
                clear hPw hA hC hE hpc hQ HU hUU c0 c1 c2 c3 c4 f0 f1 f2 f3 f4
                rw [show cdS true = ⟨#[81]⟩ from rfl] at hU
                go_enter Tryd.func21, Tryd.ntmps21
                go_wp2_with (rw [HW1.out])
                refine hBad.mono ?_
                rintro e wB ⟨rfl, rfl⟩
                go_wp2_with fail
                refine hSp.mono ?_
                rintro e wB ⟨rfl, rfl⟩
                go_wp2_with fail
                refine hU.mono ?_
                rintro e w3 ⟨rfl, hb3⟩
                have hL3 : Lies w3 w.heap.size #[.string ⟨#[]⟩, .string ⟨#[]⟩, .string ⟨#[]⟩, .int .i64 0, .int .i64 0] 44 := HL2.out.below hb3 (by omega)
                have hP3 : Lies w3 (w.heap.size + 1) #[.string A, .string C, .string D, .string X, .string E] 9 := HP2.out.below hb3 (by omega)
                have HB3 : Hid (Below w.heap.size w w3) := HB2.out.trans (hb3.mono (by omega))
                have HL3 : Hid (Lies w3 w.heap.size #[.string ⟨#[]⟩, .string ⟨#[]⟩, .string ⟨#[]⟩, .int .i64 0, .int .i64 0] 44) := hL3
                have hz3 : w.heap.size + 2 ≤ w3.heap.size := hP3.lt
                have p1 : w3.cell? ⟨w.heap.size + 1, 1, none⟩ = some (.string C) := hP3.cell 1
                have p3 : w3.cell? ⟨w.heap.size + 1, 3, none⟩ = some (.string X) := hP3.cell 3
                clear hL3 hP3 hb3 q0 q1 q2 q3 q4
                go_wp2_with fail
                refine wp_region_late (fun wx => Below w3.heap.size w3 wx) 10 (by kernel_rfl) (Below.refl _ _).drew (fun hHeld => ?_)
                refine wpAnyE_tk (i := 0) (d := some 57) (v := .slice (some ⟨w.heap.size + 1, 0, none⟩) 5 5) rfl (by kernel_rfl) (by kernel_rfl) (by kernel_rfl) rfl (fun _ _ _ h => h) rfl rfl ?hy (by assumption) ?_
                case hy => (intro w' hSw; go_simp <;> (first | with_reducible rfl | omega | skip))
                simp only [Act.put, List.setIfInBounds_toArray, List.set_cons_zero, List.set_cons_succ]
                refine wpAnyE_tk (i := 1) (d := some 58) (v := .pointer (some ⟨w.heap.size + 1, 1, none⟩)) rfl (by kernel_rfl) (by kernel_rfl) (by kernel_rfl) rfl (fun _ _ _ h => h) rfl rfl ?hy (by assumption) ?_
                case hy => (intro w' hSw; go_simp <;> (first | with_reducible rfl | omega | skip))
                simp only [Act.put, List.setIfInBounds_toArray, List.set_cons_zero, List.set_cons_succ]
                refine wpAnyE_tk (i := 2) (d := some 59) (v := .string C) rfl (by kernel_rfl) (by kernel_rfl) (by kernel_rfl) rfl (fun _ _ _ h => h) rfl rfl ?hy (by assumption) ?_
                case hy => (intro w' hSw; have h1 := (hSw.cell (p := ⟨w.heap.size + 1, 1, none⟩) (by show w.heap.size + 1 < _; omega)).trans p1; go_simp <;> (first | with_reducible rfl | omega | skip))
                simp only [Act.put, List.setIfInBounds_toArray, List.set_cons_zero, List.set_cons_succ]
                refine wpAnyE_tk (i := 3) (d := some 60) (v := .string ⟨#[81]⟩) rfl (by kernel_rfl) (by kernel_rfl) (by kernel_rfl) rfl (fun _ _ _ h => h) rfl rfl ?hy (by assumption) ?_
                case hy => (intro w' hSw; go_simp <;> (first | with_reducible rfl | omega | skip))
                simp only [Act.put, List.setIfInBounds_toArray, List.set_cons_zero, List.set_cons_succ]
                refine wpAnyE_tk (i := 4) (d := some 61) (v := .slice (some ⟨w.heap.size + 1, 0, none⟩) 5 5) rfl (by kernel_rfl) (by kernel_rfl) (by kernel_rfl) rfl (fun _ _ _ h => h) rfl rfl ?hy (by assumption) ?_
                case hy => (intro w' hSw; go_simp <;> (first | with_reducible rfl | omega | skip))
                simp only [Act.put, List.setIfInBounds_toArray, List.set_cons_zero, List.set_cons_succ]
                refine wpAnyE_tk (i := 5) (d := some 62) (v := .pointer (some ⟨w.heap.size + 1, 3, none⟩)) rfl (by kernel_rfl) (by kernel_rfl) (by kernel_rfl) rfl (fun _ _ _ h => h) rfl rfl ?hy (by assumption) ?_
                case hy => (intro w' hSw; go_simp <;> (first | with_reducible rfl | omega | skip))
                simp only [Act.put, List.setIfInBounds_toArray, List.set_cons_zero, List.set_cons_succ]
                refine wpAnyE_tk (i := 6) (d := some 63) (v := .string X) rfl (by kernel_rfl) (by kernel_rfl) (by kernel_rfl) rfl (fun _ _ _ h => h) rfl rfl ?hy (by assumption) ?_
                case hy => (intro w' hSw; have h1 := (hSw.cell (p := ⟨w.heap.size + 1, 3, none⟩) (by show w.heap.size + 1 < _; omega)).trans p3; go_simp <;> (first | with_reducible rfl | omega | skip))
                simp only [Act.put, List.setIfInBounds_toArray, List.set_cons_zero, List.set_cons_succ]
                refine wpAnyE_tk (i := 7) (d := some 64) (v := .agg #[.string C, .string ⟨#[81]⟩, .string X, .int .i64 0, .int .i64 0]) rfl (by kernel_rfl) (by kernel_rfl) (by kernel_rfl) rfl (fun _ _ _ h => h) rfl rfl ?hy (by assumption) ?_
                case hy => (intro w' hSw; go_simp <;> (first | with_reducible rfl | omega | skip))
                simp only [Act.put, List.setIfInBounds_toArray, List.set_cons_zero, List.set_cons_succ]
                refine wpAnyE_on (i := 8) (by kernel_rfl) rfl rfl ?_
                go_simp
                refine ⟨((Below.refl _ _).alloc (Nat.le_refl _) _).drew, ?_⟩
                obtain ⟨w4, hw4⟩ : ∃ w4, w4 = (w3.alloc (.cells #[.string ⟨#[]⟩, .string ⟨#[]⟩, .string ⟨#[]⟩, .int .i64 0, .int .i64 0] 44)).drew := ⟨_, rfl⟩
                have hb4 : Below w3.heap.size w3 w4 := by rw [hw4]; exact ((Below.refl _ _).alloc (Nat.le_refl _) _).drew
                have hL4 : Lies w4 w3.heap.size #[.string ⟨#[]⟩, .string ⟨#[]⟩, .string ⟨#[]⟩, .int .i64 0, .int .i64 0] 44 := by rw [hw4]; exact (Lies.new w3 _ _)
                have HR4 : Hid (Lies w4 w.heap.size #[.string ⟨#[]⟩, .string ⟨#[]⟩, .string ⟨#[]⟩, .int .i64 0, .int .i64 0] 44) := HL3.out.below hb4 (by omega)
                have HB4 : Hid (Below w.heap.size w w4) := HB3.out.trans (hb4.mono (by omega))
                rw [← hw4]
                have d0 := hL4.cell 0
                have d1 := hL4.cell 1
                have d2 := hL4.cell 2
                have d3 := hL4.cell 3
                have d4 := hL4.cell 4
                have e0 := hL4.frozen 0
                have e1 := hL4.frozen 1
                have e2 := hL4.frozen 2
                have e3 := hL4.frozen 3
                have e4 := hL4.frozen 4
                have HL4 : Hid (Lies w4 w3.heap.size #[.string ⟨#[]⟩, .string ⟨#[]⟩, .string ⟨#[]⟩, .int .i64 0, .int .i64 0] 44) := hL4
                have HBB4 : Hid (Below w3.heap.size w3 w4) := hb4
                have HRR := HL3
                clear hL4 hw4 hb4 hHeld p1 p3 HL3
                refine wpAnyE_on (i := 9) (by kernel_rfl) rfl rfl ?_
                go_simp
                obtain ⟨w5, hw5⟩ : ∃ w5, w5 = (((((w4.setCell ⟨w3.heap.size, 0, none⟩ (.string C)).setCell ⟨w3.heap.size, 1, none⟩ (.string ⟨#[81]⟩)).setCell ⟨w3.heap.size, 2, none⟩ (.string X)).setCell ⟨w3.heap.size, 3, none⟩ (.int .i64 0)).setCell ⟨w3.heap.size, 4, none⟩ (.int .i64 0)) := ⟨_, rfl⟩
                have hb5 : Below w3.heap.size w3 w5 := by rw [hw5]; exact ((((HBB4.out.setCell (p := ⟨w3.heap.size, 0, none⟩) (Nat.le_refl _) _).setCell (p := ⟨w3.heap.size, 1, none⟩) (Nat.le_refl _) _).setCell (p := ⟨w3.heap.size, 2, none⟩) (Nat.le_refl _) _).setCell (p := ⟨w3.heap.size, 3, none⟩) (Nat.le_refl _) _).setCell (p := ⟨w3.heap.size, 4, none⟩) (Nat.le_refl _) _
                have hL5 : Lies w5 w3.heap.size #[.string C, .string ⟨#[81]⟩, .string X, .int .i64 0, .int .i64 0] 44 := by rw [hw5]; exact ((((HL4.out.set 0 _).set 1 _).set 2 _).set 3 _).set 4 _
                have hR5 : Lies w5 w.heap.size #[.string ⟨#[]⟩, .string ⟨#[]⟩, .string ⟨#[]⟩, .int .i64 0, .int .i64 0] 44 := HRR.out.below hb5 (by omega)
                have HB5 : Hid (Below w.heap.size w w5) := HB3.out.trans (hb5.mono (by omega))
                rw [← hw5]
                refine ⟨hb5, ?_⟩
                refine wpAnyE_done (by kernel_rfl) ?_ _
                clear hw5 hb5 HL4 HBB4 HB4 HR4 d0 d1 d2 d3 d4 e0 e1 e2 e3 e4 HB3 HRR
                generalize w3.heap.size = g at *
                have n1 : w.heap.size ≠ g := by omega
                have n2 : g ≠ w.heap.size := by omega
                have c0 := hR5.cell 0
                have c1 := hR5.cell 1
                have c2 := hR5.cell 2
                have c3 := hR5.cell 3
                have c4 := hR5.cell 4
                have f0 := hR5.frozen 0
                have f1 := hR5.frozen 1
                have f2 := hR5.frozen 2
                have f3 := hR5.frozen 3
                have f4 := hR5.frozen 4
                have d0 := hL5.cell 0
                have d1 := hL5.cell 1
                have d2 := hL5.cell 2
                have d3 := hL5.cell 3
                have d4 := hL5.cell 4
                have e3 := hL5.frozen 3
                have e4 := hL5.frozen 4
                have hXsI : (X.size : Int) + 2 ≤ (t : Int) - (f : Int) := by omega
                clear hL5 hR5
                go_wp2
                refine bodyPost_ret (v := .tuple #[.agg #[.string C, .string ⟨#[81]⟩, .string X, .int .i64 ((f : Int) + 2), .int .i64 ((t : Int) - 2 - (X.size : Int))], .bool true]) (by simp [results, Tryd.results21, go_sem, c0, c1, c2, c3, c4]) rfl ⟨?_, ?_⟩
                · rw [HR.out]
                  have e2 : ((t - 2 - X.data.toList.length : Nat) : Int) = (t : Int) - 2 - (X.size : Int) := by rw [len_list]; omega
                  have e1 : ((f + 2 : Nat) : Int) = (f : Int) + 2 := by omega
                  simp only [enC, bS_of, cdS, e1, e2]
                  rfl
                · exact ((((((HB5.out.setCell (p := ⟨g, 3, none⟩) (by show _ ≤ g; omega) _).setCell (p := ⟨g, 4, none⟩) (by show _ ≤ g; omega) _).setCell (p := ⟨w.heap.size, 0, none⟩) (Nat.le_refl _) _).setCell (p := ⟨w.heap.size, 1, none⟩) (Nat.le_refl _) _).setCell (p := ⟨w.heap.size, 2, none⟩) (Nat.le_refl _) _).setCell (p := ⟨w.heap.size, 3, none⟩) (Nat.le_refl _) _).setCell (p := ⟨w.heap.size, 4, none⟩) (Nat.le_refl _) _
              · have HR : Hid (pW W.data.toList = none) := by show _ = _; rw [hPw, if_neg (by rintro ⟨_, _, _, h | h⟩; exact hB h; exact hQ h)]
                have HU := ups_list D
                obtain ⟨U, hUU⟩ : ∃ U, U = upS D := ⟨_, rfl⟩
                rw [← hUU] at hU HU
                have kB : (U.toList == [66]) = false := by rw [HU, beq_eq_false_iff_ne]; exact hB
                have kQ : (U.toList == [81]) = false := by rw [HU, beq_eq_false_iff_ne]; exact hQ
                clear hPw hA hC hE hpc hB hQ HU hUU c0 c1 c2 c3 c4 f0 f1 f2 f3 f4
                go_enter Tryd.func21, Tryd.ntmps21
                go_wp2_with (rw [HW1.out])
                refine hBad.mono ?_
                rintro e wB ⟨rfl, rfl⟩
                go_wp2_with fail
                refine hSp.mono ?_
                rintro e wB ⟨rfl, rfl⟩
                go_wp2_with fail
                refine hU.mono ?_
                rintro e w3 ⟨rfl, hb3⟩
                have hL3 : Lies w3 w.heap.size #[.string ⟨#[]⟩, .string ⟨#[]⟩, .string ⟨#[]⟩, .int .i64 0, .int .i64 0] 44 := HL2.out.below hb3 (by omega)
                have HB3 : Hid (Below w.heap.size w w3) := HB2.out.trans (hb3.mono (by omega))
                have c0 := hL3.cell 0
                have c1 := hL3.cell 1
                have c2 := hL3.cell 2
                have c3 := hL3.cell 3
                have c4 := hL3.cell 4
                have f0 := hL3.frozen 0
                have f1 := hL3.frozen 1
                have f2 := hL3.frozen 2
                have f3 := hL3.frozen 3
                have f4 := hL3.frozen 4
                clear hL3 hb3
                go_wp2
                refine bodyPost_ret (v := .tuple #[.agg #[.string ⟨#[]⟩, .string ⟨#[]⟩, .string ⟨#[]⟩, .int .i64 0, .int .i64 0], .bool false]) (by simp [results, Tryd.results21, go_sem, c0, c1, c2, c3, c4]) rfl ⟨by rw [HR.out]; rfl, ?_⟩
                exact ((((HB3.out.setCell (p := ⟨w.heap.size, 0, none⟩) (Nat.le_refl _) _).setCell (p := ⟨w.heap.size, 1, none⟩) (Nat.le_refl _) _).setCell (p := ⟨w.heap.size, 2, none⟩) (Nat.le_refl _) _).setCell (p := ⟨w.heap.size, 3, none⟩) (Nat.le_refl _) _).setCell (p := ⟨w.heap.size, 4, none⟩) (Nat.le_refl _) _
          · have HR : Hid (pW W.data.toList = none) := by show _ = _; rw [hPw, if_neg (by rintro ⟨_, _, h, _⟩; exact hE h)]
            have kA : (A.toList == [61]) = true := by rw [ByteArray.toList_eq, hA]; rfl
            have kC : C.toList.isEmpty = false := by rw [ByteArray.toList_eq, List.isEmpty_eq_false_iff]; exact hC
            have kE : (E.toList == [61]) = false := by rw [ByteArray.toList_eq, beq_eq_false_iff_ne]; exact hE
            clear hPw hA hC hE hpc
            go_enter Tryd.func21, Tryd.ntmps21
            go_wp2_with (rw [HW1.out])
            refine hBad.mono ?_
            rintro e wB ⟨rfl, rfl⟩
            go_wp2_with fail
            refine hSp.mono ?_
            rintro e wB ⟨rfl, rfl⟩
            go_wp2
            refine bodyPost_ret (v := .tuple #[.agg #[.string ⟨#[]⟩, .string ⟨#[]⟩, .string ⟨#[]⟩, .int .i64 0, .int .i64 0], .bool false]) (by simp [results, Tryd.results21, go_sem, c0, c1, c2, c3, c4]) rfl ⟨by rw [HR.out]; rfl, ?_⟩
            exact ((((HB2.out.setCell (p := ⟨w.heap.size, 0, none⟩) (Nat.le_refl _) _).setCell (p := ⟨w.heap.size, 1, none⟩) (Nat.le_refl _) _).setCell (p := ⟨w.heap.size, 2, none⟩) (Nat.le_refl _) _).setCell (p := ⟨w.heap.size, 3, none⟩) (Nat.le_refl _) _).setCell (p := ⟨w.heap.size, 4, none⟩) (Nat.le_refl _) _
      · have HR : Hid (pW W.data.toList = none) := by show _ = _; rw [hPw, if_neg (by rintro ⟨h, _⟩; exact hA h)]
        have kA : (A.toList == [61]) = false := by rw [ByteArray.toList_eq, beq_eq_false_iff_ne]; exact hA
        clear hPw hA hpc
        go_enter Tryd.func21, Tryd.ntmps21
        go_wp2_with (rw [HW1.out])
        refine hBad.mono ?_
        rintro e wB ⟨rfl, rfl⟩
        go_wp2_with fail
        refine hSp.mono ?_
        rintro e wB ⟨rfl, rfl⟩
        go_wp2
        refine bodyPost_ret (v := .tuple #[.agg #[.string ⟨#[]⟩, .string ⟨#[]⟩, .string ⟨#[]⟩, .int .i64 0, .int .i64 0], .bool false]) (by simp [results, Tryd.results21, go_sem, c0, c1, c2, c3, c4]) rfl ⟨by rw [HR.out]; rfl, ?_⟩
        exact ((((HB2.out.setCell (p := ⟨w.heap.size, 0, none⟩) (Nat.le_refl _) _).setCell (p := ⟨w.heap.size, 1, none⟩) (Nat.le_refl _) _).setCell (p := ⟨w.heap.size, 2, none⟩) (Nat.le_refl _) _).setCell (p := ⟨w.heap.size, 3, none⟩) (Nat.le_refl _) _).setCell (p := ⟨w.heap.size, 4, none⟩) (Nat.le_refl _) _
    · have HR : Hid (pW W.data.toList = none) := pW_not (by rw [← hpc, List.length_map]; exact h5)
      have h5b : ((PS.length : Int) != 5) = true := by simp; omega
      rw [hW] at hBad hyi hSp
      clear HSP hpc hPS hWL hy hw1 hW hN hpl hb1 hsz1 hw2 hP2 hbn
      go_enter Tryd.func21, Tryd.ntmps21
      go_wp2_with (rw [HW1.out])
      refine hBad.mono ?_
      rintro e wB ⟨rfl, rfl⟩
      go_wp2_with fail
      refine hSp.mono ?_
      rintro e wB ⟨rfl, rfl⟩
      go_wp2
      refine bodyPost_ret (v := .tuple #[.agg #[.string ⟨#[]⟩, .string ⟨#[]⟩, .string ⟨#[]⟩, .int .i64 0, .int .i64 0], .bool false]) (by simp [results, Tryd.results21, go_sem, c0, c1, c2, c3, c4]) rfl ⟨by rw [HR.out]; rfl, ?_⟩
      exact ((((HB2.out.setCell (p := ⟨w.heap.size, 0, none⟩) (Nat.le_refl _) _).setCell (p := ⟨w.heap.size, 1, none⟩) (Nat.le_refl _) _).setCell (p := ⟨w.heap.size, 2, none⟩) (Nat.le_refl _) _).setCell (p := ⟨w.heap.size, 3, none⟩) (Nat.le_refl _) _).setCell (p := ⟨w.heap.size, 4, none⟩) (Nat.le_refl _) _
end Go.Proofs.YtdgepnfgjgbkoaaDoor
