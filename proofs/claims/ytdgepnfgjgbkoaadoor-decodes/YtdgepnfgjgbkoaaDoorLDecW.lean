/-
  What a row's list gives the walks of the stage; a world for the witnesses.
-/
import Derived.Test.YtdgepnfgjgbkoaaDoorCardX10
import Derived.Test.YtdgepnfgjgbkoaaDoorSpan4
import Derived.LaidLaws
import Derived.Shelf.Vars
import Derived.Test.YtdgepnfgjgbkoaaDoorVh17
import Derived.Test.YtdgepnfgjgbkoaaDoorVn17
namespace Go.Proofs.YtdgepnfgjgbkoaaDoor
open Go.ChangeShapes Go.WideShapes Go.ChangeAt Go.RowKit
theorem gFs : Tryd.prog.globalNamed "posthorn/runes.firsts" = some 0 := by kernel_rfl
theorem tFs : (Tryd.prog.globals[(0 : Nat)]?).map (·.type) = some 111 := by kernel_rfl
theorem cellsF : Tryd.prog.cellsOf 110 = 5 := by kernel_rfl
theorem cellsFs : Tryd.prog.cellsOf 111 = 40 := by kernel_rfl
theorem cells5 : Tryd.prog.cellsOf 5 = 1 := by kernel_rfl
theorem laid_fst : (Rows.laid_posthorn_runes_firsts : DataW Unit) = .agg (fsRows.map fun r => .agg (r.map fun x => .lit (.int .u8 x))) := rfl

theorem fst_of_trod {enc : TypeId × Value → Unit} {W : World} {base : Nat} {sp : Nat → Bool} {held : Bool} {cs : Array Value} {fuel : Nat} {p : List MemPlace}
    (hv : W.var? Tryd.prog "posthorn/runes.firsts" = some cs)
    (hd : DataW.trod enc Tryd.prog W base sp held fuel 111 cs.toList = some (Rows.laid_posthorn_runes_firsts, p)) : Fst W := by
  obtain ⟨xs, m, _, hx, hlen, hn, hel⟩ := DataW.trod_array Tryd.underlying111 hd
  rw [laid_fst] at hx
  simp only [Prod.mk.injEq, DataW.agg.injEq] at hx
  obtain ⟨hx, -⟩ := hx
  have key : ∀ c, c < 8 → ∀ i, i < 5 → cs[c * 5 + i]? = some (.int .u8 (fsAt c i)) := by
    intro c hc i hi
    have h1 := hel c hc
    have hxc : c < xs.length := by omega
    rw [List.getElem?_eq_getElem hxc, cellsF] at h1
    obtain ⟨ys, n, _, hy, hl, hyl, hf⟩ := DataW.trod_struct Tryd.underlying110 h1
    have hrow : c < fsRows.length := hc
    have e1 := congrArg (fun l => l[c]?) hx
    simp only [List.getElem?_map, List.getElem?_eq_getElem hxc, List.getElem?_eq_getElem hrow, Option.map_some, Option.some.injEq, hy, DataW.agg.injEq] at e1
    have hr5 : (fsRows[c]).length = 5 := by
      have : ∀ k : Fin 8, (fsRows[k.val]'k.isLt).length = 5 := by decide
      exact this ⟨c, hc⟩
    have hyi : i < ys.length := by
      have := congrArg List.length e1
      simp only [List.length_map, hr5] at this
      omega
    have e2 := congrArg (fun l => l[i]?) e1
    simp only [List.getElem?_map, List.getElem?_eq_getElem hyi, List.getElem?_eq_getElem (show i < (fsRows[c]).length by omega), Option.map_some, Option.some.injEq] at e2
    have hat : fsAt c i = (fsRows[c])[i]'(by omega) := by
      unfold fsAt
      simp [List.getD_eq_getElem?_getD, List.getElem?_eq_getElem hrow, List.getElem?_eq_getElem (show i < (fsRows[c]).length by omega)]
    have go : ∀ (f : Field), f.type = 5 → f.offset = i → DataW.trod enc Tryd.prog W base sp held n f.type (((List.take 5 (List.drop (c * 5) cs.toList)).drop f.offset).take (Tryd.prog.cellsOf f.type)) = ys[i]? → cs[c * 5 + i]? = some (.int .u8 (fsAt c i)) := by
      intro f ft fo h
      rw [ft, fo, cells5, List.getElem?_eq_getElem hyi] at h
      obtain ⟨z, e3, e4, _⟩ := DataW.trod_int Tryd.underlying5 h
      rw [e4] at e2
      simp only [DataW.lit.injEq, Lit.int.injEq, true_and] at e2
      have h4 := congrArg (fun l => l[0]?) e3
      simp only [List.getElem?_take, List.getElem?_drop] at h4
      rw [hat, e2]
      simpa [show i < 5 from hi] using h4
    have hcase : i = 0 ∨ i = 1 ∨ i = 2 ∨ i = 3 ∨ i = 4 := by omega
    rcases hcase with rfl | rfl | rfl | rfl | rfl
    · exact go _ rfl rfl (hf 0 _ rfl)
    · exact go _ rfl rfl (hf 1 _ rfl)
    · exact go _ rfl rfl (hf 2 _ rfl)
    · exact go _ rfl rfl (hf 3 _ rfl)
    · exact go _ rfl rfl (hf 4 _ rfl)
  have hsz : cs.size = 40 := by
    have := hlen
    rw [cellsFs] at this
    simpa using this
  have hcs : cs = fsCells := by
    apply Array.ext_getElem?
    intro j
    by_cases hj : j < 40
    · have := key (j / 5) (by omega) (j % 5) (by omega)
      rw [show j / 5 * 5 + j % 5 = j from by omega] at this
      rw [this]
      have h : ∀ k : Fin 40, fsCells[k.val]? = some (.int .u8 (fsAt (k.val / 5) (k.val % 5))) := by
        intro k
        have : ∀ k : Fin 40, (fsRows.flatten)[k.val]? = some (fsAt (k.val / 5) (k.val % 5)) := by decide
        unfold fsCells
        rw [List.getElem?_toArray, List.getElem?_map, this k]
        rfl
      exact (h ⟨j, hj⟩).symm
    · have h40 : fsCells.size = 40 := by decide
      rw [Array.getElem?_eq_none (by omega), Array.getElem?_eq_none (by omega)]
  unfold World.var? at hv
  rw [gFs] at hv
  simp only [Option.bind_some] at hv
  split at hv
  · rename_i c t fr hh
    injection hv with hv
    rw [hv, hcs] at hh
    exact ⟨t, fr, hh⟩
  · cases hv


theorem ml_of {W : World} (h : W.ShapedOpen Tryd.prog) : ∃ m, W.cell? ⟨2, 0, none⟩ = some (.int .i64 m) :=
  cell_of_shapedOpen_int (t := 3) (zero := #[.int .i64 0]) h (of_decide_eq_true (by kernel_rfl)) (by kernel_rfl) rfl (by kernel_rfl) (by kernel_rfl) Tryd.underlying3

theorem tabs17_of {W : World} (h : laidMet Tryd.prog [("unicode/utf8.acceptRanges", Rows.laid_unicode_utf8_acceptRanges), ("posthorn/octet.classes", Rows.laid_posthorn_octet_classes), ("posthorn/runes.firsts", Rows.laid_posthorn_runes_firsts), ("unicode/utf8.first", Rows.laid_unicode_utf8_first)] W) (hsh : W.ShapedOpen Tryd.prog) : Tb W := by
  obtain ⟨ps, ⟨g0, t0, cs0, fuel0, p0, q0, hg0, ht0, hv0, hd0, ⟨g1, t1, cs1, fuel1, p1, q1, hg1, ht1, hv1, hd1, ⟨g2, t2, cs2, fuel2, p2, q2, hg2, ht2, hv2, hd2, _, _⟩, _⟩, _⟩, _⟩ := h
  obtain rfl := Option.some.inj (gCl.symm.trans hg1)
  obtain rfl := Option.some.inj (tCl.symm.trans ht1)
  obtain rfl := Option.some.inj (gFs.symm.trans hg2)
  obtain rfl := Option.some.inj (tFs.symm.trans ht2)
  exact ⟨table_of_trod hv1 hd1, fst_of_trod hv2 hd2, ml_of hsh⟩
def litCF : DataW Unit → List Value
  | .lit (.int k z) => [Value.int k z]
  | .lit (.string b) => [Value.string ⟨b.toArray⟩]
  | _ => []
def rowCF : DataW Unit → List Value
  | .agg l => l.flatMap litCF
  | d => litCF d
def datCellsF : DataW Unit → Array Value
  | .agg l => (l.flatMap rowCF).toArray
  | _ => #[]
def layCellsF (d : DataW Unit) : Obj → Obj
  | .cells _ t frozen => .cells (datCellsF d) t frozen
  | o => o
noncomputable def laidWorld17 (os : Os) : World :=
  { World.holding Tryd.prog os ⟨#[], #[], []⟩ with heap := ((((World.holding Tryd.prog os ⟨#[], #[], []⟩).heap.modify 4 (layCellsF Rows.laid_unicode_utf8_acceptRanges)).modify 1 (layCellsF Rows.laid_posthorn_octet_classes)).modify 0 (layCellsF Rows.laid_posthorn_runes_firsts)).modify 3 (layCellsF Rows.laid_unicode_utf8_first) }
end Go.Proofs.YtdgepnfgjgbkoaaDoor
/-
  WordDecodes' walk.
-/
namespace Go.Proofs.YtdgepnfgjgbkoaaDoor.wordDecodes
open Go.ChangeShapes Go.WideShapes Go.ChangeAt Go.RowKit
set_option maxHeartbeats 8000000 in
set_option maxRecDepth 100000 in
theorem walk (s : ByteArray) (hs : s.size ≤ 1048576) (w : World) (tb : Tb w) : Calls Tryd.prog 5 #[.string s] w fun e w' => e = .returned (.bool true) ∧ Below w.heap.size w w' := by
  have HTB : Hid (∀ wx, Below w.heap.size w wx → Tb wx) := fun wx h => tb.below h
  have HVD := vdec_any s hs w
  have HWD : Hid (∀ wx, Below w.heap.size w wx → Calls Tryd.prog 10 #[.string s] wx fun er w' => er = ddE (decW s.data.toList) ∧ Below wx.heap.size wx w') := fun wx h => wdec_any s (by omega) wx (HTB.out wx h)
  have HVN : Hid (∀ wx, Calls Tryd.prog 15 #[.string s] wx fun e w' => e = .returned (.bool (needW s.data.toList)) ∧ Below wx.heap.size wx w') := fun wx => vneeds_any s (by omega) wx
  have HWN : Hid (∀ wx, Below w.heap.size w wx → Calls Tryd.prog 12 #[.string s] wx fun e w' => e = .returned (.bool (needW s.data.toList)) ∧ Below wx.heap.size wx w') := fun wx h => wneeds_any s (by omega) wx (HTB.out wx h)
  have WAKE : Hid (∀ wx, Below w.heap.size w wx → Calls Tryd.prog 9 #[] wx fun e w' => e = .returned (.bool true) ∧ Below wx.heap.size wx w') := fun wx h => wakes_any wx (HTB.out wx h)
  unfold ddE at HVD HWD
  clear tb
  generalize bS (decW s.data.toList).1 = T at *
  generalize (decW s.data.toList).2.1 = E at *
  generalize (decW s.data.toList).2.2 = A at *
  generalize needW s.data.toList = nd at *
  go_enter Tryd.func5, Tryd.ntmps5
  go_wp2_with fail
  refine HVD.mono ?_
  rintro e w1 ⟨rfl, hB1⟩
  have HB1 : Hid (Below w.heap.size w w1) := hB1
  obtain ⟨W2, hW2⟩ : ∃ W2, W2 = w1.alloc (.cells #[.int .i64 (E : Int), .int .i64 (A : Int)] 25) := ⟨_, rfl⟩
  have HB2 : Hid (Below w.heap.size w W2) := by subst hW2; exact HB1.out.alloc HB1.out.size _
  have HL2 : Hid (Lies W2 w1.heap.size #[.int .i64 (E : Int), .int .i64 (A : Int)] 25) := by subst hW2; exact Lies.new w1 _ _
  have HWW : Hid (w1.alloc (.cells #[.int .i64 (E : Int), .int .i64 (A : Int)] 25) = W2) := hW2.symm
  clear HVD hB1 hW2
  go_wp2_with (rw [HWW.out])
  refine (HWD.out _ HB2.out).mono ?_
  rintro e w3 ⟨rfl, hb3⟩
  have HB3 : Hid (Below w.heap.size w w3) := HB2.out.trans (hb3.mono HB2.out.size)
  have HL3 : Hid (Lies w3 w1.heap.size #[.int .i64 (E : Int), .int .i64 (A : Int)] 25) := HL2.out.below hb3 HL2.out.lt
  obtain ⟨W4, hW4⟩ : ∃ W4, W4 = w3.alloc (.cells #[.int .i64 (E : Int), .int .i64 (A : Int)] 25) := ⟨_, rfl⟩
  have HB4 : Hid (Below w.heap.size w W4) := by subst hW4; exact HB3.out.alloc HB3.out.size _
  have HL4 : Hid (Lies W4 w3.heap.size #[.int .i64 (E : Int), .int .i64 (A : Int)] 25) := by subst hW4; exact Lies.new w3 _ _
  have HL5 : Hid (Lies W4 w1.heap.size #[.int .i64 (E : Int), .int .i64 (A : Int)] 25) := by subst hW4; exact HL3.out.below ((Below.refl _ _).alloc (Nat.le_refl _) _) HL3.out.lt
  have HWW4 : Hid (w3.alloc (.cells #[.int .i64 (E : Int), .int .i64 (A : Int)] 25) = W4) := hW4.symm
  have a0 := HL4.out.cell 0
  have a1 := HL4.out.cell 1
  have b0 := HL5.out.cell 0
  have b1 := HL5.out.cell 1
  simp only [List.getElem?_toArray, List.getElem?_cons_zero, List.getElem?_cons_succ] at a0 a1 b0 b1
  clear HWD hb3 hW4 HB1 HB2 HL2 HL3 HL4 HL5 HWW
  go_wp2_with (rw [HWW4.out])
  refine (HWN.out _ HB4.out).mono ?_
  rintro e w5 ⟨rfl, hb5⟩
  have HB5 : Hid (Below w.heap.size w w5) := HB4.out.trans (hb5.mono HB4.out.size)
  clear hb5 HWN
  go_wp2_with fail
  refine (HVN.out _).mono ?_
  rintro e w6 ⟨rfl, hb6⟩
  have HB6 : Hid (Below w.heap.size w w6) := HB5.out.trans (hb6.mono HB5.out.size)
  clear hb6 HVN
  go_wp2_with fail
  refine (WAKE.out _ HB6.out).mono ?_
  rintro e w7 ⟨rfl, hb7⟩
  have HB7 : Hid (Below w.heap.size w w7) := HB6.out.trans (hb7.mono HB6.out.size)
  go_wp2
  go_ret
  exact ⟨rfl, HB7.out⟩
end Go.Proofs.YtdgepnfgjgbkoaaDoor.wordDecodes
