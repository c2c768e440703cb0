/-
  The document's Needs.
-/
import Derived.Test.YtdgepnfgjgbkoabDoorNd17
import Derived.Test.YtdgepnfgjgbkoabDoorVs17
import Derived.Test.YtdgepnfgjgbkoabDoorCardX10
import Derived.Test.YtdgepnfgjgbkoabDoorOwn2
import Derived.LaidLaws
import Derived.Shelf.Vars
namespace Go.Proofs.YtdgepnfgjgbkoabDoor
open Go.RowKit
theorem full_all (k : Int) : ∀ l : List UInt8, badN k l = l.length → ∀ c ∈ l, isB k (c.toNat : Int) = true
  | [], _, c, hc => by simp at hc
  | b :: l, h, c, hc => by
    rw [badN] at h
    by_cases hb : isB k (b.toNat : Int) = true
    · rw [if_pos hb] at h
      rcases List.mem_cons.1 hc with rfl | hc
      · exact hb
      · exact full_all k l (by simpa using h) c hc
    · rw [if_neg hb] at h
      simp at h
theorem full_of (c : Int) : ∀ (l : List UInt8), (∀ b ∈ l, isB c (b.toNat : Int) = true) → badN c l = l.length
  | [], _ => rfl
  | x :: t, h => by
    have h1 := h x (by simp)
    have h2 := full_of c t (fun b hb => h b (by simp [hb]))
    have := badN_yes c (x :: t) 0 (by simp) h1
    simpa [h2] using this
theorem need_split (s : ByteArray) : needW s.data.toList = (decide (badN 12 s.data.toList < s.data.toList.length) || ((vS s s.size).any fun x => (vP (ptx x)).isSome && !x.2.2)) := by
  rw [any_all]
  rfl
set_option maxRecDepth 100000 in
set_option maxHeartbeats 4000000 in
theorem vneeds_any (s : ByteArray) (hs : s.size ≤ 4294967000) (w : World) :
    Calls Tryd.prog 4 #[.string s] w fun e w' => e = .returned (.bool (needW s.data.toList)) ∧ Below w.heap.size w w' := by
  have hl : s.data.toList.length = s.size := by rw [Array.length_toList]; rfl
  have HNS := need_split s
  have HSP := vsplit_any s hs w
  have HIS : Hid (∀ (a : Int) (t : ByteArray) (g : Bool) wx, t.size ≤ 4294967000 → Calls Tryd.prog 11 #[.agg #[.int .i64 a, .string t, .bool g]] wx fun e w' => e = .returned (.bool ((vP t.data.toList).isSome && !g)) ∧ Below wx.heap.size wx w') := fun a t g wx h => vis_any a t g h wx
  go_enter Tryd.func4, Tryd.ntmps4
  go_wp2_with fail
  go_loopw [3] (fun kv wr => ∃ k : Nat, k ≤ s.size ∧ kv = .int .i64 k ∧ Hid (wr = w) ∧ Hid (∀ j, j < k → ∀ h : j < s.data.toList.length, isB 12 ((s.data.toList[j]).toNat : Int) = true)) (fun kv _ => s.size - (intOf kv).toNat)
  case atStart => exact ⟨0, by omega, rfl, rfl, fun j h => (by omega)⟩
  case round =>
    obtain ⟨k, hk, rfl, hw, HA⟩ := hrel
    obtain rfl := hw.out
    obtain ⟨wr', hwr'⟩ : ∃ wr' : World, wr' = wr := ⟨_, rfl⟩
    subst hwr'
    clear hw
    by_cases hlt : k < s.size
    · have hlti : (k : Int) < s.size := by omega
      have hkl : k < s.data.toList.length := by omega
      have hsk : s.data.toList[k] = s[k]'hlt := by simp; rfl
      have hb4 : ((((s[k]'hlt).toNat : Int) != 9) = false ∧ isB 12 ((s[k]'hlt).toNat : Int) = true) ∨ ((((s[k]'hlt).toNat : Int) != 9) = true ∧ (¬ ((s[k]'hlt).toNat : Int) < 32 ∧ ¬ 126 < ((s[k]'hlt).toNat : Int)) ∧ isB 12 ((s[k]'hlt).toNat : Int) = true) ∨ ((((s[k]'hlt).toNat : Int) != 9) = true ∧ ((s[k]'hlt).toNat : Int) < 32 ∧ isB 12 ((s[k]'hlt).toNat : Int) = false) ∨ ((((s[k]'hlt).toNat : Int) != 9) = true ∧ (¬ ((s[k]'hlt).toNat : Int) < 32 ∧ 126 < ((s[k]'hlt).toNat : Int)) ∧ isB 12 ((s[k]'hlt).toNat : Int) = false) := by
        have := u8_all (p := fun c => decide (((((c.toNat : Int) != 9) = false ∧ isB 12 (c.toNat : Int) = true) ∨ (((c.toNat : Int) != 9) = true ∧ (¬ (c.toNat : Int) < 32 ∧ ¬ 126 < (c.toNat : Int)) ∧ isB 12 (c.toNat : Int) = true) ∨ (((c.toNat : Int) != 9) = true ∧ (c.toNat : Int) < 32 ∧ isB 12 (c.toNat : Int) = false) ∨ (((c.toNat : Int) != 9) = true ∧ (¬ (c.toNat : Int) < 32 ∧ 126 < (c.toNat : Int)) ∧ isB 12 (c.toNat : Int) = false)))) (by decide +kernel) (s[k]'hlt)
        exact of_decide_eq_true this
      have HON : isB 12 ((s[k]'hlt).toNat : Int) = true → Hid (∀ j, j < k + 1 → ∀ h : j < s.data.toList.length, isB 12 ((s.data.toList[j]).toNat : Int) = true) := fun hg j hj h => by
        rcases (by omega : j < k ∨ j = k) with h1 | rfl
        · exact HA.out j h1 h
        · rw [hsk]; exact hg
      have HBAD : isB 12 ((s[k]'hlt).toNat : Int) = false → Hid (needW s.data.toList = true) := fun hg => by
        suffices h9 : badN 12 s.data.toList < s.data.toList.length by
          show needW _ = true
          unfold needW
          rw [decide_eq_true h9]
          rfl
        rcases Nat.lt_or_ge (badN 12 s.data.toList) s.data.toList.length with h | h
        · exact h
        · have := full_all 12 s.data.toList (by have := badN_le 12 s.data.toList; omega) _ (List.getElem_mem hkl)
          rw [hsk, hg] at this
          cases this
      clear HNS
      rcases hb4 with ⟨b1, b3⟩ | ⟨b1, ⟨b2, b4⟩, b3⟩ | ⟨b1, b2, b3⟩ | ⟨b1, ⟨b2, b4⟩, b3⟩
      · have HH := HON b3
        clear HON HBAD b3
        go_wp2_with fail
        go_round
        case rel => exact ⟨k + 1, hlt, by go_num, trivial, HH.out⟩
        case measure => simp [intOf]; omega
      · have HH := HON b3
        clear HON HBAD b3
        go_wp2_with fail
        go_round
        case rel => exact ⟨k + 1, hlt, by go_num, trivial, HH.out⟩
        case measure => simp [intOf]; omega
      · have HH := HBAD b3
        clear HON HBAD b3
        go_wp2_with fail
        go_ret
        exact ⟨by rw [HH.out]; rfl, Below.refl _ _⟩
      · have HH := HBAD b3
        clear HON HBAD b3
        go_wp2_with fail
        go_ret
        exact ⟨by rw [HH.out]; rfl, Below.refl _ _⟩
    · obtain rfl : k = s.size := by omega
      have hb : badN 12 s.data.toList = s.data.toList.length := full_of 12 _ (fun x hx => by
        obtain ⟨j, hj, rfl⟩ := List.mem_iff_getElem.1 hx
        exact HA.out j (by omega) hj)
      rw [decide_eq_false (show ¬ badN 12 s.data.toList < s.data.toList.length by omega), Bool.false_or] at HNS
      have HNZ : Hid (needW s.data.toList = (vS s s.size).any fun x => (vP (ptx x)).isSome && !x.2.2) := HNS
      clear HA hb HNS
      go_wp2_with fail
      refine HSP.mono ?_
      rintro e w1 ⟨⟨v, rfl, hO⟩, hB1⟩
      obtain ⟨a, c, rfl, hne⟩ := hO.shape
      have HO : Hid (Ow celP 36 3 w1 (.slice a (vS s s.size).length c) (vS s s.size)) := hO
      have HB1 : Hid (Below wr'.heap.size wr' w1) := hB1
      have hln := vS_len s s.size
      have hsz := vS_size s s.size
      generalize vS s s.size = L at *
      clear hO hB1 hk hlt HSP
      have hL40 : L.length ≤ 4294967000 := by omega
      go_wp2_with fail
      go_loopw [31] (fun kv wx => ∃ k : Nat, k ≤ L.length ∧ kv = .int .i64 k ∧ Hid (Below wr'.heap.size wr' wx) ∧ Hid (Below w1.heap.size w1 wx) ∧ Hid (((L.take k).any fun x => (vP (ptx x)).isSome && !x.2.2) = false)) (fun kv _ => L.length - (intOf kv).toNat)
      case atStart => exact ⟨0, by omega, rfl, HB1.out, Below.refl _ _, rfl⟩
      case round =>
        obtain ⟨k, hk, rfl, HBa, HBb, HNO⟩ := hrel
        by_cases hlt : k < L.length
        · have hlti : (k : Int) < L.length := by omega
          have hLk : L[k]? = some L[k] := List.getElem?_eq_getElem hlt
          have hmem := List.getElem_mem hlt
          have hxs := hsz _ hmem
          have htk : L.take (k + 1) = L.take k ++ [L[k]] := List.take_succ_eq_append_getElem hlt
          obtain ⟨g, rfl⟩ := hne (fun e => by rw [e] at hlt; simp at hlt)
          have hO2 := HO.out.below HBb.out
          have hcl : ∀ i, i < 3 → wr.cell? ⟨g, k * 3 + i, none⟩ = (celP L[k])[i]? := fun i hi => by
            rw [hO2.cells (k * 3 + i) (by rw [flat_length celP_len]; omega)]
            exact flat_at celP_len L k i hlt hi
          have HYES : ((vP (ptx L[k])).isSome && !(L[k]).2.2) = true → Hid ((L.any fun x => (vP (ptx x)).isSome && !x.2.2) = true) := fun h => List.any_eq_true.2 ⟨_, hmem, h⟩
          generalize L[k] = X at *
          obtain ⟨xa, xt, xg⟩ := X
          have c0 : wr.cell? ⟨g, k * 3, none⟩ = some (.int .i64 (xa : Int)) := hcl 0 (by decide)
          have c1 : wr.cell? ⟨g, k * 3 + 1, none⟩ = some (.string xt) := hcl 1 (by decide)
          have c2 : wr.cell? ⟨g, k * 3 + 2, none⟩ = some (.bool xg) := hcl 2 (by decide)
          have hI : Hid (∀ wx, Calls Tryd.prog 11 #[.agg #[.int .i64 (xa : Int), .string xt, .bool xg]] wx fun e w' => e = .returned (.bool ((vP (ptx (xa, xt, xg))).isSome && !xg)) ∧ Below wx.heap.size wx w') := fun wx => HIS.out _ _ _ wx (by have : xt.size ≤ s.size := hxs; omega)
          clear hcl hO2 hmem hLk
          go_wp2_with fail
          refine (hI.out _).mono ?_
          rintro e w2 ⟨rfl, hb2⟩
          have HBc : Hid (Below wr'.heap.size wr' w2) := (HBa.out.alloc HBa.out.size _).trans (hb2.mono (HBa.out.alloc HBa.out.size _).size)
          have HBd : Hid (Below w1.heap.size w1 w2) := (HBb.out.alloc HBb.out.size _).trans (hb2.mono (HBb.out.alloc HBb.out.size _).size)
          have HST : ((vP (ptx (xa, xt, xg))).isSome && !xg) = false → Hid (((L.take (k + 1)).any fun x => (vP (ptx x)).isSome && !x.2.2) = false) := fun h => by
            show _ = _
            rw [htk, List.any_append, HNO.out]
            simpa using h
          have HYES : ((vP (ptx (xa, xt, xg))).isSome && !xg) = true → Hid ((L.any fun x => (vP (ptx x)).isSome && !x.2.2) = true) := HYES
          clear hb2 HNO c0 c1 c2 hI htk
          generalize ((vP (ptx (xa, xt, xg))).isSome && !xg) = B at *
          cases B with
          | true =>
            have hy := (HYES rfl).out
            rw [hy] at HNZ
            clear HYES HST hy
            go_wp2_with fail
            go_ret
            exact ⟨by rw [HNZ.out]; rfl, HBc.out⟩
          | false =>
            have HS := HST rfl
            clear HYES HST
            go_wp2_with fail
            go_round
            case rel => exact ⟨k + 1, hlt, by go_num, HBc.out, HBd.out, HS.out⟩
            case measure => simp [intOf]; omega
        · obtain rfl : k = L.length := by omega
          have HF := HNO.out
          rw [List.take_length] at HF
          rw [HF] at HNZ
          go_wp2_with fail
          go_ret
          exact ⟨by rw [HNZ.out]; rfl, HBa.out⟩
end Go.Proofs.YtdgepnfgjgbkoabDoor
/-
  What a row's list gives the walks of the stage; a world for the witnesses.
-/
namespace Go.Proofs.YtdgepnfgjgbkoabDoor
open Go.ChangeShapes Go.WideShapes Go.ChangeAt Go.RowKit
theorem gFs : Tryd.prog.globalNamed "posthorn/runes.firsts" = some 0 := by kernel_rfl
theorem tFs : (Tryd.prog.globals[(0 : Nat)]?).map (·.type) = some 95 := by kernel_rfl
theorem cellsF : Tryd.prog.cellsOf 94 = 5 := by kernel_rfl
theorem cellsFs : Tryd.prog.cellsOf 95 = 40 := by kernel_rfl
theorem cells5 : Tryd.prog.cellsOf 5 = 1 := by kernel_rfl
theorem laid_fst : (Rows.laid_posthorn_runes_firsts : DataW Unit) = .agg (fsRows.map fun r => .agg (r.map fun x => .lit (.int .u8 x))) := rfl

theorem fst_of_trod {enc : TypeId × Value → Unit} {W : World} {base : Nat} {sp : Nat → Bool} {held : Bool} {cs : Array Value} {fuel : Nat} {p : List MemPlace}
    (hv : W.var? Tryd.prog "posthorn/runes.firsts" = some cs)
    (hd : DataW.trod enc Tryd.prog W base sp held fuel 95 cs.toList = some (Rows.laid_posthorn_runes_firsts, p)) : Fst W := by
  obtain ⟨xs, m, _, hx, hlen, hn, hel⟩ := DataW.trod_array Tryd.underlying95 hd
  rw [laid_fst] at hx
  simp only [Prod.mk.injEq, DataW.agg.injEq] at hx
  obtain ⟨hx, -⟩ := hx
  have key : ∀ c, c < 8 → ∀ i, i < 5 → cs[c * 5 + i]? = some (.int .u8 (fsAt c i)) := by
    intro c hc i hi
    have h1 := hel c hc
    have hxc : c < xs.length := by omega
    rw [List.getElem?_eq_getElem hxc, cellsF] at h1
    obtain ⟨ys, n, _, hy, hl, hyl, hf⟩ := DataW.trod_struct Tryd.underlying94 h1
    have hrow : c < fsRows.length := hc
    have e1 := congrArg (fun l => l[c]?) hx
    simp only [List.getElem?_map, List.getElem?_eq_getElem hxc, List.getElem?_eq_getElem hrow, Option.map_some, Option.some.injEq, hy, DataW.agg.injEq] at e1
    have hr5 : (fsRows[c]).length = 5 := by
      have : ∀ k : Fin 8, (fsRows[k.val]'k.isLt).length = 5 := by decide
      exact this ⟨c, hc⟩
    have hyi : i < ys.length := by
      have := congrArg List.length e1
      simp only [List.length_map, hr5] at this
      omega
    have e2 := congrArg (fun l => l[i]?) e1
    simp only [List.getElem?_map, List.getElem?_eq_getElem hyi, List.getElem?_eq_getElem (show i < (fsRows[c]).length by omega), Option.map_some, Option.some.injEq] at e2
    have hat : fsAt c i = (fsRows[c])[i]'(by omega) := by
      unfold fsAt
      simp [List.getD_eq_getElem?_getD, List.getElem?_eq_getElem hrow, List.getElem?_eq_getElem (show i < (fsRows[c]).length by omega)]
    have go : ∀ (f : Field), f.type = 5 → f.offset = i → DataW.trod enc Tryd.prog W base sp held n f.type (((List.take 5 (List.drop (c * 5) cs.toList)).drop f.offset).take (Tryd.prog.cellsOf f.type)) = ys[i]? → cs[c * 5 + i]? = some (.int .u8 (fsAt c i)) := by
      intro f ft fo h
      rw [ft, fo, cells5, List.getElem?_eq_getElem hyi] at h
      obtain ⟨z, e3, e4, _⟩ := DataW.trod_int Tryd.underlying5 h
      rw [e4] at e2
      simp only [DataW.lit.injEq, Lit.int.injEq, true_and] at e2
      have h4 := congrArg (fun l => l[0]?) e3
      simp only [List.getElem?_take, List.getElem?_drop] at h4
      rw [hat, e2]
      simpa [show i < 5 from hi] using h4
    have hcase : i = 0 ∨ i = 1 ∨ i = 2 ∨ i = 3 ∨ i = 4 := by omega
    rcases hcase with rfl | rfl | rfl | rfl | rfl
    · exact go _ rfl rfl (hf 0 _ rfl)
    · exact go _ rfl rfl (hf 1 _ rfl)
    · exact go _ rfl rfl (hf 2 _ rfl)
    · exact go _ rfl rfl (hf 3 _ rfl)
    · exact go _ rfl rfl (hf 4 _ rfl)
  have hsz : cs.size = 40 := by
    have := hlen
    rw [cellsFs] at this
    simpa using this
  have hcs : cs = fsCells := by
    apply Array.ext_getElem?
    intro j
    by_cases hj : j < 40
    · have := key (j / 5) (by omega) (j % 5) (by omega)
      rw [show j / 5 * 5 + j % 5 = j from by omega] at this
      rw [this]
      have h : ∀ k : Fin 40, fsCells[k.val]? = some (.int .u8 (fsAt (k.val / 5) (k.val % 5))) := by
        intro k
        have : ∀ k : Fin 40, (fsRows.flatten)[k.val]? = some (fsAt (k.val / 5) (k.val % 5)) := by decide
        unfold fsCells
        rw [List.getElem?_toArray, List.getElem?_map, this k]
        rfl
      exact (h ⟨j, hj⟩).symm
    · have h40 : fsCells.size = 40 := by decide
      rw [Array.getElem?_eq_none (by omega), Array.getElem?_eq_none (by omega)]
  unfold World.var? at hv
  rw [gFs] at hv
  simp only [Option.bind_some] at hv
  split at hv
  · rename_i c t fr hh
    injection hv with hv
    rw [hv, hcs] at hh
    exact ⟨t, fr, hh⟩
  · cases hv


theorem ml_of {W : World} (h : W.ShapedOpen Tryd.prog) : ∃ m, W.cell? ⟨4, 0, none⟩ = some (.int .i64 m) :=
  cell_of_shapedOpen_int (t := 3) (zero := #[.int .i64 0]) h (of_decide_eq_true (by kernel_rfl)) (by kernel_rfl) rfl (by kernel_rfl) (by kernel_rfl) Tryd.underlying3

theorem tabs17_of {W : World} (h : laidMet Tryd.prog [("unicode/utf8.acceptRanges", Rows.laid_unicode_utf8_acceptRanges), ("posthorn/octet.classes", Rows.laid_posthorn_octet_classes), ("posthorn/runes.firsts", Rows.laid_posthorn_runes_firsts), ("unicode/utf8.first", Rows.laid_unicode_utf8_first)] W) (hsh : W.ShapedOpen Tryd.prog) : Tb W := by
  obtain ⟨ps, ⟨g0, t0, cs0, fuel0, p0, q0, hg0, ht0, hv0, hd0, ⟨g1, t1, cs1, fuel1, p1, q1, hg1, ht1, hv1, hd1, ⟨g2, t2, cs2, fuel2, p2, q2, hg2, ht2, hv2, hd2, _, _⟩, _⟩, _⟩, _⟩ := h
  obtain rfl := Option.some.inj (gCl.symm.trans hg1)
  obtain rfl := Option.some.inj (tCl.symm.trans ht1)
  obtain rfl := Option.some.inj (gFs.symm.trans hg2)
  obtain rfl := Option.some.inj (tFs.symm.trans ht2)
  exact ⟨table_of_trod hv1 hd1, fst_of_trod hv2 hd2, ml_of hsh⟩
def litCF : DataW Unit → List Value
  | .lit (.int k z) => [Value.int k z]
  | .lit (.string b) => [Value.string ⟨b.toArray⟩]
  | _ => []
def rowCF : DataW Unit → List Value
  | .agg l => l.flatMap litCF
  | d => litCF d
def datCellsF : DataW Unit → Array Value
  | .agg l => (l.flatMap rowCF).toArray
  | _ => #[]
def layCellsF (d : DataW Unit) : Obj → Obj
  | .cells _ t frozen => .cells (datCellsF d) t frozen
  | o => o
noncomputable def laidWorld17 (os : Os) : World :=
  { World.holding Tryd.prog os ⟨#[], #[], []⟩ with heap := ((((World.holding Tryd.prog os ⟨#[], #[], []⟩).heap.modify 2 (layCellsF Rows.laid_unicode_utf8_acceptRanges)).modify 3 (layCellsF Rows.laid_posthorn_octet_classes)).modify 0 (layCellsF Rows.laid_posthorn_runes_firsts)).modify 1 (layCellsF Rows.laid_unicode_utf8_first) }
end Go.Proofs.YtdgepnfgjgbkoabDoor
