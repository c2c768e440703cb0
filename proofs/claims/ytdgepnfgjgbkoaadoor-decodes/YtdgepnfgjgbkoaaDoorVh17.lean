/-
  The document's Decode.
-/
import Derived.Test.YtdgepnfgjgbkoaaDoorVgP
import Derived.Test.YtdgepnfgjgbkoaaDoorVd17
import Derived.Test.YtdgepnfgjgbkoaaDoorLtU
import Derived.Test.YtdgepnfgjgbkoaaDoorVs17
import Derived.Test.YtdgepnfgjgbkoaaDoorWdl17
namespace Go.Proofs.YtdgepnfgjgbkoaaDoor
open Go.RowKit

/-- Is the part ahead of k an encoded word? -/
def preE (L : List VPt) : Nat → Bool
  | 0 => false
  | k + 1 => L[k]?.any isE
def nxE (L : List VPt) (k : Nat) : Bool := L[k]?.any isE
theorem dd_at (L : List VPt) (k : Nat) (h : k < L.length) (pre : Bool) (D : List UInt8) :
    dd pre (L.drop k) D = if isE L[k] = true then (if (mnV L[k]).2.1 ≠ 0 then ([], (mnV L[k]).2) else dd true (L.drop (k + 1)) (D ++ (mnV L[k]).1))
      else if ((L[k]).2.2 && pre && nxE L (k + 1)) = true then dd false (L.drop (k + 1)) D else dd false (L.drop (k + 1)) (D ++ ptx L[k]) := by
  rw [List.drop_eq_getElem_cons h, dd, List.head?_drop]
  rfl
theorem nm_cases (l : List UInt8) : (csNo (cutC 42 l).1 = 0 ∧ ((⟨(vN l).toArray⟩ : ByteArray).toList == [117, 116, 102, 45, 56]) = false ∧ ((⟨(vN l).toArray⟩ : ByteArray).toList == [117, 115, 45, 97, 115, 99, 105, 105]) = false ∧ ((⟨(vN l).toArray⟩ : ByteArray).toList == [105, 115, 111, 45, 56, 56, 53, 57, 45, 49]) = false) ∨
    (csNo (cutC 42 l).1 ≠ 0 ∧ ((⟨(vN l).toArray⟩ : ByteArray).toList == [117, 116, 102, 45, 56]) = true) ∨
    (csNo (cutC 42 l).1 ≠ 0 ∧ ((⟨(vN l).toArray⟩ : ByteArray).toList == [117, 116, 102, 45, 56]) = false ∧ ((⟨(vN l).toArray⟩ : ByteArray).toList == [117, 115, 45, 97, 115, 99, 105, 105]) = true) ∨
    (csNo (cutC 42 l).1 ≠ 0 ∧ ((⟨(vN l).toArray⟩ : ByteArray).toList == [117, 116, 102, 45, 56]) = false ∧ ((⟨(vN l).toArray⟩ : ByteArray).toList == [117, 115, 45, 97, 115, 99, 105, 105]) = false ∧ ((⟨(vN l).toArray⟩ : ByteArray).toList == [105, 115, 111, 45, 56, 56, 53, 57, 45, 49]) = true) := by
  have h1 : csNo (cutC 42 l).1 = 1 ↔ vN l = [117, 116, 102, 45, 56] := (sn_no _).1
  have h2 : csNo (cutC 42 l).1 = 2 ↔ vN l = [117, 115, 45, 97, 115, 99, 105, 105] := (sn_no _).2.1
  have h3 : csNo (cutC 42 l).1 = 3 ↔ vN l = [105, 115, 111, 45, 56, 56, 53, 57, 45, 49] := (sn_no _).2.2
  rw [nm_beq, nm_beq, nm_beq]
  rcases csNo_lt (cutC 42 l).1 with h | h | h | h
  · exact .inl ⟨h, decide_eq_false (fun e => by have := h1.2 e; omega), decide_eq_false (fun e => by have := h2.2 e; omega), decide_eq_false (fun e => by have := h3.2 e; omega)⟩
  · exact .inr (.inl ⟨by omega, decide_eq_true (h1.1 h)⟩)
  · exact .inr (.inr (.inl ⟨by omega, decide_eq_false (fun e => by have := h1.2 e; omega), decide_eq_true (h2.1 h)⟩))
  · exact .inr (.inr (.inr ⟨by omega, decide_eq_false (fun e => by have := h1.2 e; omega), decide_eq_false (fun e => by have := h2.2 e; omega), decide_eq_true (h3.1 h)⟩))
theorem bq_one {b : List UInt8} (h : isBQ b = true) : b.length = 1 := by
  match b, h with
  | [_], _ => rfl
  | [], hb => exact absurd hb (by decide)
  | _ :: _ :: _, hb => exact absurd hb (by simp [isBQ])
/-- What is answered. -/
def ddE (r : List UInt8 × Nat × Nat) : Ending := .returned (.tuple #[.string (bS r.1), .agg #[.int .i64 (r.2.1 : Nat), .int .i64 (r.2.2 : Nat)]])
set_option maxRecDepth 100000 in
set_option maxHeartbeats 8000000 in
theorem vdec_any (s : ByteArray) (hs : s.size ≤ 1048576) (w : World) :
    Calls Tryd.prog 14 #[.string s] w fun e w' => e = ddE (decW s.data.toList) ∧ Below w.heap.size w w' := by
  have HDD : Hid (dd false (vS s s.size) [] = decW s.data.toList) := dd_dec s
  generalize decW s.data.toList = R at *
  have HSP : Hid (∀ wx, Calls Tryd.prog 27 #[.string s] wx fun e w' => (∃ v, e = .returned v ∧ Ow celP 57 3 w' v (vS s s.size)) ∧ Below wx.heap.size wx w') := fun wx => vsplit_any s (by omega) wx
  have HIS : Hid (∀ (x : VPt) wx, x.2.1.size ≤ 4294967000 → Calls Tryd.prog 28 #[.agg #[.int .i64 (x.1 : Int), .string x.2.1, .bool x.2.2]] wx fun e w' => e = .returned (.bool (isE x)) ∧ Below wx.heap.size wx w') := fun x wx h => vis_any x.1 x.2.1 x.2.2 h wx
  have HL0 : Hid (Lies (w.alloc (.cells #[.int .i64 0, .int .i64 0] 25)) w.heap.size #[.int .i64 0, .int .i64 0] 25) := Lies.new w _ _
  have HB0 : Hid (Below w.heap.size w (w.alloc (.cells #[.int .i64 0, .int .i64 0] 25))) := (Below.refl _ _).alloc (Nat.le_refl _) _
  go_enter Tryd.func14, Tryd.ntmps14
  go_wp2_with fail
  refine (HSP.out _).mono ?_
  rintro e w1 ⟨⟨v, rfl, hO⟩, hB1⟩
  obtain ⟨a, c, rfl, hne⟩ := hO.shape
  have HO : Hid (Ow celP 57 3 w1 (.slice a (vS s s.size).length c) (vS s s.size)) := hO
  have HL1 : Hid (Lies w1 w.heap.size #[.int .i64 0, .int .i64 0] 25) := HL0.out.below hB1 HL0.out.lt
  have HB1 : Hid (Below w.heap.size w w1) := HB0.out.trans (hB1.mono HB0.out.size)
  have hln := vS_len s s.size
  have hsz := vS_size s s.size
  have HMA : Hid (∀ x ∈ vS s s.size, x.1 + (ptx x).length ≤ s.size ∧ (isE x = true → ∃ P, vP (ptx x) = some P ∧ mnV x = mnW x.1 (x.1 + (ptx x).length) (P.1, decide (upL P.2.1 = [81]), P.2.2) ∧ (ptx x).length = P.1.length + P.2.2.length + 7 ∧ isBQ P.2.1 = true)) := mn_all s
  clear hO hB1 HSP HL0 HB0
  generalize vS s s.size = L at *
  have hL40 : L.length ≤ 4294967000 := by omega
  go_wp2_with fail
  go_loopw [4, 23] (fun ov kv wr => ∃ (k : Nat) (T : ByteArray), k ≤ L.length ∧ kv = .int .i64 k ∧ ov = .string T ∧ T.size ≤ 4194304 * k ∧ Hid (Below w.heap.size w wr) ∧ Hid (Below w1.heap.size w1 wr) ∧ Hid (dd (preE L k) (L.drop k) T.data.toList = R)) (fun _ kv _ => L.length - (intOf kv).toNat)
  case atStart => exact ⟨0, ⟨#[]⟩, by omega, rfl, rfl, Nat.zero_le _, HB1.out, Below.refl _ _, HDD.out⟩
  case round =>
    obtain ⟨k, T, hk, rfl, rfl, hTs, HBa, HBb, HD⟩ := hrel
    clear HDD HB1
    by_cases hlt : k < L.length
    · have hlti : (k : Int) < L.length := by omega
      have hmem := List.getElem_mem hlt
      have hxs := hsz _ hmem
      obtain ⟨g, rfl⟩ := hne (fun e => by rw [e] at hlt; simp at hlt)
      have HCL : Hid (∀ (j : Nat) (hj : j < L.length) (i : Nat), i < 3 → ∀ wx, Below w1.heap.size w1 wx → wx.cell? ⟨g, j * 3 + i, none⟩ = (celP L[j])[i]?) := fun j hj i hi wx hb => by
        have hO2 := HO.out.below hb
        rw [hO2.cells (j * 3 + i) (by rw [flat_length celP_len]; omega)]
        exact flat_at celP_len L j i hj hi
      have hdt := dd_at L k hlt (preE L k) T.data.toList
      rw [HD.out] at hdt
      have HDT : Hid (R = _) := hdt
      have hI := HIS.out L[k] (wr.alloc (.cells (celP L[k]).toArray 57)) (by omega)
      obtain ⟨X, hX⟩ : ∃ X, X = L[k] := ⟨_, rfl⟩
      have hpe : preE L (k + 1) = isE X := by
        show L[k]?.any isE = _
        rw [List.getElem?_eq_getElem hlt, hX]
        rfl
      have c0 := HCL.out k hlt 0 (by decide) wr HBb.out
      have c1 := HCL.out k hlt 1 (by decide) wr HBb.out
      have c2 := HCL.out k hlt 2 (by decide) wr HBb.out
      rw [← hX] at HDT hI c0 c1 c2 hxs hmem
      obtain ⟨xa, xt, xg⟩ := X
      replace c0 : wr.cell? ⟨g, k * 3, none⟩ = some (.int .i64 (xa : Int)) := c0
      replace c1 : wr.cell? ⟨g, k * 3 + 1, none⟩ = some (.string xt) := c1
      replace c2 : wr.cell? ⟨g, k * 3 + 2, none⟩ = some (.bool xg) := c2
      replace hI : Calls Tryd.prog 28 #[.agg #[.int .i64 (xa : Int), .string xt, .bool xg]] (wr.alloc (.cells #[.int .i64 (xa : Int), .string xt, .bool xg] 57)) fun e w' => e = .returned (.bool (isE (xa, xt, xg))) ∧ Below (wr.alloc (.cells #[.int .i64 (xa : Int), .string xt, .bool xg] 57)).heap.size (wr.alloc (.cells #[.int .i64 (xa : Int), .string xt, .bool xg] 57)) w' := hI
      have HLX : Hid (Lies (wr.alloc (.cells #[.int .i64 (xa : Int), .string xt, .bool xg] 57)) wr.heap.size #[.int .i64 (xa : Int), .string xt, .bool xg] 57) := Lies.new wr _ _
      clear HD hdt
      go_wp2_with fail
      refine hI.mono ?_
      rintro e w2 ⟨rfl, hb2⟩
      have hba := (Below.refl wr.heap.size wr).alloc (Nat.le_refl _) (.cells #[.int .i64 (xa : Int), .string xt, .bool xg] 57)
      have hbb : Below wr.heap.size wr w2 := hba.trans (hb2.mono hba.size)
      have HB2a : Hid (Below w.heap.size w w2) := HBa.out.trans (hbb.mono HBa.out.size)
      have HB2b : Hid (Below w1.heap.size w1 w2) := HBb.out.trans (hbb.mono HBb.out.size)
      have HL2 : Hid (Lies w2 wr.heap.size #[.int .i64 (xa : Int), .string xt, .bool xg] 57) := HLX.out.below hb2 HLX.out.lt
      have d0 := HL2.out.cell 0
      have d1 := HL2.out.cell 1
      have d2 := HL2.out.cell 2
      simp only [List.getElem?_toArray, List.getElem?_cons_zero, List.getElem?_cons_succ] at d0 d1 d2
      have hwlt : w.heap.size < wr.heap.size := (HL1.out.below HBb.out HL1.out.lt).lt
      clear hI hb2 hba hbb HLX c0 c1 c2 HBa HBb
      have hMA := HMA.out _ hmem
      cases hE : isE (xa, xt, xg) with
      | false =>
        have HDF : Hid (R = if (xg && preE L k && nxE L (k + 1)) = true then dd false (L.drop (k + 1)) T.data.toList else dd false (L.drop (k + 1)) (T.data.toList ++ xt.data.toList)) := by
          have := HDT.out
          rw [hE] at this
          exact this
        rw [hE] at hpe
        clear HDT hMA hE HMA d0
        go_upto_region 7 with fail
        go_cut [8] from 31 to 59 (fun v wc => v = .bool (xg && preE L k && nxE L (k + 1)) ∧ Hid (Below w2.heap.size w2 wc))
        case first =>
          cases xg with
          | false =>
            go_wp2_with fail
            go_meet
            exact ⟨rfl, Below.refl _ _⟩
          | true =>
            cases k with
            | zero =>
              go_wp2_with fail
              go_meet
              exact ⟨rfl, Below.refl _ _⟩
            | succ m =>
              have hm : m < L.length := by omega
              have hpm : preE L (m + 1) = isE L[m] := by
                show L[m]?.any isE = _
                rw [List.getElem?_eq_getElem hm]
                rfl
              have hgt : 0 < (m : Int) + 1 := by omega
              have hw0 : IntKind.i64.wrap (m : Int) = (m : Int) := wrap_small (by omega)
              have hw1 : IntKind.i64.wrap ((m : Int) + 1 + 1) = (m : Int) + 1 + 1 := wrap_small (by omega)
              by_cases hn : m + 1 + 1 < L.length
              · have hni : (m : Int) + 1 + 1 < L.length := by omega
                have hnn : nxE L (m + 1 + 1) = isE L[m + 1 + 1] := by
                  show L[m + 1 + 1]?.any isE = _
                  rw [List.getElem?_eq_getElem hn]
                  rfl
                have p0 := HCL.out m hm 0 (by decide) w2 HB2b.out
                have p1 := HCL.out m hm 1 (by decide) w2 HB2b.out
                have p2 := HCL.out m hm 2 (by decide) w2 HB2b.out
                have hs1 := hsz _ (List.getElem_mem hm)
                have hs2 := hsz _ (List.getElem_mem hn)
                have HI1 := HIS.out L[m] w2 (by omega)
                have HI2 : Hid (∀ wx, Calls Tryd.prog 28 #[.agg #[.int .i64 ((L[m + 1 + 1]).1 : Int), .string (L[m + 1 + 1]).2.1, .bool (L[m + 1 + 1]).2.2]] wx fun e w' => e = .returned (.bool (isE L[m + 1 + 1])) ∧ Below wx.heap.size wx w') := fun wx => HIS.out L[m + 1 + 1] wx (by omega)
                have HQ : Hid (∀ i, i < 3 → ∀ wx, Below w1.heap.size w1 wx → wx.cell? ⟨g, (m + 1 + 1) * 3 + i, none⟩ = (celP L[m + 1 + 1])[i]?) := fun i hi wx hb => HCL.out (m + 1 + 1) hn i hi wx hb
                have HPM : Hid (preE L (m + 1) = isE L[m]) := hpm
                have HNN : Hid (nxE L (m + 1 + 1) = isE L[m + 1 + 1]) := hnn
                clear hpm hnn
                generalize L[m + 1 + 1] = Z at *
                obtain ⟨za, zt, zg⟩ := Z
                generalize L[m] = Y at *
                obtain ⟨ya, yt, yg⟩ := Y
                replace p0 : w2.cell? ⟨g, m * 3, none⟩ = some (.int .i64 (ya : Int)) := p0
                replace p1 : w2.cell? ⟨g, m * 3 + 1, none⟩ = some (.string yt) := p1
                replace p2 : w2.cell? ⟨g, m * 3 + 2, none⟩ = some (.bool yg) := p2
                replace HI1 : Calls Tryd.prog 28 #[.agg #[.int .i64 (ya : Int), .string yt, .bool yg]] w2 fun e w' => e = .returned (.bool (isE (ya, yt, yg))) ∧ Below w2.heap.size w2 w' := HI1
                generalize isE (ya, yt, yg) = bY at *
                clear hm hn
                go_wp2_with fail
                refine HI1.mono ?_
                rintro e w3 ⟨rfl, hb3⟩
                have HB3 : Hid (Below w2.heap.size w2 w3) := hb3
                clear hb3 HI1
                cases bY with
                | false =>
                  go_wp2_with fail
                  go_meet
                  exact ⟨by rw [HPM.out]; rfl, HB3.out⟩
                | true =>
                  have HB31 : Below w1.heap.size w1 w3 := HB2b.out.trans (HB3.out.mono HB2b.out.size)
                  have q0 := HQ.out 0 (by decide) w3 HB31
                  have q1 := HQ.out 1 (by decide) w3 HB31
                  have q2 := HQ.out 2 (by decide) w3 HB31
                  replace q0 : w3.cell? ⟨g, (m + 1 + 1) * 3, none⟩ = some (.int .i64 (za : Int)) := q0
                  replace q1 : w3.cell? ⟨g, (m + 1 + 1) * 3 + 1, none⟩ = some (.string zt) := q1
                  replace q2 : w3.cell? ⟨g, (m + 1 + 1) * 3 + 2, none⟩ = some (.bool zg) := q2
                  clear HB31 p0 p1 p2 d1 d2
                  go_wp2_with fail
                  refine (HI2.out _).mono ?_
                  rintro e w4 ⟨rfl, hb4⟩
                  have HB4 : Hid (Below w2.heap.size w2 w4) := HB3.out.trans (hb4.mono HB3.out.size)
                  clear hb4 HI2
                  go_wp2_with fail
                  go_meet
                  exact ⟨by rw [HPM.out, HNN.out]; rfl, HB4.out⟩
              · have hni : ¬ (m : Int) + 1 + 1 < L.length := by omega
                have hnn : nxE L (m + 1 + 1) = false := by
                  show L[m + 1 + 1]?.any isE = _
                  rw [List.getElem?_eq_none (by omega)]
                  rfl
                go_wp2_with fail
                go_meet
                exact ⟨by rw [hnn, Bool.and_false], Below.refl _ _⟩
        case rest =>
          obtain ⟨rfl, hBc⟩ := hcut
          have HBx : Hid (Below w.heap.size w wc) := HB2a.out.trans (hBc.out.mono HB2a.out.size)
          have HBy : Hid (Below w1.heap.size w1 wc) := HB2b.out.trans (hBc.out.mono HB2b.out.size)
          have e1 := (HL2.out.below hBc.out HL2.out.lt).cell 1
          simp only [List.getElem?_toArray, List.getElem?_cons_zero, List.getElem?_cons_succ] at e1
          clear hBc d1 d2 HL2 HB2a HB2b
          generalize (xg && preE L k && nxE L (k + 1)) = bt at *
          cases bt with
          | true =>
            have HDG : Hid (dd false (L.drop (k + 1)) T.data.toList = R) := HDF.out.symm
            clear HDF
            go_wp2_with fail
            go_round
            case rel => exact ⟨k + 1, T, hlt, by go_num, rfl, by omega, HBx.out, HBy.out, by show dd (preE L (k + 1)) _ _ = _; rw [hpe]; exact HDG.out⟩
            case measure => simp [intOf]; omega
          | false =>
            have HDG : Hid (dd false (L.drop (k + 1)) (T ++ xt).data.toList = R) := by
              show dd _ _ _ = _
              rw [ByteArray.data_append, Array.toList_append]
              exact HDF.out.symm
            have hxs' : xt.size ≤ s.size := hxs
            have hcc : (T.size : Int) + (xt.size : Int) ≤ 9223372036854775807 := by omega
            clear HDF
            go_wp2_with fail
            go_round
            case rel => exact ⟨k + 1, T ++ xt, hlt, by go_num, rfl, by rw [ByteArray.size_append]; omega, HBx.out, HBy.out, by show dd (preE L (k + 1)) _ _ = _; rw [hpe]; exact HDG.out⟩
            case measure => simp [intOf]; omega
      | true =>
        have HDF : Hid (R = if (mnV (xa, xt, xg)).2.1 ≠ 0 then ([], (mnV (xa, xt, xg)).2) else dd true (L.drop (k + 1)) (T.data.toList ++ (mnV (xa, xt, xg)).1)) := by
          have := HDT.out
          rw [hE] at this
          exact this
        rw [hE] at hpe
        obtain ⟨hpos, hMB⟩ := hMA
        obtain ⟨P, hP, hmn, h7, hbq⟩ := hMB hE
        have HPT := vparts_any xt (by have : xt.size ≤ s.size := hxs; omega) w2
        have hxl : (ptx (xa, xt, xg)).length = xt.size := by show xt.data.toList.length = _; rw [Array.length_toList]; rfl
        rw [hxl] at h7 hpos hmn
        have hpos' : xa + xt.size ≤ s.size := hpos
        clear HDT hE HMA hMB hpos hxl HIS HCL
        go_wp2_with fail
        refine HPT.mono ?_
        rintro e w3 ⟨⟨A, B, C, bb, rfl, hbb, hab⟩, hb3⟩
        replace hbb : bb = true := by rw [hbb]; show (vP (ptx (xa, xt, xg))).isSome = true; rw [hP]; rfl
        subst hbb
        obtain ⟨pa, pb, pc⟩ := P
        obtain ⟨rfl, rfl, rfl⟩ := hab _ hP
        dsimp only at hmn h7 hbq
        have HB3a : Hid (Below w.heap.size w w3) := HB2a.out.trans (hb3.mono HB2a.out.size)
        have HB3b : Hid (Below w1.heap.size w1 w3) := HB2b.out.trans (hb3.mono HB2b.out.size)
        have HL3 : Hid (Lies w3 wr.heap.size #[.int .i64 (xa : Int), .string xt, .bool xg] 57) := HL2.out.below hb3 HL2.out.lt
        have lA : A.data.toList.length = A.size := by rw [Array.length_toList]; rfl
        have lC : C.data.toList.length = C.size := by rw [Array.length_toList]; rfl
        have lB : B.size = 1 := by have := bq_one hbq; rw [Array.length_toList] at this; exact this
        rw [lA, lC] at h7
        rw [hmn] at HDF
        have HNM := vname_any A (by omega)
        have HNC := nm_cases A.data.toList
        have HBY : Hid (∀ wx, Calls Tryd.prog 31 #[.string B, .string C] wx fun e w' => ∃ v, e = .returned (.tuple #[v, .int .i64 (vW (decide (upL B.data.toList = [81])) C.data.toList)]) ∧ w'.ownsRow wx.heap.size 5 1 v (reR (decide (upL B.data.toList = [81])) C.data.toList).length (cellsB (reR (decide (upL B.data.toList = [81])) C.data.toList)) ∧ Below wx.heap.size wx w') := fun wx => vbytes_any B C hbq (by omega) (by omega) wx
        clear hb3 HB2a HB2b HL2 d0 d1 d2 hab hP hbq HPT hmn lB
        generalize hq : decide (upL B.data.toList = [81]) = q at *
        generalize hN : (⟨(vN A.data.toList).toArray⟩ : ByteArray) = N at *
        have HMN : Hid (∀ v, mnW xa (xa + xt.size) (A.data.toList, q, C.data.toList) = v → R = if v.2.1 ≠ 0 then ([], v.2) else dd true (L.drop (k + 1)) (T.data.toList ++ v.1)) := fun v h => by rw [← h]; exact HDF.out
        have HM0 : Hid (csNo (cutC 42 A.data.toList).1 = 0 → mnW xa (xa + xt.size) (A.data.toList, q, C.data.toList) = ([], 171, xa + 2)) := fun h => if_pos h
        clear HDF hq hN
        go_wp2_with fail
        refine (HNM _).mono ?_
        rintro e w4 ⟨rfl, hb4⟩
        have HB4a : Hid (Below w.heap.size w w4) := HB3a.out.trans (hb4.mono HB3a.out.size)
        have HB4b : Hid (Below w1.heap.size w1 w4) := HB3b.out.trans (hb4.mono HB3b.out.size)
        have HL4 : Hid (Lies w4 wr.heap.size #[.int .i64 (xa : Int), .string xt, .bool xg] 57) := HL3.out.below hb4 HL3.out.lt
        clear hb4 HB3a HB3b HL3 HNM
        go_upto_region 12 with fail
        go_cut [85] from 76 to 86 (fun v wc => wc = w4 ∧ v = .bool (decide (csNo (cutC 42 A.data.toList).1 = 0)))
        case first =>
          rcases HNC with ⟨h0, b1, b2, b3⟩ | ⟨h0, b1⟩ | ⟨h0, b1, b2⟩ | ⟨h0, b1, b2, b3⟩
          · go_wp2_with fail
            go_meet
            exact ⟨rfl, by rw [decide_eq_true h0]⟩
          all_goals
            go_wp2_with fail
            go_meet
            exact ⟨rfl, by rw [decide_eq_false h0]⟩
        case rest =>
          obtain ⟨rfl, rfl⟩ := hcut
          have e0 := HL4.out.cell 0
          simp only [List.getElem?_toArray, List.getElem?_cons_zero] at e0
          have hS := HL1.out.below HB4b.out HL1.out.lt
          have c0 := hS.cell 0
          have c1 := hS.cell 1
          have f0 := hS.frozen 0
          have f1 := hS.frozen 1
          by_cases h0 : csNo (cutC 42 A.data.toList).1 = 0
          · have HR : Hid (R = ([], 171, xa + 2)) := HMN.out _ (HM0.out h0)
            rw [decide_eq_true h0]
            have hw : IntKind.i64.wrap ((xa : Int) + 2) = (xa : Int) + 2 := wrap_small (by omega)
            clear HNC HM0 HMN HBY hS h0
            go_wp2_with fail
            refine wp_region_late (fun wx => wx.cell? ⟨wr.heap.size, 0, none⟩ = some (.int .i64 (xa : Int))) 6 (by kernel_rfl) (by exact e0) (fun hHeld => ?_)
            refine wpAnyE_tk (i := 0) (d := some 86) (v := .pointer (some ⟨wr.heap.size, 0, none⟩)) rfl (by kernel_rfl) (by kernel_rfl) (by kernel_rfl) rfl (fun _ _ _ h => h) rfl rfl ?hy (by assumption) ?_
            case hy => (intro w' hSw; go_simp <;> (first | with_reducible rfl | omega | skip))
            simp only [Act.put, List.setIfInBounds_toArray, List.set_cons_zero, List.set_cons_succ]
            refine wpAnyE_tk (i := 1) (d := some 87) (v := .int .i64 (xa : Int)) rfl (by kernel_rfl) (by kernel_rfl) (by kernel_rfl) rfl (fun _ _ _ h => h) rfl rfl ?hy (by assumption) ?_
            case hy => (intro w' hSw; go_simp <;> (first | with_reducible rfl | omega | skip))
            simp only [Act.put, List.setIfInBounds_toArray, List.set_cons_zero, List.set_cons_succ]
            refine wpAnyE_tk (i := 2) (d := some 88) (v := .int .i64 ((xa : Int) + 2)) rfl (by kernel_rfl) (by kernel_rfl) (by kernel_rfl) rfl (fun _ _ _ h => h) rfl rfl ?hy (by assumption) ?_
            case hy => (intro w' hSw; go_simp <;> (first | with_reducible rfl | omega | skip))
            simp only [Act.put, List.setIfInBounds_toArray, List.set_cons_zero, List.set_cons_succ]
            refine wpAnyE_tk (i := 3) (d := some 89) (v := .agg #[.int .i64 171, .int .i64 ((xa : Int) + 2)]) rfl (by kernel_rfl) (by kernel_rfl) (by kernel_rfl) rfl (fun _ _ _ h => h) rfl rfl ?hy (by assumption) ?_
            case hy => (intro w' hSw; go_simp <;> (first | with_reducible rfl | omega | skip))
            simp only [Act.put, List.setIfInBounds_toArray, List.set_cons_zero, List.set_cons_succ]
            refine wpAnyE_tk (i := 4) (d := some 2) (v := .string ⟨#[]⟩) rfl (by kernel_rfl) (by kernel_rfl) (by kernel_rfl) rfl (fun _ _ _ h => h) rfl rfl ?hy (by assumption) ?_
            case hy => (intro w' hSw; go_simp <;> (first | with_reducible rfl | omega | skip))
            simp only [Act.put, List.setIfInBounds_toArray, List.set_cons_zero, List.set_cons_succ]
            refine wpAnyE_on (i := 5) (by kernel_rfl) rfl rfl ?_
            go_simp
            refine wpAnyE_done (by kernel_rfl) ?_ _
            go_wp2
            refine bodyPost_ret (v := .tuple #[.string ⟨#[]⟩, .agg #[.int .i64 171, .int .i64 ((xa : Int) + 2)]]) (by simp [results, Tryd.results14, go_sem, c0, c1]) rfl ⟨by rw [HR.out]; rfl, ?_⟩
            exact ((HB4a.out.setCell (p := ⟨w.heap.size, 0, none⟩) (Nat.le_refl _) _).setCell (p := ⟨w.heap.size, 1, none⟩) (Nat.le_refl _) _).drew
          · rw [decide_eq_false h0]
            have HME : Hid (∀ wx (a : Option Addr) (l : List UInt8) (cap n : Nat), n = l.length → Bts a l wx → l.length ≤ cap → l.length ≤ 1099511627776 → Calls Tryd.prog 32 #[.string A, .slice a n cap] wx fun e w' => (∃ (T : ByteArray) (b : Bool), e = .returned (.tuple #[.string T, .bool b]) ∧ csT (csNo (cutC 42 A.data.toList).1) l = if b then some T.data.toList else none) ∧ Below wx.heap.size wx w') := fun wx a l cap n hn hb hc hl => vmean_any A (by omega) _ rfl h0 a l cap n wx hn hb hc hl
            have HN0 : Hid (csNo (cutC 42 A.data.toList).1 ≠ 0) := h0
            have hre := re_le q C.data.toList
            rw [lC] at hre
            clear HNC HM0 h0 c0 c1 f0 f1
            go_wp2_with fail
            refine (HBY.out _).mono ?_
            rintro e w5 ⟨v, rfl, ho5, hb5⟩
            have HB5a : Hid (Below w.heap.size w w5) := HB4a.out.trans (hb5.mono HB4a.out.size)
            have HB5b : Hid (Below w1.heap.size w1 w5) := HB4b.out.trans (hb5.mono HB4b.out.size)
            have HO5 : Hid (w5.ownsRow wc.heap.size 5 1 v (reR q C.data.toList).length (cellsB (reR q C.data.toList))) := ho5
            clear HBY ho5 hb5 hS
            by_cases hE0 : reE q C.data.toList = 0
            · have hv : vW q C.data.toList = -1 := if_pos hE0
              rw [hv]
              obtain ⟨a5, cp5, rfl, hbt, hl5, ha5, hc5, _⟩ := own_bts HO5.out
              have hcm := own_cap HO5.out
              have hrl := reR_le q C.data.toList
              rw [lC] at hrl
              have hM := HME.out w5 a5 (reR q C.data.toList) cp5 (reR q C.data.toList).length rfl hbt hc5 (by omega)
              clear HME hbt hl5 ha5 hv HO5
              go_wp2_with fail
              refine hM.mono ?_
              rintro e w6 ⟨⟨T2, b, rfl, hT2⟩, hb6⟩
              have HB6a : Hid (Below w.heap.size w w6) := HB5a.out.trans (hb6.mono HB5a.out.size)
              have HB6b : Hid (Below w1.heap.size w1 w6) := HB5b.out.trans (hb6.mono HB5b.out.size)
              clear hM hb6
              cases b with
              | true =>
                have hmo := mn_ok (f := xa) (t := xa + xt.size) (p := (A.data.toList, q, C.data.toList)) HN0.out hE0 (by simpa using hT2)
                have hml := mn_len xa (xa + xt.size) (A.data.toList, q, C.data.toList)
                rw [hmo] at hml
                dsimp only at hml
                rw [lC, Array.length_toList] at hml
                replace hml : T2.size ≤ 2 * C.size := hml
                have HDG : Hid (dd true (L.drop (k + 1)) (T ++ T2).data.toList = R) := by
                  show dd _ _ _ = _
                  rw [ByteArray.data_append, Array.toList_append]
                  have := HMN.out _ hmo
                  rw [if_neg (by simp)] at this
                  exact this.symm
                have hcc : (T.size : Int) + (T2.size : Int) ≤ 9223372036854775807 := by omega
                clear hT2 hmo HMN HN0 hE0
                go_wp2_with fail
                go_round
                case rel => exact ⟨k + 1, T ++ T2, hlt, by go_num, rfl, by rw [ByteArray.size_append]; omega, HB6a.out, HB6b.out, by show dd (preE L (k + 1)) _ _ = _; rw [hpe]; exact HDG.out⟩
                case measure => simp [intOf]; omega
              | false =>
                have hmo := mn_no (f := xa) (t := xa + xt.size) (p := (A.data.toList, q, C.data.toList)) HN0.out hE0 (by simpa using hT2)
                have HR : Hid (R = ([], 170, xa + 2 + A.size + 3)) := by
                  have := HMN.out _ hmo
                  rw [if_pos (by simp)] at this
                  show R = _
                  rw [this]
                  dsimp only
                  rw [lC]
                  simp only [Prod.mk.injEq, true_and]
                  omega
                have hS := HL1.out.below HB6b.out HL1.out.lt
                have c0 := hS.cell 0
                have c1 := hS.cell 1
                have f0 := hS.frozen 0
                have f1 := hS.frozen 1
                clear hT2 hmo HMN HN0 hE0 hS
                go_wp2_with fail
                refine bodyPost_ret (v := .tuple #[.string ⟨#[]⟩, .agg #[.int .i64 170, .int .i64 ((xa : Int) + 2 + (A.size : Int) + 3)]]) (by simp [results, Tryd.results14, go_sem, c0, c1]) rfl ⟨by rw [HR.out]; rfl, ?_⟩
                exact (HB6a.out.setCell (p := ⟨w.heap.size, 0, none⟩) (Nat.le_refl _) _).setCell (p := ⟨w.heap.size, 1, none⟩) (Nat.le_refl _) _
            · have hv : vW q C.data.toList = (reP q C.data.toList : Int) := if_neg hE0
              have hmo := mn_err (f := xa) (t := xa + xt.size) (p := (A.data.toList, q, C.data.toList)) HN0.out hE0
              have HR : Hid (R = ([], 170, xa + 2 + A.size + 3 + reP q C.data.toList)) := by
                have := HMN.out _ hmo
                rw [if_pos (by simp)] at this
                show R = _
                rw [this]
                dsimp only
                rw [lC]
                simp only [Prod.mk.injEq, true_and]
                omega
              have hS := HL1.out.below HB5b.out HL1.out.lt
              have c0 := hS.cell 0
              have c1 := hS.cell 1
              have f0 := hS.frozen 0
              have f1 := hS.frozen 1
              rw [hv]
              clear hmo HMN HN0 hE0 hS HME HO5 hv
              generalize reP q C.data.toList = p at *
              have hp0 : (0 : Int) ≤ (p : Int) := by omega
              go_wp2_with fail
              refine bodyPost_ret (v := .tuple #[.string ⟨#[]⟩, .agg #[.int .i64 170, .int .i64 ((xa : Int) + 2 + (A.size : Int) + 3 + (p : Int))]]) (by simp [results, Tryd.results14, go_sem, c0, c1]) rfl ⟨by rw [HR.out]; rfl, ?_⟩
              exact (HB5a.out.setCell (p := ⟨w.heap.size, 0, none⟩) (Nat.le_refl _) _).setCell (p := ⟨w.heap.size, 1, none⟩) (Nat.le_refl _) _
    · obtain rfl : k = L.length := by omega
      have HR : Hid (R = (T.data.toList, 0, 0)) := by
        have := HD.out
        rw [List.drop_length] at this
        exact this.symm
      have hL2 := HL1.out.below HBb.out HL1.out.lt
      have c0 := hL2.cell 0
      have c1 := hL2.cell 1
      have f0 := hL2.frozen 0
      have f1 := hL2.frozen 1
      clear HD hL2
      go_wp2_with fail
      refine bodyPost_ret (v := .tuple #[.string T, .agg #[.int .i64 0, .int .i64 0]]) (by simp [results, Tryd.results14, go_sem, c0, c1]) rfl ⟨by rw [HR.out, ddE, bS_of]; rfl, ?_⟩
      exact (HBa.out.setCell (p := ⟨w.heap.size, 0, none⟩) (Nat.le_refl _) _).setCell (p := ⟨w.heap.size, 1, none⟩) (Nat.le_refl _) _
end Go.Proofs.YtdgepnfgjgbkoaaDoor
