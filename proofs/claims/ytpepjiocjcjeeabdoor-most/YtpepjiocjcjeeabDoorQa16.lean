/-
  The document's Parse.
-/
import Derived.Test.YtpepjiocjcjeeabDoorQaP
import Derived.Test.YtpepjiocjcjeeabDoorPe16
import Derived.Test.YtpepjiocjcjeeabDoorDe16
namespace Go.Proofs.YtpepjiocjcjeeabDoor
open Go.RowKit

theorem ufield_any (a : Int) (w : World) : Calls Tryd.prog 24 #[.int .i64 a] w fun e w' => e = .returned (.agg #[.int .i64 160, .int .i64 a]) ∧ Below w.heap.size w w' := by
  go_enter Tryd.func24, Tryd.ntmps24
  go_wp2
  refine bodyPost_ret (ret_sp rfl _ _ w.heap.size #[.int .i64 160, .int .i64 a] _ rfl (Lies.new w _ _) Tryd.underlying27 rfl infoSp2) rfl ⟨rfl, (Below.refl _ _).alloc (Nat.le_refl _) _⟩
/-- One field more behind a row of the call's own. -/
theorem oper_append_fd {o : Oper} {a : Act} {w : World} {K : Act → World → Prop} {Q : Exit → Act → World → Prop} (s x : Operand)
    (ho : o.op = .call { callee := .builtin .append, args := #[s, x], argTypes := #[24, 24] }) (base : Nat) (v : Value) (n : Nat) (xs : List Value) (hs : a.eval s = v) (hown : w.ownsRow base 32 2 v n xs)
    (g c : Nat) (V : Array Value) (hVz : V.size = 2) (hVo : V.all (·.oneCell') = true) (hx : a.eval x = .slice (some ⟨g, 0, none⟩) 1 c) (hb : Lies w g V 32) (hn : n ≤ 1000000) (hbase : base ≤ w.heap.size)
    (h : ∀ v' w', w'.ownsRow base 32 2 v' (n + 1) (xs ++ V.toList) → w.grownBy w' v.ownBlock → K (a.put o.dst v') w') : o.wp Tryd.prog a w K Q := by
  obtain ⟨i0, hi, hz0, hz1, hz2⟩ := info_parts infoF16
  refine wp_append_own _ s x 24 ho base 32 i0 (.agg #[.string ⟨#[]⟩, .string ⟨#[]⟩]) 2 32 Tryd.underlying24 hi hz0 hz1 hz2 rfl (by decide) v n _ hs hown ⟨g, 0, none⟩ 1 c V.toList hx (by rw [Array.length_toList, hVz]) (fun j u hu => ?_) (fun u hu => ?_) (by unfold maxLen; omega) (by omega) hbase ?_
  · rw [Addr.add_lit, Nat.zero_add, hb.cell j]
    rw [Array.getElem?_toList] at hu
    exact hu
  · rw [Array.all_eq_true_iff_forall_mem] at hVo
    exact hVo u (Array.mem_toList_iff.1 hu)
  · intro v' w' hown' hgrow _
    exact h v' w' hown' hgrow
theorem results_tts {P : Program} {fn : Func} {p q r : Tmp} {tz : TypeId} (h : fn.results = #[.tmp p, .tmp q, .cell r tz]) (tmps : Array Value) (w : World) (g3 : Nat) (ds : Array Value) (d2 : TypeDesc) (u v : Value)
    (hp : tmps.getD p undef = u) (hq : tmps.getD q undef = v) (hr : tmps.getD r undef = .pointer (some ⟨g3, 0, none⟩)) (hg3 : Lies w g3 ds tz)
    (hu2 : P.underlying tz = some d2) (ha2 : (match d2 with | .struct _ | .array _ _ => true | _ => false) = true) (hz2 : (P.info? tz).map (·.size) = some ds.size) : (results fn tmps).run P w = .ok (.tuple #[u, v, .agg ds]) w := by
  have hp' : tmps[p]?.getD undef = u := by simpa using hp
  have hq' : tmps[q]?.getD undef = v := by simpa using hq
  have hr' : tmps[r]?.getD undef = .pointer (some ⟨g3, 0, none⟩) := by simpa using hr
  simp [results, h, hp', hq', hr', asAddr, run_loadVar_row w g3 tz tz ds (0, 0) d2 hg3 hu2 ha2 hz2]
set_option maxRecDepth 100000 in
set_option maxHeartbeats 4000000 in
theorem uparse_any (ad : Option Addr) (l : List UInt8) (cap : Nat) (hs : l.length ≤ 140737488351232) (w : World) (hr : Bts ad l w) :
    Calls Tryd.prog 9 #[.slice ad l.length cap] w fun e w' => ∃ v, e = .returned (.tuple #[v, .int .i64 (btP (prsF l) : Int), .agg #[.int .i64 ((spP (prsF l)).1 : Int), .int .i64 ((spP (prsF l)).2 : Int)]]) ∧ w'.ownsRow w.heap.size 32 2 v (fsP l (prsF l)).length (cellsF (fsP l (prsF l))) ∧ Below w.heap.size w w' := by
  obtain ⟨W1, hW1⟩ : ∃ W1, W1 = w.alloc (.cells #[.int .i64 0, .int .i64 0] 27) := ⟨_, rfl⟩
  have hb1 : Below w.heap.size w W1 := by rw [hW1]; exact (Below.refl _ _).alloc (Nat.le_refl _) _
  have HW1 : Hid (w.alloc (.cells #[.int .i64 0, .int .i64 0] 27) = W1) := hW1.symm
  have HSP : Hid (Lies W1 w.heap.size #[.int .i64 0, .int .i64 0] 27) := by rw [hW1]; exact Lies.new w _ _
  have HB1 : Hid (Below w.heap.size w W1) := hb1
  have hcv : (convert 22 9 (.slice ad l.length cap)).run Tryd.prog W1 = .ok (.string (tx l)) W1 := bts_back (hr.below hb1) cap
  obtain ⟨S, hS⟩ : ∃ S, S = tx l := ⟨_, rfl⟩
  rw [← hS] at hcv
  have HS : Hid (S.data.toList = l) := by rw [hS]; exact tx_list l
  have hSz : S.size = l.length := by rw [hS]; exact tx_size l
  have HSz : Hid (S.size = l.length) := hSz
  clear hW1 hb1 hr hS hSz
  go_enter Tryd.func9, Tryd.ntmps9
  go_wp2_with fail
  rw [HW1.out]
  simp only [hcv]
  go_wp2_with fail
  go_loopw [6, 7] (fun lv iv wr => ∃ (f : Nat) (ps : List Plc), iv = .int .i64 (f : Int) ∧ f ≤ l.length ∧ ps.length ≤ 4096 ∧ Hid (Pdt l f ps) ∧ Hid (Lies wr w.heap.size #[.int .i64 0, .int .i64 0] 27) ∧ Hid (wr.ownsRow (w.heap.size + 1) 32 2 lv ps.length (cellsF (ps.map (fdOf l)))) ∧ Hid (Below w.heap.size w wr)) (fun _ iv _ => l.length + 2 - (intOf iv).toNat)
  case atStart => exact ⟨0, [], rfl, Nat.zero_le _, Nat.zero_le _, Pdt.zero l, HSP.out, ⟨rfl, .inl ⟨rfl, rfl⟩⟩, HB1.out⟩
  case round =>
    obtain ⟨f, ps, rfl, hfl, hpl, HP, HL, HO, HB⟩ := hrel
    obtain ⟨pa, pc, rfl⟩ : ∃ pa pc, u6 = .slice pa ps.length pc := by
      rcases HO.out.2 with ⟨rfl, h0⟩ | ⟨g, cp, cur, rfl, _⟩
      · exact ⟨none, 0, by rw [h0]⟩
      · exact ⟨_, cp, rfl⟩
    have c0 := HL.out.cell 0
    have c1 := HL.out.cell 1
    have z0 := HL.out.frozen 0
    have z1 := HL.out.frozen 1
    simp only [List.getElem?_toArray, List.getElem?_cons_zero, List.getElem?_cons_succ] at c0 c1
    have HOKE : Hid (∀ x y : Int, Lies ((wr.setCell ⟨w.heap.size, 0, none⟩ (.int .i64 x)).setCell ⟨w.heap.size, 1, none⟩ (.int .i64 y)) w.heap.size #[.int .i64 x, .int .i64 y] 27 ∧ Below w.heap.size w ((wr.setCell ⟨w.heap.size, 0, none⟩ (.int .i64 x)).setCell ⟨w.heap.size, 1, none⟩ (.int .i64 y)) ∧ ((wr.setCell ⟨w.heap.size, 0, none⟩ (.int .i64 x)).setCell ⟨w.heap.size, 1, none⟩ (.int .i64 y)).ownsRow w.heap.size 32 2 (.slice pa ps.length pc) ps.length (cellsF (ps.map (fdOf l)))) := fun x y => ⟨(HL.out.set 0 (.int .i64 x)).set 1 (.int .i64 y), (HB.out.setCell (p := ⟨w.heap.size, 0, none⟩) (Nat.le_refl _) _).setCell (p := ⟨w.heap.size, 1, none⟩) (Nat.le_refl _) _, ownX_base (ownX_set (ownX_set HO.out w.heap.size 0 (Nat.lt_succ_self _) _) w.heap.size 1 (Nat.lt_succ_self _) _) (Nat.le_succ _)⟩
    obtain ⟨k0, hPs⟩ := HP.out.st
    have HPS : Hid (Pst l k0 f ps) := hPs
    clear hPs
    have e2 : IntKind.i64.wrap ((f : Int) + 2) = (f : Int) + 2 := by rw [IntKind.wrap_i64]; omega
    have HE1 : Hid (∀ wx, Calls Tryd.prog 22 #[.string S, .int .i64 (f : Int)] wx fun e w' => e = .returned (.bool (leH (l.drop f))) ∧ w' = wx) := fun wx => by
      have hSz := HSz.out
      have := uends_any S f (by omega) (by omega) wx
      rw [HS.out] at this
      exact this
    by_cases hA : f = l.length
    · have hAI : ((f : Int) == (S.size : Int)) = true := by rw [beq_iff_eq, HSz.out]; omega
      have HR : Hid (prsF l = .ok (ps, f)) := HPS.out.endA hA
      clear hA
      go_wp2_with fail
      obtain ⟨q1, q2, q3⟩ := HOKE.out 0 0
      refine bodyPost_ret (results_tts rfl _ _ w.heap.size #[.int .i64 0, .int .i64 0] _ (.slice pa ps.length pc) (.int .i64 (f : Int)) rfl rfl rfl q1 Tryd.underlying27 rfl infoSp2) rfl ?_
      rw [HR.out]
      exact ⟨.slice pa ps.length pc, rfl, by rw [show fsP l (.ok (ps, f)) = ps.map (fdOf l) from rfl, List.length_map]; exact q3, q2⟩
    · have hAI : ((f : Int) == (S.size : Int)) = false := by rw [beq_eq_false_iff_ne, HSz.out]; omega
      cases hB : leH (l.drop f) with
      | true =>
        rw [hB] at HE1
        have HR : Hid (prsF l = .ok (ps, f + 2)) := HPS.out.endB hA hB
        clear hA hB
        go_wp2_with fail
        refine (HE1.out _).mono ?_
        rintro e w1 ⟨rfl, h1⟩
        rw [h1]
        clear h1 w1
        go_wp2_with fail
        obtain ⟨q1, q2, q3⟩ := HOKE.out 0 0
        refine bodyPost_ret (results_tts rfl _ _ w.heap.size #[.int .i64 0, .int .i64 0] _ (.slice pa ps.length pc) (.int .i64 ((f : Int) + 2)) rfl rfl rfl q1 Tryd.underlying27 rfl infoSp2) rfl ?_
        rw [HR.out]
        exact ⟨.slice pa ps.length pc, rfl, by rw [show fsP l (.ok (ps, f + 2)) = ps.map (fdOf l) from rfl, List.length_map]; exact q3, q2⟩
      | false =>
        rw [hB] at HE1
        obtain ⟨z, hz⟩ : ∃ z, z = rwE l f := ⟨_, rfl⟩
        have hge := rwE_ge l f
        have hle := rwE_le l f hfl
        rw [← hz] at hge hle
        obtain ⟨T, hT⟩ : ∃ T, T = S.extract f z := ⟨_, rfl⟩
        have HRW : Hid (∀ wx, Calls Tryd.prog 23 #[.string S, .int .i64 (f : Int)] wx fun e w' => e = .returned (.string T) ∧ w' = wx) := fun wx => by
          have hSz := HSz.out
          have := urow_any S f (by omega) (by omega) wx
          rw [HS.out, ← hz, ← hT] at this
          exact this
        have HT : Hid (T.data.toList = stE l f z) := by rw [hT, ext_list, HS.out]; exact rfl
        have hTz : T.size = z - f := by rw [hT, ByteArray.size_extract, HSz.out]; omega
        have HTz : Hid (T.size = z - f) := hTz
        have e3 : IntKind.i64.wrap ((f : Int) + (T.size : Int)) = (z : Int) := by rw [IntKind.wrap_i64]; omega
        have e4 : IntKind.i64.wrap ((f : Int) + 998) = (f : Int) + 998 := by rw [IntKind.wrap_i64]; omega
        have HE2 : Hid (∀ wx, Calls Tryd.prog 22 #[.string S, .int .i64 (z : Int)] wx fun e w' => e = .returned (.bool (leH (l.drop z))) ∧ w' = wx) := fun wx => by
          have hSz := HSz.out
          have := uends_any S z (by omega) (by omega) wx
          rw [HS.out] at this
          exact this
        have HBAD : Hid (∀ e : Nat × Nat, tkH l ps f z = .error e → prsF l = .error e) := fun e h => HPS.out.bad hA hB (by rw [← hz]; exact h)
        have HNX : Hid (∀ qs, tkH l ps f z = .ok qs → Pdt l (z + 2) qs) := fun qs h => by
          have := HP.out.next hA hB (by rw [← hz]; exact h)
          rw [← hz] at this
          exact this
        have HNE : Hid (leH (l.drop z) = true → f < z) := fun h => by
          rcases Nat.lt_or_ge f z with h1 | h1
          · exact h1
          · have : z = f := by omega
            rw [this, hB] at h
            cases h
        have HERR : Hid (∀ (e : Nat × Nat) (wx : World), Lies wx w.heap.size #[.int .i64 0, .int .i64 0] 27 → True) := fun _ _ _ => trivial
        clear hA hB hT HERR hTz hz
        go_wp2_with fail
        refine (HE1.out _).mono ?_
        rintro e w1 ⟨rfl, h1⟩
        rw [h1]
        clear h1 w1
        go_wp2_with fail
        refine (HRW.out _).mono ?_
        rintro e w1 ⟨rfl, h1⟩
        rw [h1]
        clear h1 w1
        by_cases hC : 998 < z - f
        · have hCI : (998 : Int) < (T.size : Int) := by rw [HTz.out]; omega
          have HR : Hid (prsF l = .error (160, f + 998)) := HBAD.out _ (tk_long l ps f z hC)
          have HUF : Hid (∀ wx, Calls Tryd.prog 24 #[.int .i64 ((f : Int) + 998)] wx fun e w' => e = .returned (.agg #[.int .i64 160, .int .i64 ((f : Int) + 998)]) ∧ Below wx.heap.size wx w') := fun wx => ufield_any _ wx
          go_wp2_with fail
          refine (HUF.out _).mono ?_
          rintro e w1 ⟨rfl, h1⟩
          have HL1 : Hid (Lies w1 w.heap.size #[.int .i64 0, .int .i64 0] 27 ∧ Below w.heap.size w w1) := ⟨HL.out.below h1 HL.out.lt, HB.out.trans (h1.mono HB.out.size)⟩
          clear h1 c0 c1 z0 z1 HUF
          have c0 := HL1.out.1.cell 0
          have c1 := HL1.out.1.cell 1
          have z0 := HL1.out.1.frozen 0
          have z1 := HL1.out.1.frozen 1
          simp only [List.getElem?_toArray, List.getElem?_cons_zero, List.getElem?_cons_succ] at c0 c1
          go_wp2_with fail
          refine bodyPost_ret (results_tts rfl _ _ w.heap.size #[.int .i64 160, .int .i64 ((f : Int) + 998)] _ (.slice none 0 0) (.int .i64 0) rfl rfl rfl ((HL1.out.1.set 0 (.int .i64 160)).set 1 (.int .i64 ((f : Int) + 998))) Tryd.underlying27 rfl infoSp2) rfl ?_
          rw [HR.out]
          exact ⟨.slice none 0 0, rfl, ⟨rfl, .inl ⟨rfl, rfl⟩⟩, (HL1.out.2.setCell (p := ⟨w.heap.size, 0, none⟩) (Nat.le_refl _) _).setCell (p := ⟨w.heap.size, 1, none⟩) (Nat.le_refl _) _⟩
        · have hCI : ¬ (998 : Int) < (T.size : Int) := by rw [HTz.out]; omega
          have hC2 : z - f ≤ 998 := by omega
          clear hC
          cases hD : leH (l.drop z) with
          | false =>
            rw [hD] at HE2
            go_wp2_with fail
            refine (HE2.out _).mono ?_
            rintro e w1 ⟨rfl, h1⟩
            rw [h1]
            clear h1 w1
            have HR : Hid (prsF l = .error (160, z)) := HBAD.out _ (tk_open l ps f z hC2 hD)
            have HUF : Hid (∀ wx, Calls Tryd.prog 24 #[.int .i64 (z : Int)] wx fun e w' => e = .returned (.agg #[.int .i64 160, .int .i64 (z : Int)]) ∧ Below wx.heap.size wx w') := fun wx => ufield_any _ wx
            go_wp2_with fail
            refine (HUF.out _).mono ?_
            rintro e w1 ⟨rfl, h1⟩
            have HL1 : Hid (Lies w1 w.heap.size #[.int .i64 0, .int .i64 0] 27 ∧ Below w.heap.size w w1) := ⟨HL.out.below h1 HL.out.lt, HB.out.trans (h1.mono HB.out.size)⟩
            clear h1 c0 c1 z0 z1 HUF
            have c0 := HL1.out.1.cell 0
            have c1 := HL1.out.1.cell 1
            have z0 := HL1.out.1.frozen 0
            have z1 := HL1.out.1.frozen 1
            simp only [List.getElem?_toArray, List.getElem?_cons_zero, List.getElem?_cons_succ] at c0 c1
            go_wp2_with fail
            refine bodyPost_ret (results_tts rfl _ _ w.heap.size #[.int .i64 160, .int .i64 (z : Int)] _ (.slice none 0 0) (.int .i64 0) rfl rfl rfl ((HL1.out.1.set 0 (.int .i64 160)).set 1 (.int .i64 (z : Int))) Tryd.underlying27 rfl infoSp2) rfl ?_
            rw [HR.out]
            exact ⟨.slice none 0 0, rfl, ⟨rfl, .inl ⟨rfl, rfl⟩⟩, (HL1.out.2.setCell (p := ⟨w.heap.size, 0, none⟩) (Nat.le_refl _) _).setCell (p := ⟨w.heap.size, 1, none⟩) (Nat.le_refl _) _⟩
          | true =>
            rw [hD] at HE2
            have hfz := HNE.out hD
            have hT0 : 0 < T.size := by rw [HTz.out]; omega
            have hcr : stE l f z = T[0] :: (stE l f z).drop 1 := by
              rw [← HT.out]
              have : 0 < T.data.toList.length := by rw [len_list]; exact hT0
              conv => lhs; rw [← List.drop_zero (l := T.data.toList), List.drop_eq_getElem_cons this]
              rfl
            have hlf : l[f]? = some T[0] := by
              have h1 : (stE l f z)[0]? = some T[0] := by rw [hcr]; rfl
              unfold stE at h1
              rw [List.getElem?_drop, Nat.add_zero, List.getElem?_take, if_pos hfz] at h1
              exact h1
            have HTK : Hid (tkH l ps f z = if blB T[0] = true then foldH l ps f z else begH l ps f z) := tk_blank l ps f z _ hlf hC2 hD
            have HFD : Hid (blB T[0] = true → foldH l ps f z = if (stE l f z).all blB = true ∨ ps = [] then .error (161, f) else .ok (setLast ps z)) := fun h => fold_doc l ps f z _ _ hcr h
            have HUB : Hid (∀ wx, Calls Tryd.prog 25 #[.int .u8 (T[0].toNat : Int)] wx fun e w' => e = .returned (.bool (blB T[0])) ∧ w' = wx) := fun wx => ublank_any _ wx
            clear hcr hlf
            go_wp2_with fail
            refine (HE2.out _).mono ?_
            rintro e w1 ⟨rfl, h1⟩
            rw [h1]
            clear h1 w1
            go_wp2_with fail
            refine (HUB.out _).mono ?_
            rintro e w1 ⟨rfl, h1⟩
            rw [h1]
            clear h1 w1
            cases hbl : blB T[0] with
            | true =>
              rw [hbl] at HTK
              have HFD2 := HFD.out hbl
              clear hbl
              have HAL : Hid (∀ wx, Calls Tryd.prog 26 #[.string T] wx fun e w' => e = .returned (.bool ((stE l f z).all blB)) ∧ w' = wx) := fun wx => by
                have := ublanks_any T (by rw [HTz.out]; omega) wx
                rw [HT.out] at this
                exact this
              cases hall : (stE l f z).all blB with
              | true =>
                rw [hall] at HAL
                have htk : tkH l ps f z = .error (161, f) := by rw [HTK.out, if_pos rfl, HFD2, if_pos (.inl hall)]
                clear HFD2 hall
                go_wp2_with fail
                refine (HAL.out _).mono ?_
                rintro e w1 ⟨rfl, h1⟩
                rw [h1]
                clear h1 w1
                have HR : Hid (prsF l = .error (161, f)) := HBAD.out _ htk
                have HL1 : Hid (Lies wr w.heap.size #[.int .i64 0, .int .i64 0] 27 ∧ Below w.heap.size w wr) := ⟨HL.out, HB.out⟩
                go_wp2_with fail
                refine bodyPost_ret (results_tts rfl _ _ w.heap.size #[.int .i64 161, .int .i64 (f : Int)] _ (.slice none 0 0) (.int .i64 0) rfl rfl rfl ((HL1.out.1.set 0 (.int .i64 161)).set 1 (.int .i64 (f : Int))) Tryd.underlying27 rfl infoSp2) rfl ?_
                rw [HR.out]
                exact ⟨.slice none 0 0, rfl, ⟨rfl, .inl ⟨rfl, rfl⟩⟩, (HL1.out.2.setCell (p := ⟨w.heap.size, 0, none⟩) (Nat.le_refl _) _).setCell (p := ⟨w.heap.size, 1, none⟩) (Nat.le_refl _) _⟩
              | false =>
                rw [hall] at HAL
                by_cases hps : ps = []
                · have htk : tkH l ps f z = .error (161, f) := by rw [HTK.out, if_pos rfl, HFD2, if_pos (.inr hps)]
                  have hpI : ((ps.length : Int) == 0) = true := by rw [hps]; rfl
                  clear HFD2 hall
                  go_wp2_with fail
                  refine (HAL.out _).mono ?_
                  rintro e w1 ⟨rfl, h1⟩
                  rw [h1]
                  clear h1 w1
                  have HR : Hid (prsF l = .error (161, f)) := HBAD.out _ htk
                  have HL1 : Hid (Lies wr w.heap.size #[.int .i64 0, .int .i64 0] 27 ∧ Below w.heap.size w wr) := ⟨HL.out, HB.out⟩
                  go_wp2_with fail
                  refine bodyPost_ret (results_tts rfl _ _ w.heap.size #[.int .i64 161, .int .i64 (f : Int)] _ (.slice none 0 0) (.int .i64 0) rfl rfl rfl ((HL1.out.1.set 0 (.int .i64 161)).set 1 (.int .i64 (f : Int))) Tryd.underlying27 rfl infoSp2) rfl ?_
                  rw [HR.out]
                  exact ⟨.slice none 0 0, rfl, ⟨rfl, .inl ⟨rfl, rfl⟩⟩, (HL1.out.2.setCell (p := ⟨w.heap.size, 0, none⟩) (Nat.le_refl _) _).setCell (p := ⟨w.heap.size, 1, none⟩) (Nat.le_refl _) _⟩
                · have htk : tkH l ps f z = .ok (setLast ps z) := by rw [HTK.out, if_pos rfl, HFD2, if_neg (by rw [hall]; simp [hps])]
                  have HPN : Hid (Pdt l (z + 2) (setLast ps z)) := HNX.out _ htk
                  obtain ⟨q, p, hqp⟩ := snoc_of ps hps
                  have hpl1 : ps.length = q.length + 1 := by rw [hqp]; simp
                  have hpI : ((ps.length : Int) == 0) = false := by rw [beq_eq_false_iff_ne]; omega
                  have hpok := (HPS.out.ok p (by rw [hqp]; simp)).1
                  obtain ⟨hpt, hpe⟩ := HP.out.la q p hqp
                  have HFL : Hid (fdOf l ⟨p.f, p.c, z⟩ = ⟨(fdOf l p).name, (fdOf l p).body ++ [13, 10] ++ stE l f z⟩) := fd_fold l p f z hpok hpt hpe hge hle
                  have HSL : Hid ((setLast ps z).map (fdOf l) = q.map (fdOf l) ++ [⟨(fdOf l p).name, (fdOf l p).body ++ [13, 10] ++ stE l f z⟩] ∧ (setLast ps z).length = ps.length) := by
                    refine ⟨?_, setLast_len ps z⟩
                    rw [hqp, setLast_snoc, List.map_append, List.map_cons, List.map_nil, HFL.out]
                  have HMP : Hid (ps.map (fdOf l) = q.map (fdOf l) ++ [fdOf l p]) := by rw [hqp, List.map_append]; exact rfl
                  have hbl2 : (fdOf l p).body.length ≤ l.length := by
                    unfold fdOf
                    dsimp only
                    rw [stE_len l _ _ hpok.2.2]
                    have := hpok.2.2
                    omega
                  obtain ⟨g, rfl⟩ : ∃ g, pa = some ⟨g, 0, none⟩ := by
                    rcases HO.out.2 with ⟨e1, e2⟩ | ⟨g', cp, cur, e1, _⟩
                    · omega
                    · injection e1 with e1
                      exact ⟨g', e1⟩
                  have hgb : w.heap.size + 1 ≤ g := (HO.out.lt g rfl).1
                  have d0 : wr.cell? ⟨g, q.length * 2 + 1, none⟩ = some (.string (tx (fdOf l p).body)) := by
                    have hq := (cellsF_at (ps.map (fdOf l)) q.length (by rw [List.length_map]; omega)).2
                    rw [HO.out.cellAt (q.length * 2 + 1) (by omega), hq]
                    congr 3
                    simp only [HMP.out]
                    rw [List.getElem_append_right (by simp)]
                    simp
                  have y0 := HO.out.frozenAt (g := g) (q.length * 2 + 1)
                  have HTX : Hid (T = tx (stE l f z)) := by rw [← HT.out, tx_back]; exact rfl
                  have HCAT : Hid (tx (fdOf l p).body ++ ⟨#[13, 10]⟩ ++ T = tx ((fdOf l p).body ++ [13, 10] ++ stE l f z)) := by
                    rw [HTX.out, ← tx_cat, ← tx_cat]
                    exact rfl
                  have HO2 : Hid ((wr.setCell ⟨g, q.length * 2 + 1, none⟩ (.string (tx ((fdOf l p).body ++ [13, 10] ++ stE l f z)))).ownsRow (w.heap.size + 1) 32 2 (.slice (some ⟨g, 0, none⟩) ps.length pc) (setLast ps z).length (cellsF ((setLast ps z).map (fdOf l)))) := by
                    have h1 := (HO.out.stored (q.length * 2 + 1) (.string (tx ((fdOf l p).body ++ [13, 10] ++ stE l f z)))).1
                    have e : (cellsF (ps.map (fdOf l))).set (q.length * 2 + 1) (.string (tx ((fdOf l p).body ++ [13, 10] ++ stE l f z))) = cellsF ((setLast ps z).map (fdOf l)) := by
                      rw [HMP.out, HSL.out.1]
                      have := cells_last (q.map (fdOf l)) (fdOf l p) ((fdOf l p).body ++ [13, 10] ++ stE l f z)
                      rw [List.length_map] at this
                      exact this
                    rw [e] at h1
                    rw [HSL.out.2]
                    exact h1
                  have HB2 : Hid (Below w.heap.size w (wr.setCell ⟨g, q.length * 2 + 1, none⟩ (.string (tx ((fdOf l p).body ++ [13, 10] ++ stE l f z))))) := HB.out.setCell (p := ⟨g, q.length * 2 + 1, none⟩) (by dsimp only; omega) _
                  have HL2 : Hid (Lies (wr.setCell ⟨g, q.length * 2 + 1, none⟩ (.string (tx ((fdOf l p).body ++ [13, 10] ++ stE l f z)))) w.heap.size #[.int .i64 0, .int .i64 0] 27) := HL.out.set_other (a := ⟨g, q.length * 2 + 1, none⟩) (by dsimp only; omega) _
                  have hbs : (tx (fdOf l p).body).size ≤ 140737488351232 := by rw [tx_size]; omega
                  have hT2 : T.size ≤ 140737488351232 := by rw [HTz.out]; omega
                  have HLS : Hid ((setLast ps z).length ≤ 4096) := by rw [HSL.out.2]; exact hpl
                  have i1 : IntKind.i64.wrap ((ps.length : Int) - 1) = (q.length : Int) := by rw [IntKind.wrap_i64]; omega
                  have i2 : IntKind.i64.wrap ((z : Int) + 2) = (z : Int) + 2 := by rw [IntKind.wrap_i64]; omega
                  have i3 : (q.length : Int) < (ps.length : Int) := by omega
                  have HZL : Hid (z + 2 ≤ l.length) := leH_lt l z hD
                  rw [← HCAT.out] at HO2 HB2 HL2
                  clear HFD2 hall htk hqp hpok hpt hpe HFL HSL HMP hbl2 HTX HCAT hps
                  generalize tx (fdOf l p).body = bdy at *
                  go_wp2_with fail
                  refine (HAL.out _).mono ?_
                  rintro e w1 ⟨rfl, h1⟩
                  rw [h1]
                  clear h1 w1
                  go_wp2_with fail
                  refine ⟨⟨z + 2, setLast ps z, by go_num, HZL.out, HLS.out, HPN.out, HL2.out, ?_, HB2.out⟩, by simp [intOf]; omega⟩
                  rw [← hpl1]
                  exact HO2.out
            | false =>
              rw [hbl] at HTK
              clear hbl HFD HUB
              obtain ⟨m, hm⟩ : ∃ m, m = badN 11 (stE l f z) := ⟨_, rfl⟩
              have HRB : Hid (∀ wx, Calls Tryd.prog 27 #[.int .i64 11, .string T] wx fun e w' => e = .returned (.int .i64 (m : Int)) ∧ w' = wx) := fun wx => by
                have := rbad_11 T wx (by unfold maxLen; rw [HTz.out]; omega)
                rw [HT.out, ← hm] at this
                exact this
              have hmz : m ≤ T.size := by
                have := badN_le 11 (stE l f z)
                rw [stE_len l f z hle, ← HTz.out, ← hm] at this
                exact this
              have HBG : Hid (tkH l ps f z = if m = 0 ∨ m = z - f ∨ l[f + m]? ≠ some 58 then .error (160, f + m) else if ps.length = 4096 then .error (160, f) else .ok (ps ++ [⟨f, f + m, z⟩])) := by
                rw [HTK.out, if_neg (by decide), hm]
                exact rfl
              have e5 : IntKind.i64.wrap ((f : Int) + (m : Int)) = (f : Int) + (m : Int) := by
                have := HTz.out
                rw [IntKind.wrap_i64]; omega
              have HFM : Hid (((f + m : Nat) : Int) = (f : Int) + (m : Int)) := by show ((f + m : Nat) : Int) = _; omega
              clear hm HTK
              go_wp2_with fail
              refine (HRB.out _).mono ?_
              rintro e w1 ⟨rfl, h1⟩
              rw [h1]
              clear h1 w1
              by_cases h0 : m = 0
              · have h0I : ((m : Int) == 0) = true := by rw [beq_iff_eq]; omega
                have htk : tkH l ps f z = .error (160, f + m) := by rw [HBG.out, if_pos (.inl h0)]
                clear h0
                have HR : Hid (prsF l = .error (160, f + m)) := HBAD.out _ htk
                have HUF : Hid (∀ wx, Calls Tryd.prog 24 #[.int .i64 ((f : Int) + (m : Int))] wx fun e w' => e = .returned (.agg #[.int .i64 160, .int .i64 ((f : Int) + (m : Int))]) ∧ Below wx.heap.size wx w') := fun wx => ufield_any _ wx
                go_wp2_with fail
                refine (HUF.out _).mono ?_
                rintro e w1 ⟨rfl, h1⟩
                have HL1 : Hid (Lies w1 w.heap.size #[.int .i64 0, .int .i64 0] 27 ∧ Below w.heap.size w w1) := ⟨HL.out.below h1 HL.out.lt, HB.out.trans (h1.mono HB.out.size)⟩
                clear h1 c0 c1 z0 z1 HUF
                have c0 := HL1.out.1.cell 0
                have c1 := HL1.out.1.cell 1
                have z0 := HL1.out.1.frozen 0
                have z1 := HL1.out.1.frozen 1
                simp only [List.getElem?_toArray, List.getElem?_cons_zero, List.getElem?_cons_succ] at c0 c1
                go_wp2_with fail
                refine bodyPost_ret (results_tts rfl _ _ w.heap.size #[.int .i64 160, .int .i64 ((f : Int) + (m : Int))] _ (.slice none 0 0) (.int .i64 0) rfl rfl rfl ((HL1.out.1.set 0 (.int .i64 160)).set 1 (.int .i64 ((f : Int) + (m : Int)))) Tryd.underlying27 rfl infoSp2) rfl ?_
                rw [HR.out]
                exact ⟨.slice none 0 0, by rw [← HFM.out]; rfl, ⟨rfl, .inl ⟨rfl, rfl⟩⟩, (HL1.out.2.setCell (p := ⟨w.heap.size, 0, none⟩) (Nat.le_refl _) _).setCell (p := ⟨w.heap.size, 1, none⟩) (Nat.le_refl _) _⟩
              · have h0I : ((m : Int) == 0) = false := by rw [beq_eq_false_iff_ne]; omega
                by_cases hmt : m = T.size
                · have hmI : ((m : Int) == (T.size : Int)) = true := by rw [beq_iff_eq]; omega
                  have htk : tkH l ps f z = .error (160, f + m) := by rw [HBG.out, if_pos (.inr (.inl (by rw [hmt, HTz.out])))]
                  clear h0 hmt
                  have HR : Hid (prsF l = .error (160, f + m)) := HBAD.out _ htk
                  have HUF : Hid (∀ wx, Calls Tryd.prog 24 #[.int .i64 ((f : Int) + (m : Int))] wx fun e w' => e = .returned (.agg #[.int .i64 160, .int .i64 ((f : Int) + (m : Int))]) ∧ Below wx.heap.size wx w') := fun wx => ufield_any _ wx
                  go_wp2_with fail
                  refine (HUF.out _).mono ?_
                  rintro e w1 ⟨rfl, h1⟩
                  have HL1 : Hid (Lies w1 w.heap.size #[.int .i64 0, .int .i64 0] 27 ∧ Below w.heap.size w w1) := ⟨HL.out.below h1 HL.out.lt, HB.out.trans (h1.mono HB.out.size)⟩
                  clear h1 c0 c1 z0 z1 HUF
                  have c0 := HL1.out.1.cell 0
                  have c1 := HL1.out.1.cell 1
                  have z0 := HL1.out.1.frozen 0
                  have z1 := HL1.out.1.frozen 1
                  simp only [List.getElem?_toArray, List.getElem?_cons_zero, List.getElem?_cons_succ] at c0 c1
                  go_wp2_with fail
                  refine bodyPost_ret (results_tts rfl _ _ w.heap.size #[.int .i64 160, .int .i64 ((f : Int) + (m : Int))] _ (.slice none 0 0) (.int .i64 0) rfl rfl rfl ((HL1.out.1.set 0 (.int .i64 160)).set 1 (.int .i64 ((f : Int) + (m : Int)))) Tryd.underlying27 rfl infoSp2) rfl ?_
                  rw [HR.out]
                  exact ⟨.slice none 0 0, by rw [← HFM.out]; rfl, ⟨rfl, .inl ⟨rfl, rfl⟩⟩, (HL1.out.2.setCell (p := ⟨w.heap.size, 0, none⟩) (Nat.le_refl _) _).setCell (p := ⟨w.heap.size, 1, none⟩) (Nat.le_refl _) _⟩
                · have hmI : ((m : Int) == (T.size : Int)) = false := by rw [beq_eq_false_iff_ne]; omega
                  have hmT : m < T.size := by omega
                  have hmTI : (m : Int) < (T.size : Int) := by omega
                  have HAT : Hid (l[f + m]? = some T[m]) := by
                    have h1 : (stE l f z)[m]? = some T[m] := by
                      rw [← HT.out, List.getElem?_eq_getElem (by rw [len_list]; exact hmT)]
                      rfl
                    unfold stE at h1
                    rw [List.getElem?_drop, List.getElem?_take, if_pos (by have := HTz.out; omega)] at h1
                    exact h1
                  have HN0 : Hid (m ≠ 0 ∧ m ≠ z - f) := ⟨h0, by rw [← HTz.out]; exact hmt⟩
                  clear h0 hmt
                  by_cases h58 : T[m] = 58
                  · have k58 := u8nv (m := 58) h58
                    by_cases hp4 : ps.length = 4096
                    · have hpI : ((ps.length : Int) == 4096) = true := by rw [beq_iff_eq]; omega
                      have htk : tkH l ps f z = .error (160, f) := by rw [HBG.out, if_neg (fun e => e.elim HN0.out.1 (fun e => e.elim HN0.out.2 (fun e => e (by rw [HAT.out, h58])))), if_pos hp4]
                      clear h58 hp4
                      have HR : Hid (prsF l = .error (160, f)) := HBAD.out _ htk
                      have HUF : Hid (∀ wx, Calls Tryd.prog 24 #[.int .i64 (f : Int)] wx fun e w' => e = .returned (.agg #[.int .i64 160, .int .i64 (f : Int)]) ∧ Below wx.heap.size wx w') := fun wx => ufield_any _ wx
                      go_wp2_with fail
                      refine (HUF.out _).mono ?_
                      rintro e w1 ⟨rfl, h1⟩
                      have HL1 : Hid (Lies w1 w.heap.size #[.int .i64 0, .int .i64 0] 27 ∧ Below w.heap.size w w1) := ⟨HL.out.below h1 HL.out.lt, HB.out.trans (h1.mono HB.out.size)⟩
                      clear h1 c0 c1 z0 z1 HUF
                      have c0 := HL1.out.1.cell 0
                      have c1 := HL1.out.1.cell 1
                      have z0 := HL1.out.1.frozen 0
                      have z1 := HL1.out.1.frozen 1
                      simp only [List.getElem?_toArray, List.getElem?_cons_zero, List.getElem?_cons_succ] at c0 c1
                      go_wp2_with fail
                      refine bodyPost_ret (results_tts rfl _ _ w.heap.size #[.int .i64 160, .int .i64 (f : Int)] _ (.slice none 0 0) (.int .i64 0) rfl rfl rfl ((HL1.out.1.set 0 (.int .i64 160)).set 1 (.int .i64 (f : Int))) Tryd.underlying27 rfl infoSp2) rfl ?_
                      rw [HR.out]
                      exact ⟨.slice none 0 0, rfl, ⟨rfl, .inl ⟨rfl, rfl⟩⟩, (HL1.out.2.setCell (p := ⟨w.heap.size, 0, none⟩) (Nat.le_refl _) _).setCell (p := ⟨w.heap.size, 1, none⟩) (Nat.le_refl _) _⟩
                    · have hpI : ((ps.length : Int) == 4096) = false := by rw [beq_eq_false_iff_ne]; omega
                      have htk : tkH l ps f z = .ok (ps ++ [⟨f, f + m, z⟩]) := by rw [HBG.out, if_neg (fun e => e.elim HN0.out.1 (fun e => e.elim HN0.out.2 (fun e => e (by rw [HAT.out, h58])))), if_neg hp4]
                      have HPN : Hid (Pdt l (z + 2) (ps ++ [⟨f, f + m, z⟩])) := HNX.out _ htk
                      have HP4 : Hid (ps.length + 1 ≤ 4096) := by show ps.length + 1 ≤ 4096; omega
                      clear h58 hp4 htk HBG
                      have e6 : IntKind.i64.wrap ((m : Int) + 1) = (m : Int) + 1 := by
                        have := HTz.out
                        rw [IntKind.wrap_i64]; omega
                      have hm1 : (m : Int) + 1 ≤ (T.size : Int) := by omega
                      have hmle : (m : Int) ≤ (T.size : Int) := by omega
                      go_wp2_with fail
                      refine wp_onlyN ?_
                      refine wp_region_late (fun _ => True) 11 (by kernel_rfl) trivial (fun hHeld => ?_)
                      refine wpAnyE_take (i := 0) (d := some 100) (v := .slice pa ps.length pc) rfl (by kernel_rfl) (by kernel_rfl) (by kernel_rfl) (by kernel_rfl) (fun _ _ _ h => h) rfl rfl ?hy (by first | assumption | exact hHeld) ?_
                      case hy => (intro w' hSw; clear hSw; go_simp <;> (first | with_reducible rfl | omega | skip))
                      simp only [Act.put, List.setIfInBounds_toArray, List.set_cons_zero, List.set_cons_succ]
                      refine wpAnyE_take (i := 1) (d := some 101) (v := .string T) rfl (by kernel_rfl) (by kernel_rfl) (by kernel_rfl) (by kernel_rfl) (fun _ _ _ h => h) rfl rfl ?hy (by first | assumption | exact hHeld) ?_
                      case hy => (intro w' hSw; clear hSw; go_simp <;> (first | with_reducible rfl | omega | skip))
                      simp only [Act.put, List.setIfInBounds_toArray, List.set_cons_zero, List.set_cons_succ]
                      refine wpAnyE_take (i := 2) (d := some 102) (v := .int .i64 (m : Int)) rfl (by kernel_rfl) (by kernel_rfl) (by kernel_rfl) (by kernel_rfl) (fun _ _ _ h => h) rfl rfl ?hy (by first | assumption | exact hHeld) ?_
                      case hy => (intro w' hSw; clear hSw; go_simp <;> (first | with_reducible rfl | omega | skip))
                      simp only [Act.put, List.setIfInBounds_toArray, List.set_cons_zero, List.set_cons_succ]
                      refine wpAnyE_take (i := 3) (d := some 103) (v := .string (T.extract 0 m)) rfl (by kernel_rfl) (by kernel_rfl) (by kernel_rfl) (by kernel_rfl) (fun _ _ _ h => h) rfl rfl ?hy (by first | assumption | exact hHeld) ?_
                      case hy => (intro w' hSw; clear hSw; go_simp <;> (first | with_reducible rfl | omega | skip))
                      simp only [Act.put, List.setIfInBounds_toArray, List.set_cons_zero, List.set_cons_succ]
                      refine wpAnyE_take (i := 4) (d := some 104) (v := .string T) rfl (by kernel_rfl) (by kernel_rfl) (by kernel_rfl) (by kernel_rfl) (fun _ _ _ h => h) rfl rfl ?hy (by first | assumption | exact hHeld) ?_
                      case hy => (intro w' hSw; clear hSw; go_simp <;> (first | with_reducible rfl | omega | skip))
                      simp only [Act.put, List.setIfInBounds_toArray, List.set_cons_zero, List.set_cons_succ]
                      refine wpAnyE_take (i := 5) (d := some 105) (v := .int .i64 (m : Int)) rfl (by kernel_rfl) (by kernel_rfl) (by kernel_rfl) (by kernel_rfl) (fun _ _ _ h => h) rfl rfl ?hy (by first | assumption | exact hHeld) ?_
                      case hy => (intro w' hSw; clear hSw; go_simp <;> (first | with_reducible rfl | omega | skip))
                      simp only [Act.put, List.setIfInBounds_toArray, List.set_cons_zero, List.set_cons_succ]
                      refine wpAnyE_take (i := 6) (d := some 106) (v := .int .i64 ((m : Int) + 1)) rfl (by kernel_rfl) (by kernel_rfl) (by kernel_rfl) (by kernel_rfl) (fun _ _ _ h => h) rfl rfl ?hy (by first | assumption | exact hHeld) ?_
                      case hy => (intro w' hSw; clear hSw; go_simp <;> (first | with_reducible rfl | omega | skip))
                      simp only [Act.put, List.setIfInBounds_toArray, List.set_cons_zero, List.set_cons_succ]
                      refine wpAnyE_take (i := 7) (d := some 107) (v := .string (T.extract (m + 1) T.size)) rfl (by kernel_rfl) (by kernel_rfl) (by kernel_rfl) (by kernel_rfl) (fun _ _ _ h => h) rfl rfl ?hy (by first | assumption | exact hHeld) ?_
                      case hy => (intro w' hSw; clear hSw; go_simp <;> (first | with_reducible rfl | omega | skip))
                      simp only [Act.put, List.setIfInBounds_toArray, List.set_cons_zero, List.set_cons_succ]
                      refine wpAnyE_take (i := 8) (d := some 108) (v := .agg #[.string (T.extract 0 m), .string (T.extract (m + 1) T.size)]) rfl (by kernel_rfl) (by kernel_rfl) (by kernel_rfl) (by kernel_rfl) (fun _ _ _ h => h) rfl rfl ?hy (by first | assumption | exact hHeld) ?_
                      case hy => (intro w' hSw; clear hSw; go_simp <;> (first | with_reducible rfl | omega | skip))
                      simp only [Act.put, List.setIfInBounds_toArray, List.set_cons_zero, List.set_cons_succ]
                      refine wpAnyE_one (i := 9) (by kernel_rfl) rfl rfl ?_
                      go_simp
                      refine wpAnyE_one (i := 10) (by kernel_rfl) rfl rfl ?_
                      refine oper_append_fd _ _ rfl (w.heap.size + 1) (.slice pa ps.length pc) ps.length (cellsF (ps.map (fdOf l))) rfl ((HO.out.alloc _).drew) wr.heap.size 1 #[.string (T.extract 0 m), .string (T.extract (m + 1) T.size)] rfl (by simp [Value.oneCell']) rfl (Lies.new wr _ _).drew (by omega) (by have := HL.out.lt; simp; omega) ?_
                      intro v9 w9 hown9 hgrow9
                      refine ⟨.inr trivial, ?_⟩
                      have hbw : Below wr.heap.size wr (wr.alloc (.cells #[.string (T.extract 0 m), .string (T.extract (m + 1) T.size)] 32)).drew := ((Below.refl _ _).alloc (Nat.le_refl _) _).drew
                      have hoA : (wr.alloc (.cells #[.string (T.extract 0 m), .string (T.extract (m + 1) T.size)] 32)).drew.ownsRow (w.heap.size + 1) 32 2 (.slice pa ps.length pc) ps.length (cellsF (ps.map (fdOf l))) := (HO.out.alloc _).drew
                      have HL9 : Hid (Lies w9 w.heap.size #[.int .i64 0, .int .i64 0] 27) := (hgrow9.block w.heap.size (by have := HL.out.lt; simp; omega) (fun e => by have := (hoA.lt _ e.symm).1; omega)).trans (HL.out.below hbw HL.out.lt)
                      have HB9 : Hid (Below w.heap.size w w9) := (HB.out.trans (hbw.mono HB.out.size)).grown hgrow9 (by have := HL.out.lt; simp; omega) (fun q hq => by have := (hoA.lt q hq).1; omega)
                      have HO9 : Hid (w9.ownsRow (w.heap.size + 1) 32 2 v9 (ps ++ [(⟨f, f + m, z⟩ : Plc)]).length (cellsF ((ps ++ [(⟨f, f + m, z⟩ : Plc)]).map (fdOf l)))) := by
                        show World.ownsRow _ _ _ _ _ _ _
                        have h5 : fdOf l ⟨f, f + m, z⟩ = ⟨(stE l f z).take m, (stE l f z).drop (m + 1)⟩ := fd_beg l f m z (by have := HTz.out; omega)
                        have h6 : cellsF [fdOf l ⟨f, f + m, z⟩] = [.string (T.extract 0 m), .string (T.extract (m + 1) T.size)] := by
                          rw [h5, cellsF_one, tx_ext, tx_ext, HT.out, List.drop_zero, List.take_of_length_le (l := stE l f z) (i := T.size) (by rw [← HT.out, len_list]; exact Nat.le_refl _)]
                          rfl
                        rw [List.map_append, List.map_cons, List.map_nil, cellsF_append, h6, List.length_append]
                        exact hown9
                      have HZL : Hid (z + 2 ≤ l.length) := leH_lt l z hD
                      have i2 : IntKind.i64.wrap ((z : Int) + 2) = (z : Int) + 2 := by rw [IntKind.wrap_i64]; omega
                      clear hown9 hgrow9 hbw hoA hHeld
                      simp only [Act.put, List.setIfInBounds_toArray]
                      refine wpAnyE_one (i := 11) (by kernel_rfl) rfl rfl ?_
                      go_simp
                      refine wpAnyE_done (by kernel_rfl) ?_ _
                      dsimp only [OnlyN]
                      go_wp2_with fail
                      refine ⟨⟨z + 2, ps ++ [(⟨f, f + m, z⟩ : Plc)], by go_num, HZL.out, by rw [List.length_append]; exact HP4.out, HPN.out, HL9.out, HO9.out, HB9.out⟩, by simp [intOf]; omega⟩
                  · have k58 := u8nw (m := 58) h58
                    have htk : tkH l ps f z = .error (160, f + m) := by rw [HBG.out, if_pos (.inr (.inr (by rw [HAT.out]; simp [h58])))]
                    clear h58
                    have HR : Hid (prsF l = .error (160, f + m)) := HBAD.out _ htk
                    have HUF : Hid (∀ wx, Calls Tryd.prog 24 #[.int .i64 ((f : Int) + (m : Int))] wx fun e w' => e = .returned (.agg #[.int .i64 160, .int .i64 ((f : Int) + (m : Int))]) ∧ Below wx.heap.size wx w') := fun wx => ufield_any _ wx
                    go_wp2_with fail
                    refine (HUF.out _).mono ?_
                    rintro e w1 ⟨rfl, h1⟩
                    have HL1 : Hid (Lies w1 w.heap.size #[.int .i64 0, .int .i64 0] 27 ∧ Below w.heap.size w w1) := ⟨HL.out.below h1 HL.out.lt, HB.out.trans (h1.mono HB.out.size)⟩
                    clear h1 c0 c1 z0 z1 HUF
                    have c0 := HL1.out.1.cell 0
                    have c1 := HL1.out.1.cell 1
                    have z0 := HL1.out.1.frozen 0
                    have z1 := HL1.out.1.frozen 1
                    simp only [List.getElem?_toArray, List.getElem?_cons_zero, List.getElem?_cons_succ] at c0 c1
                    go_wp2_with fail
                    refine bodyPost_ret (results_tts rfl _ _ w.heap.size #[.int .i64 160, .int .i64 ((f : Int) + (m : Int))] _ (.slice none 0 0) (.int .i64 0) rfl rfl rfl ((HL1.out.1.set 0 (.int .i64 160)).set 1 (.int .i64 ((f : Int) + (m : Int)))) Tryd.underlying27 rfl infoSp2) rfl ?_
                    rw [HR.out]
                    exact ⟨.slice none 0 0, by rw [← HFM.out]; rfl, ⟨rfl, .inl ⟨rfl, rfl⟩⟩, (HL1.out.2.setCell (p := ⟨w.heap.size, 0, none⟩) (Nat.le_refl _) _).setCell (p := ⟨w.heap.size, 1, none⟩) (Nat.le_refl _) _⟩
end Go.Proofs.YtpepjiocjcjeeabDoor
