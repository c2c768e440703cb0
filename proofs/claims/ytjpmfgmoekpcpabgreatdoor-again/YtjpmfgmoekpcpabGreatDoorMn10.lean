/-
  The program's mean: of any predicate of names, and any saying that keeps one block.
-/
import Derived.Test.YtjpmfgmoekpcpabGreatDoorSr10
import Derived.Test.YtjpmfgmoekpcpabGreatDoorRow
import Derived.Test.YtjpmfgmoekpcpabGreatDoorPmC10
namespace Go.Proofs.YtjpmfgmoekpcpabGreatDoor
open Go.RowKit

/-- A parameter with its name in capitals. -/
def upP (p : Pm) : Pm := ⟨upL p.name, p.val, p.has⟩
def mean2 {St : Type} (S : St → Pm → Bool × St) : St → List (List UInt8) → List Pm → Nat × St
  | st, _, [] => (0, st)
  | st, ns, p :: t => if ns.contains (upL p.name) then (102, st) else if (S st (upP p)).1 then mean2 S (S st (upP p)).2 (ns ++ [upL p.name]) t else (101, (S st (upP p)).2)
def meanL {St : Type} (K : List UInt8 → Bool) (S : St → Pm → Bool × St) (st : St) (l : List Pm) : Nat × St :=
  if l.all (fun p => K (upL p.name)) then mean2 S st [] l else (103, st)

set_option maxHeartbeats 16000000 in
set_option maxRecDepth 100000 in
theorem mean_any {St : Type} (K : List UInt8 → Bool) (S : St → Pm → Bool × St) (C : St → Array Value) (o tt kf sf : Nat) (hkf : ∀ ar wx, (callFunc kf ar).run Tryz.prog wx = .ok (.enter kf ar) wx) (hsf : ∀ ar wx, (callFunc sf ar).run Tryz.prog wx = .ok (.enter sf ar) wx) (a : Option Addr) (cap : Nat) (l : List Pm) (w : World) (st : St)
    (ha : Pms a l w) (hl : l.length ≤ 1000000000) (hm : ∀ p ∈ l, p.name.length ≤ 1125899906842624) (ho : Lies w o (C st) tt) (hao : ∀ p, a = some p → p.block ≠ o)
    (hK : ∀ p ∈ l, ∀ wx, Calls Tryz.prog kf #[.string (tx (upL p.name))] wx fun e w' => e = .returned (.bool (K (upL p.name))) ∧ w' = wx)
    (hS : ∀ st, ∀ p ∈ l, ∀ wx, Lies wx o (C st) tt → w.grownBy wx (some o) → Calls Tryz.prog sf #[.agg (pmC (upP p)), .pointer (some ⟨o, 0, none⟩)] wx fun e w' => e = .returned (.bool (S st (upP p)).1) ∧ Lies w' o (C (S st (upP p)).2) tt ∧ wx.grownBy w' (some o)) :
    Calls Tryz.prog 67 #[.slice a l.length cap, .func (.func kf) #[] #[], .func (.func sf) #[] #[.pointer (some ⟨o, 0, none⟩)]] w fun e w' => e = .returned (.int .i64 ((meanL K S st l).1 : Nat)) ∧ Lies w' o (C (meanL K S st l).2) tt ∧ w.grownBy w' (some o) := by
  obtain ⟨X, hX⟩ : ∃ X, X = meanL K S st l := ⟨_, rfl⟩
  rw [← hX]
  have HX : Hid (X = meanL K S st l) := hX
  have HA : Hid (Pms a l w) := ha
  have HM : Hid (∀ p ∈ l, p.name.length ≤ 1125899906842624) := hm
  have HO : Hid (Lies w o (C st) tt) := ho
  have HAO : Hid (∀ p, a = some p → p.block ≠ o) := hao
  have HK : Hid (∀ p ∈ l, ∀ wx, Calls Tryz.prog kf #[.string (tx (upL p.name))] wx fun e w' => e = .returned (.bool (K (upL p.name))) ∧ w' = wx) := hK
  have HS : Hid (∀ st, ∀ p ∈ l, ∀ wx, Lies wx o (C st) tt → w.grownBy wx (some o) → Calls Tryz.prog sf #[.agg (pmC (upP p)), .pointer (some ⟨o, 0, none⟩)] wx fun e w' => e = .returned (.bool (S st (upP p)).1) ∧ Lies w' o (C (S st (upP p)).2) tt ∧ wx.grownBy w' (some o)) := hS
  clear hX ha hm ho hao hK hS
  go_enter Tryz.func67, Tryz.ntmps67
  go_wp2_with fail
  go_loopw [14] (fun c wr => ∃ k : Nat, k ≤ l.length ∧ c = .int .i64 k ∧ Hid (Below w.heap.size w wr) ∧ Hid ((l.take k).all (fun p => K (upL p.name)) = true)) (fun c _ => l.length - (intOf c).toNat)
  case atStart => exact ⟨0, Nat.zero_le _, rfl, Below.refl _ _, rfl⟩
  case round =>
    obtain ⟨k, hk, rfl, HB, HQ⟩ := hrel
    by_cases hlt : k < l.length
    · have hpn := HM.out l[k] (List.getElem_mem hlt)
      have HKn : Hid (∀ wx, Calls Tryz.prog kf #[.string (tx (upL l[k].name))] wx fun e w' => e = .returned (.bool (K (upL l[k].name))) ∧ w' = wx) := HK.out l[k] (List.getElem_mem hlt)
      have HQ1 : Hid ((l.take (k + 1)).all (fun p => K (upL p.name)) = K (upL l[k].name)) := by
        show _ = _
        rw [List.take_succ_eq_append_getElem hlt, List.all_append, HQ.out]
        simp
      obtain ⟨g, of, hga, c0, c1, c2⟩ := (HA.out.below HB.out).at k hlt
      subst hga
      have HUB := fun wx => upper_any (tx l[k].name) wx (by rw [tx_size]; unfold maxLen; omega)
      have hUP : upS (tx l[k].name) = tx (upL l[k].name) := by
        show (⟨(upL (tx l[k].name).data.toList).toArray⟩ : ByteArray) = _
        rw [tx_list]
        rfl
      rw [hUP] at HUB
      have HU : Hid (∀ wx, Calls Tryz.prog 26 #[.string (tx l[k].name)] wx fun e w' => e = .returned (.string (tx (upL l[k].name))) ∧ Below wx.heap.size wx w') := HUB
      have HXN : Hid (K (upL l[k].name) = false → X = (103, st)) := fun hf => by
        rw [HX.out]
        unfold meanL
        rw [if_neg]
        intro hall
        rw [List.all_eq_true] at hall
        have := hall l[k] (List.getElem_mem hlt)
        rw [hf] at this
        cases this
      clear hUP HUB hpn
      generalize K (upL l[k].name) = q at HKn HQ1 HXN
      generalize tx l[k].name = nm at c0 HU
      generalize tx l[k].val = vl at c1
      generalize l[k].has = hs at c2
      generalize tx (upL l[k].name) = un at HU HKn
      have HKF : Hid (∀ ar wx, (callFunc kf ar).run Tryz.prog wx = .ok (.enter kf ar) wx) := hkf
      have HSF : Hid (∀ ar wx, (callFunc sf ar).run Tryz.prog wx = .ok (.enter sf ar) wx) := hsf
      clear hkf hsf
      go_wp2_with (go_at_call 26; refine (HU.out _).mono ?_; rintro e w2 ⟨rfl, hb2⟩)
      rw [HKF.out, Oper.upon_enter]
      refine (HKn.out _).mono ?_
      rintro e w2 ⟨rfl, rfl⟩
      have HB2 : Hid (Below w.heap.size w w2) := (HB.out.alloc HB.out.size _).trans (hb2.mono (by simp; have := HB.out.size; omega))
      clear hb2
      cases q with
      | true =>
        go_wp2_with fail
        go_roundw
        case rel => exact ⟨k + 1, by omega, by go_num, HB2, HQ1⟩
        case measure => simp [intOf]; omega
      | false =>
        go_wp2_with fail
        go_ret
        rw [HXN.out (by simp)]
        exact ⟨rfl, HO.out.below HB2.out HO.out.lt, grown_below (World.grownBy.refl _ _) HB2.out⟩
    · obtain rfl : k = l.length := by omega
      have HX2 : Hid (X = mean2 S st [] l) := by
        show _ = _
        have hq := HQ.out
        rw [List.take_of_length_le (Nat.le_refl _)] at hq
        rw [HX.out]
        unfold meanL
        rw [if_pos hq]
      have HKF : Hid (∀ ar wx, (callFunc kf ar).run Tryz.prog wx = .ok (.enter kf ar) wx) := hkf
      have HSF : Hid (∀ ar wx, (callFunc sf ar).run Tryz.prog wx = .ok (.enter sf ar) wx) := hsf
      clear hkf hsf HK HX HQ
      have HLO : Hid (o < w.heap.size) := HO.out.lt
      have HG0 : Hid (w.grownBy wr (some o)) := grown_below (World.grownBy.refl _ _) HB.out
      have HO0 : Hid (Lies wr o (C st) tt) := HO.out.below HB.out HO.out.lt
      go_wp2_with fail
      go_loopw [9, 27] (fun u c wr => ∃ (k : Nat) (s : St), k ≤ l.length ∧ c = .int .i64 k ∧ Hid (wr.ownsRow w.heap.size 9 1 u k (cellsS ((l.take k).map fun p => upL p.name))) ∧ Hid (Lies wr o (C s) tt) ∧ Hid (w.grownBy wr (some o)) ∧ Hid (X = mean2 S s ((l.take k).map fun p => upL p.name) (l.drop k))) (fun _ c _ => l.length - (intOf c).toNat)
      case atStart => exact ⟨0, st, Nat.zero_le _, rfl, ⟨rfl, .inl ⟨rfl, rfl⟩⟩, HO0, HG0, HX2⟩
      case round =>
        clear HG0 HO0 HX2 HB
        obtain ⟨k, s, hk, rfl, HR, HL, HG, HX⟩ := hrel
        by_cases hlt : k < l.length
        · have hpn := HM.out l[k] (List.getElem_mem hlt)
          have HTK : Hid ((l.take (k + 1)).map (fun p => upL p.name) = (l.take k).map (fun p => upL p.name) ++ [upL l[k].name]) := by
            show _ = _
            rw [List.take_succ_eq_append_getElem hlt, List.map_append]
            rfl
          have HXS : Hid (X = if ((l.take k).map fun p => upL p.name).contains (upL l[k].name) then (102, s) else if (S s (upP l[k])).1 then mean2 S (S s (upP l[k])).2 ((l.take (k + 1)).map fun p => upL p.name) (l.drop (k + 1)) else (101, (S s (upP l[k])).2)) := by
            show _ = _
            rw [HX.out, List.drop_eq_getElem_cons hlt, HTK.out]
            rfl
          have HSn : Hid (∀ wx, Lies wx o (C s) tt → w.grownBy wx (some o) → Calls Tryz.prog sf #[.agg (pmC (upP l[k])), .pointer (some ⟨o, 0, none⟩)] wx fun e w' => e = .returned (.bool (S s (upP l[k])).1) ∧ Lies w' o (C (S s (upP l[k])).2) tt ∧ wx.grownBy w' (some o)) := HS.out s l[k] (List.getElem_mem hlt)
          obtain ⟨g, of, hga, c0, c1, c2⟩ := HA.out.at k hlt
          subst hga
          have hgo : g ≠ o := HAO.out _ rfl
          replace c0 := HG.out.cell c0 (by simpa using hgo)
          replace c1 := HG.out.cell c1 (by simpa using hgo)
          replace c2 := HG.out.cell c2 (by simpa using hgo)
          have HUB := fun wx => upper_any (tx l[k].name) wx (by rw [tx_size]; unfold maxLen; omega)
          have hUP : upS (tx l[k].name) = tx (upL l[k].name) := by
            show (⟨(upL (tx l[k].name).data.toList).toArray⟩ : ByteArray) = _
            rw [tx_list]
            rfl
          rw [hUP] at HUB
          have HU : Hid (∀ wx, Calls Tryz.prog 26 #[.string (tx l[k].name)] wx fun e w' => e = .returned (.string (tx (upL l[k].name))) ∧ Below wx.heap.size wx w') := HUB
          have HPC : Hid (pmC (upP l[k]) = #[.string (tx (upL l[k].name)), .string (tx l[k].val), .bool l[k].has]) := rfl
          clear hUP HUB hpn HX
          generalize tx l[k].name = nm at c0 HU
          generalize hvl : tx l[k].val = vl at c1 HPC
          generalize l[k].has = hs at c2 HPC
          obtain ⟨U, hU⟩ : ∃ U, U = upL l[k].name := ⟨_, rfl⟩
          rw [← hU] at HU HPC HXS HTK
          clear hvl hU
          go_wp2_with fail
          refine (HU.out _).mono ?_
          rintro e w2 ⟨rfl, hb2⟩
          have l2 : Lies w2 wr.heap.size #[.string nm, .string vl, .bool hs] 54 := (Lies.new wr _ _).below hb2 (Lies.new wr _ _).lt
          have f0 : w2.cell? ⟨wr.heap.size, 0, none⟩ = some (.string nm) := l2.cell 0
          have z0 := l2.frozen 0
          go_upto_region 12 with fail
          have h0 := HG.out.size
          have hz : wr.heap.size < w2.heap.size := l2.lt
          have HG2 : w.grownBy w2 (some o) := grown_below (grown_below HG.out ((Below.refl _ _).alloc (Nat.le_refl _) _)) hb2
          have ho2 : Lies w2 o (C s) tt := (HL.out.alloc _).below hb2 (HL.out.alloc _).lt
          have hoq : o ≠ wr.heap.size := by have := HLO.out; omega
          have HR2 : Hid (w2.ownsRow w.heap.size 9 1 u9 k (cellsS ((l.take k).map fun p => upL p.name))) := ownN_below (ownN_below HR.out ((Below.refl _ _).alloc (Nat.le_refl _) _)) hb2
          obtain ⟨M, hM⟩ : ∃ M, M = w2.setCell ⟨wr.heap.size, 0, none⟩ (.string (tx U)) := ⟨_, rfl⟩
          have HL3 : Hid (Lies M wr.heap.size #[.string (tx U), .string vl, .bool hs] 54) := by rw [hM]; exact l2.set 0 _
          have HR3 : Hid (M.ownsRow w.heap.size 9 1 u9 k (cellsS ((l.take k).map fun p => upL p.name))) := ownN_keep HR2.out fun i hi => by
            have := (HR.out.lt i hi).2
            rw [hM]
            exact heap_setCell_other _ _ _ _ (by show i ≠ wr.heap.size; omega)
          have HLo : Hid (Lies M o (C s) tt) := by rw [hM]; exact ho2.set_other (a := ⟨wr.heap.size, 0, none⟩) hoq _
          have HG3 : Hid (w.grownBy M (some o)) := by
            rw [hM]
            exact ⟨HG2.os, HG2.tape, HG2.output, by rw [World.size_setCell]; exact HG2.size, fun i hi hne => (heap_setCell_other _ _ _ _ (by show i ≠ wr.heap.size; omega)).trans (HG2.block i hi hne)⟩
          have HZM : Hid (wr.heap.size < M.heap.size) := HL3.out.lt
          have HCN : Hid (Calls Tryz.prog 102 #[u9, .string (tx U)] M fun e w' => e = .returned (.bool (((l.take k).map fun p => upL p.name).contains U)) ∧ w' = M) := by
            have hl2 : ((l.take k).map fun p => upL p.name).length = k := by rw [List.length_map, List.length_take]; omega
            have hr := HR3.out
            exact cont_own (L := (l.take k).map fun p => upL p.name) (by rw [hl2]; exact hr) U (by rw [hl2]; omega)
          have HSM := HSn.out M HLo.out HG3.out
          rw [HPC.out] at HSM
          have HSS : Hid (Calls Tryz.prog sf #[.agg #[.string (tx U), .string vl, .bool hs], .pointer (some ⟨o, 0, none⟩)] M fun e w' => e = .returned (.bool (S s (upP l[k])).1) ∧ Lies w' o (C (S s (upP l[k])).2) tt ∧ M.grownBy w' (some o)) := HSM
          have HPZ : Hid (w.heap.size ≤ wr.heap.size) := h0
          have HOQ : Hid (o ≠ wr.heap.size) := hoq
          clear HR HR2 HG2 ho2 HSM HSn HPC HU hb2 l2 hoq HL HG HS HA HM HAO c0 c1 c2
          generalize ((l.take k).map fun p => upL p.name).contains U = cb at HCN HXS
          rw [← hM]
          clear hM f0 z0 hz h0
          have m0 : M.cell? ⟨wr.heap.size, 0, none⟩ = some (.string (tx U)) := HL3.out.cell 0
          have m1 : M.cell? ⟨wr.heap.size, 1, none⟩ = some (.string vl) := HL3.out.cell 1
          have m2 : M.cell? ⟨wr.heap.size, 2, none⟩ = some (.bool hs) := HL3.out.cell 2
          go_wp2_with fail
          refine HCN.out.mono ?_
          rintro e w3 ⟨rfl, rfl⟩
          clear HCN
          cases cb with
          | true =>
            go_wp2_with fail
            go_ret
            rw [HXS.out]
            exact ⟨rfl, HLo.out, HG3.out⟩
          | false =>
            generalize hsv : S s (upP l[k]) = sv at HSS HXS
            clear hsv
            go_wp2_with fail
            rw [HSF.out, Oper.upon_enter]
            refine HSS.out.mono ?_
            rintro e w4 ⟨rfl, hlo4, hg4⟩
            have HL4 : Hid (Lies w4 wr.heap.size #[.string (tx U), .string vl, .bool hs] 54) := (hg4.block _ HL3.out.lt (by simpa using HOQ.out.symm)).trans HL3.out
            have n0 : w4.cell? ⟨wr.heap.size, 0, none⟩ = some (.string (tx U)) := HL4.out.cell 0
            have HG4 : Hid (w.grownBy w4 (some o)) := grown_two HG3.out hg4 (fun _ h => .inl h.symm)
            have HR4 : Hid (w4.ownsRow w.heap.size 9 1 u9 k (cellsS ((l.take k).map fun p => upL p.name))) := ownN_keep HR3.out fun i hi => hg4.block i (HR3.out.lt i hi).2 (by have := (HR3.out.lt i hi).1; have := HLO.out; simp; omega)
            have HO4 : Hid (Lies w4 o (C sv.2) tt) := hlo4
            have HS4 : Hid (w.heap.size ≤ w4.heap.size) := HG4.out.size
            obtain ⟨b1, s1⟩ := sv
            clear hg4 hlo4 HSS HR3 HG3 HLo HL3 m0 m1 m2
            cases b1 with
            | false =>
              go_wp2_with fail
              go_ret
              rw [HXS.out]
              exact ⟨rfl, HO4.out, HG4.out⟩
            | true =>
              have HXT : Hid (X = mean2 S s1 ((l.take (k + 1)).map fun p => upL p.name) (l.drop (k + 1))) := HXS.out
              have h4 := HS4.out
              go_wp2_with (at_builtin; refine wpList_append_str rfl _ _ rfl w.heap.size _ k ((l.take k).map fun p => upL p.name) rfl (ownN_below HR4.out ((Below.refl _ _).alloc (Nat.le_refl _) _)) w4.heap.size U 1 rfl (by simp) (by omega) (by simp; omega) ?_)
              intro v5 w5 hown5 hgrow5
              have hg5 : w4.grownBy w5 (u9 : Value).ownBlock := grown_two (World.grownBy_alloc w4 _ (u9 : Value).ownBlock) hgrow5 (fun _ h => .inl h.symm)
              have HO5 : Hid (Lies w5 o (C s1) tt) := (hg5.block o HO4.out.lt (fun e => by have := (HR4.out.lt o e.symm).1; have := HLO.out; omega)).trans HO4.out
              have HG5 : Hid (w.grownBy w5 (some o)) := grown_two HG4.out hg5 (fun i hi => .inr (HR4.out.lt i hi).1)
              have HR5 : Hid (w5.ownsRow w.heap.size 9 1 v5 (k + 1) (cellsS ((l.take (k + 1)).map fun p => upL p.name))) := by
                show World.ownsRow _ _ _ _ _ _ _
                rw [HTK.out, List.map_take]
                exact hown5
              clear hown5 hgrow5 hg5 HR4 HG4 HO4
              go_wp2_with fail
              go_roundw
              case rel => exact ⟨k + 1, s1, by omega, by go_num, HR5, HO5, HG5, HXT⟩
              case measure => simp [intOf]; omega
        · obtain rfl : k = l.length := by omega
          have HXE : Hid (X = (0, s)) := by
            show _ = _
            rw [HX.out, List.drop_of_length_le (Nat.le_refl _)]
            rfl
          go_wp2_with fail
          go_ret
          rw [HXE.out]
          exact ⟨rfl, HL.out, HG.out⟩
end Go.Proofs.YtjpmfgmoekpcpabGreatDoor
