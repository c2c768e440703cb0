/-
  For all parameters of bulk at most 1048576 the statement ParamBack returns true.
-/
import Derived.Test.YtjpmfgmoekpcpabGreatDoorYz10
import Derived.Test.YtjpmfgmoekpcpabGreatDoorLs10
import Derived.Test.YtjpmfgmoekpcpabGreatDoorCardW10
import Derived.Test.YtjpmfgmoekpcpabGreatDoorOpenP10
import Derived.ProofKit
import Derived.ChangeMaps5
import Derived.OpenShut
import Derived.ShutString
import Derived.ChangeOld
import Derived.SizedLaws
namespace Go.Proofs.YtjpmfgmoekpcpabGreatDoor.paramBack
open Go.ChangeShapes Go.WideShapes Go.ChangeAt Go.RowKit

set_option maxHeartbeats 8000000 in
set_option maxRecDepth 100000 in
theorem back_ok (a : Option Addr) (l : List Pm) (cap : Nat) {w : World} (t : List UInt8) (ha : Pms a l w) (hl : l.length ≤ 1048576) (htot : totP l ≤ 1048576) (ht : Tw w) (hp : prt l = .ok t) :
    Calls Tryz.prog 3 #[.slice a l.length cap] w fun e w' => e = .returned (.bool true) ∧ Below w.heap.size w w' := by
  obtain ⟨h16, hpl⟩ := prt_ok l t hp
  have hz : (wrA l).length ≤ 100000000 := by have := wrA_tot l; omega
  have htl : t.length ≤ 100000000 := by rw [prtL_is l t hpl]; exact hz
  have hm : ∀ p ∈ l, p.name.length ≤ 100000000 ∧ p.val.length ≤ 100000000 := fun p hp => by have := totP_mem l p hp; omega
  have HT : Hid (∀ wx, Below w.heap.size w wx → Tw wx ∧ Pms a l wx) := fun wx hx => ⟨ht.below hx, ha.below hx⟩
  have HPR : Hid (∀ wx, Below w.heap.size w wx → Calls Tryz.prog 9 #[.slice a l.length cap] wx fun e w' => e = .returned (.tuple #[.string (tx t), .int .i64 0]) ∧ Below wx.heap.size wx w') := fun wx hx => by
    have := pprint_any a cap l wx (HT.out wx hx).2 (by omega) hz hm (HT.out wx hx).1.cls (HT.out wx hx).1.fst
    rw [hp] at this
    exact this
  have HYR : Hid (∀ wx, Below w.heap.size w wx → Calls Tryz.prog 10 #[.slice a l.length cap] wx fun e w' => e = .returned (.tuple #[.string (tx t), .int .i64 0]) ∧ Below wx.heap.size wx w') := fun wx hx => by
    have := yprint_any a cap l wx (HT.out wx hx).2 (by omega) hz hm
    rw [hp] at this
    exact this
  have HQ : Hid (∀ wide wx, Below w.heap.size w wx → Calls Tryz.prog 11 #[.string (tx t), .bool wide] wx fun e w' => ∃ v, e = .returned v ∧ PsA wx.heap.size (prs wide 16 t) v w' ∧ Below wx.heap.size wx w') := fun wide wx hx => by
    have := pparse_any (tx t) wide (by rw [tx_size]; omega) wx (HT.out wx hx).1.cls (HT.out wx hx).1.fst
    rw [tx_list] at this
    exact this
  have HBD : Hid (∀ wx, Below w.heap.size w wx → Calls Tryz.prog 12 #[.int .i64 13, .string (tx t)] wx fun e w' => e = .returned (.int .i64 (badN 13 t : Nat)) ∧ w' = wx) := fun wx hx => by
    have := bad_anyT 13 (tx t) wx (HT.out wx hx).1.cls (by rw [tx_size]; unfold maxLen; omega)
    rw [tx_list] at this
    exact this
  have HSM : Hid (∀ b cb wx, Below w.heap.size w wx → Pms b l wx → Calls Tryz.prog 13 #[.slice b l.length cb, .slice a l.length cap] wx fun e w' => e = .returned (.bool true) ∧ Below wx.heap.size wx w') := fun b cb wx hx hb => lsame_eq b a cb cap l wx hb (HT.out wx hx).2 (by omega)
  have HP1 : Hid (prs true 16 t = .ok l) := prs_prt l 16 t h16 hpl (.inl rfl)
  have HP2 : Hid ((prs false 16 t = .ok l ∧ badN 13 t = t.length) ∨ (∃ q, prs false 16 t = .error (101, q)) ∧ badN 13 t < t.length) := by
    by_cases hlow : ∀ c ∈ t, c.toNat < 128
    · exact .inl ⟨prs_prt l 16 t h16 hpl (.inr ((prtL_low l t hpl).1 hlow)), (bad13 t).2 hlow⟩
    · refine .inr ⟨prs_high l 16 t h16 hpl (fun h => hlow ((prtL_low l t hpl).2 h)), ?_⟩
      have h1 := badN_le 13 t
      have h2 : badN 13 t ≠ t.length := fun h => hlow ((bad13 t).1 h)
      omega
  have hts : (tx t).size = t.length := tx_size t
  have HW : Hid (Calls Tryz.prog 8 #[] w fun e w' => e = .returned (.bool true) ∧ Below w.heap.size w w') := wakes_any w ht
  generalize badN 13 t = bn at HBD HP2
  generalize hpt : prs true 16 t = pt at HP1
  generalize hpf : prs false 16 t = pf at HP2
  have HQ1 : Hid (∀ wx, Below w.heap.size w wx → Calls Tryz.prog 11 #[.string (tx t), .bool true] wx fun e w' => ∃ v, e = .returned v ∧ PsA wx.heap.size (.ok l) v w' ∧ Below wx.heap.size wx w') := fun wx hx => by
    have := HQ.out true wx hx
    rw [hpt, HP1.out] at this
    exact this
  have HQ2 : Hid (∀ wx, Below w.heap.size w wx → Calls Tryz.prog 11 #[.string (tx t), .bool false] wx fun e w' => ∃ v, e = .returned v ∧ PsA wx.heap.size pf v w' ∧ Below wx.heap.size wx w') := fun wx hx => by
    have := HQ.out false wx hx
    rw [hpf] at this
    exact this
  obtain ⟨tl, htL⟩ : ∃ tl, tl = t.length := ⟨_, rfl⟩
  rw [← htL] at HP2 hts htl
  clear HQ hpt hpf HP1 hp hpl h16 hz hm htL ha ht hl htot
  generalize tx t = T at HPR HYR HBD HQ1 HQ2 hts
  go_enter Tryz.func3, Tryz.ntmps3
  go_wp2_with fail
  refine HW.out.mono ?_
  rintro e w1 ⟨rfl, hb1⟩
  have HB1 : Hid (Below w.heap.size w w1) := hb1
  clear hb1 HW
  go_wp2_with fail
  refine (HPR.out w1 HB1.out).mono ?_
  rintro e w2 ⟨rfl, hb2⟩
  have HB2 : Hid (Below w.heap.size w w2) := HB1.out.trans (hb2.mono HB1.out.size)
  clear hb2 HB1
  go_wp2_with fail
  refine (HYR.out w2 HB2.out).mono ?_
  rintro e w3 ⟨rfl, hb3⟩
  have HB3 : Hid (Below w.heap.size w w3) := HB2.out.trans (hb3.mono HB2.out.size)
  clear hb3 HB2
  go_wp2_with fail
  refine (HQ1.out w3 HB3.out).mono ?_
  rintro e w4 ⟨v, rfl, ⟨sl, rfl, hown⟩, hb4⟩
  obtain ⟨b, cb, rfl, hpm⟩ := own_pms hown
  have HB4 : Hid (Below w.heap.size w w4) := HB3.out.trans (hb4.mono HB3.out.size)
  have HM4 : Hid (Pms b l w4) := hpm
  have HZ4 : Hid (w.heap.size ≤ w4.heap.size) := HB4.out.size
  clear hb4 hpm hown HB3
  go_wp2_with fail
  have HB5 : Hid (Below w.heap.size w (w4.alloc (.cells #[.int .i64 0, .int .i64 0] 28))) := HB4.out.alloc HB4.out.size _
  refine (HQ2.out _ HB5.out).mono ?_
  rintro e w5 ⟨v, rfl, hps, hb5⟩
  have HS5 : Hid (Lies w5 w4.heap.size #[.int .i64 0, .int .i64 0] 28) := (Lies.new w4 _ _).below hb5 (Lies.new w4 _ _).lt
  have HM5 : Hid (Pms b l w5) := (HM4.out.below ((Below.refl _ _).alloc (Nat.le_refl _) _)).below hb5
  have HB6 : Hid (Below w.heap.size w w5) := HB5.out.trans (hb5.mono HB5.out.size)
  have s0 : w5.cell? ⟨w4.heap.size, 0, none⟩ = some (.int .i64 0) := HS5.out.cell 0
  have s1 : w5.cell? ⟨w4.heap.size, 1, none⟩ = some (.int .i64 0) := HS5.out.cell 1
  have hz5 : w4.heap.size < w5.heap.size := HS5.out.lt
  clear hb5 HB5 HB4 HM4
  rcases HP2.out with ⟨hpf, hbn⟩ | ⟨⟨q, hpf⟩, hbn⟩
  · subst hpf
    obtain ⟨sl, rfl, hown⟩ := hps
    obtain ⟨c, cc, rfl, hpm⟩ := own_pms hown
    have HC5 : Hid (Pms c l w5) := hpm
    have hbe : ((bn : Int) == (T.size : Int)) = true := by rw [beq_iff_eq]; omega
    clear hown hpm HP2
    have HB7 : Hid (Below w.heap.size w (w5.alloc (.cells #[.int .i64 0, .int .i64 0] 28))) := HB6.out.alloc HB6.out.size _
    have HM7 : Hid (Pms b l (w5.alloc (.cells #[.int .i64 0, .int .i64 0] 28))) := HM5.out.below ((Below.refl _ _).alloc (Nat.le_refl _) _)
    have HC7 : Hid (Pms c l (w5.alloc (.cells #[.int .i64 0, .int .i64 0] 28))) := HC5.out.below ((Below.refl _ _).alloc (Nat.le_refl _) _)
    go_wp2_with (go_at_call 12; refine (HBD.out _ HB7.out).mono ?_; rintro e w6 ⟨rfl, hw6⟩; subst hw6)
    refine (HSM.out b cb _ HB7.out HM7.out).mono ?_
    rintro e w7 ⟨rfl, hb7⟩
    have HL7 : Lies w7 w5.heap.size #[.int .i64 0, .int .i64 0] 28 := (Lies.new w5 _ _).below hb7 (Lies.new w5 _ _).lt
    have n0 : w7.cell? ⟨w5.heap.size, 0, none⟩ = some (.int .i64 0) := HL7.cell 0
    have HC8 : Hid (Pms c l w7) := HC7.out.below hb7
    have HB8 : Hid (Below w.heap.size w w7) := HB7.out.trans (hb7.mono HB7.out.size)
    clear hb7 HL7 HB7 HC7 HM7
    go_wp2_with fail
    refine (HSM.out c cc _ HB8.out HC8.out).mono ?_
    rintro e w8 ⟨rfl, hb8⟩
    have HB9 : Hid (Below w.heap.size w w8) := HB8.out.trans (hb8.mono HB8.out.size)
    clear hb8
    go_wp2_with fail
    go_ret
    exact ⟨rfl, HB9.out⟩
  · subst hpf
    obtain rfl : v = .tuple #[.slice none 0 0, .agg #[.int .i64 (101 : Nat), .int .i64 (q : Nat)]] := hps
    have hbe : ((bn : Int) == (tl : Int)) = false := by rw [beq_eq_false_iff_ne]; omega
    clear HP2
    have HB7 : Hid (Below w.heap.size w (w5.alloc (.cells #[.int .i64 (101 : Nat), .int .i64 (q : Nat)] 28))) := HB6.out.alloc HB6.out.size _
    have HM7 : Hid (Pms b l (w5.alloc (.cells #[.int .i64 (101 : Nat), .int .i64 (q : Nat)] 28))) := HM5.out.below ((Below.refl _ _).alloc (Nat.le_refl _) _)
    go_wp2_with (go_at_call 12; refine (HBD.out _ HB7.out).mono ?_; rintro e w6 ⟨rfl, hw6⟩; subst hw6)
    refine (HSM.out b cb _ HB7.out HM7.out).mono ?_
    rintro e w7 ⟨rfl, hb7⟩
    have HL7 : Lies w7 w5.heap.size #[.int .i64 (101 : Nat), .int .i64 (q : Nat)] 28 := (Lies.new w5 _ _).below hb7 (Lies.new w5 _ _).lt
    have n0 : w7.cell? ⟨w5.heap.size, 0, none⟩ = some (.int .i64 101) := HL7.cell 0
    have HB8 : Hid (Below w.heap.size w w7) := HB7.out.trans (hb7.mono HB7.out.size)
    clear hb7 HL7 HB7 HM7
    go_wp2_with fail
    go_ret
    exact ⟨rfl, HB8.out⟩
set_option maxHeartbeats 8000000 in
set_option maxRecDepth 100000 in
theorem walk (a : Option Addr) (l : List Pm) (cap : Nat) {w : World} (ha : Pms a l w) (_ : a = none → cap = 0) (hl : l.length ≤ 1048576) (htot : totP l ≤ 1048576) (ht : Tw w) :
    Calls Tryz.prog 3 #[.slice a l.length cap] w fun e w' => e = .returned (.bool true) ∧ Below w.heap.size w w' := by
  rcases hp : prt l with er | t
  · have her := prt_err l er hp
    have hz : (wrA l).length ≤ 100000000 := by have := wrA_tot l; omega
    have hm : ∀ p ∈ l, p.name.length ≤ 100000000 ∧ p.val.length ≤ 100000000 := fun p hp => by have := totP_mem l p hp; omega
    have HT : Hid (∀ wx, Below w.heap.size w wx → Tw wx ∧ Pms a l wx) := fun wx hx => ⟨ht.below hx, ha.below hx⟩
    have HPR : Hid (∀ wx, Below w.heap.size w wx → Calls Tryz.prog 9 #[.slice a l.length cap] wx fun e w' => e = .returned (.tuple #[.string ⟨#[]⟩, .int .i64 (er : Nat)]) ∧ Below wx.heap.size wx w') := fun wx hx => by
      have := pprint_any a cap l wx (HT.out wx hx).2 (by omega) hz hm (HT.out wx hx).1.cls (HT.out wx hx).1.fst
      rw [hp] at this
      exact this
    have HYR : Hid (∀ wx, Below w.heap.size w wx → Calls Tryz.prog 10 #[.slice a l.length cap] wx fun e w' => e = .returned (.tuple #[.string ⟨#[]⟩, .int .i64 (er : Nat)]) ∧ Below wx.heap.size wx w') := fun wx hx => by
      have := yprint_any a cap l wx (HT.out wx hx).2 (by omega) hz hm
      rw [hp] at this
      exact this
    have HW : Hid (Calls Tryz.prog 8 #[] w fun e w' => e = .returned (.bool true) ∧ Below w.heap.size w w') := wakes_any w ht
    have hne : ((er : Int) != 0) = true := by simp; omega
    clear hp hz hm her ha ht HT
    go_enter Tryz.func3, Tryz.ntmps3
    go_wp2_with fail
    refine HW.out.mono ?_
    rintro e w1 ⟨rfl, hb1⟩
    have HB1 : Hid (Below w.heap.size w w1) := hb1
    clear hb1 HW
    go_wp2_with fail
    refine (HPR.out w1 HB1.out).mono ?_
    rintro e w2 ⟨rfl, hb2⟩
    have HB2 : Hid (Below w.heap.size w w2) := HB1.out.trans (hb2.mono HB1.out.size)
    clear hb2 HB1
    go_wp2_with fail
    refine (HYR.out w2 HB2.out).mono ?_
    rintro e w3 ⟨rfl, hb3⟩
    have HB3 : Hid (Below w.heap.size w w3) := HB2.out.trans (hb3.mono HB2.out.size)
    clear hb3 HB2
    go_wp2_with fail
    go_ret
    exact ⟨rfl, HB3.out⟩
  · exact back_ok a l cap t ha hl htot ht hp

set_option maxRecDepth 100000 in
theorem contract (H : Type) (enc : TypeId × Value → H) (W : World) (base : Nat) (args : Array Value) (ds gs : List (DataW H)) (before : List MemPlace)
    (hval : ∀ (j : Nat) t v, Tryz.f3.params[j]? = some t → args[j]? = some v → Value.okWide Tryz.prog W .any base t v)
    (hW : DataW.Whole enc Tryz.prog Tryz.f3.params.toList Rows.paramBackSpec.vars false W args.toList ds gs before)
    (hk : Rows.uptoSmall H (ds ++ gs) = true) (hL : laidMetH Tryz.prog Rows.paramBackUptoRow.laid W) (hsh : W.ShapedOpen Tryz.prog) :
    Calls Tryz.prog 3 args W fun e W' => ∃ v, e = .returned v ∧ Rows.paramBackSpec.post enc Tryz.prog Tryz.f3 false true false false W args v W' := by
  have hW' := hW
  obtain ⟨p, q, hA0, hV, rfl, hfz, hnd⟩ := hW
  have hA : DataW.TrodAll enc Tryz.prog W 0 (fun _ => true) true Tryz.f3.params.toList args.toList ds p := hA0
  rw [Tryz.params3] at hA hval
  obtain ⟨v0, vs0, d0, ds0, p0, q0, hargs, rfl, rfl, h0, r0⟩ := trodAll_cons hA
  obtain ⟨rfl, rfl, rfl⟩ := trodAll_nil r0
  obtain rfl : args = #[v0] := by cases args; simp_all
  obtain ⟨rfl, rfl⟩ := trodVars_none hV
  have k0 := h0
  have lt0 : ∀ x ∈ p0, x.block < W.heap.size := by obtain ⟨m, hm⟩ := k0; exact DataW.trod_lt m _ _ _ hm
  obtain ⟨a0, len0, cap0, rfl⟩ := okWide_slice Tryz.underlying22 (hval 0 22 v0 rfl rfl)
  obtain ⟨l0, e0, row0, nn0, bk0, bt0⟩ := open_pms h0
  have bu0 := Nat.le_trans (bulk_mem (d := d0) (by simp)) (of_decide_eq_true hk)
  have s0 : l0.length ≤ 1048576 := Nat.le_trans bk0 bu0
  have t0 : totP l0 ≤ 1048576 := Nat.le_trans bt0 bu0
  subst e0
  clear hA0
  refine (walk a0 l0 cap0 row0 nn0 s0 t0 (tabsW_of hL hsh)).mono fun e W' ⟨he, bel⟩ => ?_
  subst he
  exact ⟨_, rfl, _, _, _, [], _, [], hW', trodAll_mk1 (shut_bool Tryz.underlying4 _), trodAll_cons_mk (Below.trod laidOut (by kernel_rfl) (of_decide_eq_true (by kernel_rfl)) k0 bel lt0) trodAll_mk0, rfl, bel.frame _, fun h => by cases h⟩

set_option maxRecDepth 100000 in
theorem laid_met (os : Os) : laidMet Tryz.prog Rows.paramBackUptoRow.laid ((laidWorldW os).forCall (fun _ _ => 0) ⟨#[], #[.slice none 0 0], []⟩).memory :=
  laidMet_of_run' 8 (by kernel_rfl) (by kernel_rfl)
set_option maxRecDepth 100000 in
theorem reads (os : Os) {H : Type} (enc : TypeId × Value → H) : ∃ places, DataW.whole enc Tryz.prog ((laidWorldW os).forCall (fun _ _ => 0) ⟨#[], #[.slice none 0 0], []⟩).memory Tryz.f3.params.toList Rows.paramBackSpec.vars false #[Value.slice none 0 0].toList 8 = some ([.nil], [], places) :=
  ⟨[], by kernel_rfl⟩

set_option maxRecDepth 100000 in
theorem lifted (os : Os) (started : os.Started) (H : Type) (enc : TypeId × Value → H) (F : Stop.Interp) :
    ReturnsInHanded {} Tryz.checked os 3 .any ((Rows.OpenSpec.upto Rows.paramBackSpec).preRow enc Tryz.prog Tryz.f3 Rows.paramBackUptoRow.domain false Rows.paramBackUptoRow.laid) (((Rows.OpenSpec.upto Rows.paramBackSpec).at F).post enc Tryz.prog Tryz.f3 false true false false) := by
  obtain ⟨places, hx⟩ := reads os enc
  refine returnsInHanded_of_row (C := Tryz.checked) (s := Rows.OpenSpec.upto Rows.paramBackSpec) own started (by kernel_rfl) Tryz.func3
    (witness_row_at (enc := enc) (C := Tryz.checked) false (laidWorldW os) #[.slice none 0 0] rfl (by kernel_rfl) (by kernel_rfl) (by kernel_rfl)
      (OpenSpec.preRow_of_cond 8 hx (by kernel_rfl) (fun k hk => by cases hk; kernel_rfl) (by kernel_rfl) (laid_met os))) ?_
  intro W base args ds gs before hval hW _ hcond _ hL hsh _
  exact contract H enc W base args ds gs before hval hW (hcond _ rfl) hL hsh

theorem said : Rows.ParamBackUptoSaid :=
  OpenClaim.holds_of_cond 3 Tryz.f3 rfl rfl rfl rfl rfl rfl rfl ⟨rfl, rfl, rfl, rfl, rfl⟩ rfl rfl rfl rfl rfl (by kernel_rfl) Tryz.func3 (by kernel_rfl)
    (of_decide_eq_true (by kernel_rfl)) (by unfold Func.isWrapper; first | (rw [if_pos (by decide +kernel)]; kernel_rfl) | (rw [if_neg (by decide +kernel)]; exact ⟨rfl, rfl⟩))
    (fun os started H enc _ F => by rw [OpenClaim.pre_eq_preRow]; exact lifted os started H enc F)

/-- No parameter wants a stand-in; the program's own looks are off. -/
theorem plain (f : FuncId) (fn : Func) (hf : Tryz.pinned.checked.prog.funcNamed "posthorn/posthornlaw10.ParamBack" = some f) (hfn : Tryz.pinned.checked.prog.funcs[f]? = some fn) :
    true = Tryz.pinned.checked.prog.looks [] ∧ ∀ (j : Nat) t, fn.params[j]? = some t → Tryz.pinned.checked.prog.wantsStandIn t = false := by
  obtain rfl : f = 3 := Option.some.inj ((show Tryz.prog.funcNamed "posthorn/posthornlaw10.ParamBack" = some 3 by kernel_rfl).symm.trans hf) |>.symm
  obtain rfl : fn = Tryz.f3 := (Option.some.inj (Tryz.func3.symm.trans hfn)).symm
  refine ⟨by kernel_rfl, fun j t ht => ?_⟩
  rw [Tryz.params3] at ht
  have hm : t ∈ [22] := by simpa using Array.mem_of_getElem? ht
  have hall : ([22].all fun u => !Tryz.prog.wantsStandIn u) = true := by kernel_rfl
  exact (show Tryz.prog.wantsStandIn t = false by simpa using List.all_eq_true.1 hall t hm)

/-- The card. -/
theorem card : Rows.ParamBackUptoCardSaid :=
  Claim7.holds_tied_plain_at .later [] _ _ _ _ said (fun _ h => by cases h) (by kernel_rfl) (fun _ h => by cases h) paramBackUpto_row_tie rfl ⟨rfl, rfl⟩ (by kernel_rfl) rfl plain (by kernel_rfl)
end Go.Proofs.YtjpmfgmoekpcpabGreatDoor.paramBack
namespace Go.Proofs.YtjpmfgmoekpcpabGreatDoor
theorem paramBackUpto_card : Rows.ParamBackUptoCardSaid := paramBack.card
#print axioms paramBackUpto_card
end Go.Proofs.YtjpmfgmoekpcpabGreatDoor
