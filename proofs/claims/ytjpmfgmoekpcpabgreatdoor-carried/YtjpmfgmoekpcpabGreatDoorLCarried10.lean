/-
  For all texts of bulk at most 1048576 the statement ParamCarried returns true.
-/
import Derived.Test.YtjpmfgmoekpcpabGreatDoorXtQ
import Derived.Test.YtjpmfgmoekpcpabGreatDoorXu10
import Derived.Test.YtjpmfgmoekpcpabGreatDoorYu10
import Derived.Test.YtjpmfgmoekpcpabGreatDoorCardW10
import Derived.ProofKit
import Derived.ChangeMaps5
import Derived.OpenShut
import Derived.ShutString
import Derived.ChangeOld
import Derived.SizedLaws
namespace Go.Proofs.YtjpmfgmoekpcpabGreatDoor.paramCarried
open Go.ChangeShapes Go.WideShapes Go.ChangeAt Go.RowKit
open Go.ChangeMaps (open_string shut_string)

set_option maxHeartbeats 8000000 in
set_option maxRecDepth 100000 in
theorem walk (s : ByteArray) (hs : s.size ≤ 1048576) (w : World) (ht : Tw w) :
    Calls Tryz.prog 5 #[.string s] w fun e w' => e = .returned (.bool true) ∧ Below w.heap.size w w' := by
  obtain ⟨l, hl⟩ : ∃ l, l = s.data.toList := ⟨_, rfl⟩
  have hls : l.length = s.size := by rw [hl, len_list]
  have hsl : tx l = s := by rw [hl]; exact tx_back s
  have HT : Hid (∀ wx, Below w.heap.size w wx → Tw wx) := fun wx hx => ht.below hx
  have HW : Hid (Calls Tryz.prog 8 #[] w fun e w' => e = .returned (.bool true) ∧ Below w.heap.size w w') := wakes_any w ht
  have hx3 := xtL_le l
  have hxg := xtL_ge l
  have HX : Hid (∀ wx, Below w.heap.size w wx → Calls Tryz.prog 16 #[.string s] wx fun e w' => e = .returned (.string (tx (xtL l))) ∧ Below wx.heap.size wx w') := fun wx hx => by
    have := xt_any s (by omega) wx (HT.out wx hx).cls
    rw [← hl] at this
    exact this
  have HXB : Hid (∀ wx, Below w.heap.size w wx → Calls Tryz.prog 17 #[.string (tx (xtL l))] wx fun e w' => e = .returned (.tuple #[.string s, .agg #[.int .i64 0, .int .i64 0]]) ∧ Below wx.heap.size wx w') := fun wx hx => by
    have := unx_any (tx (xtL l)) (by rw [tx_size]; omega) wx (HT.out wx hx).cls
    rw [tx_list, unx_xtL] at this
    rw [← hsl]
    exact this
  have HU : Hid (∀ wx, Below w.heap.size w wx → Calls Tryz.prog 17 #[.string s] wx fun e w' => e = .returned (uxV (unx l)) ∧ Below wx.heap.size wx w') := fun wx hx => by
    have := unx_any s (by omega) wx (HT.out wx hx).cls
    rw [← hl] at this
    exact this
  have HY : Hid (∀ wx, Below w.heap.size w wx → Calls Tryz.prog 19 #[.string s] wx fun e w' => e = .returned (uxV (unx l)) ∧ Below wx.heap.size wx w') := fun wx hx => by
    have := yunx_any s (by omega) wx
    rw [← hl] at this
    exact this
  have HSG : Hid (∀ c ∈ xtL l, c = 43 ∨ xch c = true) := xtL_signs l
  have HIS : Hid (∀ (c : UInt8) wx, Below w.heap.size w wx → Calls Tryz.prog 18 #[.int .i64 9, .int .u8 (c.toNat : Int)] wx fun e w' => e = .returned (.bool (xch c)) ∧ w' = wx) := fun c wx hx => is_any 9 (c.toNat : Int) wx (HT.out wx hx).cls
  have HXS : Hid (∀ k (h : k < (tx (xtL l)).size), (tx (xtL l))[k] ∈ xtL l) := fun k h => by
    have hm : (tx (xtL l))[k] ∈ (tx (xtL l)).data.toList := List.getElem_mem (l := (tx (xtL l)).data.toList) (n := k) (by rw [len_list]; exact h)
    exact Eq.mp (congrArg (fun L => (tx (xtL l))[k] ∈ L) (tx_list (xtL l))) hm
  have hxz : (tx (xtL l)).size = (xtL l).length := tx_size _
  have HOK : Hid (∀ u, unx l = .ok u → u.length ≤ s.size ∧ (xtL u).length ≤ s.size) := fun u hu => ⟨by have := unx_len l.length l (Nat.le_refl _) u hu; omega, by have := unx_short l.length l (Nat.le_refl _) u hu; omega⟩
  have HBA : Hid (∀ p, unx l = .bad p → p ≤ s.size) := fun p hp => by have := unx_bad l.length l (Nat.le_refl _) p hp; omega
  have HFO : Hid (∀ p, unx l = .bad p → ∀ wx, Below w.heap.size w wx → Calls Tryz.prog 17 #[.string (⟨#[97, 43, 48, 48]⟩ ++ s)] wx fun e w' => e = .returned (.tuple #[.string ⟨#[]⟩, .agg #[.int .i64 104, .int .i64 ((p : Int) + 4)]]) ∧ Below wx.heap.size wx w') := fun p hp wx hx => by
    have e : (⟨#[97, 43, 48, 48]⟩ : ByteArray) ++ s = tx (97 :: 43 :: 48 :: 48 :: l) := by rw [← hsl]; exact tx_cat [97, 43, 48, 48] l
    have := unx_any (tx (97 :: 43 :: 48 :: 48 :: l)) (by rw [tx_size]; simp; omega) wx (HT.out wx hx).cls
    rw [tx_list, unx_four, hp] at this
    rw [e]
    refine this.mono ?_
    rintro e' w' ⟨rfl, hb⟩
    refine ⟨?_, hb⟩
    show Ending.returned (.tuple #[.string ⟨#[]⟩, .agg #[.int .i64 104, .int .i64 ((4 + p : Nat) : Int)]]) = _
    rw [show ((4 + p : Nat) : Int) = (p : Int) + 4 by omega]
  have HUB : Hid (∀ u, u.length ≤ s.size → (xtL u).length ≤ s.size → ∀ wx, Below w.heap.size w wx → Calls Tryz.prog 16 #[.string (tx u)] wx fun e w' => e = .returned (.string (tx (xtL u))) ∧ Below wx.heap.size wx w') := fun u hu _ wx hx => by
    have := xt_any (tx u) (by rw [tx_size]; omega) wx (HT.out wx hx).cls
    rw [tx_list] at this
    exact this
  have HUC : Hid (∀ u, (xtL u).length ≤ s.size → ∀ wx, Below w.heap.size w wx → Calls Tryz.prog 17 #[.string (tx (xtL u))] wx fun e w' => e = .returned (.tuple #[.string (tx u), .agg #[.int .i64 0, .int .i64 0]]) ∧ Below wx.heap.size wx w') := fun u hu wx hx => by
    have := unx_any (tx (xtL u)) (by rw [tx_size]; omega) wx (HT.out wx hx).cls
    rw [tx_list, unx_xtL] at this
    exact this
  have HTS : Hid (∀ u : List UInt8, (tx u).size = u.length) := tx_size
  clear hl hsl ht
  obtain ⟨D, hD⟩ : ∃ D, D = unx l := ⟨_, rfl⟩
  rw [← hD] at HU HY HOK HBA HFO
  obtain ⟨xn, hxn⟩ : ∃ n, n = (xtL l).length := ⟨_, rfl⟩
  rw [← hxn] at hx3 hxg hxz
  rw [hls] at hx3 hxg
  generalize hxl : xtL l = XL at HX HXB HSG HXS hxz
  clear hD hxn hxl hls
  have hg1 : ¬ ((xn : Int) < (s.size : Int)) := by omega
  have hg3 : ¬ (xn < s.size) := by omega
  have hg4 : decide (xn < s.size) = false := decide_eq_false hg3
  have hg5 : decide (3 * (s.size : Int) < (xn : Int)) = false := decide_eq_false (by omega)
  have hg2 : ¬ ((3 * (s.size : Int)) < (xn : Int)) := by omega
  go_enter Tryz.func5, Tryz.ntmps5
  go_wp2_with fail
  refine HW.out.mono ?_
  rintro e w1 ⟨rfl, hb1⟩
  have HB1 : Hid (Below w.heap.size w w1) := hb1
  clear hb1 HW
  go_wp2_with fail
  refine (HX.out w1 HB1.out).mono ?_
  rintro e w2 ⟨rfl, hb2⟩
  have HB2 : Hid (Below w.heap.size w w2) := HB1.out.trans (hb2.mono HB1.out.size)
  clear hb2 HB1
  go_wp2_with fail
  refine (HXB.out w2 HB2.out).mono ?_
  rintro e w3 ⟨rfl, hb3⟩
  have HB3 : Hid (Below w.heap.size w w3) := HB2.out.trans (hb3.mono HB2.out.size)
  clear hb3 HB2
  go_wp2_with fail
  have HB4 : Hid (Below w.heap.size w (w3.alloc (.cells #[.int .i64 0, .int .i64 0] 28))) := HB3.out.alloc HB3.out.size _
  clear HX HXB HB3
  generalize w3.alloc (.cells #[.int .i64 0, .int .i64 0] 28) = v3 at HB4 ⊢
  generalize tx XL = XT at HXS hxz ⊢
  go_loopw [6] (fun c wr => ∃ k : Nat, k ≤ xn ∧ c = .int .i64 k ∧ Hid (Below w.heap.size w wr)) (fun c _ => xn - (intOf c).toNat)
  case atStart => exact ⟨0, Nat.zero_le _, rfl, HB4⟩
  case round =>
    obtain ⟨k, hk, rfl, HB⟩ := hrel
    clear HB4
    by_cases hlt : k < xn
    · have hlt2 : k < XT.size := by omega
      have hsg := HSG.out _ (HXS.out k hlt2)
      have HI := HIS.out XT[k] wr HB.out
      by_cases h43 : XT[k] = 43
      · have hn : ((XT[k].toNat : Int) != 43) = false := by rw [h43]; rfl
        clear hsg HI
        go_wp2_with fail
        go_roundw
        case rel => exact ⟨k + 1, by omega, by go_num, HB⟩
        case measure => simp [intOf]; omega
      · have hn : ((XT[k].toNat : Int) != 43) = true := by
          rw [bne_iff_ne]
          intro e
          exact h43 (UInt8.toNat_inj.1 (by rw [show (43 : UInt8).toNat = 43 from rfl]; omega))
        have hxc : xch XT[k] = true := by
          rcases hsg with h | h
          · exact absurd h h43
          · exact h
        rw [hxc] at HI
        have HI2 : Hid (Calls Tryz.prog 18 #[.int .i64 9, .int .u8 (XT[k].toNat : Int)] wr fun e w' => e = .returned (.bool true) ∧ w' = wr) := HI
        clear HI hsg hxc
        go_wp2_with fail
        refine HI2.out.mono ?_
        rintro e w6 ⟨rfl, hw6⟩
        subst hw6
        go_wp2_with fail
        go_roundw
        case rel => exact ⟨k + 1, by omega, by go_num, HB⟩
        case measure => simp [intOf]; omega
    · obtain rfl : k = xn := by omega
      clear HSG HXS HIS
      have HUw := HU.out wr HB.out
      rcases D with p | u
      · have hpb := HBA.out p rfl
        have HFx := HFO.out p rfl
        have HF2 : Hid (∀ wx, Below w.heap.size w wx → Calls Tryz.prog 17 #[.string (⟨#[97, 43, 48, 48]⟩ ++ s)] wx fun e w' => e = .returned (.tuple #[.string ⟨#[]⟩, .agg #[.int .i64 104, .int .i64 ((p : Int) + 4)]]) ∧ Below wx.heap.size wx w') := HFx
        have HU2 : Hid (Calls Tryz.prog 17 #[.string s] wr fun e w' => e = .returned (.tuple #[.string ⟨#[]⟩, .agg #[.int .i64 104, .int .i64 (p : Nat)]]) ∧ Below wr.heap.size wr w') := HUw
        have HY2 : Hid (∀ wx, Below w.heap.size w wx → Calls Tryz.prog 19 #[.string s] wx fun e w' => e = .returned (.tuple #[.string ⟨#[]⟩, .agg #[.int .i64 104, .int .i64 (p : Nat)]]) ∧ Below wx.heap.size wx w') := HY.out
        clear HU HY HUw HFx HFO HBA HOK HUB HUC HTS
        go_wp2_with fail
        refine HU2.out.mono ?_
        rintro e w5 ⟨rfl, hb5⟩
        have HB5 : Hid (Below w.heap.size w w5) := HB.out.trans (hb5.mono HB.out.size)
        clear hb5 HB HU2
        go_wp2_with fail
        have HB6 : Hid (Below w.heap.size w (w5.alloc (.cells #[.int .i64 104, .int .i64 (p : Nat)] 28))) := HB5.out.alloc HB5.out.size _
        refine (HY2.out _ HB6.out).mono ?_
        rintro e w6 ⟨rfl, hb6⟩
        have L6 : Lies w6 w5.heap.size #[.int .i64 104, .int .i64 (p : Nat)] 28 := (Lies.new w5 _ _).below hb6 (Lies.new w5 _ _).lt
        have HL6 : Hid (Lies w6 w5.heap.size #[.int .i64 104, .int .i64 (p : Nat)] 28) := L6
        have q0 : w6.cell? ⟨w5.heap.size, 0, none⟩ = some (.int .i64 104) := L6.cell 0
        have q1 : w6.cell? ⟨w5.heap.size, 1, none⟩ = some (.int .i64 (p : Nat)) := L6.cell 1
        have hz6 := L6.lt
        have HB7 : Hid (Below w.heap.size w (w6.alloc (.cells #[.int .i64 104, .int .i64 (p : Nat)] 28))) := (HB6.out.trans (hb6.mono HB6.out.size)).alloc (HB6.out.trans (hb6.mono HB6.out.size)).size _
        clear hb6 L6 HB6 HB5
        go_wp2_with fail
        refine (HF2.out _ HB7.out).mono ?_
        rintro e w7 ⟨rfl, hb7⟩
        have L7 : Lies w7 w5.heap.size #[.int .i64 104, .int .i64 (p : Nat)] 28 := (HL6.out.alloc _).below hb7 (HL6.out.alloc _).lt
        have r0 : w7.cell? ⟨w5.heap.size, 0, none⟩ = some (.int .i64 104) := L7.cell 0
        have r1 : w7.cell? ⟨w5.heap.size, 1, none⟩ = some (.int .i64 (p : Nat)) := L7.cell 1
        have hz7 := L7.lt
        have HB8 : Hid (Below w.heap.size w w7) := HB7.out.trans (hb7.mono HB7.out.size)
        have HB9 : Hid (Below w.heap.size w (w7.alloc (.cells #[.int .i64 104, .int .i64 ((p : Int) + 4)] 28))) := HB8.out.alloc HB8.out.size _
        clear hb7 L7 HB7 HF2
        go_wp2_with fail
        go_ret
        exact ⟨rfl, HB9.out⟩
      · obtain ⟨hu1, hu2⟩ := HOK.out u rfl
        have HU2 : Hid (Calls Tryz.prog 17 #[.string s] wr fun e w' => e = .returned (.tuple #[.string (tx u), .agg #[.int .i64 0, .int .i64 0]]) ∧ Below wr.heap.size wr w') := HUw
        have HY2 : Hid (∀ wx, Below w.heap.size w wx → Calls Tryz.prog 19 #[.string s] wx fun e w' => e = .returned (.tuple #[.string (tx u), .agg #[.int .i64 0, .int .i64 0]]) ∧ Below wx.heap.size wx w') := HY.out
        have HX2 : Hid (∀ wx, Below w.heap.size w wx → Calls Tryz.prog 16 #[.string (tx u)] wx fun e w' => e = .returned (.string (tx (xtL u))) ∧ Below wx.heap.size wx w') := HUB.out u hu1 hu2
        have HC2 : Hid (∀ wx, Below w.heap.size w wx → Calls Tryz.prog 17 #[.string (tx (xtL u))] wx fun e w' => e = .returned (.tuple #[.string (tx u), .agg #[.int .i64 0, .int .i64 0]]) ∧ Below wx.heap.size wx w') := HUC.out u hu2
        have hyz : (tx (xtL u)).size = (xtL u).length := tx_size _
        have hle : ((xtL u).length : Int) ≤ (s.size : Int) := by omega
        clear HU HY HUw HFO HBA HOK HUB HUC HTS hu1
        generalize (xtL u).length = yn at hyz hle hu2
        generalize tx (xtL u) = Y at HX2 HC2 hyz
        generalize tx u = U at HU2 HY2 HX2 HC2
        go_wp2_with fail
        refine HU2.out.mono ?_
        rintro e w5 ⟨rfl, hb5⟩
        have HB5 : Hid (Below w.heap.size w w5) := HB.out.trans (hb5.mono HB.out.size)
        clear hb5 HB HU2
        go_wp2_with fail
        have HB6 : Hid (Below w.heap.size w (w5.alloc (.cells #[.int .i64 0, .int .i64 0] 28))) := HB5.out.alloc HB5.out.size _
        refine (HY2.out _ HB6.out).mono ?_
        rintro e w6 ⟨rfl, hb6⟩
        have L6 : Lies w6 w5.heap.size #[.int .i64 0, .int .i64 0] 28 := (Lies.new w5 _ _).below hb6 (Lies.new w5 _ _).lt
        have HL6 : Hid (Lies w6 w5.heap.size #[.int .i64 0, .int .i64 0] 28) := L6
        have q0 : w6.cell? ⟨w5.heap.size, 0, none⟩ = some (.int .i64 0) := L6.cell 0
        have q1 : w6.cell? ⟨w5.heap.size, 1, none⟩ = some (.int .i64 0) := L6.cell 1
        have hz6 := L6.lt
        have HB7 : Hid (Below w.heap.size w (w6.alloc (.cells #[.int .i64 0, .int .i64 0] 28))) := (HB6.out.trans (hb6.mono HB6.out.size)).alloc (HB6.out.trans (hb6.mono HB6.out.size)).size _
        clear hb6 L6 HB6 HB5
        go_wp2_with fail
        refine (HX2.out _ HB7.out).mono ?_
        rintro e w7 ⟨rfl, hb7⟩
        have HL7 : Hid (Lies w7 w5.heap.size #[.int .i64 0, .int .i64 0] 28) := (HL6.out.alloc _).below hb7 (HL6.out.alloc _).lt
        have HB8 : Hid (Below w.heap.size w w7) := HB7.out.trans (hb7.mono HB7.out.size)
        clear hb7 HB7 HL6 q0 q1 hz6 HX2
        go_wp2_with fail
        refine (HC2.out w7 HB8.out).mono ?_
        rintro e w8 ⟨rfl, hb8⟩
        have L8 : Lies w8 w5.heap.size #[.int .i64 0, .int .i64 0] 28 := HL7.out.below hb8 HL7.out.lt
        have q0 : w8.cell? ⟨w5.heap.size, 0, none⟩ = some (.int .i64 0) := L8.cell 0
        have q1 : w8.cell? ⟨w5.heap.size, 1, none⟩ = some (.int .i64 0) := L8.cell 1
        have hz8 := L8.lt
        have HB9 : Hid (Below w.heap.size w (w8.alloc (.cells #[.int .i64 0, .int .i64 0] 28))) := (HB8.out.trans (hb8.mono HB8.out.size)).alloc (HB8.out.trans (hb8.mono HB8.out.size)).size _
        clear hb8 L8 HL7 HB8 HC2
        go_wp2_with fail
        go_ret
        exact ⟨rfl, HB9.out⟩

set_option maxRecDepth 100000 in
theorem contract (H : Type) (enc : TypeId × Value → H) (W : World) (base : Nat) (args : Array Value) (ds gs : List (DataW H)) (before : List MemPlace)
    (hval : ∀ (j : Nat) t v, Tryz.f5.params[j]? = some t → args[j]? = some v → Value.okWide Tryz.prog W .any base t v)
    (hW : DataW.Whole enc Tryz.prog Tryz.f5.params.toList Rows.paramCarriedSpec.vars false W args.toList ds gs before)
    (hsz : (DataW.weightsEach Tryz.prog (Tryz.f5.params.toList ++ (Rows.OpenSpec.upto Rows.paramCarriedSpec).bare.plain.varTypes Tryz.prog) (ds ++ gs)).all (· ≤ reachBytes) = true)
    (hk : Rows.uptoSmall H (ds ++ gs) = true) (hL : laidMetH Tryz.prog Rows.paramCarriedUptoRow.laid W) (hsh : W.ShapedOpen Tryz.prog) :
    Calls Tryz.prog 5 args W fun e W' => ∃ v, e = .returned v ∧ Rows.paramCarriedSpec.post enc Tryz.prog Tryz.f5 false true false false W args v W' := by
  have hW' := hW
  obtain ⟨p, q, hA0, hV, rfl, hfz, hnd⟩ := hW
  have hA : DataW.TrodAll enc Tryz.prog W 0 (fun _ => true) true Tryz.f5.params.toList args.toList ds p := hA0
  rw [Tryz.params5] at hA hval hsz
  obtain ⟨v0, vs0, d0, ds0, p0, q0, hargs, rfl, rfl, h0, r0⟩ := trodAll_cons hA
  obtain ⟨rfl, rfl, rfl⟩ := trodAll_nil r0
  obtain rfl : args = #[v0] := by cases args; simp_all
  obtain ⟨rfl, rfl⟩ := trodVars_none hV
  obtain ⟨a0, rfl, rfl, rfl, w0⟩ := open_string Tryz.underlying9 (hval 0 9 v0 rfl rfl) h0
  clear hA0
  have s0 : a0.size ≤ 1048576 := bulk_string hk (by simp)
  simp only [List.append_nil] at hW'
  refine (walk a0 s0 W (tabsW_of hL hsh)).mono fun e W' ⟨he, bel⟩ => ?_
  subst he
  exact ⟨_, rfl, _, _, _, [], [], [], hW', trodAll_mk1 (shut_bool Tryz.underlying4 _), trodAll_cons_mk (shut_string Tryz.underlying9 w0) trodAll_mk0, rfl, bel.frame _, fun h => by cases h⟩

set_option maxRecDepth 100000 in
theorem laid_met (os : Os) : laidMet Tryz.prog Rows.paramCarriedUptoRow.laid ((laidWorldW os).forCall (fun _ _ => 0) ⟨#[], #[.string ByteArray.empty], []⟩).memory :=
  laidMet_of_run' 8 (by kernel_rfl) (by kernel_rfl)
set_option maxRecDepth 100000 in
theorem reads (os : Os) {H : Type} (enc : TypeId × Value → H) : ∃ places, DataW.whole enc Tryz.prog ((laidWorldW os).forCall (fun _ _ => 0) ⟨#[], #[.string ByteArray.empty], []⟩).memory Tryz.f5.params.toList Rows.paramCarriedSpec.vars false #[Value.string ByteArray.empty].toList 8 = some ([.lit (.string [])], [], places) :=
  ⟨[], by kernel_rfl⟩

set_option maxRecDepth 100000 in
theorem lifted (os : Os) (started : os.Started) (H : Type) (enc : TypeId × Value → H) (F : Stop.Interp) :
    ReturnsInHanded {} Tryz.checked os 5 .any ((Rows.OpenSpec.upto Rows.paramCarriedSpec).preRow enc Tryz.prog Tryz.f5 Rows.paramCarriedUptoRow.domain false Rows.paramCarriedUptoRow.laid) (((Rows.OpenSpec.upto Rows.paramCarriedSpec).at F).post enc Tryz.prog Tryz.f5 false true false false) := by
  obtain ⟨places, hx⟩ := reads os enc
  refine returnsInHanded_of_row (C := Tryz.checked) (s := Rows.OpenSpec.upto Rows.paramCarriedSpec) own started (by kernel_rfl) Tryz.func5
    (witness_row_at (enc := enc) (C := Tryz.checked) false (laidWorldW os) #[.string ByteArray.empty] rfl (by kernel_rfl) (by kernel_rfl) (by kernel_rfl)
      (OpenSpec.preRow_of_cond 8 hx (by kernel_rfl) (fun k hk => by cases hk; kernel_rfl) (by kernel_rfl) (laid_met os))) ?_
  intro W base args ds gs before hval hW _ hcond hsz hL hsh _
  exact contract H enc W base args ds gs before hval hW hsz (hcond _ rfl) hL hsh

theorem said : Rows.ParamCarriedUptoSaid :=
  OpenClaim.holds_of_cond 5 Tryz.f5 rfl rfl rfl rfl rfl rfl rfl ⟨rfl, rfl, rfl, rfl, rfl⟩ rfl rfl rfl rfl rfl (by kernel_rfl) Tryz.func5 (by kernel_rfl)
    (of_decide_eq_true (by kernel_rfl)) (by unfold Func.isWrapper; first | (rw [if_pos (by decide +kernel)]; kernel_rfl) | (rw [if_neg (by decide +kernel)]; exact ⟨rfl, rfl⟩))
    (fun os started H enc _ F => by rw [OpenClaim.pre_eq_preRow]; exact lifted os started H enc F)

/-- No parameter wants a stand-in; the program's own looks are off. -/
theorem plain (f : FuncId) (fn : Func) (hf : Tryz.pinned.checked.prog.funcNamed "posthorn/posthornlaw10.ParamCarried" = some f) (hfn : Tryz.pinned.checked.prog.funcs[f]? = some fn) :
    true = Tryz.pinned.checked.prog.looks [] ∧ ∀ (j : Nat) t, fn.params[j]? = some t → Tryz.pinned.checked.prog.wantsStandIn t = false := by
  obtain rfl : f = 5 := Option.some.inj ((show Tryz.prog.funcNamed "posthorn/posthornlaw10.ParamCarried" = some 5 by kernel_rfl).symm.trans hf) |>.symm
  obtain rfl : fn = Tryz.f5 := (Option.some.inj (Tryz.func5.symm.trans hfn)).symm
  refine ⟨by kernel_rfl, fun j t ht => ?_⟩
  rw [Tryz.params5] at ht
  have hm : t ∈ [9] := by simpa using Array.mem_of_getElem? ht
  have hall : ([9].all fun u => !Tryz.prog.wantsStandIn u) = true := by kernel_rfl
  exact (show Tryz.prog.wantsStandIn t = false by simpa using List.all_eq_true.1 hall t hm)

/-- The card. -/
theorem card : Rows.ParamCarriedUptoCardSaid :=
  Claim7.holds_tied_plain_at .later [] _ _ _ _ said (fun _ h => by cases h) (by kernel_rfl) (fun _ h => by cases h) paramCarriedUpto_row_tie rfl ⟨rfl, rfl⟩ (by kernel_rfl) rfl plain (by kernel_rfl)
end Go.Proofs.YtjpmfgmoekpcpabGreatDoor.paramCarried
namespace Go.Proofs.YtjpmfgmoekpcpabGreatDoor
theorem paramCarriedUpto_card : Rows.ParamCarriedUptoCardSaid := paramCarried.card
#print axioms paramCarriedUpto_card
end Go.Proofs.YtjpmfgmoekpcpabGreatDoor
