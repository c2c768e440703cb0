/-
  P4.8, P12: a text cut into pieces, and cut otherwise: the same is told; and it is what Unbase64 tells of the letters without line ends: proved for all bytes and cuts that an argument may be.
-/
import Derived.Test.YtenfopabdegmhabDoorCard4
import Derived.Test.YtenfopabdegmhabDoorOpenN
import Derived.Test.YtenfopabdegmhabDoorFed
import Derived.Test.YtenfopabdegmhabDoorCutsP
import Derived.Test.YtenfopabdegmhabDoorRUnc
import Derived.ProofKit
import Derived.ChangeMaps5
import Derived.OpenShut
import Derived.ShutString
import Derived.ChangeOld
import Derived.SizedLaws
namespace Go.Proofs.YtenfopabdegmhabDoor.codeCuts
open Go.ChangeShapes Go.WideShapes Go.ChangeAt Go.RowKit

set_option maxHeartbeats 8000000 in
set_option maxRecDepth 100000 in
theorem walk {w : World} (a : Option Addr) (l : List UInt8) (cap : Nat) (hr : Bts a l w) (hl : l.length ≤ 140737488351232) (hc : l.length ≤ cap) (hnn : a = none → cap = 0) (hcm : cap ≤ 9223372036854775807) (ca : Option Addr) (cs : List Int) (ccap : Nat) (hcs : IntsB ca cs w) (hcl : cs.length ≤ 17592186043904) (oa : Option Addr) (os : List Int) (ocap : Nat) (hos : IntsB oa os w) (hol : os.length ≤ 17592186043904) (htab : Tabs w) :
    Calls Tryd.prog 4 #[.slice a l.length cap, .slice ca cs.length ccap, .slice oa os.length ocap] w fun e w' => e = .returned (.bool true) ∧ Below w.heap.size w w' := by
  obtain ⟨n, hn⟩ : ∃ n, n = l.length := ⟨_, rfl⟩
  obtain ⟨m, hm⟩ : ∃ m, m = cs.length := ⟨_, rfl⟩
  obtain ⟨o, ho⟩ : ∃ o, o = os.length := ⟨_, rfl⟩
  have HBT : Hid (Bts a l w) := hr
  have HN : Hid (n = l.length) := hn
  have HW : Hid (Calls Tryd.prog 8 #[] w fun e w' => e = .returned (.bool true) ∧ Below w.heap.size w w') := wakes_any w htab
  have HF : Hid (∀ wx : World, Below w.heap.size w wx → Calls Tryd.prog 12 #[.slice a n cap, .slice ca m ccap] wx fun e w' => ∃ v, e = .returned (.tuple #[v, .int .i64 (rdE [] l : Nat), .int .i64 (clE (rdT [] l) (rdE [] l) : Nat), .bool true]) ∧
      w'.ownsRow wx.heap.size 5 1 v (decL (rdT [] l)).length (cellsB (decL (rdT [] l))) ∧ Below wx.heap.size wx w') := fun wx hb => fed_any a l cap n ca cs ccap m wx hn (hr.below hb) hl hc hcm hnn hm (ints_below hcs.1 hb) (by omega) hcs.2
  have HG : Hid (∀ wx : World, Below w.heap.size w wx → Calls Tryd.prog 12 #[.slice a n cap, .slice oa o ocap] wx fun e w' => ∃ v, e = .returned (.tuple #[v, .int .i64 (rdE [] l : Nat), .int .i64 (clE (rdT [] l) (rdE [] l) : Nat), .bool true]) ∧
      w'.ownsRow wx.heap.size 5 1 v (decL (rdT [] l)).length (cellsB (decL (rdT [] l))) ∧ Below wx.heap.size wx w') := fun wx hb => fed_any a l cap n oa os ocap o wx hn (hr.below hb) hl hc hcm hnn ho (ints_below hos.1 hb) (by omega) hos.2
  have hnl := noCr_le l
  obtain ⟨E, hE⟩ : ∃ E, E = rdE [] l := ⟨_, rfl⟩
  obtain ⟨C, hC⟩ : ∃ C, C = clE (rdT [] l) (rdE [] l) := ⟨_, rfl⟩
  obtain ⟨D, hD⟩ : ∃ D, D = decL (rdT [] l) := ⟨_, rfl⟩
  rw [← hC, ← hE, ← hD] at HF HG
  have HEE : Hid (E = rdE [] l) := hE
  have HCC : Hid (C = clE (rdT [] l) (rdE [] l)) := hC
  have HDD : Hid (D = decL (rdT [] l)) := hD
  have hdl : D.length ≤ n := by
    rw [hD, hn]
    exact dec_rd_len l
  rw [← hn, ← hm, ← ho]
  rw [← hn] at hl hc hnl
  clear hr hn hm ho htab hcs hos hcl hol hE hC hD
  go_enter Tryd.func4, Tryd.ntmps4
  go_wp2_with fail
  refine Calls.mono HW.out ?_
  rintro e w1 ⟨rfl, hb1⟩
  have HB1 : Hid (Below w.heap.size w w1) := hb1
  have hz1 := hb1.size
  clear hb1 HW
  go_wp2_with fail
  refine Calls.mono (HF.out _ HB1.out) ?_
  rintro e w2 ⟨v2, rfl, ho2, hb2⟩
  have hz2 : w1.heap.size ≤ w2.heap.size := hb2.size
  have HO2 : Hid (w2.ownsRow w.heap.size 5 1 v2 D.length (cellsB D)) := base_le ho2 hz1
  have HB2 : Hid (Below w.heap.size w w2) := HB1.out.trans (hb2.mono hz1)
  clear ho2 hb2 HB1 HF
  go_wp2_with fail
  refine Calls.mono (HG.out _ HB2.out) ?_
  rintro e w3 ⟨v3, rfl, ho3, hb3⟩
  have hz3 : w2.heap.size ≤ w3.heap.size := hb3.size
  have HO3 : Hid (w3.ownsRow w.heap.size 5 1 v2 D.length (cellsB D)) := own_below HO2.out hb3
  have HB3 : Hid (Below w.heap.size w w3) := HB2.out.trans (hb3.mono HB2.out.size)
  have cv2 := own_conv HO3.out
  have cv3 := own_conv ho3
  clear ho3 hb3 HB2 HO2 HG
  go_wp2_with fail
  go_loopw [15, 16] (fun v i wr => ∃ k : Nat, k ≤ n ∧ i = .int .i64 k ∧ Hid (wr.ownsRow w3.heap.size 5 1 v (noCr (l.take k)).length (cellsB (noCr (l.take k)))) ∧ Hid (Below w3.heap.size w3 wr)) (fun _ i _ => n - (intOf i).toNat)
  case atStart => exact ⟨0, by omega, rfl, own_nil _ _, Below.refl _ _⟩
  case round =>
    clear cv2 cv3
    obtain ⟨k, hk, rfl, HO, HB⟩ := hrel
    have HBW : Hid (Below w.heap.size w wr) := HB3.out.trans (HB.out.mono HB3.out.size)
    by_cases hlt : k < n
    · have hkl : k < l.length := by rw [← HN.out]; exact hlt
      obtain ⟨g, of, rfl, hg, hcell⟩ := (HBT.out.below HBW.out).cell k hkl
      obtain ⟨c, hce⟩ : ∃ c, c = l[k] := ⟨_, rfl⟩
      rw [← hce] at hcell
      have hsn := noCr_snoc l k hkl
      rw [← hce] at hsn
      have hnk : (noCr (l.take k)).length ≤ k := by
        have := noCr_le (l.take k)
        rw [List.length_take] at this
        omega
      have e13 : ((c.toNat : Int) != 13) = !decide (c = 13) := by rw [bne, show ((c.toNat : Int) == 13) = decide (c = 13) from eq_byte c 13 (by omega)]
      have e10 : ((c.toNat : Int) != 10) = !decide (c = 10) := by rw [bne, show ((c.toNat : Int) == 10) = decide (c = 10) from eq_byte c 10 (by omega)]
      clear hce
      by_cases h13 : c = 13
      · rw [if_pos (.inl h13)] at hsn
        rw [decide_eq_true h13] at e13
        have HS : Hid _ := hsn
        clear h13 hsn e10
        go_wp2
        go_roundw
        case rel => exact ⟨k + 1, by omega, by go_num, by rw [HS.out]; exact HO, HB⟩
        case measure => simp [intOf] <;> omega
      · rw [decide_eq_false h13] at e13
        by_cases h10 : c = 10
        · rw [if_pos (.inr h10)] at hsn
          rw [decide_eq_true h10] at e10
          have HS : Hid _ := hsn
          clear h13 h10 hsn
          go_wp2
          go_roundw
          case rel => exact ⟨k + 1, by omega, by go_num, by rw [HS.out]; exact HO, HB⟩
          case measure => simp [intOf] <;> omega
        · rw [if_neg (by simp [h13, h10])] at hsn
          rw [decide_eq_false h10] at e10
          have HS : Hid _ := hsn
          have hzr := HB.out.size
          clear h13 h10 hsn
          go_wp2_with (at_builtin; refine wpList_append_byte rfl _ _ rfl w3.heap.size _ _ _ rfl (HO.out.alloc _) wr c _ rfl rfl 1 rfl (by omega) hzr ?_)
          intro v4 w4 ho4 hb4
          have HO4 : Hid (w4.ownsRow w3.heap.size 5 1 v4 (noCr (l.take (k + 1))).length (cellsB (noCr (l.take (k + 1))))) := by
            show World.ownsRow _ _ _ _ _ _ _
            rw [HS.out, List.length_append]
            exact ho4
          have HB4 : Hid (Below w3.heap.size w3 w4) := hb4 _ _ HB.out (Nat.le_refl _)
          clear ho4 hb4
          go_wp2
          go_roundw
          case rel => exact ⟨k + 1, by omega, by go_num, HO4, HB4⟩
          case measure => simp [intOf] <;> omega
    · have hkn : l.take k = l := List.take_of_length_le (by rw [← HN.out]; omega)
      rw [hkn] at HO
      clear hkn
      obtain ⟨N, hNe⟩ : ∃ N, N = noCr l := ⟨_, rfl⟩
      have HNE : Hid (N = noCr l) := hNe
      rw [← hNe] at HO hnl
      clear hNe
      have HS : Hid ((⟨N.toArray⟩ : ByteArray).data.toList = N) := List.toList_toArray ..
      have hsz : (⟨N.toArray⟩ : ByteArray).size ≤ 140737488351232 := by
        rw [← len_list, HS.out]
        omega
      obtain ⟨S, hSe⟩ : ∃ S : ByteArray, S = ⟨N.toArray⟩ := ⟨_, rfl⟩
      have cv15 := own_conv HO.out
      rw [← hSe] at cv15 HS hsz
      obtain ⟨E5, hE5⟩ : ∃ E5, E5 = unbE N := ⟨_, rfl⟩
      obtain ⟨A5, hA5⟩ : ∃ A5, A5 = unbA N := ⟨_, rfl⟩
      have HE5 : Hid (E5 = unbE N) := hE5
      have HA5 : Hid (A5 = unbA N) := hA5
      have HU : Hid (∀ wx : World, Calls Tryd.prog 9 #[.string S] wx fun e w' => ∃ v, e = .returned (.tuple #[v, .agg #[.int .i64 (E5 : Int), .int .i64 (A5 : Int)]]) ∧ w'.ownsRow wx.heap.size 5 1 v (unbL N).length (cellsB (unbL N)) ∧ Below wx.heap.size wx w') := fun wx => by
        have h := unb_any S (by omega) wx
        rw [HS.out, ← hE5, ← hA5] at h
        exact h
      have HR : Hid (∀ wx : World, Calls Tryd.prog 10 #[.string S] wx fun e w' => ∃ v, e = .returned (.tuple #[v, .agg #[.int .i64 (E5 : Int), .int .i64 (A5 : Int)]]) ∧ w'.ownsRow wx.heap.size 5 1 v (unbL N).length (cellsB (unbL N)) ∧ Below wx.heap.size wx w') := fun wx => by
        have h := runb_any S (by omega) wx
        rw [HS.out, ← hE5, ← hA5] at h
        exact h
      have hzr := HB.out.size
      have HOR : Hid (wr.ownsRow w.heap.size 5 1 v2 D.length (cellsB D)) := own_below HO3.out HB.out
      have HSE : Hid (S = ⟨N.toArray⟩) := hSe
      clear hE5 hA5 hSe
      go_wp2_with fail
      refine Calls.mono (HU.out _) ?_
      rintro e w5 ⟨v5, rfl, ho5, hb5⟩
      have hz5 : wr.heap.size ≤ w5.heap.size := hb5.size
      have HB5 : Hid (Below w.heap.size w (w5.alloc (.cells #[.int .i64 (E5 : Int), .int .i64 (A5 : Int)] 26))) := (HBW.out.trans (hb5.mono HBW.out.size)).alloc (HBW.out.trans (hb5.mono HBW.out.size)).size _
      have HOX : Hid ((w5.alloc (.cells #[.int .i64 (E5 : Int), .int .i64 (A5 : Int)] 26)).ownsRow w.heap.size 5 1 v2 D.length (cellsB D)) := (own_below HOR.out hb5).alloc _
      have HO5 : Hid ((w5.alloc (.cells #[.int .i64 (E5 : Int), .int .i64 (A5 : Int)] 26)).ownsRow wr.heap.size 5 1 v5 (unbL N).length (cellsB (unbL N))) := ho5.alloc _
      have HL5 : Hid (Lies (w5.alloc (.cells #[.int .i64 (E5 : Int), .int .i64 (A5 : Int)] 26)) w5.heap.size #[.int .i64 (E5 : Int), .int .i64 (A5 : Int)] 26) := Lies.new w5 _ _
      have cv16 := own_conv ((own_below HO.out hb5).alloc (.cells #[.int .i64 (E5 : Int), .int .i64 (A5 : Int)] 26))
      rw [← HSE.out] at cv16
      clear ho5 hb5 HU cv15 HOR
      go_wp2_with fail
      refine Calls.mono (HR.out _) ?_
      rintro e w6 ⟨v6, rfl, ho6, hb6⟩
      have hz6 : w5.heap.size + 1 ≤ w6.heap.size := by have := hb6.size; simpa using this
      have HB6 : Hid (Below w.heap.size w (w6.alloc (.cells #[.int .i64 (E5 : Int), .int .i64 (A5 : Int)] 26))) := (HB5.out.trans (hb6.mono HB5.out.size)).alloc (HB5.out.trans (hb6.mono HB5.out.size)).size _
      have HOX6 : Hid ((w6.alloc (.cells #[.int .i64 (E5 : Int), .int .i64 (A5 : Int)] 26)).ownsRow w.heap.size 5 1 v2 D.length (cellsB D)) := (own_below HOX.out hb6).alloc _
      have HO6 : Hid ((w6.alloc (.cells #[.int .i64 (E5 : Int), .int .i64 (A5 : Int)] 26)).ownsRow wr.heap.size 5 1 v5 (unbL N).length (cellsB (unbL N))) := (own_below HO5.out hb6).alloc _
      have HL6 : Hid (Lies (w6.alloc (.cells #[.int .i64 (E5 : Int), .int .i64 (A5 : Int)] 26)) w5.heap.size #[.int .i64 (E5 : Int), .int .i64 (A5 : Int)] 26) := (HL5.out.below hb6 (by simp)).alloc _
      have k60 : (w6.alloc (.cells #[.int .i64 (E5 : Int), .int .i64 (A5 : Int)] 26)).cell? ⟨w5.heap.size, 0, none⟩ = some (.int .i64 (E5 : Int)) := HL6.out.cell 0
      have k61 : (w6.alloc (.cells #[.int .i64 (E5 : Int), .int .i64 (A5 : Int)] 26)).cell? ⟨w5.heap.size, 1, none⟩ = some (.int .i64 (A5 : Int)) := HL6.out.cell 1
      clear ho6 hb6 HR cv16 HOX HO5 HL5 HB5
      obtain ⟨a15, c15, rfl⟩ := own_shape HO.out
      obtain ⟨a2, c2, rfl⟩ := own_shape HOX6.out
      by_cases hE0 : E = 0
      · obtain ⟨q1, q2, q3⟩ := cuts_good l (by rw [← HEE.out]; exact hE0)
        rw [← HNE.out] at q1 q2 q3
        have hCE : C = E5 := by rw [HCC.out, ← HEE.out, hE0, q1, HE5.out]
        have hEI : ((E : Int) != 0) = false := by simp; omega
        have hCI : ((C : Int) == (E5 : Int)) = true := by simp; omega
        by_cases hC0 : C = 0
        · have hC1 : ((C : Int) != 0) = false := by simp; omega
          have hC2 : ((C : Int) == 0) = true := by simp; omega
          have hDN : unbL N = D := by rw [HDD.out, q3 (by rw [← HE5.out, ← hCE]; exact hC0)]
          have cv7 := own_conv HOX6.out
          have cv8 := own_conv HO6.out
          rw [hDN] at cv8
          clear hDN q1 q2 q3 hC0 hCE hE0
          go_wp2
          go_ret
          exact ⟨rfl, HB6.out⟩
        · have hC1 : ((C : Int) != 0) = true := by simp; omega
          have hAN : ((A5 : Int) == (N.length : Int)) = true := by
            have := q2 (by rw [← HE5.out, ← hCE]; exact hC0)
            rw [← HA5.out] at this
            simp
            omega
          clear q1 q2 q3 hC0 hCE hE0
          go_wp2
          go_ret
          exact ⟨rfl, HB6.out⟩
      · obtain ⟨q1, q2, q3, q4⟩ := cuts_bad l (by rw [← HEE.out]; exact hE0)
        rw [← HNE.out] at q2 q3 q4
        rw [← HEE.out, ← HE5.out] at q2
        rw [← HA5.out] at q3 q4
        rw [← HDD.out] at q4
        have hCE : C = E := by rw [HCC.out, q1, HEE.out]
        have hEI : ((E : Int) != 0) = true := by simp; omega
        have hCI : ((C : Int) == (E : Int)) = true := by simp; omega
        have hC2 : ((E5 : Int) == (E : Int)) = true := by simp; omega
        have hAN : (A5 : Int) < (N.length : Int) := by omega
        have hDA : (D.length : Int) ≤ (A5 : Int) / 4 * 3 := by omega
        clear q1 q2 q3 q4 hCE hE0
        go_wp2
        go_ret
        exact ⟨rfl, HB6.out⟩

theorem contract (H : Type) (enc : TypeId × Value → H) (W : World) (base : Nat) (args : Array Value) (ds gs : List (DataW H)) (before : List MemPlace)
    (hval : ∀ (j : Nat) t v, Tryd.f4.params[j]? = some t → args[j]? = some v → Value.okWide Tryd.prog W .any base t v)
    (hW : DataW.Whole enc Tryd.prog Tryd.f4.params.toList Rows.codeCutsSpec.vars false W args.toList ds gs before)
    (hsz : (DataW.weightsEach Tryd.prog (Tryd.f4.params.toList ++ (OpenSpec.ofChange Rows.codeCutsSpec).bare.plain.varTypes Tryd.prog) (ds ++ gs)).all (· ≤ reachBytes) = true)
    (hL : laidMetH Tryd.prog Rows.codeCutsRow.laid W) (hsh : W.ShapedOpen Tryd.prog) :
    Calls Tryd.prog 4 args W fun e W' => ∃ v, e = .returned v ∧ Rows.codeCutsSpec.post enc Tryd.prog Tryd.f4 false true false false W args v W' := by
  have hW' := hW
  obtain ⟨p, q, hA0, hV, rfl, hfz, hnd⟩ := hW
  have hA : DataW.TrodAll enc Tryd.prog W 0 (fun _ => true) true Tryd.f4.params.toList args.toList ds p := hA0
  rw [Tryd.params4] at hA hval hsz
  obtain ⟨v0, vs0, d0, ds0, p0, q0, hargs, rfl, rfl, h0, r0⟩ := trodAll_cons hA
  obtain ⟨v1, vs1, d1, ds1, p1, q1, rfl, rfl, rfl, h1, r1⟩ := trodAll_cons r0
  obtain ⟨v2, vs2, d2, ds2, p2, q2, rfl, rfl, rfl, h2, r2⟩ := trodAll_cons r1
  obtain ⟨rfl, rfl, rfl⟩ := trodAll_nil r2
  obtain rfl : args = #[v0, v1, v2] := by cases args; simp_all
  obtain ⟨rfl, rfl⟩ := trodVars_none hV
  have k0 := h0
  have lt0 : ∀ x ∈ p0, x.block < W.heap.size := by obtain ⟨m, hm⟩ := k0; exact DataW.trod_lt m _ _ _ hm
  obtain ⟨a0, len0, cap0, rfl⟩ := okWide_slice Tryd.underlying22 (hval 0 22 v0 rfl rfl)
  obtain ⟨l0, e0, row0, cp0, bd0⟩ := open_bytes h0
  have nn0 := open_none k0
  have k1 := h1
  have lt1 : ∀ x ∈ p1, x.block < W.heap.size := by obtain ⟨m, hm⟩ := k1; exact DataW.trod_lt m _ _ _ hm
  obtain ⟨a1, len1, cap1, rfl⟩ := okWide_slice Tryd.underlying31 (hval 1 31 v1 rfl rfl)
  obtain ⟨l1, e1, row1, bd1⟩ := open_nums h1
  have k2 := h2
  have lt2 : ∀ x ∈ p2, x.block < W.heap.size := by obtain ⟨m, hm⟩ := k2; exact DataW.trod_lt m _ _ _ hm
  obtain ⟨a2, len2, cap2, rfl⟩ := okWide_slice Tryd.underlying31 (hval 2 31 v2 rfl rfl)
  obtain ⟨l2, e2, row2, bd2⟩ := open_nums h2
  clear hA0
  have s0 : l0.length ≤ 140737488351232 := by
    rcases bd0 with ⟨el, sp, rfl, hl⟩ | ⟨rfl, hl⟩
    · have := sized_slice hsz (j := 0) (t := 22) (e := 5) rfl rfl Tryd.underlying22
      rw [bytes5] at this
      simp only [reachBytes] at this
      omega
    · omega
  subst e0
  have s1 : l1.length ≤ 17592186043904 := by
    rcases bd1 with ⟨el, sp, rfl, hl⟩ | ⟨rfl, hl⟩
    · have := sized_slice hsz (j := 1) (t := 31) (e := 3) rfl rfl Tryd.underlying31
      rw [bytes3] at this
      simp only [reachBytes] at this
      omega
    · omega
  subst e1
  have s2 : l2.length ≤ 17592186043904 := by
    rcases bd2 with ⟨el, sp, rfl, hl⟩ | ⟨rfl, hl⟩
    · have := sized_slice hsz (j := 2) (t := 31) (e := 3) rfl rfl Tryd.underlying31
      rw [bytes3] at this
      simp only [reachBytes] at this
      omega
    · omega
  subst e2
  refine (walk a0 l0 cap0 row0 s0 cp0 nn0 (open_cap k0) a1 l1 cap1 row1 s1 a2 l2 cap2 row2 s2 (tabs_of hL hsh)).mono fun e W' ⟨he, bel⟩ => ?_
  subst he
  exact ⟨_, rfl, _, _, _, [], _, [], hW', trodAll_mk1 (shut_bool Tryd.underlying4 _), trodAll_cons_mk (Below.trod laidOut (by kernel_rfl) (of_decide_eq_true (by kernel_rfl)) k0 bel lt0) (trodAll_cons_mk (Below.trod laidOut (by kernel_rfl) (of_decide_eq_true (by kernel_rfl)) k1 bel lt1) (trodAll_cons_mk (Below.trod laidOut (by kernel_rfl) (of_decide_eq_true (by kernel_rfl)) k2 bel lt2) trodAll_mk0)), rfl, bel.frame _, fun h => by cases h⟩

theorem laid_met (os : Os) : laidMet Tryd.prog Rows.codeCutsRow.laid ((laidWorld os).forCall (fun _ _ => 0) ⟨#[], #[.slice none 0 0, .slice none 0 0, .slice none 0 0], []⟩).memory :=
  laidMet_of_run' 8 (by kernel_rfl) (by kernel_rfl)
theorem reads (os : Os) {H : Type} (enc : TypeId × Value → H) : ∃ places, DataW.whole enc Tryd.prog ((laidWorld os).forCall (fun _ _ => 0) ⟨#[], #[.slice none 0 0, .slice none 0 0, .slice none 0 0], []⟩).memory Tryd.f4.params.toList Rows.codeCutsSpec.vars false #[Value.slice none 0 0, Value.slice none 0 0, Value.slice none 0 0].toList 8 = some ([.nil, .nil, .nil], [], places) :=
  ⟨[], by kernel_rfl⟩

set_option maxRecDepth 100000 in
theorem lifted (os : Os) (started : os.Started) (H : Type) (enc : TypeId × Value → H) (F : Stop.Interp) :
    ReturnsInHanded {} Tryd.checked os 4 .any ((OpenSpec.ofChange Rows.codeCutsSpec).preRow enc Tryd.prog Tryd.f4 Rows.codeCutsRow.domain false Rows.codeCutsRow.laid) (((OpenSpec.ofChange Rows.codeCutsSpec).at F).post enc Tryd.prog Tryd.f4 false true false false) := by
  obtain ⟨places, hx⟩ := reads os enc
  refine returnsInHanded_of_row (C := Tryd.checked) (s := OpenSpec.ofChange Rows.codeCutsSpec) own started (by kernel_rfl) Tryd.func4
    (witness_row_at (enc := enc) (C := Tryd.checked) false (laidWorld os) #[.slice none 0 0, .slice none 0 0, .slice none 0 0] rfl (by kernel_rfl) (by kernel_rfl) (by kernel_rfl)
      (OpenSpec.preRow_of_cond 8 hx (by kernel_rfl) (fun k hk => by cases hk) (by kernel_rfl) (laid_met os))) ?_
  intro W base args ds gs before hval hW _ _ hsz hL hsh _
  exact contract H enc W base args ds gs before hval hW hsz hL hsh

theorem said : Rows.CodeCutsSaid :=
  OpenClaim.holds_of_cond 4 Tryd.f4 rfl rfl rfl rfl rfl rfl rfl ⟨rfl, rfl, rfl, rfl, rfl⟩ rfl rfl rfl rfl rfl (by kernel_rfl) Tryd.func4 (by kernel_rfl)
    (of_decide_eq_true (by kernel_rfl)) (by unfold Func.isWrapper; first | (rw [if_pos (by decide +kernel)]; kernel_rfl) | (rw [if_neg (by decide +kernel)]; exact ⟨rfl, rfl⟩))
    (fun os started H enc _ F => by rw [OpenClaim.pre_eq_preRow]; exact lifted os started H enc F)

/-- No parameter wants a stand-in; the program's own looks are off. -/
theorem plain (f : FuncId) (fn : Func) (hf : Tryd.pinned.checked.prog.funcNamed "posthorn/posthornlaw04.CodeCuts" = some f) (hfn : Tryd.pinned.checked.prog.funcs[f]? = some fn) :
    false = Tryd.pinned.checked.prog.looks [] ∧ ∀ (j : Nat) t, fn.params[j]? = some t → Tryd.pinned.checked.prog.wantsStandIn t = false := by
  obtain rfl : f = 4 := Option.some.inj ((show Tryd.prog.funcNamed "posthorn/posthornlaw04.CodeCuts" = some 4 by kernel_rfl).symm.trans hf) |>.symm
  obtain rfl : fn = Tryd.f4 := (Option.some.inj (Tryd.func4.symm.trans hfn)).symm
  refine ⟨by kernel_rfl, fun j t ht => ?_⟩
  rw [Tryd.params4] at ht
  have hm : t ∈ [22, 31, 31] := by simpa using Array.mem_of_getElem? ht
  have hall : ([22, 31, 31].all fun u => !Tryd.prog.wantsStandIn u) = true := by kernel_rfl
  exact (show Tryd.prog.wantsStandIn t = false by simpa using List.all_eq_true.1 hall t hm)

/-- The card. -/
theorem card : Rows.CodeCutsCardSaid :=
  Claim7.holds_tied_plain_at .later [] _ _ _ _ said (fun _ h => by cases h) (by kernel_rfl) (fun _ h => by cases h) codeCuts_row_tie rfl ⟨rfl, rfl⟩ (by kernel_rfl) rfl plain (by kernel_rfl)
end Go.Proofs.YtenfopabdegmhabDoor.codeCuts
namespace Go.Proofs.YtenfopabdegmhabDoor
theorem codeCuts_card : Rows.CodeCutsCardSaid := codeCuts.card
#print axioms codeCuts_card
end Go.Proofs.YtenfopabdegmhabDoor
