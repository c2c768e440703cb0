/-
  P4.3, P4.7: rows are of just so many letters but the last, and a reader tells what they were made of; proved for inputs of bulk at most 1048576 (the given upto form).
-/
import Derived.Test.YtenfopabdegmhabDoorCard4
import Derived.Test.YtenfopabdegmhabDoorOpenN
import Derived.Test.YtenfopabdegmhabDoorFed
import Derived.Test.YtenfopabdegmhabDoorRbP
import Derived.Test.YtenfopabdegmhabDoorRows4
import Derived.ProofKit
import Derived.ChangeMaps5
import Derived.OpenShut
import Derived.ShutString
import Derived.ChangeOld
import Derived.SizedLaws
namespace Go.Proofs.YtenfopabdegmhabDoor.codeRowsBack
open Go.ChangeShapes Go.WideShapes Go.ChangeAt Go.RowKit

theorem cat_arr (x y : List UInt8) (s : ByteArray) (h : s.data.toList = y) : (⟨x.toArray⟩ : ByteArray) ++ s = ⟨(x ++ y).toArray⟩ := by
  subst h
  apply ByteArray.ext
  simp
set_option maxHeartbeats 8000000 in
set_option maxRecDepth 100000 in
theorem walk_ok {w : World} (a : Option Addr) (l : List UInt8) (cap : Nat) (hr : Bts a l w) (hl : l.length ≤ 1048576) (hc : l.length ≤ cap) (_hnn : a = none → cap = 0) (hcm : cap ≤ 9223372036854775807) (k : Nat) (hk1 : 4 ≤ k) (hk2 : k ≤ 76) (hk3 : k % 4 = 0) (ca : Option Addr) (cs : List Int) (ccap : Nat) (hcs : IntsB ca cs w) (hcl : cs.length ≤ 1048576) (htab : Tabs w) :
    Calls Tryd.prog 5 #[.slice a l.length cap, .int .i64 (k : Int), .slice ca cs.length ccap] w fun e w' => e = .returned (.bool true) ∧ Below w.heap.size w w' := by
  obtain ⟨n, hn⟩ : ∃ n, n = l.length := ⟨_, rfl⟩
  obtain ⟨m, hm⟩ : ∃ m, m = cs.length := ⟨_, rfl⟩
  have HBT : Hid (Bts a l w) := hr
  have HCS : Hid (IntsB ca cs w) := hcs
  have HN : Hid (n = l.length) := hn
  have HMM : Hid (m = cs.length) := hm
  have HW : Hid (Calls Tryd.prog 8 #[] w fun e w' => e = .returned (.bool true) ∧ Below w.heap.size w w') := wakes_any w htab
  have hok : okMost (k : Int) = true := by
    unfold okMost
    simp only [decide_eq_true_eq]
    omega
  obtain ⟨T, hT⟩ : ∃ T, T = rg k 0 (encL l) := ⟨_, rfl⟩
  obtain ⟨S, hS⟩ : ∃ S : ByteArray, S = ⟨T.toArray⟩ := ⟨_, rfl⟩
  have HST : Hid (S.data.toList = T) := by rw [hS]; exact List.toList_toArray ..
  have hsz : S.size = T.length := by rw [← len_list, HST.out]
  have htl : T.length ≤ 12582912 := by
    have h1 := rg_len k (encL l) 0
    rw [encL_len] at h1
    rw [hT]
    omega
  have HR : Hid (∀ wx : World, Below w.heap.size w wx → Calls Tryd.prog 13 #[.slice a n cap, .int .i64 (k : Int)] wx fun e w' => e = .returned (.tuple #[.string S, .int .i64 0]) ∧ Below wx.heap.size wx w') := fun wx hb => by
    have h := rows_any a l cap n (k : Int) wx hn (hr.below hb) (by omega) hc hcm
    have e1 : rowsS l (k : Int) = S := by
      unfold rowsS
      rw [if_pos hok, hS, hT]
      rfl
    have e2 : rowsE (k : Int) = 0 := by unfold rowsE; rw [if_pos hok]
    rw [e1, e2] at h
    exact h
  have HT : Hid (T = rg k 0 (encL l)) := hT
  have htm : (k : Int).tmod 4 = 0 := by rw [Int.tmod_eq_emod_of_nonneg (by omega)]; omega
  obtain ⟨L, hL⟩ : ∃ L, L = encL l := ⟨_, rfl⟩
  rw [← hL] at HT
  have HLL : Hid (L = encL l) := hL
  have hLb : L.length ≤ 4194304 := by rw [hL, encL_len]; omega
  rw [← hn, ← hm]
  rw [← hn] at hl hc
  rw [← hm] at hcl
  have hsz' : S.size ≤ 12582912 := by omega
  have HSZ : Hid (S.size = T.length) := hsz
  clear hr hn hm htab hcs hok hT hS hL hsz
  go_enter Tryd.func5, Tryd.ntmps5
  go_wp2_with fail
  refine Calls.mono HW.out ?_
  rintro e w1 ⟨rfl, hb1⟩
  have HB1 : Hid (Below w.heap.size w w1) := hb1
  clear hb1 HW
  go_wp2_with fail
  refine Calls.mono (HR.out _ HB1.out) ?_
  rintro e w2 ⟨rfl, hb2⟩
  have HB2 : Hid (Below w.heap.size w w2) := HB1.out.trans (hb2.mono HB1.out.size)
  clear hb2 HB1 HR
  go_wp2_with fail
  go_loop [9, 10] (fun at' jn => ∃ (p j : Nat), p ≤ S.size ∧ at' = .int .i64 p ∧ jn = .string ⟨(L.take j).toArray⟩ ∧ Hid (j % k = 0 ∧ T.drop p = rg k j (L.drop j))) (fun at' _ => S.size - (intOf at').toNat)
  case atStart => exact ⟨0, 0, by omega, rfl, rfl, Nat.zero_mod k, by rw [HT.out]; rfl⟩
  case round =>
    obtain ⟨p, j, hp, rfl, rfl, HJ⟩ := hrel
    by_cases hlt : p < S.size
    · have hpt : p < T.length := by rw [← HSZ.out]; exact hlt
      have hjl : j < L.length := by
        rcases Nat.lt_or_ge j L.length with h | h
        · exact h
        · have h2 := HJ.out.2
          rw [rb_end k j L h] at h2
          have := congrArg List.length h2
          rw [List.length_drop] at this
          simp at this
          omega
      have hst := rb_step k j L (by omega) HJ.out.1 hjl
      rw [← HJ.out.2] at hst
      obtain ⟨R, hR⟩ : ∃ R, R = (L.drop j).take k := ⟨_, rfl⟩
      have hRl : R.length = min k (L.length - j) := by rw [hR, List.length_take, List.length_drop]
      rw [← hR] at hst
      have hXX : R.length < k → rg k (j + k) (L.drop (j + k)) = [] := fun h => rb_end k (j + k) L (by omega)
      have HDJ : Hid (rg k (j + k) (L.drop (j + k)) = rg k (j + k) (L.drop (j + k))) := rfl
      obtain ⟨X, hX⟩ : ∃ X, X = rg k (j + k) (L.drop (j + k)) := ⟨_, rfl⟩
      rw [← hX] at hst hXX
      have hlen := congrArg List.length hst
      rw [List.length_drop, List.length_append, List.length_cons, List.length_cons, ← HSZ.out] at hlen
      have HAT : Hid (∀ i, (h : i < R.length) → S.data[p + i]? = some R[i]) := fun i h => by
        have h1 : T[p + i]? = some R[i] := by rw [← List.getElem?_drop, hst, List.getElem?_append_left h, List.getElem?_eq_getElem h]
        rw [← HST.out] at h1
        simpa using h1
      have HCR : Hid (S.data[p + R.length]? = some 13 ∧ S.data[p + R.length + 1]? = some 10) := by
        have h1 : T[p + R.length]? = some 13 := by rw [← List.getElem?_drop, hst, List.getElem?_append_right (Nat.le_refl _)]; simp
        have h2 : T[p + R.length + 1]? = some 10 := by rw [Nat.add_assoc, ← List.getElem?_drop, hst, List.getElem?_append_right (by omega)]; simp
        rw [← HST.out] at h1 h2
        exact ⟨by simpa using h1, by simpa using h2⟩
      have HNO : Hid (∀ c ∈ R, c ≠ 13) := fun c hc => by
        rw [hR] at hc
        have h1 := List.mem_of_mem_take hc
        have h2 := List.mem_of_mem_drop h1
        rw [HLL.out] at h2
        exact (enc_not l c h2).1
      have HJN : Hid ((j + k) % k = 0 ∧ T.drop (p + R.length + 2) = rg k (j + k) (L.drop (j + k))) := by
        refine ⟨by rw [Nat.add_mod_right]; exact HJ.out.1, ?_⟩
        rw [Nat.add_assoc, ← List.drop_drop, hst, ← hX, List.drop_append, List.drop_eq_nil_of_le (by omega), show R.length + 2 - R.length = 2 by omega]
        rfl
      have HCAT : Hid ((⟨(L.take j).toArray⟩ : ByteArray) ++ S.extract p (p + R.length) = ⟨(L.take (j + k)).toArray⟩) := by
        show _ = _
        rw [cat_arr (L.take j) R (S.extract p (p + R.length)) (by
          rw [ext_list, HST.out, List.drop_take, hst, show p + R.length - p = R.length by omega, List.take_left']
          rfl), hR, ← List.take_add]
      obtain ⟨rl, hrl⟩ : ∃ rl, rl = R.length := ⟨_, rfl⟩
      rw [← hrl] at hRl hXX hlen HCR HJN HCAT
      have HRL : Hid (rl = R.length) := hrl
      have hx0 : rl < k → X.length = 0 := fun h => by rw [hXX h]; rfl
      have hrl1 : 1 ≤ rl := by omega
      have hrlk : rl ≤ k := by omega
      have hfin : rl < k → p + rl + 2 = S.size := fun h => by have := hx0 h; omega
      have hple : p + rl + 2 ≤ S.size := by omega
      clear hst hR hRl hXX hX hlen hrl hx0 HDJ
      go_wp2_with fail
      go_loop [11] (fun v => ∃ i : Nat, i ≤ rl ∧ v = .int .i64 i) (fun v => rl - (intOf v).toNat)
      case atStart => exact ⟨0, by omega, rfl⟩
      case round =>
        obtain ⟨i, hi, rfl⟩ := hrel
        have hlts : (p : Int) + (i : Int) < (S.size : Int) := by omega
        by_cases hil : i < rl
        · have hpi : p + i < S.size := by omega
          have e13 : (((S[p + i]'hpi).toNat : Int) != 13) = true := by
            have hiR : i < R.length := by rw [← HRL.out]; exact hil
            have h1 := HAT.out i hiR
            have h2 := HNO.out R[i] (List.getElem_mem hiR)
            have h3 : S[p + i]'hpi = R[i] := by
              have : S.data[p + i]? = some (S[p + i]'hpi) := Array.getElem?_eq_getElem hpi
              rw [this] at h1
              injection h1
            rw [h3, bne, show ((R[i].toNat : Int) == 13) = decide (R[i] = 13) from eq_byte R[i] 13 (by omega), decide_eq_false h2]
            rfl
          go_wp2
          go_round
          case rel => exact ⟨i + 1, by omega, by go_num⟩
          case measure => simp [intOf]; omega
        · obtain rfl : i = rl := by omega
          have hpi : p + i < S.size := by omega
          have hpi1 : p + i + 1 < S.size := by omega
          have e13 : (((S[p + i]'hpi).toNat : Int) != 13) = false := by
            have h1 := HCR.out.1
            have : S.data[p + i]? = some (S[p + i]'hpi) := Array.getElem?_eq_getElem hpi
            rw [this] at h1
            injection h1 with h1
            rw [h1]
            rfl
          have e10 : ((S[p + i + 1]'hpi1).toNat : Int) = 10 := by
            have h1 := HCR.out.2
            have : S.data[p + i + 1]? = some (S[p + i + 1]'hpi1) := Array.getElem?_eq_getElem hpi1
            rw [this] at h1
            injection h1 with h1
            rw [h1]
            rfl
          have n1 : ¬ (i : Int) < 1 := by omega
          have n2 : ¬ k < i := by omega
          have n3 : ¬ (S.size : Int) < (p : Int) + (i : Int) + 2 := by omega
          have n6 : ¬ 9223372036854775807 < min j L.length + (min (p + i) S.size - p) := by omega
          by_cases hlk : i < k
          · have n4 : ((p : Int) + (i : Int) + 2 != (S.size : Int)) = false := by have := hfin hlk; simp; omega
            have n5 : (i : Int) < (k : Int) := by omega
            clear hfin
            go_wp2
            refine ⟨⟨p + i + 2, j + k, by omega, by go_num, by rw [HCAT.out], HJN⟩, ?_⟩
            simp [intOf]
            omega
          · have n5 : ¬ (i : Int) < (k : Int) := by omega
            clear hfin
            go_wp2
            refine ⟨⟨p + i + 2, j + k, by omega, by go_num, by rw [HCAT.out], HJN⟩, ?_⟩
            simp [intOf]
            omega
    · obtain rfl : p = S.size := by omega
      have hjl : L.length ≤ j := by
        rcases Nat.lt_or_ge j L.length with h | h
        · have h2 := rb_step k j L (by omega) HJ.out.1 h
          rw [← HJ.out.2, HSZ.out, List.drop_length] at h2
          have := congrArg List.length h2
          simp at this
        · exact h
      have htk : L.take j = L := List.take_of_length_le hjl
      rw [htk]
      clear htk hjl HJ
      obtain ⟨c, w3, hconv, hrow, hc1, hc2, hb3, hz3, hl3⟩ := conv_bytes w2 S
      have hc3 : c ≤ 9223372036854775807 := by have := hc2 (by unfold maxLen; omega); unfold maxLen at this; omega
      have HB3 : Hid (Below w.heap.size w w3) := HB2.out.trans (hb3.mono HB2.out.size)
      have hbt3 : Bts (some ⟨w2.heap.size, 0, none⟩) T w3 := by
        rw [HST.out] at hrow
        exact .inr ⟨w2.heap.size, 0, rfl, by omega, fun j hj => by have := hrow j hj; simpa using this⟩
      have HFD : Hid (Calls Tryd.prog 12 #[.slice (some ⟨w2.heap.size, 0, none⟩) S.size c, .slice ca m ccap] w3 fun e w' => ∃ v, e = .returned (.tuple #[v, .int .i64 0, .int .i64 0, .bool true]) ∧ w'.ownsRow w3.heap.size 5 1 v l.length (cellsB l) ∧ Below w3.heap.size w3 w') := by
        have h := fed_any (some ⟨w2.heap.size, 0, none⟩) T c S.size ca cs ccap m w3 HSZ.out hbt3 (by omega) (by rw [← HSZ.out]; exact hc1) hc3 (fun e => by cases e) HMM.out (ints_below HCS.out.1 HB3.out) (by rw [← HMM.out]; omega) HCS.out.2
        obtain ⟨r1, r2, r3, r4⟩ := rb_read k l
        have hTe : T = rg k 0 (encL l) := by rw [HT.out, HLL.out]
        rw [← hTe] at r1 r2 r3
        rw [r3, r1, r2, r4] at h
        exact h
      have HB64 : Hid (∀ wx : World, Below w.heap.size w wx → Calls Tryd.prog 11 #[.slice a n cap] wx fun e w' => e = .returned (.string ⟨L.toArray⟩) ∧ Below wx.heap.size wx w') := fun wx hb => by
        have h := b64_any a l cap n wx HN.out (HBT.out.below hb) (by rw [← HN.out]; omega) (by rw [← HN.out]; exact hc) hcm
        rw [← HLL.out] at h
        exact h
      clear hrow hc1 hc2 hb3 hz3 hl3 hbt3 hc3
      go_wp2_with fail
      refine Calls.mono HFD.out ?_
      rintro e w4 ⟨v4, rfl, ho4, hb4⟩
      have HO4 : Hid (w4.ownsRow w3.heap.size 5 1 v4 l.length (cellsB l)) := ho4
      have HB4 : Hid (Below w.heap.size w w4) := HB3.out.trans (hb4.mono HB3.out.size)
      clear ho4 hb4 HFD HB3 hconv
      go_wp2_with fail
      refine Calls.mono (HB64.out _ HB4.out) ?_
      rintro e w5 ⟨rfl, hb5⟩
      have HB5 : Hid (Below w.heap.size w w5) := HB4.out.trans (hb5.mono HB4.out.size)
      have cv1 := own_conv (own_below HO4.out hb5)
      have cv2 := bts_back (HBT.out.below HB5.out) cap
      rw [← HN.out] at cv2
      clear hb5 HB64 HB4
      go_wp2
      go_ret
      exact ⟨rfl, HB5.out⟩

set_option maxHeartbeats 4000000 in
set_option maxRecDepth 100000 in
theorem walk {w : World} (a : Option Addr) (l : List UInt8) (cap : Nat) (hr : Bts a l w) (hl : l.length ≤ 1048576) (hc : l.length ≤ cap) (_hnn : a = none → cap = 0) (hcm : cap ≤ 9223372036854775807) (M : Int) (hM : -9223372036854775808 ≤ M ∧ M ≤ 9223372036854775807) (ca : Option Addr) (cs : List Int) (ccap : Nat) (hcs : IntsB ca cs w) (hcl : cs.length ≤ 1048576) (htab : Tabs w) :
    Calls Tryd.prog 5 #[.slice a l.length cap, .int .i64 M, .slice ca cs.length ccap] w fun e w' => e = .returned (.bool true) ∧ Below w.heap.size w w' := by
  by_cases hok : 4 ≤ M ∧ M ≤ 76 ∧ M % 4 = 0
  · obtain ⟨k, rfl⟩ := Int.eq_ofNat_of_zero_le (a := M) (by omega)
    exact walk_ok a l cap hr hl hc _hnn hcm k (by omega) (by omega) (by omega) ca cs ccap hcs hcl htab
  obtain ⟨n, hn⟩ : ∃ n, n = l.length := ⟨_, rfl⟩
  have HW : Hid (Calls Tryd.prog 8 #[] w fun e w' => e = .returned (.bool true) ∧ Below w.heap.size w w') := wakes_any w htab
  have hokb : okMost M = false := decide_eq_false hok
  have HR : Hid (∀ wx : World, Below w.heap.size w wx → Calls Tryd.prog 13 #[.slice a n cap, .int .i64 M] wx fun e w' => e = .returned (.tuple #[.string ⟨#[]⟩, .int .i64 2]) ∧ Below wx.heap.size wx w') := fun wx hb => by
    have h := rows_any a l cap n M wx hn (hr.below hb) (by omega) hc hcm
    have e1 : rowsS l M = ⟨#[]⟩ := by unfold rowsS; rw [if_neg (by rw [hokb]; decide)]
    have e2 : rowsE M = 2 := by unfold rowsE; rw [if_neg (by rw [hokb]; decide)]
    rw [e1, e2] at h
    exact h
  rw [← hn]
  generalize cs.length = m
  clear hr hn htab hcs hcl hokb
  by_cases h4 : M < 4
  · clear hok
    go_enter Tryd.func5, Tryd.ntmps5
    go_wp2_with fail
    refine Calls.mono HW.out ?_
    rintro e w1 ⟨rfl, hb1⟩
    have HB1 : Hid (Below w.heap.size w w1) := hb1
    clear hb1 HW
    go_wp2_with fail
    refine Calls.mono (HR.out _ HB1.out) ?_
    rintro e w2 ⟨rfl, hb2⟩
    have HB2 : Hid (Below w.heap.size w w2) := HB1.out.trans (hb2.mono HB1.out.size)
    clear hb2 HB1 HR
    go_wp2
    go_ret
    exact ⟨rfl, HB2.out⟩
  by_cases h76 : 76 < M
  · clear hok
    go_enter Tryd.func5, Tryd.ntmps5
    go_wp2_with fail
    refine Calls.mono HW.out ?_
    rintro e w1 ⟨rfl, hb1⟩
    have HB1 : Hid (Below w.heap.size w w1) := hb1
    clear hb1 HW
    go_wp2_with fail
    refine Calls.mono (HR.out _ HB1.out) ?_
    rintro e w2 ⟨rfl, hb2⟩
    have HB2 : Hid (Below w.heap.size w w2) := HB1.out.trans (hb2.mono HB1.out.size)
    clear hb2 HB1 HR
    go_wp2
    go_ret
    exact ⟨rfl, HB2.out⟩
  · have htm : M.tmod 4 = M % 4 := Int.tmod_eq_emod_of_nonneg (by omega)
    have hne : (M % 4 != 0) = true := by simp; omega
    have hne2 : ¬ M % 4 = 0 := by omega
    clear hok
    go_enter Tryd.func5, Tryd.ntmps5
    go_wp2_with fail
    refine Calls.mono HW.out ?_
    rintro e w1 ⟨rfl, hb1⟩
    have HB1 : Hid (Below w.heap.size w w1) := hb1
    clear hb1 HW
    go_wp2_with fail
    refine Calls.mono (HR.out _ HB1.out) ?_
    rintro e w2 ⟨rfl, hb2⟩
    have HB2 : Hid (Below w.heap.size w w2) := HB1.out.trans (hb2.mono HB1.out.size)
    clear hb2 HB1 HR
    go_wp2
    go_ret
    exact ⟨rfl, HB2.out⟩

theorem contract (H : Type) (enc : TypeId × Value → H) (W : World) (base : Nat) (args : Array Value) (ds gs : List (DataW H)) (before : List MemPlace)
    (hval : ∀ (j : Nat) t v, Tryd.f5.params[j]? = some t → args[j]? = some v → Value.okWide Tryd.prog W .any base t v)
    (hW : DataW.Whole enc Tryd.prog Tryd.f5.params.toList Rows.codeRowsBackSpec.vars false W args.toList ds gs before)
    (hsz : (DataW.weightsEach Tryd.prog (Tryd.f5.params.toList ++ (Rows.OpenSpec.upto Rows.codeRowsBackSpec).bare.plain.varTypes Tryd.prog) (ds ++ gs)).all (· ≤ reachBytes) = true)
    (hk : Rows.uptoSmall H (ds ++ gs) = true) (hL : laidMetH Tryd.prog Rows.codeRowsBackUptoRow.laid W) (hsh : W.ShapedOpen Tryd.prog) :
    Calls Tryd.prog 5 args W fun e W' => ∃ v, e = .returned v ∧ Rows.codeRowsBackSpec.post enc Tryd.prog Tryd.f5 false true false false W args v W' := by
  have hW' := hW
  obtain ⟨p, q, hA0, hV, rfl, hfz, hnd⟩ := hW
  have hA : DataW.TrodAll enc Tryd.prog W 0 (fun _ => true) true Tryd.f5.params.toList args.toList ds p := hA0
  rw [Tryd.params5] at hA hval hsz
  obtain ⟨v0, vs0, d0, ds0, p0, q0, hargs, rfl, rfl, h0, r0⟩ := trodAll_cons hA
  obtain ⟨v1, vs1, d1, ds1, p1, q1, rfl, rfl, rfl, h1, r1⟩ := trodAll_cons r0
  obtain ⟨v2, vs2, d2, ds2, p2, q2, rfl, rfl, rfl, h2, r2⟩ := trodAll_cons r1
  obtain ⟨rfl, rfl, rfl⟩ := trodAll_nil r2
  obtain rfl : args = #[v0, v1, v2] := by cases args; simp_all
  obtain ⟨rfl, rfl⟩ := trodVars_none hV
  have k0 := h0
  have lt0 : ∀ x ∈ p0, x.block < W.heap.size := by obtain ⟨m, hm⟩ := k0; exact DataW.trod_lt m _ _ _ hm
  obtain ⟨a0, len0, cap0, rfl⟩ := okWide_slice Tryd.underlying22 (hval 0 22 v0 rfl rfl)
  obtain ⟨l0, e0, row0, cp0, bd0⟩ := open_bytes h0
  have nn0 := open_none k0
  obtain ⟨a1, rfl, rfl, rfl, w1⟩ := open_int Tryd.underlying3 (hval 1 3 v1 rfl rfl) h1
  have b1 := bounds_i64 w1
  have k2 := h2
  have lt2 : ∀ x ∈ p2, x.block < W.heap.size := by obtain ⟨m, hm⟩ := k2; exact DataW.trod_lt m _ _ _ hm
  obtain ⟨a2, len2, cap2, rfl⟩ := okWide_slice Tryd.underlying31 (hval 2 31 v2 rfl rfl)
  obtain ⟨l2, e2, row2, bd2⟩ := open_nums h2
  clear hA0
  have s0 : l0.length ≤ 1048576 := by
    rcases bd0 with ⟨el, sp, rfl, hl⟩ | ⟨rfl, hl⟩
    · have := bulk_slice hk (el := el) (sp := sp) (by simp)
      omega
    · omega
  subst e0
  have s2 : l2.length ≤ 1048576 := by
    rcases bd2 with ⟨el, sp, rfl, hl⟩ | ⟨rfl, hl⟩
    · have := bulk_slice hk (el := el) (sp := sp) (by simp)
      omega
    · omega
  subst e2
  refine (walk a0 l0 cap0 row0 s0 cp0 nn0 (open_cap k0) a1 b1 a2 l2 cap2 row2 s2 (tabs_of hL hsh)).mono fun e W' ⟨he, bel⟩ => ?_
  subst he
  exact ⟨_, rfl, _, _, _, [], _, [], hW', trodAll_mk1 (shut_bool Tryd.underlying4 _), trodAll_cons_mk (Below.trod laidOut (by kernel_rfl) (of_decide_eq_true (by kernel_rfl)) k0 bel lt0) (trodAll_cons_mk (shut_int Tryd.underlying3 w1) (trodAll_cons_mk (Below.trod laidOut (by kernel_rfl) (of_decide_eq_true (by kernel_rfl)) k2 bel lt2) trodAll_mk0)), rfl, bel.frame _, fun h => by cases h⟩

theorem laid_met (os : Os) : laidMet Tryd.prog Rows.codeRowsBackUptoRow.laid ((laidWorld os).forCall (fun _ _ => 0) ⟨#[], #[.slice none 0 0, .int .i64 0, .slice none 0 0], []⟩).memory :=
  laidMet_of_run' 8 (by kernel_rfl) (by kernel_rfl)
theorem reads (os : Os) {H : Type} (enc : TypeId × Value → H) : ∃ places, DataW.whole enc Tryd.prog ((laidWorld os).forCall (fun _ _ => 0) ⟨#[], #[.slice none 0 0, .int .i64 0, .slice none 0 0], []⟩).memory Tryd.f5.params.toList Rows.codeRowsBackSpec.vars false #[Value.slice none 0 0, Value.int .i64 0, Value.slice none 0 0].toList 8 = some ([.nil, .lit (.int .i64 0), .nil], [], places) :=
  ⟨[], by kernel_rfl⟩

set_option maxRecDepth 100000 in
theorem lifted (os : Os) (started : os.Started) (H : Type) (enc : TypeId × Value → H) (F : Stop.Interp) :
    ReturnsInHanded {} Tryd.checked os 5 .any ((Rows.OpenSpec.upto Rows.codeRowsBackSpec).preRow enc Tryd.prog Tryd.f5 Rows.codeRowsBackUptoRow.domain false Rows.codeRowsBackUptoRow.laid) (((Rows.OpenSpec.upto Rows.codeRowsBackSpec).at F).post enc Tryd.prog Tryd.f5 false true false false) := by
  obtain ⟨places, hx⟩ := reads os enc
  refine returnsInHanded_of_row (C := Tryd.checked) (s := Rows.OpenSpec.upto Rows.codeRowsBackSpec) own started (by kernel_rfl) Tryd.func5
    (witness_row_at (enc := enc) (C := Tryd.checked) false (laidWorld os) #[.slice none 0 0, .int .i64 0, .slice none 0 0] rfl (by kernel_rfl) (by kernel_rfl) (by kernel_rfl)
      (OpenSpec.preRow_of_cond 8 hx (by kernel_rfl) (fun k hk => by cases hk; kernel_rfl) (by kernel_rfl) (laid_met os))) ?_
  intro W base args ds gs before hval hW _ hcond hsz hL hsh _
  exact contract H enc W base args ds gs before hval hW hsz (hcond _ rfl) hL hsh

theorem said : Rows.CodeRowsBackUptoSaid :=
  OpenClaim.holds_of_cond 5 Tryd.f5 rfl rfl rfl rfl rfl rfl rfl ⟨rfl, rfl, rfl, rfl, rfl⟩ rfl rfl rfl rfl rfl (by kernel_rfl) Tryd.func5 (by kernel_rfl)
    (of_decide_eq_true (by kernel_rfl)) (by unfold Func.isWrapper; first | (rw [if_pos (by decide +kernel)]; kernel_rfl) | (rw [if_neg (by decide +kernel)]; exact ⟨rfl, rfl⟩))
    (fun os started H enc _ F => by rw [OpenClaim.pre_eq_preRow]; exact lifted os started H enc F)

/-- No parameter wants a stand-in; the program's own looks are off. -/
theorem plain (f : FuncId) (fn : Func) (hf : Tryd.pinned.checked.prog.funcNamed "posthorn/posthornlaw04.CodeRowsBack" = some f) (hfn : Tryd.pinned.checked.prog.funcs[f]? = some fn) :
    false = Tryd.pinned.checked.prog.looks [] ∧ ∀ (j : Nat) t, fn.params[j]? = some t → Tryd.pinned.checked.prog.wantsStandIn t = false := by
  obtain rfl : f = 5 := Option.some.inj ((show Tryd.prog.funcNamed "posthorn/posthornlaw04.CodeRowsBack" = some 5 by kernel_rfl).symm.trans hf) |>.symm
  obtain rfl : fn = Tryd.f5 := (Option.some.inj (Tryd.func5.symm.trans hfn)).symm
  refine ⟨by kernel_rfl, fun j t ht => ?_⟩
  rw [Tryd.params5] at ht
  have hm : t ∈ [22, 3, 31] := by simpa using Array.mem_of_getElem? ht
  have hall : ([22, 3, 31].all fun u => !Tryd.prog.wantsStandIn u) = true := by kernel_rfl
  exact (show Tryd.prog.wantsStandIn t = false by simpa using List.all_eq_true.1 hall t hm)

/-- The card. -/
theorem card : Rows.CodeRowsBackUptoCardSaid :=
  Claim7.holds_tied_plain_at .later [] _ _ _ _ said (fun _ h => by cases h) (by kernel_rfl) (fun _ h => by cases h) codeRowsBackUpto_row_tie rfl ⟨rfl, rfl⟩ (by kernel_rfl) rfl plain (by kernel_rfl)
end Go.Proofs.YtenfopabdegmhabDoor.codeRowsBack
namespace Go.Proofs.YtenfopabdegmhabDoor
theorem codeRowsBackUpto_card : Rows.CodeRowsBackUptoCardSaid := codeRowsBack.card
#print axioms codeRowsBackUpto_card
end Go.Proofs.YtenfopabdegmhabDoor
