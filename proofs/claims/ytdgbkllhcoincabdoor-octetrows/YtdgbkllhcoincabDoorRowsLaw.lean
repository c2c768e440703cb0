/-
  P1.9: for every class and two texts octet.Bad and octet.Span tell of one another, and of two texts side by side; proved with no condition on the input.
-/
import Derived.Test.YtdgbkllhcoincabDoorWakes
import Derived.Test.YtdgbkllhcoincabDoorSpanByo
namespace Go.Proofs.YtdgbkllhcoincabDoor.octetRows
open Go.ChangeShapes Go.WideShapes Go.ChangeAt Go.RowKit
open Go.ChangeMaps (open_string shut_string)

theorem bad_lt (c : Int) : ∀ (l : List UInt8) (k : Nat), badN c l = k → (h : k < l.length) → isB c (l[k].toNat : Int) = false
  | [], k, _, h => by simp at h
  | b :: r, k, hb, h => by
    unfold badN at hb
    by_cases hi : isB c (b.toNat : Int) = true
    · rw [if_pos hi] at hb
      subst hb
      exact bad_lt c r _ rfl (by simpa using h)
    · rw [if_neg hi] at hb
      subst hb
      simpa using hi
theorem bad_ahead (c : Int) : ∀ (l : List UInt8) (k : Nat), k < badN c l → (h : k < l.length) → isB c (l[k].toNat : Int) = true
  | [], k, _, h => by simp at h
  | b :: r, k, hb, h => by
    unfold badN at hb
    by_cases hi : isB c (b.toNat : Int) = true
    · rw [if_pos hi] at hb
      cases k with
      | zero => exact hi
      | succ k => exact bad_ahead c r k (by omega) (by simpa using h)
    · rw [if_neg hi] at hb
      omega
theorem bad_drop (c : Int) : ∀ (l : List UInt8) (k : Nat), k ≤ badN c l → k + badN c (l.drop k) = badN c l
  | [], k, h => by
    have : k = 0 := by simpa [badN] using h
    subst this
    simp
  | b :: r, k, h => by
    cases k with
    | zero => simp
    | succ k =>
      unfold badN at h
      by_cases hi : isB c (b.toNat : Int) = true
      · rw [if_pos hi] at h
        have := bad_drop c r k (by omega)
        rw [List.drop_succ_cons, badN, if_pos hi]
        omega
      · rw [if_neg hi] at h
        omega
theorem bad_join (c : Int) (r : List UInt8) : ∀ (l : List UInt8), badN c (l ++ r) = if badN c l < l.length then badN c l else l.length + badN c r
  | [] => by simp [badN]
  | b :: l => by
    have ih := bad_join c r l
    rw [List.cons_append, badN, badN]
    by_cases hi : isB c (b.toNat : Int) = true
    · rw [if_pos hi, if_pos hi, ih]
      simp only [List.length_cons]
      split
      · rw [if_pos (by omega)]
      · rw [if_neg (by omega)]
        omega
    · rw [if_neg hi, if_neg hi, if_pos (by simp)]
theorem join_list (s t : ByteArray) : (s ++ t).data.toList = s.data.toList ++ t.data.toList := by
  rw [ByteArray.data_append, Array.toList_append]
theorem row_conv (s : ByteArray) (w : World) (cap n : Nat) : RowAt s w.heap.size 0 (w.alloc (.cells (bytesRow s cap) 5 (n, n + 1))).drew := by
  intro j hj
  have := World.cell?_alloc_mark w (bytesRow s cap) 5 (n, n + 1) j
  rw [bytesRow_at s cap j hj] at this
  rw [Nat.zero_add]
  exact this

set_option maxRecDepth 100000 in
set_option maxHeartbeats 8000000 in
theorem walk (c : Int) (s t : ByteArray) (w : World) (ht : Table w) (_hc : (Lit.int .i64 c).wf = true) (hs : s.size ≤ 140737488351232) (hs2 : t.size ≤ 140737488351232) :
    Calls Tryd.prog 4 #[.int .i64 c, .string s, .string t] w fun e w' => e = .returned (.bool true) ∧ Below w.heap.size w w' := by
  have ms : s.size ≤ maxLen := by unfold maxLen; omega
  have mt : t.size ≤ maxLen := by unfold maxLen; omega
  have mst : (s ++ t).size ≤ maxLen := by unfold maxLen; rw [ByteArray.size_append]; omega
  have hls : s.data.toList.length = s.size := by rw [Array.length_toList]; rfl
  have hlt : t.data.toList.length = t.size := by rw [Array.length_toList]; rfl
  obtain ⟨n, hn⟩ : ∃ n : Nat, n = badN c s.data.toList := ⟨_, rfl⟩
  obtain ⟨m, hm⟩ : ∃ m : Nat, m = badN c t.data.toList := ⟨_, rfl⟩
  have hns : n ≤ s.size := by rw [hn, ← hls]; exact badN_le _ _
  have hmt : m ≤ t.size := by rw [hm, ← hlt]; exact badN_le _ _
  have HN : Hid (n = badN c s.data.toList) := hn
  have HM : Hid (m = badN c t.data.toList) := hm
  have HJ : Hid (badN c (s ++ t).data.toList = if n < s.size then n else s.size + m) := by
    show _ = _
    rw [join_list, bad_join, hls, ← hn, ← hm]
  clear hn hm hls hlt
  have hr1 : badN c s.data.toList = n := HN.out.symm
  have hsp : spanI c s.data.toList 0 = (n : Int) := by rw [spanI_zero, hr1]
  have HT : Hid (Table w) := ht
  clear ht
  have hz1 : decide ((n : Int) < 0) = false := by simp
  have hz2 : decide (s.size < n) = false := by simp; omega
  go_enter Tryd.func4, Tryd.ntmps4
  go_wp2_with fail
  refine (wakes_any _ HT.out).mono ?_
  rintro e w1 ⟨rfl, hb1⟩
  have HT1 : Hid (Table w1) := HT.out.below hb1
  have hconv := run_bytes_of_string (P := Tryd.prog) w1 9 27 5 s Tryd.underlying9 Tryd.underlying27 Tryd.underlying5
  obtain ⟨cap, hcap⟩ : ∃ c, c = grownCap w1 s.size 0 5 := ⟨_, rfl⟩
  rw [← hcap] at hconv
  obtain ⟨q, hq⟩ : ∃ n, n = (bytesRow s cap).size := ⟨_, rfl⟩
  rw [← hq] at hconv
  clear hcap hq
  have hb2 : Below w1.heap.size w1 (w1.alloc (.cells (bytesRow s cap) 5 (q, q + 1))).drew := ((Below.refl _ _).alloc (Nat.le_refl _) _).drew
  have HR : Hid (RowAt s w1.heap.size 0 (w1.alloc (.cells (bytesRow s cap) 5 (q, q + 1))).drew) := row_conv s w1 cap q
  have HT2 : Hid (Table (w1.alloc (.cells (bytesRow s cap) 5 (q, q + 1))).drew) := HT1.out.below hb2
  have HB : Hid (Below w.heap.size w (w1.alloc (.cells (bytesRow s cap) 5 (q, q + 1))).drew) := hb1.trans (hb2.mono hb1.size)
  clear hb1 hb2
  go_wp2_with fail
  refine (bad_anyT c s _ HT1.out ms).mono ?_
  rintro e w2 ⟨rfl, rfl⟩
  rw [hr1]
  go_wp2_with fail
  refine (span_anyT c 0 s _ HT1.out ms).mono ?_
  rintro e w3 ⟨rfl, rfl⟩
  go_wp2_with fail
  refine (span_anyB c 0 s _ 0 cap _ HT2.out HR.out ms).mono ?_
  rintro e w4 ⟨rfl, hw4⟩
  have HW : Hid (Table w4) := by rw [hw4]; exact HT2.out
  have HBW : Hid (Below w.heap.size w w4) := by rw [hw4]; exact HB.out
  clear hw4 HB HT2 HR hconv HT1 HT
  go_wp2
  clear hsp hz1 hz2
  have HALL : Hid (∀ k, (h : k < s.size) → k < n → isB c (s[k].toNat : Int) = true) := fun k h hk => bad_ahead c s.data.toList k (by rw [hr1]; exact hk) (by simpa using h)
  have HSP : Hid (∀ k : Nat, k ≤ n → spanI c s.data.toList (k : Int) = (n : Int)) := fun k hk => by
    have := bad_drop c s.data.toList k (by rw [hr1]; exact hk)
    rw [spanI_nat]
    omega
  have HNO : Hid (∀ h : n < s.size, isB c (s[n].toNat : Int) = false) := fun h => bad_lt c s.data.toList n hr1 (by simpa using h)
  have HR2 : Hid (badN c s.data.toList = n) := hr1
  clear hr1
  go_loop [8] (fun i => ∃ k : Nat, k ≤ n ∧ i = .int .i64 k) (fun i => n - (intOf i).toNat)
  case atStart => exact ⟨0, Nat.zero_le _, rfl⟩
  case round =>
    obtain ⟨k, hk, rfl⟩ := hrel
    by_cases hkn : k < n
    · have hks : k < s.size := by omega
      have hi := HALL.out k hks hkn
      have hsp := HSP.out k hk
      by_cases g1 : n < 300
      · go_wp2_with (first | (go_at_call 9; refine (is_any _ _ _ HW.out).mono ?_; rintro e w' ⟨rfl, rfl⟩) | (go_at_call 11; refine (span_anyT _ _ _ _ HW.out ms).mono ?_; rintro e w' ⟨rfl, rfl⟩))
        go_round
        case rel => exact ⟨k + 1, by omega, by go_num⟩
        case measure => simp [intOf]; omega
      · by_cases g2 : k < 3
        · go_wp2_with (first | (go_at_call 9; refine (is_any _ _ _ HW.out).mono ?_; rintro e w' ⟨rfl, rfl⟩) | (go_at_call 11; refine (span_anyT _ _ _ _ HW.out ms).mono ?_; rintro e w' ⟨rfl, rfl⟩))
          go_round
          case rel => exact ⟨k + 1, by omega, by go_num⟩
          case measure => simp [intOf]; omega
        · by_cases g3 : (k : Int) = (n : Int) / 2
          · have g3' : ((k : Int) == (n : Int) / 2) = true := by simpa using g3
            clear g3
            go_wp2_with (first | (go_at_call 9; refine (is_any _ _ _ HW.out).mono ?_; rintro e w' ⟨rfl, rfl⟩) | (go_at_call 11; refine (span_anyT _ _ _ _ HW.out ms).mono ?_; rintro e w' ⟨rfl, rfl⟩))
            go_round
            case rel => exact ⟨k + 1, by omega, by go_num⟩
            case measure => simp [intOf]; omega
          · have g3' : ((k : Int) == (n : Int) / 2) = false := by simpa using g3
            by_cases g4 : (k : Int) = (n : Int) - 1
            · have g4' : ((k : Int) == (n : Int) - 1) = true := by simpa using g4
              clear g3 g4
              go_wp2_with (first | (go_at_call 9; refine (is_any _ _ _ HW.out).mono ?_; rintro e w' ⟨rfl, rfl⟩) | (go_at_call 11; refine (span_anyT _ _ _ _ HW.out ms).mono ?_; rintro e w' ⟨rfl, rfl⟩))
              go_round
              case rel => exact ⟨k + 1, by omega, by go_num⟩
              case measure => simp [intOf]; omega
            · have g4' : ((k : Int) == (n : Int) - 1) = false := by simpa using g4
              clear g3 g4
              go_wp2_with (first | (go_at_call 9; refine (is_any _ _ _ HW.out).mono ?_; rintro e w' ⟨rfl, rfl⟩) | (go_at_call 11; refine (span_anyT _ _ _ _ HW.out ms).mono ?_; rintro e w' ⟨rfl, rfl⟩))
              go_round
              case rel => exact ⟨k + 1, by omega, by go_num⟩
              case measure => simp [intOf]; omega
    · obtain rfl : k = n := by omega
      by_cases hlast : k < s.size
      · have hno := HNO.out hlast
        have hsp := HSP.out k (Nat.le_refl _)
        have hj : badN c (s.data.toList ++ t.data.toList) = k := by rw [← join_list, HJ.out, if_pos hlast]
        go_wp2_with fail
        refine (is_any _ _ _ HW.out).mono ?_
        rintro e w5 ⟨rfl, rfl⟩
        go_wp2_with fail
        refine (span_anyT _ _ _ _ HW.out ms).mono ?_
        rintro e w6 ⟨rfl, rfl⟩
        go_wp2_with fail
        refine (bad_anyT _ _ _ HW.out mst).mono ?_
        rintro e w7 ⟨rfl, rfl⟩
        go_wp2
        go_ret
        exact ⟨rfl, HBW.out⟩
      · have hks : k = s.size := by omega
        have hj : badN c (s.data.toList ++ t.data.toList) = k + m := by rw [← join_list, HJ.out, if_neg hlast, hks]
        have hjm : badN c t.data.toList = m := HM.out.symm
        have hsp : spanI c (s.data.toList ++ t.data.toList) (k : Int) = (k : Int) + (m : Int) := by
          rw [spanI_nat, List.drop_append_of_le_length (by simp; omega), List.drop_eq_nil_of_le (by simp; omega), List.nil_append, hjm]
        have hst : spanI c t.data.toList 0 = (m : Int) := by rw [spanI_zero, hjm]
        clear hks
        go_wp2_with fail
        refine (bad_anyT _ _ _ HW.out mst).mono ?_
        rintro e w5 ⟨rfl, rfl⟩
        go_wp2_with fail
        refine (bad_anyT _ _ _ HW.out mt).mono ?_
        rintro e w6 ⟨rfl, rfl⟩
        go_wp2_with fail
        refine (span_anyT _ _ _ _ HW.out mst).mono ?_
        rintro e w7 ⟨rfl, rfl⟩
        go_wp2_with fail
        refine (span_anyT _ _ _ _ HW.out mt).mono ?_
        rintro e w8 ⟨rfl, rfl⟩
        go_wp2
        go_ret
        exact ⟨rfl, HBW.out⟩

theorem contract (H : Type) (enc : TypeId × Value → H) (W : World) (base : Nat) (args : Array Value) (ds gs : List (DataW H)) (before : List MemPlace)
    (hval : ∀ (j : Nat) t v, Tryd.f4.params[j]? = some t → args[j]? = some v → Value.okWide Tryd.prog W .any base t v)
    (hW : DataW.Whole enc Tryd.prog Tryd.f4.params.toList Rows.octetRowsSpec.vars false W args.toList ds gs before)
    (hsz : (DataW.weightsEach Tryd.prog (Tryd.f4.params.toList ++ (OpenSpec.ofChange Rows.octetRowsSpec).bare.plain.varTypes Tryd.prog) (ds ++ gs)).all (· ≤ reachBytes) = true)
    (hL : laidMetH Tryd.prog Rows.octetRowsRow.laid W) :
    Calls Tryd.prog 4 args W fun e W' => ∃ v, e = .returned v ∧ Rows.octetRowsSpec.post enc Tryd.prog Tryd.f4 false true false false W args v W' := by
  have hW' := hW
  obtain ⟨p, q, hA0, hV, rfl, hfz, hnd⟩ := hW
  have hA : DataW.TrodAll enc Tryd.prog W 0 (fun _ => true) true Tryd.f4.params.toList args.toList ds p := hA0
  rw [Tryd.params4] at hA hval hsz
  obtain ⟨v0, vs0, d0, ds0, p0, q0, hargs, rfl, rfl, h0, r0⟩ := trodAll_cons hA
  obtain ⟨v1, vs1, d1, ds1, p1, q1, rfl, rfl, rfl, h1, r1⟩ := trodAll_cons r0
  obtain ⟨v2, vs2, d2, ds2, p2, q2, rfl, rfl, rfl, h2, r2⟩ := trodAll_cons r1
  obtain ⟨rfl, rfl, rfl⟩ := trodAll_nil r2
  obtain rfl : args = #[v0, v1, v2] := by cases args; simp_all
  obtain ⟨rfl, rfl⟩ := trodVars_none hV
  obtain ⟨a0, rfl, rfl, rfl, w0⟩ := open_int Tryd.underlying3 (hval 0 3 v0 rfl rfl) h0
  obtain ⟨a1, rfl, rfl, rfl, w1⟩ := open_string Tryd.underlying9 (hval 1 9 v1 rfl rfl) h1
  obtain ⟨a2, rfl, rfl, rfl, w2⟩ := open_string Tryd.underlying9 (hval 2 9 v2 rfl rfl) h2
  clear hA0
  have s1 := sized_string hsz (j := 1) (t := 9) rfl rfl
  simp only [reachBytes, Array.length_toList] at s1
  have s2 := sized_string hsz (j := 2) (t := 9) rfl rfl
  simp only [reachBytes, Array.length_toList] at s2
  simp only [List.append_nil] at hW'
  refine (walk a0 a1 a2 W (table_of_fourth hL) w0 s1 s2).mono fun e W' ⟨he, bel⟩ => ?_
  subst he
  exact ⟨_, rfl, _, _, _, [], [], [], hW', trodAll_mk1 (shut_bool Tryd.underlying4 _), trodAll_cons_mk (shut_int Tryd.underlying3 w0) (trodAll_cons_mk (shut_string Tryd.underlying9 w1) (trodAll_cons_mk (shut_string Tryd.underlying9 w2) trodAll_mk0)), rfl, bel.frame _, fun h => by cases h⟩

theorem laid_met (os : Os) : laidMet Tryd.prog Rows.octetRowsRow.laid ((laidWorld os).forCall (fun _ _ => 0) ⟨#[], #[.int .i64 0, .string ByteArray.empty, .string ByteArray.empty], []⟩).memory :=
  laidMet_of_run' 8 (by kernel_rfl) (by kernel_rfl)
theorem reads (os : Os) {H : Type} (enc : TypeId × Value → H) : ∃ places, DataW.whole enc Tryd.prog ((laidWorld os).forCall (fun _ _ => 0) ⟨#[], #[.int .i64 0, .string ByteArray.empty, .string ByteArray.empty], []⟩).memory Tryd.f4.params.toList Rows.octetRowsSpec.vars false #[Value.int .i64 0, Value.string ByteArray.empty, Value.string ByteArray.empty].toList 8 = some ([.lit (.int .i64 0), .lit (.string []), .lit (.string [])], [], places) :=
  ⟨[], by kernel_rfl⟩

set_option maxRecDepth 100000 in
theorem lifted (os : Os) (started : os.Started) (H : Type) (enc : TypeId × Value → H) (F : Stop.Interp) :
    ReturnsInHanded {} Tryd.checked os 4 .any ((OpenSpec.ofChange Rows.octetRowsSpec).preRow enc Tryd.prog Tryd.f4 Rows.octetRowsRow.domain false Rows.octetRowsRow.laid) (((OpenSpec.ofChange Rows.octetRowsSpec).at F).post enc Tryd.prog Tryd.f4 false true false false) := by
  obtain ⟨places, hx⟩ := reads os enc
  refine returnsInHanded_of_row (C := Tryd.checked) (s := OpenSpec.ofChange Rows.octetRowsSpec) own started (by kernel_rfl) Tryd.func4
    (witness_row_at (enc := enc) (C := Tryd.checked) false (laidWorld os) #[.int .i64 0, .string ByteArray.empty, .string ByteArray.empty] rfl (by kernel_rfl) (by kernel_rfl) (by kernel_rfl)
      (OpenSpec.preRow_of_cond 8 hx (by kernel_rfl) (fun k hk => by cases hk) (by kernel_rfl) (laid_met os))) ?_
  intro W base args ds gs before hval hW _ _ hsz hL _ _
  exact contract H enc W base args ds gs before hval hW hsz hL

theorem said : Rows.OctetRowsSaid :=
  OpenClaim.holds_of_cond 4 Tryd.f4 rfl rfl rfl rfl rfl rfl rfl ⟨rfl, rfl, rfl, rfl, rfl⟩ rfl rfl rfl rfl rfl (by kernel_rfl) Tryd.func4 (by kernel_rfl)
    (of_decide_eq_true (by kernel_rfl)) (by unfold Func.isWrapper; first | (rw [if_pos (by decide +kernel)]; kernel_rfl) | (rw [if_neg (by decide +kernel)]; exact ⟨rfl, rfl⟩))
    (fun os started H enc _ F => by rw [OpenClaim.pre_eq_preRow]; exact lifted os started H enc F)

/-- No parameter wants a stand-in; the program's own looks are off. -/
theorem plain (f : FuncId) (fn : Func) (hf : Tryd.pinned.checked.prog.funcNamed "posthorn/posthornlaw01.OctetRows" = some f) (hfn : Tryd.pinned.checked.prog.funcs[f]? = some fn) :
    false = Tryd.pinned.checked.prog.looks [] ∧ ∀ (j : Nat) t, fn.params[j]? = some t → Tryd.pinned.checked.prog.wantsStandIn t = false := by
  obtain rfl : f = 4 := Option.some.inj ((show Tryd.prog.funcNamed "posthorn/posthornlaw01.OctetRows" = some 4 by kernel_rfl).symm.trans hf) |>.symm
  obtain rfl : fn = Tryd.f4 := (Option.some.inj (Tryd.func4.symm.trans hfn)).symm
  refine ⟨by kernel_rfl, fun j t ht => ?_⟩
  rw [Tryd.params4] at ht
  have hm : t ∈ [3, 9, 9] := by simpa using Array.mem_of_getElem? ht
  have hall : ([3, 9, 9].all fun u => !Tryd.prog.wantsStandIn u) = true := by kernel_rfl
  exact (show Tryd.prog.wantsStandIn t = false by simpa using List.all_eq_true.1 hall t hm)

/-- The card. -/
theorem card : Rows.OctetRowsCardSaid :=
  Claim7.holds_tied_plain_at .later [] _ _ _ _ said (fun _ h => by cases h) (by kernel_rfl) (fun _ h => by cases h) octetRows_row_tie rfl ⟨rfl, rfl⟩ (by kernel_rfl) rfl plain (by kernel_rfl)
end Go.Proofs.YtdgbkllhcoincabDoor.octetRows
namespace Go.Proofs.YtdgbkllhcoincabDoor
theorem octetRows_card : Rows.OctetRowsCardSaid := octetRows.card
#print axioms octetRows_card
end Go.Proofs.YtdgbkllhcoincabDoor
