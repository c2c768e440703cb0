/-
  P1.11: for every two texts octet.Upper is done byte by byte and once for all, and octet.Same looks at capitals alone; proved with no condition on the input.
-/
import Derived.Test.YtdgbkllhcoincabDoorWakes
import Derived.Deep.QuietTactic
import Derived.BigQuiet
namespace Go.Proofs.YtdgbkllhcoincabDoor.octetCapitals
open Go.ChangeShapes Go.WideShapes Go.ChangeAt Go.RowKit
open Go.ChangeMaps (open_string shut_string)

theorem up_join (s t : ByteArray) : upS (s ++ t) = upS s ++ upS t := by
  apply ByteArray.ext
  rw [ByteArray.data_append]
  show (upL (s ++ t).data.toList).toArray = (upL s.data.toList).toArray ++ (upL t.data.toList).toArray
  rw [ByteArray.data_append, Array.toList_append, upL, List.map_append]
  simp [upL]
theorem same_self (s : ByteArray) : sameB s s = true := by unfold sameB; exact beq_self_eq_true _
theorem same_comm (s t : ByteArray) : sameB t s = sameB s t := by
  unfold sameB
  exact BEq.comm
theorem up_at (s : ByteArray) (k : Nat) (h : k < s.size) (h' : k < (upS s).size) : (upS s)[k] = upB s[k] := by
  show ((upL s.data.toList).toArray)[k] = upB s.data[k]
  simp [upL]
theorem alpha_fin : ∀ b : Fin 256, 97 ≤ b.val → b.val ≤ 122 → isB 1 (b.val : Int) = true := by decide +kernel

set_option maxRecDepth 100000 in
set_option maxHeartbeats 4000000 in
theorem walk (s t : ByteArray) (w : World) (ht : Table w) (hs : s.size ≤ 140737488351232) (hs2 : t.size ≤ 140737488351232) :
    Calls Tryd.prog 7 #[.string s, .string t] w fun e w' => e = .returned (.bool true) ∧ Below w.heap.size w w' := by
  have ms : s.size ≤ maxLen := by unfold maxLen; omega
  have mt : t.size ≤ maxLen := by unfold maxLen; omega
  have mu : (upS s).size ≤ maxLen := by rw [upS_size]; exact ms
  have mst : (s ++ t).size ≤ maxLen := by unfold maxLen; rw [ByteArray.size_append]; omega
  have e1 := upS_size s
  have e1t := upS_size t
  have e2 := upS_twice s
  have e3 := up_join s t
  have e4 := same_self s
  have e5 := same_comm s t
  have e6 : ((upS s).toList == (upS t).toList) = sameB s t := rfl
  have HT : Hid (Table w) := ht
  clear ht
  go_enter Tryd.func7, Tryd.ntmps7
  go_wp2_with fail
  refine (wakes_any _ HT.out).mono ?_
  rintro e w1 ⟨rfl, hb1⟩
  have HT1 : Hid (Table w1) := HT.out.below hb1
  go_wp2_with fail
  refine (upper_any s _ ms).mono ?_
  rintro e w2 ⟨rfl, hb2⟩
  go_wp2_with fail
  refine (upper_any (upS s) _ mu).mono ?_
  rintro e w3 ⟨rfl, hb3⟩
  go_wp2_with fail
  refine (upper_any (s ++ t) _ mst).mono ?_
  rintro e w4 ⟨rfl, hb4⟩
  go_wp2_with fail
  refine (upper_any t _ mt).mono ?_
  rintro e w5 ⟨rfl, hb5⟩
  go_wp2_with fail
  refine (same_any s s _ ms ms).mono ?_
  rintro e w6 ⟨rfl, hb6⟩
  go_wp2_with fail
  refine (same_any s t _ ms mt).mono ?_
  rintro e w7 ⟨rfl, hb7⟩
  go_wp2_with fail
  refine (same_any t s _ mt ms).mono ?_
  rintro e w8 ⟨rfl, hb8⟩
  go_wp2_with fail
  refine (same_any s t _ ms mt).mono ?_
  rintro e w9 ⟨rfl, hb9⟩
  go_wp2_with fail
  refine (upper_any t _ mt).mono ?_
  rintro e w10 ⟨rfl, hb10⟩
  have g2 := hb1.trans (hb2.mono hb1.size)
  have g3 := g2.trans (hb3.mono g2.size)
  have g4 := g3.trans (hb4.mono g3.size)
  have g5 := g4.trans (hb5.mono g4.size)
  have g6 := g5.trans (hb6.mono g5.size)
  have g7 := g6.trans (hb7.mono g6.size)
  have g8 := g7.trans (hb8.mono g7.size)
  have g9 := g8.trans (hb9.mono g8.size)
  have g10 := g9.trans (hb10.mono g9.size)
  have HT2 : Hid (Table w10) := HT.out.below g10
  have HB : Hid (Below w.heap.size w w10) := g10
  clear hb1 hb2 hb3 hb4 hb5 hb6 hb7 hb8 hb9 hb10 g2 g3 g4 g5 g6 g7 g8 g9 g10 HT HT1
  go_wp2
  go_loopw [6] (fun i wr => ∃ k : Nat, k ≤ s.size ∧ i = .int .i64 k ∧ Hid (∃ n, wr = w10.drewN n)) (fun i _ => s.size - (intOf i).toNat)
  case atStart => exact ⟨0, Nat.zero_le _, rfl, 0, rfl⟩
  case round =>
    obtain ⟨k, hk, rfl, HD⟩ := hrel
    have HTr : Hid (Table wr) := by
      obtain ⟨n, hn⟩ := HD.out
      subst hn
      exact HT2.out
    clear e2 e3 e4 e5 e6 e1t HT2
    by_cases hlt : k < s.size
    · have hu : k < (upS s).size := by omega
      have hup := up_at s k hlt hu
      by_cases h1 : 97 ≤ s[k].toNat ∧ s[k].toNat ≤ 122
      · obtain ⟨y, hy⟩ : ∃ y : Nat, y = (upB s[k]).toNat := ⟨_, rfl⟩
        have hx : s[k].toNat = y + 32 := by rw [hy, upB_yes _ h1.1 h1.2]; omega
        have hi : isB 1 ((y : Int) + 32) = true := by
          have := alpha_fin ⟨s[k].toNat, s[k].toNat_lt⟩ h1.1 h1.2
          simp only [hx] at this
          simpa using this
        have hyu : (upS s)[k].toNat = y := by rw [hup, hy]
        have hy0 : 65 ≤ y := by omega
        have hy1 : y ≤ 90 := by omega
        have hne : ((y : Int) != (y : Int) + 32) = true := by simp; omega
        have hge : decide ((97 : Int) ≤ (y : Int)) = false := by simp; omega
        clear hy hup h1 e1
        go_wp2_with fail
        go_quiet ((go_at_call 9; exact Calls.quiet_of_same (is_any _ _ _ HTr.out)))
        go_wp2
        go_roundw
        case rel => exact ⟨k + 1, by omega, by go_num, by obtain ⟨n, hn⟩ := HD.out; exact ⟨_, by rw [hn, World.drewN_drewN]⟩⟩
        case measure => simp [intOf]; omega
      · have hyu : (upS s)[k].toNat = s[k].toNat := by rw [hup, upB_no _ h1]
        obtain ⟨y, hy⟩ : ∃ y : Nat, y = s[k].toNat := ⟨_, rfl⟩
        rw [← hy] at hyu h1
        have hx : s[k].toNat = y := hy.symm
        clear hy hup e1
        by_cases h2 : y < 97
        · have hge : decide ((97 : Int) ≤ (y : Int)) = false := by simp; omega
          clear h1
          go_wp2_with fail
          go_quiet ((go_at_call 9; exact Calls.quiet_of_same (is_any _ _ _ HTr.out)))
          go_wp2
          go_roundw
          case rel => exact ⟨k + 1, by omega, by go_num, by obtain ⟨n, hn⟩ := HD.out; exact ⟨_, by rw [hn, World.drewN_drewN]⟩⟩
          case measure => simp [intOf]; omega
        · have hge : (97 : Int) ≤ (y : Int) := by omega
          have hle : decide ((y : Int) ≤ 122) = false := by simp; omega
          clear h1
          go_wp2_with fail
          go_quiet ((go_at_call 9; exact Calls.quiet_of_same (is_any _ _ _ HTr.out)))
          go_wp2
          go_roundw
          case rel => exact ⟨k + 1, by omega, by go_num, by obtain ⟨n, hn⟩ := HD.out; exact ⟨_, by rw [hn, World.drewN_drewN]⟩⟩
          case measure => simp [intOf]; omega
    · go_wp2
      go_ret
      exact ⟨rfl, by obtain ⟨n, hn⟩ := HD.out; subst hn; exact ⟨HB.out.os, HB.out.tape, HB.out.output, HB.out.size, HB.out.block⟩⟩

theorem contract (H : Type) (enc : TypeId × Value → H) (W : World) (base : Nat) (args : Array Value) (ds gs : List (DataW H)) (before : List MemPlace)
    (hval : ∀ (j : Nat) t v, Tryd.f7.params[j]? = some t → args[j]? = some v → Value.okWide Tryd.prog W .any base t v)
    (hW : DataW.Whole enc Tryd.prog Tryd.f7.params.toList Rows.octetCapitalsSpec.vars false W args.toList ds gs before)
    (hsz : (DataW.weightsEach Tryd.prog (Tryd.f7.params.toList ++ (OpenSpec.ofChange Rows.octetCapitalsSpec).bare.plain.varTypes Tryd.prog) (ds ++ gs)).all (· ≤ reachBytes) = true)
    (hL : laidMetH Tryd.prog Rows.octetCapitalsRow.laid W) :
    Calls Tryd.prog 7 args W fun e W' => ∃ v, e = .returned v ∧ Rows.octetCapitalsSpec.post enc Tryd.prog Tryd.f7 false true false false W args v W' := by
  have hW' := hW
  obtain ⟨p, q, hA0, hV, rfl, hfz, hnd⟩ := hW
  have hA : DataW.TrodAll enc Tryd.prog W 0 (fun _ => true) true Tryd.f7.params.toList args.toList ds p := hA0
  rw [Tryd.params7] at hA hval hsz
  obtain ⟨v0, vs0, d0, ds0, p0, q0, hargs, rfl, rfl, h0, r0⟩ := trodAll_cons hA
  obtain ⟨v1, vs1, d1, ds1, p1, q1, rfl, rfl, rfl, h1, r1⟩ := trodAll_cons r0
  obtain ⟨rfl, rfl, rfl⟩ := trodAll_nil r1
  obtain rfl : args = #[v0, v1] := by cases args; simp_all
  obtain ⟨rfl, rfl⟩ := trodVars_none hV
  obtain ⟨a0, rfl, rfl, rfl, w0⟩ := open_string Tryd.underlying9 (hval 0 9 v0 rfl rfl) h0
  obtain ⟨a1, rfl, rfl, rfl, w1⟩ := open_string Tryd.underlying9 (hval 1 9 v1 rfl rfl) h1
  clear hA0
  have s0 := sized_string hsz (j := 0) (t := 9) rfl rfl
  simp only [reachBytes, Array.length_toList] at s0
  have s1 := sized_string hsz (j := 1) (t := 9) rfl rfl
  simp only [reachBytes, Array.length_toList] at s1
  simp only [List.append_nil] at hW'
  refine (walk a0 a1 W (table_of_fourth hL) s0 s1).mono fun e W' ⟨he, bel⟩ => ?_
  subst he
  exact ⟨_, rfl, _, _, _, [], [], [], hW', trodAll_mk1 (shut_bool Tryd.underlying4 _), trodAll_cons_mk (shut_string Tryd.underlying9 w0) (trodAll_cons_mk (shut_string Tryd.underlying9 w1) trodAll_mk0), rfl, bel.frame _, fun h => by cases h⟩

theorem laid_met (os : Os) : laidMet Tryd.prog Rows.octetCapitalsRow.laid ((laidWorld os).forCall (fun _ _ => 0) ⟨#[], #[.string ByteArray.empty, .string ByteArray.empty], []⟩).memory :=
  laidMet_of_run' 8 (by kernel_rfl) (by kernel_rfl)
theorem reads (os : Os) {H : Type} (enc : TypeId × Value → H) : ∃ places, DataW.whole enc Tryd.prog ((laidWorld os).forCall (fun _ _ => 0) ⟨#[], #[.string ByteArray.empty, .string ByteArray.empty], []⟩).memory Tryd.f7.params.toList Rows.octetCapitalsSpec.vars false #[Value.string ByteArray.empty, Value.string ByteArray.empty].toList 8 = some ([.lit (.string []), .lit (.string [])], [], places) :=
  ⟨[], by kernel_rfl⟩

set_option maxRecDepth 100000 in
theorem lifted (os : Os) (started : os.Started) (H : Type) (enc : TypeId × Value → H) (F : Stop.Interp) :
    ReturnsInHanded {} Tryd.checked os 7 .any ((OpenSpec.ofChange Rows.octetCapitalsSpec).preRow enc Tryd.prog Tryd.f7 Rows.octetCapitalsRow.domain false Rows.octetCapitalsRow.laid) (((OpenSpec.ofChange Rows.octetCapitalsSpec).at F).post enc Tryd.prog Tryd.f7 false true false false) := by
  obtain ⟨places, hx⟩ := reads os enc
  refine returnsInHanded_of_row (C := Tryd.checked) (s := OpenSpec.ofChange Rows.octetCapitalsSpec) own started (by kernel_rfl) Tryd.func7
    (witness_row_at (enc := enc) (C := Tryd.checked) false (laidWorld os) #[.string ByteArray.empty, .string ByteArray.empty] rfl (by kernel_rfl) (by kernel_rfl) (by kernel_rfl)
      (OpenSpec.preRow_of_cond 8 hx (by kernel_rfl) (fun k hk => by cases hk) (by kernel_rfl) (laid_met os))) ?_
  intro W base args ds gs before hval hW _ _ hsz hL _ _
  exact contract H enc W base args ds gs before hval hW hsz hL

theorem said : Rows.OctetCapitalsSaid :=
  OpenClaim.holds_of_cond 7 Tryd.f7 rfl rfl rfl rfl rfl rfl rfl ⟨rfl, rfl, rfl, rfl, rfl⟩ rfl rfl rfl rfl rfl (by kernel_rfl) Tryd.func7 (by kernel_rfl)
    (of_decide_eq_true (by kernel_rfl)) (by unfold Func.isWrapper; first | (rw [if_pos (by decide +kernel)]; kernel_rfl) | (rw [if_neg (by decide +kernel)]; exact ⟨rfl, rfl⟩))
    (fun os started H enc _ F => by rw [OpenClaim.pre_eq_preRow]; exact lifted os started H enc F)

/-- No parameter wants a stand-in; the program's own looks are off. -/
theorem plain (f : FuncId) (fn : Func) (hf : Tryd.pinned.checked.prog.funcNamed "posthorn/posthornlaw01.OctetCapitals" = some f) (hfn : Tryd.pinned.checked.prog.funcs[f]? = some fn) :
    false = Tryd.pinned.checked.prog.looks [] ∧ ∀ (j : Nat) t, fn.params[j]? = some t → Tryd.pinned.checked.prog.wantsStandIn t = false := by
  obtain rfl : f = 7 := Option.some.inj ((show Tryd.prog.funcNamed "posthorn/posthornlaw01.OctetCapitals" = some 7 by kernel_rfl).symm.trans hf) |>.symm
  obtain rfl : fn = Tryd.f7 := (Option.some.inj (Tryd.func7.symm.trans hfn)).symm
  refine ⟨by kernel_rfl, fun j t ht => ?_⟩
  rw [Tryd.params7] at ht
  have hm : t ∈ [9, 9] := by simpa using Array.mem_of_getElem? ht
  have hall : ([9, 9].all fun u => !Tryd.prog.wantsStandIn u) = true := by kernel_rfl
  exact (show Tryd.prog.wantsStandIn t = false by simpa using List.all_eq_true.1 hall t hm)

/-- The card. -/
theorem card : Rows.OctetCapitalsCardSaid :=
  Claim7.holds_tied_plain_at .later [] _ _ _ _ said (fun _ h => by cases h) (by kernel_rfl) (fun _ h => by cases h) octetCapitals_row_tie rfl ⟨rfl, rfl⟩ (by kernel_rfl) rfl plain (by kernel_rfl)
end Go.Proofs.YtdgbkllhcoincabDoor.octetCapitals
namespace Go.Proofs.YtdgbkllhcoincabDoor
theorem octetCapitals_card : Rows.OctetCapitalsCardSaid := octetCapitals.card
#print axioms octetCapitals_card
end Go.Proofs.YtdgbkllhcoincabDoor
