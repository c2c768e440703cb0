/-
  P1.9: for every class and byte octet.Is tells the classes as they lie beside one another; proved with no condition on the input.
-/
import Derived.Test.YtdgbkllhcoincabDoorWakes
namespace Go.Proofs.YtdgbkllhcoincabDoor.octetKinds
open Go.ChangeShapes Go.WideShapes Go.ChangeAt Go.RowKit
open Go.ChangeMaps (open_string shut_string)

theorem k_fin : ∀ b : Fin 256, (isB 13 (b.val : Int) = !isB 14 (b.val : Int)) ∧ isB 3 (b.val : Int) = (isB 1 (b.val : Int) || isB 2 (b.val : Int)) := by decide +kernel
theorem c_fin : ∀ c : Fin 13, ∀ b : Fin 256, isB ((c.val : Int) + 1) (b.val : Int) = true → isB 13 (b.val : Int) = true := by decide +kernel
theorem kinds (b : Int) (h0 : 0 ≤ b) (h1 : b ≤ 255) : (isB 13 b = !isB 14 b) ∧ isB 3 b = (isB 1 b || isB 2 b) := by
  obtain ⟨n, rfl⟩ := Int.eq_ofNat_of_zero_le h0
  exact k_fin ⟨n, by omega⟩
theorem within (c b : Int) (h0 : 0 ≤ b) (h1 : b ≤ 255) (c0 : 1 ≤ c) (c1 : c ≤ 13) (h : isB c b = true) : isB 13 b = true := by
  obtain ⟨n, rfl⟩ := Int.eq_ofNat_of_zero_le h0
  obtain ⟨m, hm⟩ := Int.eq_ofNat_of_zero_le (show 0 ≤ c - 1 by omega)
  obtain rfl : c = (m : Int) + 1 := by omega
  exact c_fin ⟨m, by omega⟩ ⟨n, by omega⟩ h

set_option maxRecDepth 100000 in
set_option maxHeartbeats 4000000 in
theorem walk (c b : Int) (w : World) (ht : Table w) (_hc : (Lit.int .i64 c).wf = true) (hb : (Lit.int .u8 b).wf = true) :
    Calls Tryd.prog 3 #[.int .i64 c, .int .u8 b] w fun e w' => e = .returned (.bool true) ∧ Below w.heap.size w w' := by
  obtain ⟨b0, b1⟩ := bounds_u8 hb
  obtain ⟨k1, k2⟩ := kinds b b0 (by omega)
  have kin := within c b b0 (by omega)
  have kout : c < 1 ∨ 14 < c → isB c b = false := fun h => by
    rw [is_ref c b b0 (by omega)]
    unfold refB
    repeat rw [if_neg (by omega)]
  have HT : Hid (Table w) := ht
  clear ht hb
  have HIN : Hid (1 ≤ c → c ≤ 13 → isB c b = true → isB 13 b = true) := kin
  have HOUT : Hid (c < 1 ∨ 14 < c → isB c b = false) := kout
  clear kin kout
  have main : ∀ x14 x1 x2 : Bool, isB 14 b = x14 → isB 1 b = x1 → isB 2 b = x2 → Calls Tryd.prog 3 #[.int .i64 c, .int .u8 b] w fun e w' => e = .returned (.bool true) ∧ Below w.heap.size w w' := by
    intro x14 x1 x2 e14 e1 e2
    rw [e1, e2] at k2
    rw [e14] at k1
    by_cases hlo : c < 1
    · have hf := HOUT.out (.inl hlo)
      cases x14 <;> cases x1 <;> cases x2 <;> simp only [Bool.not_true, Bool.not_false, Bool.or_true, Bool.or_false] at k1 k2
      all_goals
        go_enter Tryd.func3, Tryd.ntmps3
        go_wp2_with fail
        refine (wakes_any _ HT.out).mono ?_
        rintro e w1 ⟨rfl, hb1⟩
        have HT1 : Hid (Table w1) := HT.out.below hb1
        go_wp2_with (go_at_call 9; refine (is_any _ _ _ HT1.out).mono ?_; rintro e w' ⟨rfl, rfl⟩)
        go_ret
        exact ⟨rfl, hb1⟩
    · by_cases hhi : 14 < c
      · have hf := HOUT.out (.inr hhi)
        cases x14 <;> cases x1 <;> cases x2 <;> simp only [Bool.not_true, Bool.not_false, Bool.or_true, Bool.or_false] at k1 k2
        all_goals
          go_enter Tryd.func3, Tryd.ntmps3
          go_wp2_with fail
          refine (wakes_any _ HT.out).mono ?_
          rintro e w1 ⟨rfl, hb1⟩
          have HT1 : Hid (Table w1) := HT.out.below hb1
          go_wp2_with (go_at_call 9; refine (is_any _ _ _ HT1.out).mono ?_; rintro e w' ⟨rfl, rfl⟩)
          go_ret
          exact ⟨rfl, hb1⟩
      · by_cases h14 : c = 14
        · subst h14
          cases x14 <;> cases x1 <;> cases x2 <;> simp only [Bool.not_true, Bool.not_false, Bool.or_true, Bool.or_false] at k1 k2
          all_goals
            go_enter Tryd.func3, Tryd.ntmps3
            go_wp2_with fail
            refine (wakes_any _ HT.out).mono ?_
            rintro e w1 ⟨rfl, hb1⟩
            have HT1 : Hid (Table w1) := HT.out.below hb1
            go_wp2_with (go_at_call 9; refine (is_any _ _ _ HT1.out).mono ?_; rintro e w' ⟨rfl, rfl⟩)
            go_ret
            exact ⟨rfl, hb1⟩
        · have hn14 : (c == 14) = false := by simpa using h14
          by_cases hcb : isB c b = true
          · have h13 := HIN.out (by omega) (by omega) hcb
            rw [h13] at k1
            cases x14 <;> cases x1 <;> cases x2 <;> simp only [Bool.not_true, Bool.not_false, Bool.or_true, Bool.or_false, Bool.true_eq_false] at k1 k2
            all_goals
              go_enter Tryd.func3, Tryd.ntmps3
              go_wp2_with fail
              refine (wakes_any _ HT.out).mono ?_
              rintro e w1 ⟨rfl, hb1⟩
              have HT1 : Hid (Table w1) := HT.out.below hb1
              go_wp2_with (go_at_call 9; refine (is_any _ _ _ HT1.out).mono ?_; rintro e w' ⟨rfl, rfl⟩)
              go_ret
              exact ⟨rfl, hb1⟩
          · have hcb' : isB c b = false := by simpa using hcb
            clear hcb
            cases x14 <;> cases x1 <;> cases x2 <;> simp only [Bool.not_true, Bool.not_false, Bool.or_true, Bool.or_false] at k1 k2
            all_goals
              go_enter Tryd.func3, Tryd.ntmps3
              go_wp2_with fail
              refine (wakes_any _ HT.out).mono ?_
              rintro e w1 ⟨rfl, hb1⟩
              have HT1 : Hid (Table w1) := HT.out.below hb1
              go_wp2_with (go_at_call 9; refine (is_any _ _ _ HT1.out).mono ?_; rintro e w' ⟨rfl, rfl⟩)
              go_ret
              exact ⟨rfl, hb1⟩
  exact main _ _ _ rfl rfl rfl

theorem contract (H : Type) (enc : TypeId × Value → H) (W : World) (base : Nat) (args : Array Value) (ds gs : List (DataW H)) (before : List MemPlace)
    (hval : ∀ (j : Nat) t v, Tryd.f3.params[j]? = some t → args[j]? = some v → Value.okWide Tryd.prog W .any base t v)
    (hW : DataW.Whole enc Tryd.prog Tryd.f3.params.toList Rows.octetKindsSpec.vars false W args.toList ds gs before)
    (hsz : (DataW.weightsEach Tryd.prog (Tryd.f3.params.toList ++ (OpenSpec.ofChange Rows.octetKindsSpec).bare.plain.varTypes Tryd.prog) (ds ++ gs)).all (· ≤ reachBytes) = true)
    (hL : laidMetH Tryd.prog Rows.octetKindsRow.laid W) :
    Calls Tryd.prog 3 args W fun e W' => ∃ v, e = .returned v ∧ Rows.octetKindsSpec.post enc Tryd.prog Tryd.f3 false true false false W args v W' := by
  have hW' := hW
  obtain ⟨p, q, hA0, hV, rfl, hfz, hnd⟩ := hW
  have hA : DataW.TrodAll enc Tryd.prog W 0 (fun _ => true) true Tryd.f3.params.toList args.toList ds p := hA0
  rw [Tryd.params3] at hA hval hsz
  obtain ⟨v0, vs0, d0, ds0, p0, q0, hargs, rfl, rfl, h0, r0⟩ := trodAll_cons hA
  obtain ⟨v1, vs1, d1, ds1, p1, q1, rfl, rfl, rfl, h1, r1⟩ := trodAll_cons r0
  obtain ⟨rfl, rfl, rfl⟩ := trodAll_nil r1
  obtain rfl : args = #[v0, v1] := by cases args; simp_all
  obtain ⟨rfl, rfl⟩ := trodVars_none hV
  obtain ⟨a0, rfl, rfl, rfl, w0⟩ := open_int Tryd.underlying3 (hval 0 3 v0 rfl rfl) h0
  obtain ⟨a1, rfl, rfl, rfl, w1⟩ := open_int Tryd.underlying5 (hval 1 5 v1 rfl rfl) h1
  clear hA0
  simp only [List.append_nil] at hW'
  refine (walk a0 a1 W (table_of_fourth hL) w0 w1).mono fun e W' ⟨he, bel⟩ => ?_
  subst he
  exact ⟨_, rfl, _, _, _, [], [], [], hW', trodAll_mk1 (shut_bool Tryd.underlying4 _), trodAll_cons_mk (shut_int Tryd.underlying3 w0) (trodAll_cons_mk (shut_int Tryd.underlying5 w1) trodAll_mk0), rfl, bel.frame _, fun h => by cases h⟩

theorem laid_met (os : Os) : laidMet Tryd.prog Rows.octetKindsRow.laid ((laidWorld os).forCall (fun _ _ => 0) ⟨#[], #[.int .i64 0, .int .u8 0], []⟩).memory :=
  laidMet_of_run' 8 (by kernel_rfl) (by kernel_rfl)
theorem reads (os : Os) {H : Type} (enc : TypeId × Value → H) : ∃ places, DataW.whole enc Tryd.prog ((laidWorld os).forCall (fun _ _ => 0) ⟨#[], #[.int .i64 0, .int .u8 0], []⟩).memory Tryd.f3.params.toList Rows.octetKindsSpec.vars false #[Value.int .i64 0, Value.int .u8 0].toList 8 = some ([.lit (.int .i64 0), .lit (.int .u8 0)], [], places) :=
  ⟨[], by kernel_rfl⟩

set_option maxRecDepth 100000 in
theorem lifted (os : Os) (started : os.Started) (H : Type) (enc : TypeId × Value → H) (F : Stop.Interp) :
    ReturnsInHanded {} Tryd.checked os 3 .any ((OpenSpec.ofChange Rows.octetKindsSpec).preRow enc Tryd.prog Tryd.f3 Rows.octetKindsRow.domain false Rows.octetKindsRow.laid) (((OpenSpec.ofChange Rows.octetKindsSpec).at F).post enc Tryd.prog Tryd.f3 false true false false) := by
  obtain ⟨places, hx⟩ := reads os enc
  refine returnsInHanded_of_row (C := Tryd.checked) (s := OpenSpec.ofChange Rows.octetKindsSpec) own started (by kernel_rfl) Tryd.func3
    (witness_row_at (enc := enc) (C := Tryd.checked) false (laidWorld os) #[.int .i64 0, .int .u8 0] rfl (by kernel_rfl) (by kernel_rfl) (by kernel_rfl)
      (OpenSpec.preRow_of_cond 8 hx (by kernel_rfl) (fun k hk => by cases hk) (by kernel_rfl) (laid_met os))) ?_
  intro W base args ds gs before hval hW _ _ hsz hL _ _
  exact contract H enc W base args ds gs before hval hW hsz hL

theorem said : Rows.OctetKindsSaid :=
  OpenClaim.holds_of_cond 3 Tryd.f3 rfl rfl rfl rfl rfl rfl rfl ⟨rfl, rfl, rfl, rfl, rfl⟩ rfl rfl rfl rfl rfl (by kernel_rfl) Tryd.func3 (by kernel_rfl)
    (of_decide_eq_true (by kernel_rfl)) (by unfold Func.isWrapper; first | (rw [if_pos (by decide +kernel)]; kernel_rfl) | (rw [if_neg (by decide +kernel)]; exact ⟨rfl, rfl⟩))
    (fun os started H enc _ F => by rw [OpenClaim.pre_eq_preRow]; exact lifted os started H enc F)

/-- No parameter wants a stand-in; the program's own looks are off. -/
theorem plain (f : FuncId) (fn : Func) (hf : Tryd.pinned.checked.prog.funcNamed "posthorn/posthornlaw01.OctetKinds" = some f) (hfn : Tryd.pinned.checked.prog.funcs[f]? = some fn) :
    false = Tryd.pinned.checked.prog.looks [] ∧ ∀ (j : Nat) t, fn.params[j]? = some t → Tryd.pinned.checked.prog.wantsStandIn t = false := by
  obtain rfl : f = 3 := Option.some.inj ((show Tryd.prog.funcNamed "posthorn/posthornlaw01.OctetKinds" = some 3 by kernel_rfl).symm.trans hf) |>.symm
  obtain rfl : fn = Tryd.f3 := (Option.some.inj (Tryd.func3.symm.trans hfn)).symm
  refine ⟨by kernel_rfl, fun j t ht => ?_⟩
  rw [Tryd.params3] at ht
  have hm : t ∈ [3, 5] := by simpa using Array.mem_of_getElem? ht
  have hall : ([3, 5].all fun u => !Tryd.prog.wantsStandIn u) = true := by kernel_rfl
  exact (show Tryd.prog.wantsStandIn t = false by simpa using List.all_eq_true.1 hall t hm)

/-- The card. -/
theorem card : Rows.OctetKindsCardSaid :=
  Claim7.holds_tied_plain_at .later [] _ _ _ _ said (fun _ h => by cases h) (by kernel_rfl) (fun _ h => by cases h) octetKinds_row_tie rfl ⟨rfl, rfl⟩ (by kernel_rfl) rfl plain (by kernel_rfl)
end Go.Proofs.YtdgbkllhcoincabDoor.octetKinds
namespace Go.Proofs.YtdgbkllhcoincabDoor
theorem octetKinds_card : Rows.OctetKindsCardSaid := octetKinds.card
#print axioms octetKinds_card
end Go.Proofs.YtdgbkllhcoincabDoor
