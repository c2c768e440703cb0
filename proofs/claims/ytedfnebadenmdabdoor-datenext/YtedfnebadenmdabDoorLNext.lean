/-
  For every number the statement DateNext returns true.
-/
import Derived.Test.YtedfnebadenmdabDoorCard6
import Derived.Test.YtedfnebadenmdabDoorHd
import Derived.Test.YtedfnebadenmdabDoorCof
import Derived.ProofKit
import Derived.ChangeMaps5
import Derived.OpenShut
import Derived.ShutString
import Derived.ChangeOld
import Derived.SizedLaws
namespace Go.Proofs.YtedfnebadenmdabDoor.dateNext
open Go.ChangeShapes Go.WideShapes Go.ChangeAt Go.RowKit

theorem civ_uniq {n y m d y' m' d' : Int} (h : Civ n y m d) (k : Civ n y' m' d') : y = y' ∧ m = m' ∧ d = d' := numD_uniq h.day k.day (h.num.trans k.num.symm)
theorem next_day {n y m d : Int} (h : Civ n y m d) (hl : d < longN y m) : Civ (n + 1) y m (d + 1) := by
  obtain ⟨a, b, c, e, f, g⟩ := h.day
  refine ⟨⟨a, b, c, e, by omega, by omega⟩, ?_⟩
  have := h.num
  unfold numD at this ⊢
  omega
theorem next_month {n y m d : Int} (h : Civ n y m d) (hl : d = longN y m) (hm : m < 12) : Civ (n + 1) y (m + 1) 1 := by
  obtain ⟨a, b, c, e, f, g⟩ := h.day
  have h1 := mstart_succ y c e
  have h2 := longN_pos y (m + 1)
  refine ⟨⟨a, b, by omega, by omega, by omega, by omega⟩, ?_⟩
  have := h.num
  unfold numD at this ⊢
  omega
theorem next_year {n y m d : Int} (h : Civ n y m d) (hl : d = longN y m) (hm : m = 12) (hn : n + 1 ≤ 2932896) : Civ (n + 1) (y + 1) 1 1 ∧ d = 31 := by
  subst hm
  obtain ⟨a, b, c, e, f, g⟩ := h.day
  have h1 := mstart_succ y c e
  have e13 : (12 : Int) + 1 = 13 := rfl
  rw [e13, mstart_end] at h1
  have h2 := longN_pos (y + 1) 1
  have hs := ystart_succ y
  have hnum := h.num
  unfold numD at hnum
  have hy : y + 1 ≤ 9999 := year_last hn (by omega)
  refine ⟨⟨⟨by omega, hy, by omega, by omega, by omega, by omega⟩, ?_⟩, ?_⟩
  · unfold numD
    rw [mstart_one]
    omega
  · rw [hl]
    simp [longN]
set_option maxHeartbeats 400000 in
theorem last_feb (y : Int) (w : World) (h0 : 0 ≤ y) (h1 : y ≤ 9999) :
    Calls Tryd.prog 10 #[.int .i16 y, .int .i8 2] w fun e w' => e = .returned (.int .i8 (if leapB y = true then 29 else 28)) ∧ w' = w := by
  by_cases c5 : y % 400 = 0
  · have hl : leapB y = true := by rw [leapB_iff]; omega
    rw [if_pos hl]
    go_enter Tryd.func10, Tryd.ntmps10
    go_wp2
    go_ret
    exact ⟨rfl, rfl⟩
  · have c5' : (y % 400 == 0) = false := by simpa using c5
    by_cases c4 : y % 4 = 0
    · by_cases c1 : y % 100 = 0
      · have hl : ¬ leapB y = true := by rw [leapB_iff]; omega
        rw [if_neg hl]
        clear hl c5
        go_enter Tryd.func10, Tryd.ntmps10
        go_wp2
        go_ret
        exact ⟨rfl, rfl⟩
      · have c1' : (y % 100 != 0) = true := by simpa using c1
        have hl : leapB y = true := by rw [leapB_iff]; omega
        rw [if_pos hl]
        clear hl c5 c1
        go_enter Tryd.func10, Tryd.ntmps10
        go_wp2
        go_ret
        exact ⟨rfl, rfl⟩
    · have c4' : (y % 4 == 0) = false := by simpa using c4
      have hl : ¬ leapB y = true := by rw [leapB_iff]; omega
      rw [if_neg hl]
      clear hl c5 c4
      go_enter Tryd.func10, Tryd.ntmps10
      go_wp2
      go_ret
      exact ⟨rfl, rfl⟩
set_option maxHeartbeats 400000 in
theorem last_any (y m : Int) (w : World) (h0 : 0 ≤ y) (h1 : y ≤ 9999) (m0 : 1 ≤ m) (m1 : m ≤ 12) :
    Calls Tryd.prog 10 #[.int .i16 y, .int .i8 m] w fun e w' => e = .returned (.int .i8 (longN y m)) ∧ w' = w := by
  by_cases h2 : m = 2
  · subst h2
    exact last_feb y w h0 h1
  · rcases month_cases m0 m1 with rfl | rfl | rfl | rfl | rfl | rfl | rfl | rfl | rfl | rfl | rfl | rfl
    case inr.inl => exact absurd rfl h2
    all_goals
      clear h2 m0 m1
      go_enter Tryd.func10, Tryd.ntmps10
      go_wp2
      go_ret
      exact ⟨rfl, rfl⟩
theorem wd_next (n : Int) : wdN (n + 1) = (wdN n + 1) % 7 := by unfold wdN; omega

set_option maxHeartbeats 4000000 in
theorem walk (n : Int) (_ : -9223372036854775808 ≤ n ∧ n ≤ 9223372036854775807) (w : World) (ht : Tbl w) :
    Calls Tryd.prog 3 #[.int .i64 n] w fun e w' => e = .returned (.bool true) ∧ Below w.heap.size w w' := by
  have HT : Hid (Tbl w) := ht
  clear ht
  obtain ⟨r, rq, hr, er, r0, r1, r2, r3⟩ := tmod_parts n 3652058 (by decide)
  clear er r2 r3
  go_enter Tryd.func3, Tryd.ntmps3
  go_wp2_with fail
  refine (head_any _ HT.out).mono ?_
  rintro e w0 ⟨rfl, hb0⟩
  have HB0 : Hid (Below w.heap.size w w0) := hb0
  have HT0 : Hid (Tbl w0) := HT.out.below hb0
  clear hb0
  by_cases hneg : r < 0
  · skip
    go_wp2_with fail
    refine (civil_in (r + 3652058 - 719162) _ HT0.out.ah (by omega) (by omega)).mono ?_
    rintro e w' ⟨y, m, d, rfl, rfl, hc⟩
    have HC : Hid (Civ (r + 3652058 - 719162) y m d) := hc
    obtain ⟨y0, y1, m0, m1, d0, d1⟩ := civ_in hc
    clear hc
    go_wp2_with fail
    refine (civil_in (r + 3652058 - 719162 + 1) _ HT0.out.ah (by omega) (by omega)).mono ?_
    rintro e w' ⟨y', m', d', rfl, rfl, hc⟩
    have HC' : Hid (Civ (r + 3652058 - 719162 + 1) y' m' d') := hc
    clear hc
    have HWN : Hid (wdN (r + 3652058 - 719162 + 1) = (wdN (r + 3652058 - 719162) + 1) % 7) := wd_next _
    have hrng : r + 3652058 - 719162 + 1 ≤ 2932896 := by omega
    have hlow : -719162 ≤ r + 3652058 - 719162 := by omega
    generalize r + 3652058 - 719162 = D at HC HC' HWN hrng hlow ⊢
    obtain ⟨wd0, wd1⟩ := wdN_in D
    have HW1 : Hid (∀ w, Calls Tryd.prog 9 #[.int .i64 (D + 1)] w fun e w' => e = .returned (.int .i8 ((wdN D + 1) % 7)) ∧ w' = w) := fun w => by
      have := wday_any (D + 1) w
      rw [HWN.out] at this
      exact this
    have HW0 : Hid (∀ w, Calls Tryd.prog 9 #[.int .i64 D] w fun e w' => e = .returned (.int .i8 (wdN D)) ∧ w' = w) := fun w => wday_any D w
    have HLA : Hid (∀ w, Calls Tryd.prog 10 #[.int .i16 y, .int .i8 m] w fun e w' => e = .returned (.int .i8 (longN y m)) ∧ w' = w) := fun w => last_any y m w (by omega) (by omega) m0 m1
    have HDL : Hid (d ≤ longN y m) := HC.out.day.2.2.2.2.2
    obtain ⟨l0, l1⟩ := longN_pos y m
    generalize wdN D = WD at HW1 HW0 wd0 wd1
    by_cases hlt : d < longN y m
    · obtain ⟨rfl, rfl, rfl⟩ := civ_uniq HC'.out (next_day HC.out hlt)
      generalize longN y' m' = LN at HLA l0 l1 hlt
      clear HC HC' HDL
      go_wp2_with fail
      refine (HW1.out _).mono ?_
      rintro e w' ⟨rfl, rfl⟩
      go_wp2_with fail
      refine (HW0.out _).mono ?_
      rintro e w' ⟨rfl, rfl⟩
      go_wp2_with fail
      refine (HW0.out _).mono ?_
      rintro e w' ⟨rfl, rfl⟩
      go_wp2_with (go_at_call 10; refine (HLA.out _).mono ?_; rintro e w' ⟨rfl, rfl⟩)
      go_ret
      exact ⟨rfl, HB0.out⟩
    · have hde : d = longN y m := by have := HDL.out; omega
      by_cases hm : m < 12
      · obtain ⟨rfl, rfl, rfl⟩ := civ_uniq HC'.out (next_month HC.out hde hm)
        clear HC HC' HDL hlt
        generalize longN y' m = LN at HLA l0 l1 hde
        subst hde
        go_wp2_with fail
        refine (HW1.out _).mono ?_
        rintro e w' ⟨rfl, rfl⟩
        go_wp2_with fail
        refine (HW0.out _).mono ?_
        rintro e w' ⟨rfl, rfl⟩
        go_wp2_with fail
        refine (HW0.out _).mono ?_
        rintro e w' ⟨rfl, rfl⟩
        go_wp2_with (go_at_call 10; refine (HLA.out _).mono ?_; rintro e w' ⟨rfl, rfl⟩)
        go_ret
        exact ⟨rfl, HB0.out⟩
      · obtain ⟨hn, h31⟩ := next_year HC.out hde (by omega) hrng
        obtain ⟨rfl, rfl, rfl⟩ := civ_uniq HC'.out hn
        rw [← hde, h31] at HLA
        obtain rfl : m = 12 := by omega
        clear HC HC' HDL hlt hn hde
        subst h31
        go_wp2_with fail
        refine (HW1.out _).mono ?_
        rintro e w' ⟨rfl, rfl⟩
        go_wp2_with fail
        refine (HW0.out _).mono ?_
        rintro e w' ⟨rfl, rfl⟩
        go_wp2_with fail
        refine (HW0.out _).mono ?_
        rintro e w' ⟨rfl, rfl⟩
        go_wp2_with (go_at_call 10; refine (HLA.out _).mono ?_; rintro e w' ⟨rfl, rfl⟩)
        go_ret
        exact ⟨rfl, HB0.out⟩
  · skip
    go_wp2_with fail
    refine (civil_in (r - 719162) _ HT0.out.ah (by omega) (by omega)).mono ?_
    rintro e w' ⟨y, m, d, rfl, rfl, hc⟩
    have HC : Hid (Civ (r - 719162) y m d) := hc
    obtain ⟨y0, y1, m0, m1, d0, d1⟩ := civ_in hc
    clear hc
    go_wp2_with fail
    refine (civil_in (r - 719162 + 1) _ HT0.out.ah (by omega) (by omega)).mono ?_
    rintro e w' ⟨y', m', d', rfl, rfl, hc⟩
    have HC' : Hid (Civ (r - 719162 + 1) y' m' d') := hc
    clear hc
    have HWN : Hid (wdN (r - 719162 + 1) = (wdN (r - 719162) + 1) % 7) := wd_next _
    have hrng : r - 719162 + 1 ≤ 2932896 := by omega
    have hlow : -719162 ≤ r - 719162 := by omega
    generalize r - 719162 = D at HC HC' HWN hrng hlow ⊢
    obtain ⟨wd0, wd1⟩ := wdN_in D
    have HW1 : Hid (∀ w, Calls Tryd.prog 9 #[.int .i64 (D + 1)] w fun e w' => e = .returned (.int .i8 ((wdN D + 1) % 7)) ∧ w' = w) := fun w => by
      have := wday_any (D + 1) w
      rw [HWN.out] at this
      exact this
    have HW0 : Hid (∀ w, Calls Tryd.prog 9 #[.int .i64 D] w fun e w' => e = .returned (.int .i8 (wdN D)) ∧ w' = w) := fun w => wday_any D w
    have HLA : Hid (∀ w, Calls Tryd.prog 10 #[.int .i16 y, .int .i8 m] w fun e w' => e = .returned (.int .i8 (longN y m)) ∧ w' = w) := fun w => last_any y m w (by omega) (by omega) m0 m1
    have HDL : Hid (d ≤ longN y m) := HC.out.day.2.2.2.2.2
    obtain ⟨l0, l1⟩ := longN_pos y m
    generalize wdN D = WD at HW1 HW0 wd0 wd1
    by_cases hlt : d < longN y m
    · obtain ⟨rfl, rfl, rfl⟩ := civ_uniq HC'.out (next_day HC.out hlt)
      generalize longN y' m' = LN at HLA l0 l1 hlt
      clear HC HC' HDL
      go_wp2_with fail
      refine (HW1.out _).mono ?_
      rintro e w' ⟨rfl, rfl⟩
      go_wp2_with fail
      refine (HW0.out _).mono ?_
      rintro e w' ⟨rfl, rfl⟩
      go_wp2_with fail
      refine (HW0.out _).mono ?_
      rintro e w' ⟨rfl, rfl⟩
      go_wp2_with (go_at_call 10; refine (HLA.out _).mono ?_; rintro e w' ⟨rfl, rfl⟩)
      go_ret
      exact ⟨rfl, HB0.out⟩
    · have hde : d = longN y m := by have := HDL.out; omega
      by_cases hm : m < 12
      · obtain ⟨rfl, rfl, rfl⟩ := civ_uniq HC'.out (next_month HC.out hde hm)
        clear HC HC' HDL hlt
        generalize longN y' m = LN at HLA l0 l1 hde
        subst hde
        go_wp2_with fail
        refine (HW1.out _).mono ?_
        rintro e w' ⟨rfl, rfl⟩
        go_wp2_with fail
        refine (HW0.out _).mono ?_
        rintro e w' ⟨rfl, rfl⟩
        go_wp2_with fail
        refine (HW0.out _).mono ?_
        rintro e w' ⟨rfl, rfl⟩
        go_wp2_with (go_at_call 10; refine (HLA.out _).mono ?_; rintro e w' ⟨rfl, rfl⟩)
        go_ret
        exact ⟨rfl, HB0.out⟩
      · obtain ⟨hn, h31⟩ := next_year HC.out hde (by omega) hrng
        obtain ⟨rfl, rfl, rfl⟩ := civ_uniq HC'.out hn
        rw [← hde, h31] at HLA
        obtain rfl : m = 12 := by omega
        clear HC HC' HDL hlt hn hde
        subst h31
        go_wp2_with fail
        refine (HW1.out _).mono ?_
        rintro e w' ⟨rfl, rfl⟩
        go_wp2_with fail
        refine (HW0.out _).mono ?_
        rintro e w' ⟨rfl, rfl⟩
        go_wp2_with fail
        refine (HW0.out _).mono ?_
        rintro e w' ⟨rfl, rfl⟩
        go_wp2_with (go_at_call 10; refine (HLA.out _).mono ?_; rintro e w' ⟨rfl, rfl⟩)
        go_ret
        exact ⟨rfl, HB0.out⟩

set_option maxRecDepth 100000 in
theorem contract (H : Type) (enc : TypeId × Value → H) (W : World) (base : Nat) (args : Array Value) (ds gs : List (DataW H)) (before : List MemPlace)
    (hval : ∀ (j : Nat) t v, Tryd.f3.params[j]? = some t → args[j]? = some v → Value.okWide Tryd.prog W .any base t v)
    (hW : DataW.Whole enc Tryd.prog Tryd.f3.params.toList Rows.dateNextSpec.vars false W args.toList ds gs before)
    (hL : laidMetH Tryd.prog Rows.dateNextRow.laid W) (hsh : W.ShapedOpen Tryd.prog) :
    Calls Tryd.prog 3 args W fun e W' => ∃ v, e = .returned v ∧ Rows.dateNextSpec.post enc Tryd.prog Tryd.f3 false true false false W args v W' := by
  have hW' := hW
  obtain ⟨p, q, hA0, hV, rfl, hfz, hnd⟩ := hW
  have hA : DataW.TrodAll enc Tryd.prog W 0 (fun _ => true) true Tryd.f3.params.toList args.toList ds p := hA0
  rw [Tryd.params3] at hA hval
  obtain ⟨v0, vs0, d0, ds0, p0, q0, hargs, rfl, rfl, h0, r0⟩ := trodAll_cons hA
  obtain ⟨rfl, rfl, rfl⟩ := trodAll_nil r0
  obtain rfl : args = #[v0] := by cases args; simp_all
  obtain ⟨rfl, rfl⟩ := trodVars_none hV
  obtain ⟨a0, rfl, rfl, rfl, w0⟩ := open_int Tryd.underlying2 (hval 0 2 v0 rfl rfl) h0
  have b0 := bounds_i64 w0
  clear hA0
  simp only [List.append_nil] at hW'
  refine (walk a0 b0 W (tabs_of hL hsh)).mono fun e W' ⟨he, bel⟩ => ?_
  subst he
  exact ⟨_, rfl, _, _, _, [], [], [], hW', trodAll_mk1 (shut_bool Tryd.underlying4 _), trodAll_cons_mk (shut_int Tryd.underlying2 w0) trodAll_mk0, rfl, bel.frame _, fun h => by cases h⟩

set_option maxRecDepth 100000 in
theorem laid_met (os : Os) : laidMet Tryd.prog Rows.dateNextRow.laid ((laidWorld os).forCall (fun _ _ => 0) ⟨#[], #[.int .i64 0], []⟩).memory :=
  laidMet_of_run' 8 (by kernel_rfl) (by kernel_rfl)
set_option maxRecDepth 100000 in
theorem reads (os : Os) {H : Type} (enc : TypeId × Value → H) : ∃ places, DataW.whole enc Tryd.prog ((laidWorld os).forCall (fun _ _ => 0) ⟨#[], #[.int .i64 0], []⟩).memory Tryd.f3.params.toList Rows.dateNextSpec.vars false #[Value.int .i64 0].toList 8 = some ([.lit (.int .i64 0)], [], places) :=
  ⟨[], by kernel_rfl⟩

set_option maxRecDepth 100000 in
theorem lifted (os : Os) (started : os.Started) (H : Type) (enc : TypeId × Value → H) (F : Stop.Interp) :
    ReturnsInHanded {} Tryd.checked os 3 .any ((OpenSpec.ofChange Rows.dateNextSpec).preRow enc Tryd.prog Tryd.f3 Rows.dateNextRow.domain false Rows.dateNextRow.laid) (((OpenSpec.ofChange Rows.dateNextSpec).at F).post enc Tryd.prog Tryd.f3 false true false false) := by
  obtain ⟨places, hx⟩ := reads os enc
  refine returnsInHanded_of_row (C := Tryd.checked) (s := OpenSpec.ofChange Rows.dateNextSpec) own started (by kernel_rfl) Tryd.func3
    (witness_row_at (enc := enc) (C := Tryd.checked) false (laidWorld os) #[.int .i64 0] rfl (by kernel_rfl) (by kernel_rfl) (by kernel_rfl)
      (OpenSpec.preRow_of_cond 8 hx (by kernel_rfl) (fun k hk => by cases hk) (by kernel_rfl) (laid_met os))) ?_
  intro W base args ds gs before hval hW _ _ _ hL hsh _
  exact contract H enc W base args ds gs before hval hW hL hsh

theorem said : Rows.DateNextSaid :=
  OpenClaim.holds_of_cond 3 Tryd.f3 rfl rfl rfl rfl rfl rfl rfl ⟨rfl, rfl, rfl, rfl, rfl⟩ rfl rfl rfl rfl rfl (by kernel_rfl) Tryd.func3 (by kernel_rfl)
    (of_decide_eq_true (by kernel_rfl)) (by unfold Func.isWrapper; first | (rw [if_pos (by decide +kernel)]; kernel_rfl) | (rw [if_neg (by decide +kernel)]; exact ⟨rfl, rfl⟩))
    (fun os started H enc _ F => by rw [OpenClaim.pre_eq_preRow]; exact lifted os started H enc F)

/-- No parameter wants a stand-in; the program's own looks are off. -/
theorem plain (f : FuncId) (fn : Func) (hf : Tryd.pinned.checked.prog.funcNamed "posthorn/posthornlaw06.DateNext" = some f) (hfn : Tryd.pinned.checked.prog.funcs[f]? = some fn) :
    false = Tryd.pinned.checked.prog.looks [] ∧ ∀ (j : Nat) t, fn.params[j]? = some t → Tryd.pinned.checked.prog.wantsStandIn t = false := by
  obtain rfl : f = 3 := Option.some.inj ((show Tryd.prog.funcNamed "posthorn/posthornlaw06.DateNext" = some 3 by kernel_rfl).symm.trans hf) |>.symm
  obtain rfl : fn = Tryd.f3 := (Option.some.inj (Tryd.func3.symm.trans hfn)).symm
  refine ⟨by kernel_rfl, fun j t ht => ?_⟩
  rw [Tryd.params3] at ht
  have hm : t ∈ [2] := by simpa using Array.mem_of_getElem? ht
  have hall : ([2].all fun u => !Tryd.prog.wantsStandIn u) = true := by kernel_rfl
  exact (show Tryd.prog.wantsStandIn t = false by simpa using List.all_eq_true.1 hall t hm)

/-- The card. -/
theorem card : Rows.DateNextCardSaid :=
  Claim7.holds_tied_plain_at .later [] _ _ _ _ said (fun _ h => by cases h) (by kernel_rfl) (fun _ h => by cases h) dateNext_row_tie rfl ⟨rfl, rfl⟩ (by kernel_rfl) rfl plain (by kernel_rfl)
end Go.Proofs.YtedfnebadenmdabDoor.dateNext
namespace Go.Proofs.YtedfnebadenmdabDoor
theorem dateNext_card : Rows.DateNextCardSaid := dateNext.card
#print axioms dateNext_card
end Go.Proofs.YtedfnebadenmdabDoor
