/-
  For every second and every two zones the statement DateMoments returns true.
-/
import Derived.Test.YtedfnebadenmdabDoorCard6
import Derived.Test.YtedfnebadenmdabDoorHd
import Derived.Test.YtedfnebadenmdabDoorCof
import Derived.ProofKit
import Derived.ChangeMaps5
import Derived.OpenShut
import Derived.ShutString
import Derived.ChangeOld
import Derived.SizedLaws
namespace Go.Proofs.YtedfnebadenmdabDoor.dateMoments
open Go.ChangeShapes Go.WideShapes Go.ChangeAt Go.RowKit

theorem ofAns_in {n z : Int} {e : Ending} (h : OfAns n z e) (hz : -1439 ≤ z ∧ z ≤ 1439) : (∃ x, e = .returned (.tuple #[dtV x, .int .i64 0]) ∧ OfD n z x) ∨ (e = .returned (.tuple #[dtV ⟨0, 0, 0, 0, 0, 0, 0⟩, .int .i64 5]) ∧ (n < -62135510000 ∨ 253402200000 < n)) := by
  unfold OfAns at h
  rw [if_pos hz] at h
  split at h
  · exact .inl h
  · rename_i hd
    refine .inr ⟨h, ?_⟩
    unfold dayOf at hd
    omega
theorem may_in {x : Dt} (h : May x) : x.In := by
  have := h.day
  obtain ⟨a, b, c, d, e, f⟩ := h.day
  have := longN_pos x.y x.mo
  have := h.h0; have := h.h1; have := h.m0; have := h.m1; have := h.s0; have := h.s1; have := h.z0; have := h.z1
  exact ⟨by omega, by omega, by omega, by omega, by omega, by omega, by omega, by omega, by omega, by omega, by omega, by omega, by omega, by omega⟩
theorem secs_may {x : Dt} {n : Int} (h : May x) (hn : secD x = n) (w : World) (ht : Tbl w) : Calls Tryd.prog 12 #[dtV x] w fun e w' => e = .returned (.tuple #[.int .i64 n, .int .i64 0]) ∧ Below w.heap.size w w' := by
  have := secs_any x w ht.ah (may_in h)
  rw [(chk_may x).2 h, if_pos rfl, hn] at this
  exact this

set_option maxHeartbeats 4000000 in
theorem walk (n : Int) (_ : -9223372036854775808 ≤ n ∧ n ≤ 9223372036854775807) (a : Int) (_ : -32768 ≤ a ∧ a ≤ 32767) (b : Int) (_ : -32768 ≤ b ∧ b ≤ 32767) (w : World) (ht : Tbl w) :
    Calls Tryd.prog 5 #[.int .i64 n, .int .i16 a, .int .i16 b] w fun e w' => e = .returned (.bool true) ∧ Below w.heap.size w w' := by
  have HT : Hid (Tbl w) := ht
  clear ht
  obtain ⟨p, pq, hp, ep, p0, p1, p2, p3⟩ := tmod_parts a 1440 (by decide)
  obtain ⟨q, qq, hq, eq, q0, q1, q2, q3⟩ := tmod_parts b 1440 (by decide)
  clear ep eq p2 p3 q2 q3
  go_enter Tryd.func5, Tryd.ntmps5
  go_wp2_with fail
  refine (head_any _ HT.out).mono ?_
  rintro e w0 ⟨rfl, hb0⟩
  have HB0 : Hid (Below w.heap.size w w0) := hb0
  have HT0 : Hid (Tbl w0) := HT.out.below hb0
  clear hb0
  have HO1 := of_any n p w0 HT0.out.ah
  have HPZ : Hid (-1439 ≤ p ∧ p ≤ 1439) := ⟨by omega, by omega⟩
  have HQZ : Hid (-1439 ≤ q ∧ q ≤ 1439) := ⟨by omega, by omega⟩
  go_wp2_with fail
  refine Calls.mono HO1 ?_
  rintro e w1 ⟨ho, hb⟩
  have HB1 : Hid (Below w.heap.size w w1) := HB0.out.trans (hb.mono HB0.out.size)
  clear hb HO1 HB0 HT0
  have HFORM : Hid (∃ x c, e = .returned (.tuple #[dtV x, .int .i64 c]) ∧ ((c = 0 ∧ OfD n p x) ∨ (c = 5 ∧ x = ⟨0, 0, 0, 0, 0, 0, 0⟩ ∧ (n < -62135510000 ∨ 253402200000 < n)))) := by
    rcases ofAns_in ho HPZ.out with ⟨x, h1, h2⟩ | ⟨h1, h2⟩
    · exact ⟨x, 0, h1, .inl ⟨rfl, h2⟩⟩
    · exact ⟨_, 5, h1, .inr ⟨rfl, rfl, h2⟩⟩
  obtain ⟨x, c, rfl, hx⟩ := HFORM.out
  have HX : Hid _ := hx
  clear ho HFORM hx
  have HB1a : Hid (Below w.heap.size w (w1.alloc (.cells (dtC x) 34))) := HB1.out.alloc HB1.out.size _
  have HT1a : Hid (Tbl (w1.alloc (.cells (dtC x) 34))) := HT.out.below HB1a.out
  have HL1 : Hid (Lies (w1.alloc (.cells (dtC x) 34)) w1.heap.size (dtC x) 34) := Lies.new w1 _ _
  have HO2 := of_any n q _ HT1a.out.ah
  unfold dtC at HO2
  unfold dtV
  go_wp2_with fail
  refine Calls.mono HO2 ?_
  rintro e w2 ⟨ho, hb⟩
  have HB2 : Hid (Below w.heap.size w w2) := HB1a.out.trans (hb.mono HB1a.out.size)
  have HL2 : Hid (Lies w2 w1.heap.size (dtC x) 34) := HL1.out.below hb HL1.out.lt
  clear hb HO2 HB1 HB1a HT1a HL1
  have HFORM : Hid (∃ x c, e = .returned (.tuple #[dtV x, .int .i64 c]) ∧ ((c = 0 ∧ OfD n q x) ∨ (c = 5 ∧ x = ⟨0, 0, 0, 0, 0, 0, 0⟩ ∧ (n < -62135510000 ∨ 253402200000 < n)))) := by
    rcases ofAns_in ho HQZ.out with ⟨x, h1, h2⟩ | ⟨h1, h2⟩
    · exact ⟨x, 0, h1, .inl ⟨rfl, h2⟩⟩
    · exact ⟨_, 5, h1, .inr ⟨rfl, rfl, h2⟩⟩
  obtain ⟨u, d, rfl, hu⟩ := HFORM.out
  have HU : Hid _ := hu
  clear ho HFORM hu
  have HB3 : Hid (Below w.heap.size w (w2.alloc (.cells (dtC u) 34))) := HB2.out.alloc HB2.out.size _
  have HT3 : Hid (Tbl (w2.alloc (.cells (dtC u) 34))) := HT.out.below HB3.out
  have HL3 : Hid (Lies (w2.alloc (.cells (dtC u) 34)) w1.heap.size (dtC x) 34) := HL2.out.alloc _
  have HM3 : Hid (Lies (w2.alloc (.cells (dtC u) 34)) w2.heap.size (dtC u) 34) := Lies.new w2 _ _
  clear HB2 HL2
  unfold dtV
  generalize w1.heap.size = B1 at HL3 ⊢
  have c0 := HL3.out.cell 0
  have c1 := HL3.out.cell 1
  have c2 := HL3.out.cell 2
  have c3 := HL3.out.cell 3
  have c4 := HL3.out.cell 4
  have c5 := HL3.out.cell 5
  have c6 := HL3.out.cell 6
  simp only [dtC, List.getElem?_toArray, List.getElem?_cons_zero, List.getElem?_cons_succ] at c0 c1 c2 c3 c4 c5 c6
  by_cases hc : c = 0
  · subst hc
    by_cases hd : d = 0
    · subst hd
      have hx : OfD n p x := by
        rcases HX.out with h | ⟨h, _⟩
        · exact h.2
        · cases h
      have hu : OfD n q u := by
        rcases HU.out with h | ⟨h, _⟩
        · exact h.2
        · cases h
      have HS1 := secs_may hx.may hx.sec _ HT3.out
      have HZ1 : Hid (x.z = p) := hx.zone
      have HZ2 : Hid (u.z = q) := hu.zone
      have HS2 : Hid (∀ w, Tbl w → Calls Tryd.prog 12 #[dtV u] w fun e w' => e = .returned (.tuple #[.int .i64 n, .int .i64 0]) ∧ Below w.heap.size w w') := fun w h => secs_may hu.may hu.sec w h
      unfold dtV dtC at HS1
      clear hx hu HX HU
      go_wp2_with fail
      refine Calls.mono HS1 ?_
      rintro e w4 ⟨rfl, hb4⟩
      clear c0 c1 c2 c3 c4 c5 c6 HS1
      have HL4 : Hid (Lies w4 B1 (dtC x) 34) := HL3.out.below hb4 HL3.out.lt
      have HM4 : Hid (Lies w4 w2.heap.size (dtC u) 34) := HM3.out.below hb4 HM3.out.lt
      have HB4 : Hid (Below w.heap.size w w4) := HB3.out.trans (hb4.mono HB3.out.size)
      clear hb4 HL3 HM3 HB3 HT3
      generalize w2.heap.size = B2 at HM4 ⊢
      have m0 := HM4.out.cell 0
      have m1 := HM4.out.cell 1
      have m2 := HM4.out.cell 2
      have m3 := HM4.out.cell 3
      have m4 := HM4.out.cell 4
      have m5 := HM4.out.cell 5
      have m6 := HM4.out.cell 6
      simp only [dtC, List.getElem?_toArray, List.getElem?_cons_zero, List.getElem?_cons_succ] at m0 m1 m2 m3 m4 m5 m6
      have HS3 := HS2.out w4 (HT.out.below HB4.out)
      unfold dtV at HS3
      go_wp2_with fail
      refine Calls.mono HS3 ?_
      rintro e w5 ⟨rfl, hb5⟩
      have k6 := (HL4.out.below hb5 HL4.out.lt).cell 6
      have r6 := (HM4.out.below hb5 HM4.out.lt).cell 6
      have HB5 : Hid (Below w.heap.size w w5) := HB4.out.trans (hb5.mono HB4.out.size)
      simp only [dtC, List.getElem?_toArray, List.getElem?_cons_zero, List.getElem?_cons_succ] at k6 r6
      rw [HZ1.out] at k6
      rw [HZ2.out] at r6
      clear hb5 HS3 HS2 HL4 HM4 HB4 m0 m1 m2 m3 m4 m5 m6 HZ1 HZ2
      go_wp2
      go_ret
      exact ⟨rfl, HB5.out⟩
    · have hd5 : d = 5 ∧ u = ⟨0, 0, 0, 0, 0, 0, 0⟩ ∧ (n < -62135510000 ∨ 253402200000 < n) := by
        rcases HU.out with h | h
        · exact absurd h.1 hd
        · exact h
      obtain ⟨rfl, rfl, hn⟩ := hd5
      clear HX HU hd
      by_cases hn1 : n < -62135510000
      · clear hn
        simp only [dtC] at HB3
        dsimp only at c0 c1 c2 c3 c4 c5 c6 HB3
        go_wp2
        go_ret
        exact ⟨rfl, HB3.out⟩
      · have hn2 : 253402200000 < n := by omega
        clear hn
        simp only [dtC] at HB3
        dsimp only at c0 c1 c2 c3 c4 c5 c6 HB3
        go_wp2
        go_ret
        exact ⟨rfl, HB3.out⟩
  · have hc5 : c = 5 ∧ x = ⟨0, 0, 0, 0, 0, 0, 0⟩ ∧ (n < -62135510000 ∨ 253402200000 < n) := by
      rcases HX.out with h | h
      · exact absurd h.1 hc
      · exact h
    obtain ⟨rfl, rfl, hn⟩ := hc5
    have HD : Hid (d = 0 ∨ (d = 5 ∧ u = ⟨0, 0, 0, 0, 0, 0, 0⟩)) := by
      rcases HU.out with h | h
      · exact .inl h.1
      · exact .inr ⟨h.1, h.2.1⟩
    clear HX HU hc
    have fin : ∀ (hq : n < -62135510000 ∨ 253402200000 < n), (decide (n < -62135510000) || decide (253402200000 < n)) = true := fun h => by simpa using h
    have hfin := fin hn
    clear fin
    by_cases hn1 : n < -62135510000
    · clear hn hfin
      rcases HD.out with rfl | ⟨rfl, rfl⟩
      · simp only [dtC] at HB3
        dsimp only at c0 c1 c2 c3 c4 c5 c6 HB3
        go_wp2
        go_ret
        exact ⟨rfl, HB3.out⟩
      · simp only [dtC] at HB3
        dsimp only at c0 c1 c2 c3 c4 c5 c6 HB3
        go_wp2
        go_ret
        exact ⟨rfl, HB3.out⟩
    · have hn2 : 253402200000 < n := by omega
      clear hn hfin
      rcases HD.out with rfl | ⟨rfl, rfl⟩
      · simp only [dtC] at HB3
        dsimp only at c0 c1 c2 c3 c4 c5 c6 HB3
        go_wp2
        go_ret
        exact ⟨rfl, HB3.out⟩
      · simp only [dtC] at HB3
        dsimp only at c0 c1 c2 c3 c4 c5 c6 HB3
        go_wp2
        go_ret
        exact ⟨rfl, HB3.out⟩

set_option maxRecDepth 100000 in
theorem contract (H : Type) (enc : TypeId × Value → H) (W : World) (base : Nat) (args : Array Value) (ds gs : List (DataW H)) (before : List MemPlace)
    (hval : ∀ (j : Nat) t v, Tryd.f5.params[j]? = some t → args[j]? = some v → Value.okWide Tryd.prog W .any base t v)
    (hW : DataW.Whole enc Tryd.prog Tryd.f5.params.toList Rows.dateMomentsSpec.vars false W args.toList ds gs before)
    (hL : laidMetH Tryd.prog Rows.dateMomentsRow.laid W) (hsh : W.ShapedOpen Tryd.prog) :
    Calls Tryd.prog 5 args W fun e W' => ∃ v, e = .returned v ∧ Rows.dateMomentsSpec.post enc Tryd.prog Tryd.f5 false true false false W args v W' := by
  have hW' := hW
  obtain ⟨p, q, hA0, hV, rfl, hfz, hnd⟩ := hW
  have hA : DataW.TrodAll enc Tryd.prog W 0 (fun _ => true) true Tryd.f5.params.toList args.toList ds p := hA0
  rw [Tryd.params5] at hA hval
  obtain ⟨v0, vs0, d0, ds0, p0, q0, hargs, rfl, rfl, h0, r0⟩ := trodAll_cons hA
  obtain ⟨v1, vs1, d1, ds1, p1, q1, rfl, rfl, rfl, h1, r1⟩ := trodAll_cons r0
  obtain ⟨v2, vs2, d2, ds2, p2, q2, rfl, rfl, rfl, h2, r2⟩ := trodAll_cons r1
  obtain ⟨rfl, rfl, rfl⟩ := trodAll_nil r2
  obtain rfl : args = #[v0, v1, v2] := by cases args; simp_all
  obtain ⟨rfl, rfl⟩ := trodVars_none hV
  obtain ⟨a0, rfl, rfl, rfl, w0⟩ := open_int Tryd.underlying2 (hval 0 2 v0 rfl rfl) h0
  have b0 := bounds_i64 w0
  obtain ⟨a1, rfl, rfl, rfl, w1⟩ := open_int Tryd.underlying23 (hval 1 23 v1 rfl rfl) h1
  have b1 := bounds_i16 w1
  obtain ⟨a2, rfl, rfl, rfl, w2⟩ := open_int Tryd.underlying23 (hval 2 23 v2 rfl rfl) h2
  have b2 := bounds_i16 w2
  clear hA0
  simp only [List.append_nil] at hW'
  refine (walk a0 b0 a1 b1 a2 b2 W (tabs_of hL hsh)).mono fun e W' ⟨he, bel⟩ => ?_
  subst he
  exact ⟨_, rfl, _, _, _, [], [], [], hW', trodAll_mk1 (shut_bool Tryd.underlying4 _), trodAll_cons_mk (shut_int Tryd.underlying2 w0) (trodAll_cons_mk (shut_int Tryd.underlying23 w1) (trodAll_cons_mk (shut_int Tryd.underlying23 w2) trodAll_mk0)), rfl, bel.frame _, fun h => by cases h⟩

set_option maxRecDepth 100000 in
theorem laid_met (os : Os) : laidMet Tryd.prog Rows.dateMomentsRow.laid ((laidWorld os).forCall (fun _ _ => 0) ⟨#[], #[.int .i64 0, .int .i16 0, .int .i16 0], []⟩).memory :=
  laidMet_of_run' 8 (by kernel_rfl) (by kernel_rfl)
set_option maxRecDepth 100000 in
theorem reads (os : Os) {H : Type} (enc : TypeId × Value → H) : ∃ places, DataW.whole enc Tryd.prog ((laidWorld os).forCall (fun _ _ => 0) ⟨#[], #[.int .i64 0, .int .i16 0, .int .i16 0], []⟩).memory Tryd.f5.params.toList Rows.dateMomentsSpec.vars false #[Value.int .i64 0, Value.int .i16 0, Value.int .i16 0].toList 8 = some ([.lit (.int .i64 0), .lit (.int .i16 0), .lit (.int .i16 0)], [], places) :=
  ⟨[], by kernel_rfl⟩

set_option maxRecDepth 100000 in
theorem lifted (os : Os) (started : os.Started) (H : Type) (enc : TypeId × Value → H) (F : Stop.Interp) :
    ReturnsInHanded {} Tryd.checked os 5 .any ((OpenSpec.ofChange Rows.dateMomentsSpec).preRow enc Tryd.prog Tryd.f5 Rows.dateMomentsRow.domain false Rows.dateMomentsRow.laid) (((OpenSpec.ofChange Rows.dateMomentsSpec).at F).post enc Tryd.prog Tryd.f5 false true false false) := by
  obtain ⟨places, hx⟩ := reads os enc
  refine returnsInHanded_of_row (C := Tryd.checked) (s := OpenSpec.ofChange Rows.dateMomentsSpec) own started (by kernel_rfl) Tryd.func5
    (witness_row_at (enc := enc) (C := Tryd.checked) false (laidWorld os) #[.int .i64 0, .int .i16 0, .int .i16 0] rfl (by kernel_rfl) (by kernel_rfl) (by kernel_rfl)
      (OpenSpec.preRow_of_cond 8 hx (by kernel_rfl) (fun k hk => by cases hk) (by kernel_rfl) (laid_met os))) ?_
  intro W base args ds gs before hval hW _ _ _ hL hsh _
  exact contract H enc W base args ds gs before hval hW hL hsh

theorem said : Rows.DateMomentsSaid :=
  OpenClaim.holds_of_cond 5 Tryd.f5 rfl rfl rfl rfl rfl rfl rfl ⟨rfl, rfl, rfl, rfl, rfl⟩ rfl rfl rfl rfl rfl (by kernel_rfl) Tryd.func5 (by kernel_rfl)
    (of_decide_eq_true (by kernel_rfl)) (by unfold Func.isWrapper; first | (rw [if_pos (by decide +kernel)]; kernel_rfl) | (rw [if_neg (by decide +kernel)]; exact ⟨rfl, rfl⟩))
    (fun os started H enc _ F => by rw [OpenClaim.pre_eq_preRow]; exact lifted os started H enc F)

/-- No parameter wants a stand-in; the program's own looks are off. -/
theorem plain (f : FuncId) (fn : Func) (hf : Tryd.pinned.checked.prog.funcNamed "posthorn/posthornlaw06.DateMoments" = some f) (hfn : Tryd.pinned.checked.prog.funcs[f]? = some fn) :
    false = Tryd.pinned.checked.prog.looks [] ∧ ∀ (j : Nat) t, fn.params[j]? = some t → Tryd.pinned.checked.prog.wantsStandIn t = false := by
  obtain rfl : f = 5 := Option.some.inj ((show Tryd.prog.funcNamed "posthorn/posthornlaw06.DateMoments" = some 5 by kernel_rfl).symm.trans hf) |>.symm
  obtain rfl : fn = Tryd.f5 := (Option.some.inj (Tryd.func5.symm.trans hfn)).symm
  refine ⟨by kernel_rfl, fun j t ht => ?_⟩
  rw [Tryd.params5] at ht
  have hm : t ∈ [2, 23, 23] := by simpa using Array.mem_of_getElem? ht
  have hall : ([2, 23, 23].all fun u => !Tryd.prog.wantsStandIn u) = true := by kernel_rfl
  exact (show Tryd.prog.wantsStandIn t = false by simpa using List.all_eq_true.1 hall t hm)

/-- The card. -/
theorem card : Rows.DateMomentsCardSaid :=
  Claim7.holds_tied_plain_at .later [] _ _ _ _ said (fun _ h => by cases h) (by kernel_rfl) (fun _ h => by cases h) dateMoments_row_tie rfl ⟨rfl, rfl⟩ (by kernel_rfl) rfl plain (by kernel_rfl)
end Go.Proofs.YtedfnebadenmdabDoor.dateMoments
namespace Go.Proofs.YtedfnebadenmdabDoor
theorem dateMoments_card : Rows.DateMomentsCardSaid := dateMoments.card
#print axioms dateMoments_card
end Go.Proofs.YtedfnebadenmdabDoor
