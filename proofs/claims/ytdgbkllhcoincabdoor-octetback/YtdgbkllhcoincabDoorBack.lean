/-
  P1.10: for every number, bound and list of bytes, numbers come back within their bound and are refused above it, and bytes come back; proved with no condition on the input.
-/
import Derived.Test.YtdgbkllhcoincabDoorBackWalk
import Derived.Test.YtdgbkllhcoincabDoorBytes
import Derived.Test.YtdgbkllhcoincabDoorPow
import Derived.Test.YtdgbkllhcoincabDoorLaid
namespace Go.Proofs.YtdgbkllhcoincabDoor.octetBack
open Go.ChangeShapes Go.WideShapes Go.ChangeAt Go.RowKit
open Go.ChangeMaps (open_string shut_string)

theorem walk (n most : Int) (a : Option Addr) (bs : ByteArray) (cap : Nat) (w : World) (ht : Table w) (hp : PowTab w) (hn : (Lit.int .u64 n).wf = true) (hm : (Lit.int .u64 most).wf = true)
    (row : bs.size = 0 ∨ ∃ g o, a = some ⟨g, o, none⟩ ∧ RowAt bs g o w) (hs : bs.size ≤ 140737488351232) :
    Calls Tryd.prog 5 #[.int .u64 n, .int .u64 most, .slice a bs.size cap] w fun e w' => e = .returned (.bool true) ∧ Below w.heap.size w w' := by
  obtain ⟨n0, n1⟩ := bounds_u64 hn
  obtain ⟨m0, m1⟩ := bounds_u64 hm
  obtain ⟨n, rfl⟩ := Int.eq_ofNat_of_zero_le n0
  have hn64 : n < 18446744073709551616 := by omega
  have hconv : ∀ W, Below w.heap.size w W → (convert 27 9 (.slice a bs.size cap)).run Tryd.prog W = .ok (.string bs) W := fun W hb => by
    rcases row with h0 | ⟨g, o, rfl, hr⟩
    · have he := empty_of h0
      subst he
      cases a with
      | none => exact run_convert_bytes_nil W 27 5 Tryd.underlying27 Tryd.underlying5 0 cap 9 Tryd.underlying9
      | some x => exact run_convert_bytes_back (P := Tryd.prog) W 27 9 5 x cap [] Tryd.underlying27 Tryd.underlying5 Tryd.underlying9 (fun j hj => by simp at hj)
    · have hl : bs.data.toList.length = bs.size := by rw [Array.length_toList]; rfl
      have := run_convert_bytes_back (P := Tryd.prog) W 27 9 5 ⟨g, o, none⟩ cap bs.data.toList Tryd.underlying27 Tryd.underlying5 Tryd.underlying9 (fun j hj => by
        have hj' : j < bs.size := by omega
        have hg : g < w.heap.size := World.block_lt_of_cell? w _ (hr j hj')
        rw [Addr.add_lit, (hr.below hb hg) j hj']
        rfl)
      rw [hl] at this
      simpa using this
  have hhex : ∀ W, Below w.heap.size w W → Calls Tryd.prog 15 #[.slice a bs.size cap] W fun e w' => e = .returned (.string (hexS bs)) ∧ Below W.heap.size W w' := fun W hb => by
    rcases row with h0 | ⟨g, o, rfl, hr⟩
    · have he := empty_of h0
      subst he
      exact hexof_none a cap W
    · by_cases h0 : bs.size = 0
      · have he := empty_of h0
        subst he
        exact hexof_none _ cap W
      · have hg : g < w.heap.size := World.block_lt_of_cell? w _ (hr 0 (by omega))
        exact hexof_any bs g o cap W (hr.below hb hg) (by omega)
  have hok := dec_ok n hn64
  have hval := dec_val n
  by_cases h1 : (n : Int) ≤ most
  · obtain ⟨v1, v2⟩ := num_in (Lib.decDigits n) most hok (by rw [hval]; exact h1)
    exact walk_one n most bs a cap w ht hp hn64 m0 (by omega) hs hconv hhex _ _ v1 v2 (.inl ⟨h1, by rw [hval], rfl⟩)
  · obtain ⟨v1, v2⟩ := num_over (Lib.decDigits n) most hok (by rw [hval]; omega)
    exact walk_one n most bs a cap w ht hp hn64 m0 (by omega) hs hconv hhex _ _ v1 v2 (.inr ⟨by omega, rfl, rfl⟩)
theorem laidOut : laidOutB Tryd.prog = true := by kernel_rfl

theorem contract (H : Type) (enc : TypeId × Value → H) (W : World) (base : Nat) (args : Array Value) (ds gs : List (DataW H)) (before : List MemPlace)
    (hval : ∀ (j : Nat) t v, Tryd.f5.params[j]? = some t → args[j]? = some v → Value.okWide Tryd.prog W .any base t v)
    (hW : DataW.Whole enc Tryd.prog Tryd.f5.params.toList Rows.octetBackSpec.vars false W args.toList ds gs before)
    (hsz : (DataW.weightsEach Tryd.prog (Tryd.f5.params.toList ++ (OpenSpec.ofChange Rows.octetBackSpec).bare.plain.varTypes Tryd.prog) (ds ++ gs)).all (· ≤ reachBytes) = true)
    (hL : laidMetH Tryd.prog Rows.octetBackRow.laid W) :
    Calls Tryd.prog 5 args W fun e W' => ∃ v, e = .returned v ∧ Rows.octetBackSpec.post enc Tryd.prog Tryd.f5 false true false false W args v W' := by
  have hW' := hW
  obtain ⟨p, q, hA0, hV, rfl, hfz, hnd⟩ := hW
  have hA : DataW.TrodAll enc Tryd.prog W 0 (fun _ => true) true Tryd.f5.params.toList args.toList ds p := hA0
  rw [Tryd.params5] at hA hval hsz
  obtain ⟨v0, vs0, d0, ds0, p0, q0, hargs, rfl, rfl, h0, r0⟩ := trodAll_cons hA
  obtain ⟨v1, vs1, d1, ds1, p1, q1, rfl, rfl, rfl, h1, r1⟩ := trodAll_cons r0
  obtain ⟨v2, vs2, d2, ds2, p2, q2, rfl, rfl, rfl, h2, r2⟩ := trodAll_cons r1
  obtain ⟨rfl, rfl, rfl⟩ := trodAll_nil r2
  obtain rfl : args = #[v0, v1, v2] := by cases args; simp_all
  obtain ⟨rfl, rfl⟩ := trodVars_none hV
  obtain ⟨a0, rfl, rfl, rfl, w0⟩ := open_int Tryd.underlying29 (hval 0 29 v0 rfl rfl) h0
  obtain ⟨a1, rfl, rfl, rfl, w1⟩ := open_int Tryd.underlying29 (hval 1 29 v1 rfl rfl) h1
  obtain ⟨a2, len2, cap2, rfl⟩ := okWide_slice Tryd.underlying27 (hval 2 27 v2 rfl rfl)
  have k2 := h2
  have lt2 : ∀ x ∈ p2, x.block < W.heap.size := by obtain ⟨m, hm⟩ := k2; exact DataW.trod_lt m _ _ _ hm
  obtain ⟨bs2, e2, row2, bd2⟩ := open_bytes h2
  clear hA0
  have s2 : bs2.size ≤ 140737488351232 := by
    rcases bd2 with ⟨el, sp, rfl, hl⟩ | ⟨rfl, hl⟩
    · have := sized_slice hsz (j := 2) (t := 27) (e := 5) rfl rfl Tryd.underlying27
      rw [bytes5] at this
      simp only [reachBytes] at this
      omega
    · omega
  subst e2
  refine (walk a0 a1 a2 bs2 cap2 W (table_of_fourth hL) (pow_of_third hL) w0 w1 row2 s2).mono fun e W' ⟨he, bel⟩ => ?_
  subst he
  exact ⟨_, rfl, _, _, _, [], _, [], hW', trodAll_mk1 (shut_bool Tryd.underlying4 _), trodAll_cons_mk (shut_int Tryd.underlying29 w0) (trodAll_cons_mk (shut_int Tryd.underlying29 w1) (trodAll_cons_mk (Below.trod laidOut (by kernel_rfl) (of_decide_eq_true (by kernel_rfl)) k2 bel lt2) trodAll_mk0)), rfl, bel.frame _, fun h => by cases h⟩

theorem laid_met (os : Os) : laidMet Tryd.prog Rows.octetBackRow.laid ((laidWorld os).forCall (fun _ _ => 0) ⟨#[], #[.int .u64 0, .int .u64 0, .slice none 0 0], []⟩).memory :=
  laidMet_of_run' 8 (by kernel_rfl) (by kernel_rfl)
theorem reads (os : Os) {H : Type} (enc : TypeId × Value → H) : ∃ places, DataW.whole enc Tryd.prog ((laidWorld os).forCall (fun _ _ => 0) ⟨#[], #[.int .u64 0, .int .u64 0, .slice none 0 0], []⟩).memory Tryd.f5.params.toList Rows.octetBackSpec.vars false #[Value.int .u64 0, Value.int .u64 0, Value.slice none 0 0].toList 8 = some ([.lit (.int .u64 0), .lit (.int .u64 0), .nil], [], places) :=
  ⟨[], by kernel_rfl⟩

set_option maxRecDepth 100000 in
theorem lifted (os : Os) (started : os.Started) (H : Type) (enc : TypeId × Value → H) (F : Stop.Interp) :
    ReturnsInHanded {} Tryd.checked os 5 .any ((OpenSpec.ofChange Rows.octetBackSpec).preRow enc Tryd.prog Tryd.f5 Rows.octetBackRow.domain false Rows.octetBackRow.laid) (((OpenSpec.ofChange Rows.octetBackSpec).at F).post enc Tryd.prog Tryd.f5 false true false false) := by
  obtain ⟨places, hx⟩ := reads os enc
  refine returnsInHanded_of_row (C := Tryd.checked) (s := OpenSpec.ofChange Rows.octetBackSpec) own started (by kernel_rfl) Tryd.func5
    (witness_row_at (enc := enc) (C := Tryd.checked) false (laidWorld os) #[.int .u64 0, .int .u64 0, .slice none 0 0] rfl (by kernel_rfl) (by kernel_rfl) (by kernel_rfl)
      (OpenSpec.preRow_of_cond 8 hx (by kernel_rfl) (fun k hk => by cases hk) (by kernel_rfl) (laid_met os))) ?_
  intro W base args ds gs before hval hW _ _ hsz hL _ _
  exact contract H enc W base args ds gs before hval hW hsz hL

theorem said : Rows.OctetBackSaid :=
  OpenClaim.holds_of_cond 5 Tryd.f5 rfl rfl rfl rfl rfl rfl rfl ⟨rfl, rfl, rfl, rfl, rfl⟩ rfl rfl rfl rfl rfl (by kernel_rfl) Tryd.func5 (by kernel_rfl)
    (of_decide_eq_true (by kernel_rfl)) (by unfold Func.isWrapper; first | (rw [if_pos (by decide +kernel)]; kernel_rfl) | (rw [if_neg (by decide +kernel)]; exact ⟨rfl, rfl⟩))
    (fun os started H enc _ F => by rw [OpenClaim.pre_eq_preRow]; exact lifted os started H enc F)

/-- No parameter wants a stand-in; the program's own looks are off. -/
theorem plain (f : FuncId) (fn : Func) (hf : Tryd.pinned.checked.prog.funcNamed "posthorn/posthornlaw01.OctetBack" = some f) (hfn : Tryd.pinned.checked.prog.funcs[f]? = some fn) :
    false = Tryd.pinned.checked.prog.looks [] ∧ ∀ (j : Nat) t, fn.params[j]? = some t → Tryd.pinned.checked.prog.wantsStandIn t = false := by
  obtain rfl : f = 5 := Option.some.inj ((show Tryd.prog.funcNamed "posthorn/posthornlaw01.OctetBack" = some 5 by kernel_rfl).symm.trans hf) |>.symm
  obtain rfl : fn = Tryd.f5 := (Option.some.inj (Tryd.func5.symm.trans hfn)).symm
  refine ⟨by kernel_rfl, fun j t ht => ?_⟩
  rw [Tryd.params5] at ht
  have hm : t ∈ [29, 29, 27] := by simpa using Array.mem_of_getElem? ht
  have hall : ([29, 29, 27].all fun u => !Tryd.prog.wantsStandIn u) = true := by kernel_rfl
  exact (show Tryd.prog.wantsStandIn t = false by simpa using List.all_eq_true.1 hall t hm)

/-- The card. -/
theorem card : Rows.OctetBackCardSaid :=
  Claim7.holds_tied_plain_at .later [] _ _ _ _ said (fun _ h => by cases h) (by kernel_rfl) (fun _ h => by cases h) octetBack_row_tie rfl ⟨rfl, rfl⟩ (by kernel_rfl) rfl plain (by kernel_rfl)
end Go.Proofs.YtdgbkllhcoincabDoor.octetBack
namespace Go.Proofs.YtdgbkllhcoincabDoor
theorem octetBack_card : Rows.OctetBackCardSaid := octetBack.card
#print axioms octetBack_card
end Go.Proofs.YtdgbkllhcoincabDoor
