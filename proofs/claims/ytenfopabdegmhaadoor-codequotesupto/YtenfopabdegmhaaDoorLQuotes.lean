/-
  P4.5: Quote of any bytes is what the document asks, and what is handed in stays; proved for inputs of bulk at most 1048576 (the given upto form).
-/
import Derived.Test.YtenfopabdegmhaaDoorCard4
import Derived.Test.YtenfopabdegmhaaDoorOpenC
import Derived.Test.YtenfopabdegmhaaDoorRLn4
import Derived.Test.YtenfopabdegmhaaDoorLent4
import Derived.Test.YtenfopabdegmhaaDoorConst4
import Derived.ProofKit
import Derived.ChangeMaps5
import Derived.OpenShut
import Derived.ShutString
import Derived.ChangeOld
import Derived.SizedLaws
namespace Go.Proofs.YtenfopabdegmhaaDoor.codeQuotes
open Go.ChangeShapes Go.WideShapes Go.ChangeAt Go.RowKit

theorem k_a : quoteL [97, 61] = [97, 61, 51, 68] := by decide +kernel
set_option maxHeartbeats 4000000 in
set_option maxRecDepth 100000 in
theorem walk {w : World} (a : Option Addr) (l : List UInt8) (cap : Nat) (hr : Bts a l w) (hl : l.length ≤ 1048576) (_hc : l.length ≤ cap) (hnn : a = none → cap = 0) (_hcm : cap ≤ 9223372036854775807) (htab : Tabs w) :
    Calls Tryd.prog 3 #[.slice a l.length cap] w fun e w' => e = .returned (.bool true) ∧ Below w.heap.size w w' := by
  obtain ⟨n, hn⟩ : ∃ n, n = l.length := ⟨_, rfl⟩
  have HBT : Hid (Bts a l w) := hr
  have HN : Hid (n = l.length) := hn
  have HTB : Hid (∀ wx : World, Below w.heap.size w wx → Tabs wx) := fun wx hb => htab.below hb htab.lt.1 htab.lt.2
  have HLE : Hid (Calls Tryd.prog 6 #[.slice a n cap] w fun e w' => ∃ g c, e = .returned (.slice (some ⟨g, 0, none⟩) n c) ∧ LentB w' w.heap.size g c l ∧ Below w.heap.size w w') := lent_any a l cap n w hn hr (by omega) hnn
  rw [← hn]
  rw [← hn] at hl
  clear hr hn _hc htab
  go_enter Tryd.func3, Tryd.ntmps3
  go_wp2_with fail
  refine Calls.mono HLE.out ?_
  rintro e w1 ⟨g, c, rfl, hl1, hb1⟩
  have HL1 : Hid (LentB w1 w.heap.size g c l) := hl1
  have HB1 : Hid (Below w.heap.size w w1) := hb1
  obtain ⟨q1, q2, q3, q4⟩ := hl1.cap
  have HQ : Hid (l.length ≤ c) := by show _ ≤ _; omega
  have HQ1 : Hid (Calls Tryd.prog 7 #[.slice (some ⟨g, 0, none⟩) n c] w1 fun e w' => e = .returned (.string ⟨(quoteL l).toArray⟩) ∧ Below w1.heap.size w1 w') := by
    have ht := HTB.out w1 hb1
    obtain ⟨m, hm⟩ := ht.ml
    exact quote_any (some ⟨g, 0, none⟩) l c n m w1 ht.table hm HN.out hl1.bts (fun e => by cases e) HQ.out q2 (by rw [← HN.out]; omega)
  clear hl1 hb1 HLE q1 q3 q4
  go_wp2_with fail
  refine Calls.mono HQ1.out ?_
  rintro e w2 ⟨rfl, hb2⟩
  have HL2 : Hid (LentB w2 w.heap.size g c l) := HL1.out.below hb2
  have HB2 : Hid (Below w.heap.size w w2) := HB1.out.trans (hb2.mono HB1.out.size)
  clear hb2 HL1 HB1 HQ1
  go_wp2_with fail
  refine Calls.mono (rquote_any a l cap n w2 HN.out (HBT.out.below HB2.out) (by rw [← HN.out]; omega)) ?_
  rintro e w3 ⟨rfl, hb3⟩
  have HL3 : Hid (LentB w3 w.heap.size g c l) := HL2.out.below hb3
  have HB3 : Hid (Below w.heap.size w w3) := HB2.out.trans (hb3.mono HB2.out.size)
  clear hb3 HL2 HB2
  generalize (⟨(quoteL l).toArray⟩ : ByteArray) = QS
  go_wp2_with fail
  refine Calls.mono (kept_any w.heap.size g c l a cap n w3 HN.out HL3.out (HBT.out.below HB3.out) (by rw [← HN.out]; omega)) ?_
  rintro e w4 ⟨rfl, rfl⟩
  have hcv := Lib.run_convert_bytes_const (P := Tryd.prog) w4 22 5 #[.int .u8 97, .int .u8 61] 2 2 Tryd.underlying22 Tryd.underlying5
  have HB4 : Hid (Below w.heap.size w (w4.alloc (.cells #[.int .u8 97, .int .u8 61] 5 (2, 3)))) := HB3.out.alloc HB3.out.size _
  have HQ2 : Hid (Calls Tryd.prog 7 #[.slice (some ⟨w4.heap.size, 0, none⟩) 2 2] (w4.alloc (.cells #[.int .u8 97, .int .u8 61] 5 (2, 3))) fun e w' => e = .returned (.string ⟨#[97, 61, 51, 68]⟩) ∧ Below (w4.alloc (.cells #[.int .u8 97, .int .u8 61] 5 (2, 3))).heap.size (w4.alloc (.cells #[.int .u8 97, .int .u8 61] 5 (2, 3))) w') := by
    have ht := HTB.out _ HB4.out
    obtain ⟨m, hm⟩ := ht.ml
    have h := quote_any (some ⟨w4.heap.size, 0, none⟩) [97, 61] 2 2 m (w4.alloc (.cells #[.int .u8 97, .int .u8 61] 5 (2, 3))) ht.table hm rfl (const_bts w4 [97, 61] (2, 3)) (fun e => by cases e) (by simp) (by omega) (by simp)
    rw [k_a] at h
    exact h
  go_wp2_with fail
  refine Calls.mono HQ2.out ?_
  rintro e w5 ⟨rfl, hb5⟩
  have HB5 : Hid (Below w.heap.size w w5) := HB4.out.trans (hb5.mono HB4.out.size)
  clear hb5 HQ2 HB4 hcv
  go_wp2
  go_ret
  exact ⟨rfl, HB5.out⟩

theorem contract (H : Type) (enc : TypeId × Value → H) (W : World) (base : Nat) (args : Array Value) (ds gs : List (DataW H)) (before : List MemPlace)
    (hval : ∀ (j : Nat) t v, Tryd.f3.params[j]? = some t → args[j]? = some v → Value.okWide Tryd.prog W .any base t v)
    (hW : DataW.Whole enc Tryd.prog Tryd.f3.params.toList Rows.codeQuotesSpec.vars false W args.toList ds gs before)
    (hsz : (DataW.weightsEach Tryd.prog (Tryd.f3.params.toList ++ (Rows.OpenSpec.upto Rows.codeQuotesSpec).bare.plain.varTypes Tryd.prog) (ds ++ gs)).all (· ≤ reachBytes) = true)
    (hk : Rows.uptoSmall H (ds ++ gs) = true) (hL : laidMetH Tryd.prog Rows.codeQuotesUptoRow.laid W) (hsh : W.ShapedOpen Tryd.prog) :
    Calls Tryd.prog 3 args W fun e W' => ∃ v, e = .returned v ∧ Rows.codeQuotesSpec.post enc Tryd.prog Tryd.f3 false true false false W args v W' := by
  have hW' := hW
  obtain ⟨p, q, hA0, hV, rfl, hfz, hnd⟩ := hW
  have hA : DataW.TrodAll enc Tryd.prog W 0 (fun _ => true) true Tryd.f3.params.toList args.toList ds p := hA0
  rw [Tryd.params3] at hA hval hsz
  obtain ⟨v0, vs0, d0, ds0, p0, q0, hargs, rfl, rfl, h0, r0⟩ := trodAll_cons hA
  obtain ⟨rfl, rfl, rfl⟩ := trodAll_nil r0
  obtain rfl : args = #[v0] := by cases args; simp_all
  obtain ⟨rfl, rfl⟩ := trodVars_none hV
  have k0 := h0
  have lt0 : ∀ x ∈ p0, x.block < W.heap.size := by obtain ⟨m, hm⟩ := k0; exact DataW.trod_lt m _ _ _ hm
  obtain ⟨a0, len0, cap0, rfl⟩ := okWide_slice Tryd.underlying22 (hval 0 22 v0 rfl rfl)
  obtain ⟨l0, e0, row0, cp0, bd0⟩ := open_bytes h0
  have nn0 := open_none k0
  clear hA0
  have s0 : l0.length ≤ 1048576 := by
    rcases bd0 with ⟨el, sp, rfl, hl⟩ | ⟨rfl, hl⟩
    · have := bulk_slice hk (el := el) (sp := sp) (by simp)
      omega
    · omega
  subst e0
  refine (walk a0 l0 cap0 row0 s0 cp0 nn0 (open_cap k0) (tabs_of hL hsh)).mono fun e W' ⟨he, bel⟩ => ?_
  subst he
  exact ⟨_, rfl, _, _, _, [], _, [], hW', trodAll_mk1 (shut_bool Tryd.underlying4 _), trodAll_cons_mk (Below.trod laidOut (by kernel_rfl) (of_decide_eq_true (by kernel_rfl)) k0 bel lt0) trodAll_mk0, rfl, bel.frame _, fun h => by cases h⟩

theorem laid_met (os : Os) : laidMet Tryd.prog Rows.codeQuotesUptoRow.laid ((laidWorld os).forCall (fun _ _ => 0) ⟨#[], #[.slice none 0 0], []⟩).memory :=
  laidMet_of_run' 8 (by kernel_rfl) (by kernel_rfl)
theorem reads (os : Os) {H : Type} (enc : TypeId × Value → H) : ∃ places, DataW.whole enc Tryd.prog ((laidWorld os).forCall (fun _ _ => 0) ⟨#[], #[.slice none 0 0], []⟩).memory Tryd.f3.params.toList Rows.codeQuotesSpec.vars false #[Value.slice none 0 0].toList 8 = some ([.nil], [], places) :=
  ⟨[], by kernel_rfl⟩

set_option maxRecDepth 100000 in
theorem lifted (os : Os) (started : os.Started) (H : Type) (enc : TypeId × Value → H) (F : Stop.Interp) :
    ReturnsInHanded {} Tryd.checked os 3 .any ((Rows.OpenSpec.upto Rows.codeQuotesSpec).preRow enc Tryd.prog Tryd.f3 Rows.codeQuotesUptoRow.domain false Rows.codeQuotesUptoRow.laid) (((Rows.OpenSpec.upto Rows.codeQuotesSpec).at F).post enc Tryd.prog Tryd.f3 false true false false) := by
  obtain ⟨places, hx⟩ := reads os enc
  refine returnsInHanded_of_row (C := Tryd.checked) (s := Rows.OpenSpec.upto Rows.codeQuotesSpec) own started (by kernel_rfl) Tryd.func3
    (witness_row_at (enc := enc) (C := Tryd.checked) false (laidWorld os) #[.slice none 0 0] rfl (by kernel_rfl) (by kernel_rfl) (by kernel_rfl)
      (OpenSpec.preRow_of_cond 8 hx (by kernel_rfl) (fun k hk => by cases hk; kernel_rfl) (by kernel_rfl) (laid_met os))) ?_
  intro W base args ds gs before hval hW _ hcond hsz hL hsh _
  exact contract H enc W base args ds gs before hval hW hsz (hcond _ rfl) hL hsh

theorem said : Rows.CodeQuotesUptoSaid :=
  OpenClaim.holds_of_cond 3 Tryd.f3 rfl rfl rfl rfl rfl rfl rfl ⟨rfl, rfl, rfl, rfl, rfl⟩ rfl rfl rfl rfl rfl (by kernel_rfl) Tryd.func3 (by kernel_rfl)
    (of_decide_eq_true (by kernel_rfl)) (by unfold Func.isWrapper; first | (rw [if_pos (by decide +kernel)]; kernel_rfl) | (rw [if_neg (by decide +kernel)]; exact ⟨rfl, rfl⟩))
    (fun os started H enc _ F => by rw [OpenClaim.pre_eq_preRow]; exact lifted os started H enc F)

/-- No parameter wants a stand-in; the program's own looks are off. -/
theorem plain (f : FuncId) (fn : Func) (hf : Tryd.pinned.checked.prog.funcNamed "posthorn/posthornlaw04.CodeQuotes" = some f) (hfn : Tryd.pinned.checked.prog.funcs[f]? = some fn) :
    false = Tryd.pinned.checked.prog.looks [] ∧ ∀ (j : Nat) t, fn.params[j]? = some t → Tryd.pinned.checked.prog.wantsStandIn t = false := by
  obtain rfl : f = 3 := Option.some.inj ((show Tryd.prog.funcNamed "posthorn/posthornlaw04.CodeQuotes" = some 3 by kernel_rfl).symm.trans hf) |>.symm
  obtain rfl : fn = Tryd.f3 := (Option.some.inj (Tryd.func3.symm.trans hfn)).symm
  refine ⟨by kernel_rfl, fun j t ht => ?_⟩
  rw [Tryd.params3] at ht
  have hm : t ∈ [22] := by simpa using Array.mem_of_getElem? ht
  have hall : ([22].all fun u => !Tryd.prog.wantsStandIn u) = true := by kernel_rfl
  exact (show Tryd.prog.wantsStandIn t = false by simpa using List.all_eq_true.1 hall t hm)

/-- The card. -/
theorem card : Rows.CodeQuotesUptoCardSaid :=
  Claim7.holds_tied_plain_at .later [] _ _ _ _ said (fun _ h => by cases h) (by kernel_rfl) (fun _ h => by cases h) codeQuotesUpto_row_tie rfl ⟨rfl, rfl⟩ (by kernel_rfl) rfl plain (by kernel_rfl)
end Go.Proofs.YtenfopabdegmhaaDoor.codeQuotes
namespace Go.Proofs.YtenfopabdegmhaaDoor
theorem codeQuotesUpto_card : Rows.CodeQuotesUptoCardSaid := codeQuotes.card
#print axioms codeQuotesUpto_card
end Go.Proofs.YtenfopabdegmhaaDoor
