/-
  P3.1: the keyed digest of any bytes under any key is the one that the document tells; proved with no condition on the input.
-/
import Derived.Test.YtlkflikhbkhpeaaDoorHead
import Derived.Test.YtlkflikhbkhpeaaDoorRMac
import Derived.Test.YtlkflikhbkhpeaaDoorMac
import Derived.Test.YtlkflikhbkhpeaaDoorEqd
import Derived.Test.YtlkflikhbkhpeaaDoorOpen
namespace Go.Proofs.YtlkflikhbkhpeaaDoor.hashMac
open Go.ChangeShapes Go.WideShapes Go.ChangeAt Go.RowKit

set_option maxHeartbeats 1000000 in
set_option maxRecDepth 100000 in
theorem walk {w : World} (a : Option Addr) (l : List UInt8) (ca : Nat) (hra : Bts a l w) (hla : l.length ≤ 140737488351232) (_hca : l.length ≤ ca) (_hna : a = none → ca = 0) (b : Option Addr) (m : List UInt8) (cb : Nat) (hrb : Bts b m w) (hlb : m.length ≤ 140737488351232) (_hcb : m.length ≤ cb) (_hnb : b = none → cb = 0) (ht : Tabs w) :
    Calls Tryd.prog 4 #[.slice a l.length ca, .slice b m.length cb] w fun e w' => e = .returned (.bool true) ∧ Below w.heap.size w w' := by
  have HRA : Hid (Bts a l w) := hra
  have HRB : Hid (Bts b m w) := hrb
  have HLA : Hid (l.length ≤ 140737488351232) := hla
  have HLB : Hid (m.length ≤ 140737488351232) := hlb
  have HT : Hid (Tabs w) := ht
  clear hra hrb hla hlb ht
  go_enter Tryd.func4, Tryd.ntmps4
  go_wp2_with fail
  refine (copied_any a l ca w HRA.out (by have := HLA.out; omega)).mono ?_
  rintro e v1 ⟨u, rfl, hown, hb⟩
  obtain ⟨a1, c1, rfl, hbt1, hlen1, hn1, hc1, hlt1⟩ := own_bts hown
  have HB0 : Hid (Below w.heap.size w v1) := hb
  have HR1 : Hid (Bts a1 l v1) := hbt1
  have HN1 : Hid (a1 = none → c1 = 0) := hn1
  clear hown hb hbt1 hlen1 hn1 hc1 hlt1
  go_wp2_with fail
  refine (copied_any b m cb v1 (HRB.out.below HB0.out) (by have := HLB.out; omega)).mono ?_
  rintro e v2 ⟨u, rfl, hown, hb⟩
  obtain ⟨b1, d1, rfl, hbt1, hlen1, hn1, hc1, hlt1⟩ := own_bts hown
  have HB2 : Hid (Below w.heap.size w v2) := HB0.out.trans (hb.mono HB0.out.size)
  have HR2 : Hid (Bts a1 l v2) := HR1.out.below hb
  have HRB2 : Hid (Bts b1 m v2) := hbt1
  have HNB : Hid (b1 = none → d1 = 0) := hn1
  clear hown hb hbt1 hlen1 hn1 hc1 hlt1
  go_wp2_with fail
  refine (rmac_any a1 b1 l m c1 d1 v2 HR2.out HRB2.out HN1.out HNB.out (by have := HLA.out; omega) (by have := HLB.out; omega)).mono ?_
  rintro e v3 ⟨rfl, hb⟩
  have HB3 : Hid (Below w.heap.size w v3) := HB2.out.trans (hb.mono HB2.out.size)
  clear hb
  go_wp2_with (refine wpList_store_row rfl 23 _ _ rfl v3.heap.size rfl _ (rowV (mac l m)) rfl 23 (Lies.new v3 _ _) (infoDl _ (mac_length l m)) (by rw [rowV_size, mac_length]; rfl) (rowV_one _) rfl ?_; refine wpList_gen (fun w1 => Hid (Lies w1 v3.heap.size (rowV (mac l m)) 23) ∧ Hid (Below w.heap.size w w1)) ⟨(Lies.new v3 _ _).row _, below_row (HB3.out.alloc HB3.out.size _) HB3.out.size _⟩ ?_; rintro w1 ⟨HL1, HB1⟩)
  have HS : Hid (∀ w', Below w1.heap.size w1 w' → w'.rangeAt v3.heap.size 0 (rowV (mac l m)).toList) := fun w' hb => (HL1.out.below hb HL1.out.lt).range
  refine wp_region_late (fun w' => w'.rangeAt v3.heap.size 0 (rowV (mac l m)).toList) 10 (by kernel_rfl) (HS.out _ (Below.refl _ w1).drew) (fun hHeld => ?_)
  refine wpAnyE_take (i := 0) (d := some 11) (v := ?_) rfl (by kernel_rfl) (by kernel_rfl) (by kernel_rfl) (by kernel_rfl) (fun _ _ _ h => h) rfl rfl ?hy (by assumption) ?_
  case hy => (intro w' hSw; (try dsimp only at hSw); go_simp <;> (try with_reducible rfl))
  simp only [Act.put, List.setIfInBounds_toArray, List.set_cons_zero, List.set_cons_succ]
  refine wpAnyE_take (i := 2) (d := some 13) (v := ?_) rfl (by kernel_rfl) (by kernel_rfl) (by kernel_rfl) (by kernel_rfl) (fun _ _ _ h => h) rfl rfl ?hy (by assumption) ?_
  case hy => (intro w' hSw; (try dsimp only at hSw); go_simp <;> (try with_reducible rfl))
  simp only [Act.put, List.setIfInBounds_toArray, List.set_cons_zero, List.set_cons_succ]
  refine wpAnyE_take (i := 5) (d := some 16) (v := .agg (rowV (mac l m))) rfl (by kernel_rfl) (by kernel_rfl) (by kernel_rfl) (by kernel_rfl) (fun _ _ _ h => h) rfl rfl ?hy (by assumption) ?_
  case hy => exact fun w' hSw => exec_load 23 _ rfl v3.heap.size 0 rfl (rowV (mac l m)) _ hSw Tryd.underlying23 rfl (infoDl _ (mac_length l m))
  simp only [Act.put, List.setIfInBounds_toArray, List.set_cons_zero, List.set_cons_succ]
  refine wpAnyE_one (i := 1) (by kernel_rfl) rfl rfl ?_
  go_simp
  refine (copied_any a l ca _ (HRA.out.below (HB1.out.drew)) (by have := HLA.out; omega)).mono ?_
  rintro e w2 ⟨u, rfl, hown, hb0⟩
  have hb2 : Below w1.heap.size w1 w2 := ⟨hb0.os, hb0.tape, hb0.output, hb0.size, hb0.block⟩
  clear hb0
  refine ⟨HS.out _ hb2, ?_⟩
  obtain ⟨a2, c2, rfl, hbt2, hlen2, hn2, hc2, hlt2⟩ := own_bts hown
  refine wpAnyE_one (i := 3) (by kernel_rfl) rfl rfl ?_
  go_simp
  refine (copied_any b m cb w2 (HRB.out.below (HB1.out.trans (hb2.mono HB1.out.size))) (by have := HLB.out; omega)).mono ?_
  rintro e w3 ⟨u, rfl, hown3, hb0⟩
  have hb3 : Below w1.heap.size w1 w3 := hb2.trans (hb0.mono hb2.size)
  have hbt2' : Bts a2 l w3 := hbt2.below hb0
  have hsz3 := hb0.size
  clear hb0 hHeld
  refine ⟨HS.out _ hb3, ?_⟩
  obtain ⟨b2, d2, rfl, hbt3, hlen3, hn3, hc3, hlt3⟩ := own_bts hown3
  refine wpAnyE_one (i := 4) (by kernel_rfl) rfl rfl ?_
  go_simp
  refine (mac_any a2 b2 l m c2 d2 w3 hbt2' hbt3 (fun ad e => Nat.lt_of_lt_of_le (hlt2 ad e).2.1 hsz3) (fun ad e => (hlt3 ad e).2.1) hc2 hc3 (HT.out.below (HB1.out.trans (hb3.mono HB1.out.size))) (by have := HLA.out; omega) (by have := HLB.out; omega)).mono ?_
  rintro e w4 ⟨rfl, hb0⟩
  have hb4 : Below w1.heap.size w1 w4 := hb3.trans (hb0.mono hb3.size)
  clear hb0 hown hown3 hbt2 hbt2' hlen2 hn2 hc2 hlt2 hbt3 hlen3 hn3 hc3 hlt3 hsz3
  have hH4 := HS.out _ hb4
  refine ⟨hH4, ?_⟩
  have heq := eql_row (mac l m) (mac_length l m)
  refine wpAnyE_take (i := 6) (d := some 17) (v := ?_) rfl (by kernel_rfl) (by kernel_rfl) (by kernel_rfl) (by kernel_rfl) (fun _ _ _ h => h) rfl rfl ?hy (by assumption) ?_
  case hy => (intro w' hSw; (try dsimp only at hSw); go_simp <;> (try with_reducible rfl))
  simp only [Act.put, List.setIfInBounds_toArray, List.set_cons_zero, List.set_cons_succ]
  refine wpAnyE_take (i := 7) (d := some 18) (v := ?_) rfl (by kernel_rfl) (by kernel_rfl) (by kernel_rfl) (by kernel_rfl) (fun _ _ _ h => h) rfl rfl ?hy (by assumption) ?_
  case hy => (intro w' hSw; (try dsimp only at hSw); go_simp <;> (try with_reducible rfl))
  simp only [Act.put, List.setIfInBounds_toArray, List.set_cons_zero, List.set_cons_succ]
  refine wpAnyE_oneG (i := 8) (by kernel_rfl) rfl rfl ?_
  go_simp
  refine (head_any _ ?_).mono ?_
  · exact HT.out.below (HB1.out.trans (hb4.mono HB1.out.size))
  rintro e w9 ⟨rfl, hb0⟩
  have hb9 : Below w1.heap.size w1 w9 := hb4.trans (hb0.mono hb4.size)
  clear hb0
  have hH9 := HS.out _ hb9
  refine ⟨hH9, ?_⟩
  refine wpAnyE_take (i := 9) (d := some 20) (v := ?_) rfl (by kernel_rfl) (by kernel_rfl) (by kernel_rfl) (by kernel_rfl) (fun _ _ _ h => h) rfl rfl ?hy (by assumption) ?_
  case hy => (intro w' hSw; (try dsimp only at hSw); go_simp <;> (try with_reducible rfl))
  simp only [Act.put, List.setIfInBounds_toArray, List.set_cons_zero, List.set_cons_succ]
  refine wpAnyE_one (i := 10) (by kernel_rfl) rfl rfl ?_
  go_simp
  refine wpAnyE_done (by kernel_rfl) ?_ _
  go_wp2
  go_ret
  exact ⟨rfl, HB1.out.trans (hb9.mono HB1.out.size)⟩

theorem contract (H : Type) (enc : TypeId × Value → H) (W : World) (base : Nat) (args : Array Value) (ds gs : List (DataW H)) (before : List MemPlace)
    (hval : ∀ (j : Nat) t v, Tryd.f4.params[j]? = some t → args[j]? = some v → Value.okWide Tryd.prog W .any base t v)
    (hW : DataW.Whole enc Tryd.prog Tryd.f4.params.toList Rows.hashMacSpec.vars false W args.toList ds gs before)
    (hsz : (DataW.weightsEach Tryd.prog (Tryd.f4.params.toList ++ (OpenSpec.ofChange Rows.hashMacSpec).bare.plain.varTypes Tryd.prog) (ds ++ gs)).all (· ≤ reachBytes) = true)
    (hL : laidMetH Tryd.prog Rows.hashMacRow.laid W) :
    Calls Tryd.prog 4 args W fun e W' => ∃ v, e = .returned v ∧ Rows.hashMacSpec.post enc Tryd.prog Tryd.f4 false true false false W args v W' := by
  have hW' := hW
  obtain ⟨p, q, hA0, hV, rfl, hfz, hnd⟩ := hW
  have hA : DataW.TrodAll enc Tryd.prog W 0 (fun _ => true) true Tryd.f4.params.toList args.toList ds p := hA0
  rw [Tryd.params4] at hA hval hsz
  obtain ⟨v0, vs0, d0, ds0, p0, q0, hargs, rfl, rfl, h0, r0⟩ := trodAll_cons hA
  obtain ⟨v1, vs1, d1, ds1, p1, q1, rfl, rfl, rfl, h1, r1⟩ := trodAll_cons r0
  obtain ⟨rfl, rfl, rfl⟩ := trodAll_nil r1
  obtain rfl : args = #[v0, v1] := by cases args; simp_all
  obtain ⟨rfl, rfl⟩ := trodVars_none hV
  have k0 := h0
  have lt0 : ∀ x ∈ p0, x.block < W.heap.size := by obtain ⟨m, hm⟩ := k0; exact DataW.trod_lt m _ _ _ hm
  obtain ⟨a0, len0, cap0, rfl⟩ := okWide_slice Tryd.underlying22 (hval 0 22 v0 rfl rfl)
  obtain ⟨l0, e0, row0, cp0, bd0⟩ := open_bytes h0
  have nn0 := open_none k0
  have s0 : l0.length ≤ 140737488351232 := by
    rcases bd0 with ⟨el, sp, rfl, hl⟩ | ⟨rfl, hl⟩
    · have := sized_slice hsz (j := 0) (t := 22) (e := 5) rfl rfl Tryd.underlying22
      rw [bytes5] at this
      simp only [reachBytes] at this
      omega
    · omega
  subst e0
  have k1 := h1
  have lt1 : ∀ x ∈ p1, x.block < W.heap.size := by obtain ⟨m, hm⟩ := k1; exact DataW.trod_lt m _ _ _ hm
  obtain ⟨a1, len1, cap1, rfl⟩ := okWide_slice Tryd.underlying22 (hval 1 22 v1 rfl rfl)
  obtain ⟨l1, e1, row1, cp1, bd1⟩ := open_bytes h1
  have nn1 := open_none k1
  have s1 : l1.length ≤ 140737488351232 := by
    rcases bd1 with ⟨el, sp, rfl, hl⟩ | ⟨rfl, hl⟩
    · have := sized_slice hsz (j := 1) (t := 22) (e := 5) rfl rfl Tryd.underlying22
      rw [bytes5] at this
      simp only [reachBytes] at this
      omega
    · omega
  subst e1
  clear hA0
  refine (walk a0 l0 cap0 row0 s0 cp0 nn0 a1 l1 cap1 row1 s1 cp1 nn1 (tabs_of hL)).mono fun e W' ⟨he, bel⟩ => ?_
  subst he
  exact ⟨_, rfl, _, _, _, [], _, [], hW', trodAll_mk1 (shut_bool Tryd.underlying4 _), trodAll_cons_mk (Below.trod laidOut (by kernel_rfl) (of_decide_eq_true (by kernel_rfl)) k0 bel lt0) (trodAll_cons_mk (Below.trod laidOut (by kernel_rfl) (of_decide_eq_true (by kernel_rfl)) k1 bel lt1) trodAll_mk0), rfl, bel.frame _, fun h => by cases h⟩

theorem laid_met (os : Os) : laidMet Tryd.prog Rows.hashMacRow.laid ((laidWorld os).forCall (fun _ _ => 0) ⟨#[], #[.slice none 0 0, .slice none 0 0], []⟩).memory :=
  laidMet_of_run' 8 (by kernel_rfl) (by kernel_rfl)
theorem reads (os : Os) {H : Type} (enc : TypeId × Value → H) : ∃ places, DataW.whole enc Tryd.prog ((laidWorld os).forCall (fun _ _ => 0) ⟨#[], #[.slice none 0 0, .slice none 0 0], []⟩).memory Tryd.f4.params.toList Rows.hashMacSpec.vars false #[Value.slice none 0 0, Value.slice none 0 0].toList 8 = some ([.nil, .nil], [], places) :=
  ⟨[], by kernel_rfl⟩

set_option maxRecDepth 100000 in
theorem lifted (os : Os) (started : os.Started) (H : Type) (enc : TypeId × Value → H) (F : Stop.Interp) :
    ReturnsInHanded {} Tryd.checked os 4 .any ((OpenSpec.ofChange Rows.hashMacSpec).preRow enc Tryd.prog Tryd.f4 Rows.hashMacRow.domain false Rows.hashMacRow.laid) (((OpenSpec.ofChange Rows.hashMacSpec).at F).post enc Tryd.prog Tryd.f4 false true false false) := by
  obtain ⟨places, hx⟩ := reads os enc
  refine returnsInHanded_of_row (C := Tryd.checked) (s := OpenSpec.ofChange Rows.hashMacSpec) own started (by kernel_rfl) Tryd.func4
    (witness_row_at (enc := enc) (C := Tryd.checked) false (laidWorld os) #[.slice none 0 0, .slice none 0 0] rfl (by kernel_rfl) (by kernel_rfl) (by kernel_rfl)
      (OpenSpec.preRow_of_cond 8 hx (by kernel_rfl) (fun k hk => by cases hk) (by kernel_rfl) (laid_met os))) ?_
  intro W base args ds gs before hval hW _ _ hsz hL _ _
  exact contract H enc W base args ds gs before hval hW hsz hL

theorem said : Rows.HashMacSaid :=
  OpenClaim.holds_of_cond 4 Tryd.f4 rfl rfl rfl rfl rfl rfl rfl ⟨rfl, rfl, rfl, rfl, rfl⟩ rfl rfl rfl rfl rfl (by kernel_rfl) Tryd.func4 (by kernel_rfl)
    (of_decide_eq_true (by kernel_rfl)) (by unfold Func.isWrapper; first | (rw [if_pos (by decide +kernel)]; kernel_rfl) | (rw [if_neg (by decide +kernel)]; exact ⟨rfl, rfl⟩))
    (fun os started H enc _ F => by rw [OpenClaim.pre_eq_preRow]; exact lifted os started H enc F)

/-- No parameter wants a stand-in; the program's own looks are off. -/
theorem plain (f : FuncId) (fn : Func) (hf : Tryd.pinned.checked.prog.funcNamed "posthorn/posthornlaw03.HashMac" = some f) (hfn : Tryd.pinned.checked.prog.funcs[f]? = some fn) :
    false = Tryd.pinned.checked.prog.looks [] ∧ ∀ (j : Nat) t, fn.params[j]? = some t → Tryd.pinned.checked.prog.wantsStandIn t = false := by
  obtain rfl : f = 4 := Option.some.inj ((show Tryd.prog.funcNamed "posthorn/posthornlaw03.HashMac" = some 4 by kernel_rfl).symm.trans hf) |>.symm
  obtain rfl : fn = Tryd.f4 := (Option.some.inj (Tryd.func4.symm.trans hfn)).symm
  refine ⟨by kernel_rfl, fun j t ht => ?_⟩
  rw [Tryd.params4] at ht
  have hm : t ∈ [22, 22] := by simpa using Array.mem_of_getElem? ht
  have hall : ([22, 22].all fun u => !Tryd.prog.wantsStandIn u) = true := by kernel_rfl
  exact (show Tryd.prog.wantsStandIn t = false by simpa using List.all_eq_true.1 hall t hm)

/-- The card. -/
theorem card : Rows.HashMacCardSaid :=
  Claim7.holds_tied_plain_at .later [] _ _ _ _ said (fun _ h => by cases h) (by kernel_rfl) (fun _ h => by cases h) hashMac_row_tie rfl ⟨rfl, rfl⟩ (by kernel_rfl) rfl plain (by kernel_rfl)
end Go.Proofs.YtlkflikhbkhpeaaDoor.hashMac
namespace Go.Proofs.YtlkflikhbkhpeaaDoor
theorem hashMac_card : Rows.HashMacCardSaid := hashMac.card
#print axioms hashMac_card
end Go.Proofs.YtlkflikhbkhpeaaDoor
