/-
  P3.6: the keyed digest is the digest of the two rows as the document tells them; proved with no condition on the input.
-/
import Derived.Test.YtlkflikhbkhpeabDoorHead
import Derived.Test.YtlkflikhbkhpeabDoorLRow
import Derived.Test.YtlkflikhbkhpeabDoorMac
import Derived.Test.YtlkflikhbkhpeabDoorEqd
import Derived.Test.YtlkflikhbkhpeabDoorApps
import Derived.Test.YtlkflikhbkhpeabDoorOpen
namespace Go.Proofs.YtlkflikhbkhpeabDoor.hashNested
open Go.ChangeShapes Go.WideShapes Go.ChangeAt Go.RowKit

set_option maxHeartbeats 2000000 in
set_option maxRecDepth 100000 in
theorem walk {w : World} (a : Option Addr) (l : List UInt8) (ca : Nat) (hra : Bts a l w) (hla : l.length ≤ 140737488351232) (_hca : l.length ≤ ca) (_hna : a = none → ca = 0) (b : Option Addr) (m : List UInt8) (cb : Nat) (hrb : Bts b m w) (hlb : m.length ≤ 140737488351232) (_hcb : m.length ≤ cb) (hnb : b = none → cb = 0) (ht : Tabs w) :
    Calls Tryd.prog 3 #[.slice a l.length ca, .slice b m.length cb] w fun e w' => e = .returned (.bool true) ∧ Below w.heap.size w w' := by
  have HRA : Hid (Bts a l w) := hra
  have HRB : Hid (Bts b m w) := hrb
  have HLA : Hid (l.length ≤ 140737488351232) := hla
  have HLB : Hid (m.length ≤ 140737488351232) := hlb
  have HNB : Hid (b = none → cb = 0) := hnb
  have HT : Hid (Tabs w) := ht
  clear hra hrb hla hlb ht hnb
  obtain ⟨k1, hk1⟩ : ∃ k1, k1 = laid 54 (keyRow l) := ⟨_, rfl⟩
  obtain ⟨k2, hk2⟩ : ∃ k2, k2 = laid 92 (keyRow l) := ⟨_, rfl⟩
  have HK1 : Hid (k1 = laid 54 (keyRow l)) := hk1
  have HK2 : Hid (k2 = laid 92 (keyRow l)) := hk2
  clear hk1 hk2
  go_enter Tryd.func3, Tryd.ntmps3
  go_wp2_with fail
  refine (head_any w HT.out).mono ?_
  rintro e w1 ⟨rfl, hb1⟩
  have HB1 : Hid (Below w.heap.size w w1) := hb1
  clear hb1
  go_wp2_with fail
  refine (lrow_any a l ca 54 w1 (HRA.out.below HB1.out) (HT.out.below HB1.out) (by have := HLA.out; omega)).mono ?_
  rintro e v1 ⟨u1, rfl, hown1, hb1⟩
  rw [← HK1.out] at hown1
  have HO1 : Hid (v1.ownsRow w1.heap.size 5 1 u1 64 (cellsB k1)) := hown1
  have HS1 : Hid (Below w1.heap.size w1 v1) := hb1
  clear hown1 hb1
  go_wp2_with (at_builtin; refine wpList_append_bts rfl _ _ rfl w1.heap.size u1 64 k1 rfl HO1.out b m cb rfl (HRB.out.below (HB1.out.trans (HS1.out.mono HB1.out.size))) HNB.out (by have := HLB.out; omega) HS1.out.size ?_; intro u2 v2 hown2 hbel2; have HO2 : Hid (v2.ownsRow w1.heap.size 5 1 u2 (64 + m.length) (cellsB (k1 ++ m))) := hown2; have HS2 : Hid (Below w1.heap.size w1 v2) := hbel2 _ _ HS1.out (Nat.le_refl _); clear hown2 hbel2)
  obtain ⟨a2, c2, rfl, hbt2, hlen2, hn2, hc2, hlt2⟩ := own_bts HO2.out
  have HB2 : Hid (Below w.heap.size w v2) := HB1.out.trans (HS2.out.mono HB1.out.size)
  have hmd := md5_any a2 (k1 ++ m) c2 v2 hbt2 (fun ad e => (hlt2 ad e).2.1) (by rw [hlen2]; exact hc2) (HT.out.below HB2.out) (by rw [hlen2]; have := HLB.out; omega)
  rw [hlen2] at hmd
  have HMD : Hid _ := hmd
  clear hbt2 hlen2 hn2 hc2 hlt2 hmd
  refine Calls.mono HMD.out ?_
  clear HMD
  rintro e v3 ⟨rfl, hb3⟩
  obtain ⟨inn, hinn⟩ : ∃ inn, inn = md5 (k1 ++ m) := ⟨_, rfl⟩
  have HINN : Hid (inn = md5 (k1 ++ m)) := hinn
  have HI16 : Hid (inn.length = 16) := by rw [hinn]; exact md5_length _
  rw [← hinn]
  clear hinn
  have HB3 : Hid (Below w.heap.size w v3) := HB2.out.trans (hb3.mono HB2.out.size)
  clear hb3 HO1 HO2 HS1 HS2
  go_wp2_with (refine wpList_store_row rfl 24 _ _ rfl v3.heap.size rfl _ (rowV inn) rfl 24 (Lies.new v3 _ _) (infoDl _ HI16.out) (by rw [rowV_size, HI16.out]; rfl) (rowV_one _) rfl ?_; refine wpList_gen (fun w3 => Hid (Lies w3 v3.heap.size (rowV inn) 24) ∧ Hid (Below w.heap.size w w3)) ⟨(Lies.new v3 _ _).row _, below_row (HB3.out.alloc HB3.out.size _) HB3.out.size _⟩ ?_; rintro w3 ⟨HM3, HB4⟩)
  refine wp_region_late (fun _ => True) 11 (by kernel_rfl) trivial (fun hHeld => ?_)
  refine wpAnyE_take (i := 0) (d := some 13) (v := ?_) rfl (by kernel_rfl) (by kernel_rfl) (by kernel_rfl) (by kernel_rfl) (fun _ _ _ h => h) rfl rfl ?hy (by assumption) ?_
  case hy => (intro w' hSw; (try dsimp only at hSw); go_simp <;> (try with_reducible rfl))
  simp only [Act.put, List.setIfInBounds_toArray, List.set_cons_zero, List.set_cons_succ]
  refine wpAnyE_take (i := 2) (d := some 15) (v := ?_) rfl (by kernel_rfl) (by kernel_rfl) (by kernel_rfl) (by kernel_rfl) (fun _ _ _ h => h) rfl rfl ?hy (by assumption) ?_
  case hy => (intro w' hSw; (try dsimp only at hSw); go_simp <;> (try with_reducible rfl))
  simp only [Act.put, List.setIfInBounds_toArray, List.set_cons_zero, List.set_cons_succ]
  refine wpAnyE_take (i := 5) (d := some 18) (v := ?_) rfl (by kernel_rfl) (by kernel_rfl) (by kernel_rfl) (by kernel_rfl) (fun _ _ _ h => h) rfl rfl ?hy (by assumption) ?_
  case hy => (intro w' hSw; (try dsimp only at hSw); go_simp <;> (try with_reducible rfl))
  simp only [Act.put, List.setIfInBounds_toArray, List.set_cons_zero, List.set_cons_succ]
  refine wpAnyE_take (i := 7) (d := some 20) (v := ?_) rfl (by kernel_rfl) (by kernel_rfl) (by kernel_rfl) (by kernel_rfl) (fun _ _ _ h => h) rfl rfl ?hy (by assumption) ?_
  case hy => (intro w' hSw; (try dsimp only at hSw); go_simp <;> (try with_reducible rfl))
  simp only [Act.put, List.setIfInBounds_toArray, List.set_cons_zero, List.set_cons_succ]
  have hbw3d : Below w3.heap.size w3 w3.drew := (Below.refl _ w3).drew
  refine wpAnyE_one (i := 1) (by kernel_rfl) rfl rfl ?_
  go_simp
  refine Calls.mono (copied_any a l ca w3.drew (HRA.out.below (HB4.out.trans (hbw3d.mono HB4.out.size))) (by have := HLA.out; omega)) ?_
  rintro e w4 ⟨u4, rfl, hown4, hb0⟩
  have hbw4 : Below w3.heap.size w3 w4 := hbw3d.trans (hb0.mono hbw3d.size)
  clear hb0
  obtain ⟨a4, c4, rfl, hbt4, hlen4, hn4, hc4, hlt4⟩ := own_bts hown4
  have HR4 : Hid (Bts a4 l w4 ∧ l.length ≤ c4 ∧ ∀ ad, a4 = some ad → ad.block < w4.heap.size) := ⟨hbt4, hc4, fun ad e => (hlt4 ad e).2.1⟩
  clear hown4 hbt4 hlen4 hn4 hc4 hlt4
  refine wpAnyE_one (i := 3) (by kernel_rfl) rfl rfl ?_
  go_simp
  refine Calls.mono (copied_any b m cb w4 (HRB.out.below (HB4.out.trans (hbw4.mono HB4.out.size))) (by have := HLB.out; omega)) ?_
  rintro e w5 ⟨u5, rfl, hown5, hb0⟩
  have hbw5 : Below w3.heap.size w3 w5 := hbw4.trans (hb0.mono hbw4.size)
  have hb45 := hb0
  clear hb0
  obtain ⟨a5, c5, rfl, hbt5, hlen5, hn5, hc5, hlt5⟩ := own_bts hown5
  have HR5 : Hid (Bts a5 m w5 ∧ m.length ≤ c5 ∧ ∀ ad, a5 = some ad → ad.block < w5.heap.size) := ⟨hbt5, hc5, fun ad e => (hlt5 ad e).2.1⟩
  have HR4' : Hid (Bts a4 l w5 ∧ l.length ≤ c4 ∧ ∀ ad, a4 = some ad → ad.block < w5.heap.size) := ⟨HR4.out.1.below hb45, HR4.out.2.1, fun ad e => Nat.lt_of_lt_of_le (HR4.out.2.2 ad e) hb45.size⟩
  clear hown5 hbt5 hlen5 hn5 hc5 hlt5 HR4
  refine wpAnyE_one (i := 4) (by kernel_rfl) rfl rfl ?_
  go_simp
  refine Calls.mono (mac_any a4 a5 l m c4 c5 w5 HR4'.out.1 HR5.out.1 HR4'.out.2.2 HR5.out.2.2 HR4'.out.2.1 HR5.out.2.1 (HT.out.below (HB4.out.trans (hbw5.mono HB4.out.size))) (by have := HLA.out; omega) (by have := HLB.out; omega)) ?_
  rintro e w6 ⟨rfl, hb0⟩
  have hbw6 : Below w3.heap.size w3 w6 := hbw5.trans (hb0.mono hbw5.size)
  clear hb0
  refine wpAnyE_one (i := 6) (by kernel_rfl) rfl rfl ?_
  go_simp
  refine Calls.mono (lrow_any a l ca 92 w6 (HRA.out.below (HB4.out.trans (hbw6.mono HB4.out.size))) (HT.out.below (HB4.out.trans (hbw6.mono HB4.out.size))) (by have := HLA.out; omega)) ?_
  rintro e w7 ⟨u7, rfl, hown7, hb0⟩
  have hbw7 : Below w3.heap.size w3 w7 := hbw6.trans (hb0.mono hbw6.size)
  have hb67 := hb0
  clear hb0
  rw [← HK2.out] at hown7
  have HO7 : Hid (w7.ownsRow w6.heap.size 5 1 u7 64 (cellsB k2)) := hown7
  have HS7 : Hid (Below w6.heap.size w6 w7) := hb67
  clear hown7 hb67
  have HM7 : Hid (Lies w7 v3.heap.size (rowV inn) 24) := HM3.out.below hbw7 HM3.out.lt
  refine wpAnyE_one (i := 8) (by kernel_rfl) rfl rfl ?_
  refine wp_append_bts _ _ rfl w6.heap.size u7 64 k2 rfl HO7.out ⟨v3.heap.size, 0, none⟩ inn 16 16 rfl HI16.out (lies_list' HM7.out) (by omega) HS7.out.size _ rfl ?_
  intro u8 w8 hown8 hbel8
  have hbw8 : Below w3.heap.size w3 w8 := hbw6.trans ((hbel8 _ _ HS7.out (Nat.le_refl _)).mono hbw6.size)
  obtain ⟨a8, c8, rfl, hbt8, hlen8, hn8, hc8, hlt8⟩ := own_bts hown8
  refine ⟨.inr trivial, ?_⟩
  have hmd := md5_any a8 (k2 ++ inn) c8 w8 hbt8 (fun ad e => (hlt8 ad e).2.1) (by rw [hlen8]; exact hc8) (HT.out.below (HB4.out.trans (hbw8.mono HB4.out.size))) (by rw [hlen8]; omega)
  have emac : md5 (k2 ++ inn) = mac l m := by rw [HINN.out, HK1.out, HK2.out]; rfl
  rw [hlen8, emac] at hmd
  have HMD : Hid _ := hmd
  clear hown8 hbel8 hbt8 hlen8 hn8 hc8 hlt8 hmd emac
  refine wpAnyE_one (i := 9) (by kernel_rfl) rfl rfl ?_
  go_simp
  refine Calls.mono (HMD.out) ?_
  rintro e w9 ⟨rfl, hb0⟩
  have hbw9 : Below w3.heap.size w3 w9 := hbw8.trans (hb0.mono hbw8.size)
  clear hb0
  have heq := eql_row (mac l m) (mac_length l m)
  refine wpAnyE_take (i := 10) (d := some 23) (v := ?_) rfl (by kernel_rfl) (by kernel_rfl) (by kernel_rfl) (by kernel_rfl) (fun _ _ _ h => h) rfl rfl ?hy (by assumption) ?_
  case hy => (intro w' hSw; (try dsimp only at hSw); go_simp <;> (try with_reducible rfl))
  simp only [Act.put, List.setIfInBounds_toArray, List.set_cons_zero, List.set_cons_succ]
  refine wpAnyE_one (i := 11) (by kernel_rfl) rfl rfl ?_
  go_simp
  refine wpAnyE_done (by kernel_rfl) ?_ _
  go_wp2
  go_ret
  exact ⟨rfl, HB4.out.trans (hbw9.mono HB4.out.size)⟩

theorem contract (H : Type) (enc : TypeId × Value → H) (W : World) (base : Nat) (args : Array Value) (ds gs : List (DataW H)) (before : List MemPlace)
    (hval : ∀ (j : Nat) t v, Tryd.f3.params[j]? = some t → args[j]? = some v → Value.okWide Tryd.prog W .any base t v)
    (hW : DataW.Whole enc Tryd.prog Tryd.f3.params.toList Rows.hashNestedSpec.vars false W args.toList ds gs before)
    (hsz : (DataW.weightsEach Tryd.prog (Tryd.f3.params.toList ++ (OpenSpec.ofChange Rows.hashNestedSpec).bare.plain.varTypes Tryd.prog) (ds ++ gs)).all (· ≤ reachBytes) = true)
    (hL : laidMetH Tryd.prog Rows.hashNestedRow.laid W) :
    Calls Tryd.prog 3 args W fun e W' => ∃ v, e = .returned v ∧ Rows.hashNestedSpec.post enc Tryd.prog Tryd.f3 false true false false W args v W' := by
  have hW' := hW
  obtain ⟨p, q, hA0, hV, rfl, hfz, hnd⟩ := hW
  have hA : DataW.TrodAll enc Tryd.prog W 0 (fun _ => true) true Tryd.f3.params.toList args.toList ds p := hA0
  rw [Tryd.params3] at hA hval hsz
  obtain ⟨v0, vs0, d0, ds0, p0, q0, hargs, rfl, rfl, h0, r0⟩ := trodAll_cons hA
  obtain ⟨v1, vs1, d1, ds1, p1, q1, rfl, rfl, rfl, h1, r1⟩ := trodAll_cons r0
  obtain ⟨rfl, rfl, rfl⟩ := trodAll_nil r1
  obtain rfl : args = #[v0, v1] := by cases args; simp_all
  obtain ⟨rfl, rfl⟩ := trodVars_none hV
  have k0 := h0
  have lt0 : ∀ x ∈ p0, x.block < W.heap.size := by obtain ⟨m, hm⟩ := k0; exact DataW.trod_lt m _ _ _ hm
  obtain ⟨a0, len0, cap0, rfl⟩ := okWide_slice Tryd.underlying22 (hval 0 22 v0 rfl rfl)
  obtain ⟨l0, e0, row0, cp0, bd0⟩ := open_bytes h0
  have nn0 := open_none k0
  have s0 : l0.length ≤ 140737488351232 := by
    rcases bd0 with ⟨el, sp, rfl, hl⟩ | ⟨rfl, hl⟩
    · have := sized_slice hsz (j := 0) (t := 22) (e := 5) rfl rfl Tryd.underlying22
      rw [bytes5] at this
      simp only [reachBytes] at this
      omega
    · omega
  subst e0
  have k1 := h1
  have lt1 : ∀ x ∈ p1, x.block < W.heap.size := by obtain ⟨m, hm⟩ := k1; exact DataW.trod_lt m _ _ _ hm
  obtain ⟨a1, len1, cap1, rfl⟩ := okWide_slice Tryd.underlying22 (hval 1 22 v1 rfl rfl)
  obtain ⟨l1, e1, row1, cp1, bd1⟩ := open_bytes h1
  have nn1 := open_none k1
  have s1 : l1.length ≤ 140737488351232 := by
    rcases bd1 with ⟨el, sp, rfl, hl⟩ | ⟨rfl, hl⟩
    · have := sized_slice hsz (j := 1) (t := 22) (e := 5) rfl rfl Tryd.underlying22
      rw [bytes5] at this
      simp only [reachBytes] at this
      omega
    · omega
  subst e1
  clear hA0
  refine (walk a0 l0 cap0 row0 s0 cp0 nn0 a1 l1 cap1 row1 s1 cp1 nn1 (tabs_of hL)).mono fun e W' ⟨he, bel⟩ => ?_
  subst he
  exact ⟨_, rfl, _, _, _, [], _, [], hW', trodAll_mk1 (shut_bool Tryd.underlying4 _), trodAll_cons_mk (Below.trod laidOut (by kernel_rfl) (of_decide_eq_true (by kernel_rfl)) k0 bel lt0) (trodAll_cons_mk (Below.trod laidOut (by kernel_rfl) (of_decide_eq_true (by kernel_rfl)) k1 bel lt1) trodAll_mk0), rfl, bel.frame _, fun h => by cases h⟩

theorem laid_met (os : Os) : laidMet Tryd.prog Rows.hashNestedRow.laid ((laidWorld os).forCall (fun _ _ => 0) ⟨#[], #[.slice none 0 0, .slice none 0 0], []⟩).memory :=
  laidMet_of_run' 8 (by kernel_rfl) (by kernel_rfl)
theorem reads (os : Os) {H : Type} (enc : TypeId × Value → H) : ∃ places, DataW.whole enc Tryd.prog ((laidWorld os).forCall (fun _ _ => 0) ⟨#[], #[.slice none 0 0, .slice none 0 0], []⟩).memory Tryd.f3.params.toList Rows.hashNestedSpec.vars false #[Value.slice none 0 0, Value.slice none 0 0].toList 8 = some ([.nil, .nil], [], places) :=
  ⟨[], by kernel_rfl⟩

set_option maxRecDepth 100000 in
theorem lifted (os : Os) (started : os.Started) (H : Type) (enc : TypeId × Value → H) (F : Stop.Interp) :
    ReturnsInHanded {} Tryd.checked os 3 .any ((OpenSpec.ofChange Rows.hashNestedSpec).preRow enc Tryd.prog Tryd.f3 Rows.hashNestedRow.domain false Rows.hashNestedRow.laid) (((OpenSpec.ofChange Rows.hashNestedSpec).at F).post enc Tryd.prog Tryd.f3 false true false false) := by
  obtain ⟨places, hx⟩ := reads os enc
  refine returnsInHanded_of_row (C := Tryd.checked) (s := OpenSpec.ofChange Rows.hashNestedSpec) own started (by kernel_rfl) Tryd.func3
    (witness_row_at (enc := enc) (C := Tryd.checked) false (laidWorld os) #[.slice none 0 0, .slice none 0 0] rfl (by kernel_rfl) (by kernel_rfl) (by kernel_rfl)
      (OpenSpec.preRow_of_cond 8 hx (by kernel_rfl) (fun k hk => by cases hk) (by kernel_rfl) (laid_met os))) ?_
  intro W base args ds gs before hval hW _ _ hsz hL _ _
  exact contract H enc W base args ds gs before hval hW hsz hL

theorem said : Rows.HashNestedSaid :=
  OpenClaim.holds_of_cond 3 Tryd.f3 rfl rfl rfl rfl rfl rfl rfl ⟨rfl, rfl, rfl, rfl, rfl⟩ rfl rfl rfl rfl rfl (by kernel_rfl) Tryd.func3 (by kernel_rfl)
    (of_decide_eq_true (by kernel_rfl)) (by unfold Func.isWrapper; first | (rw [if_pos (by decide +kernel)]; kernel_rfl) | (rw [if_neg (by decide +kernel)]; exact ⟨rfl, rfl⟩))
    (fun os started H enc _ F => by rw [OpenClaim.pre_eq_preRow]; exact lifted os started H enc F)

/-- No parameter wants a stand-in; the program's own looks are off. -/
theorem plain (f : FuncId) (fn : Func) (hf : Tryd.pinned.checked.prog.funcNamed "posthorn/posthornlaw03.HashNested" = some f) (hfn : Tryd.pinned.checked.prog.funcs[f]? = some fn) :
    false = Tryd.pinned.checked.prog.looks [] ∧ ∀ (j : Nat) t, fn.params[j]? = some t → Tryd.pinned.checked.prog.wantsStandIn t = false := by
  obtain rfl : f = 3 := Option.some.inj ((show Tryd.prog.funcNamed "posthorn/posthornlaw03.HashNested" = some 3 by kernel_rfl).symm.trans hf) |>.symm
  obtain rfl : fn = Tryd.f3 := (Option.some.inj (Tryd.func3.symm.trans hfn)).symm
  refine ⟨by kernel_rfl, fun j t ht => ?_⟩
  rw [Tryd.params3] at ht
  have hm : t ∈ [22, 22] := by simpa using Array.mem_of_getElem? ht
  have hall : ([22, 22].all fun u => !Tryd.prog.wantsStandIn u) = true := by kernel_rfl
  exact (show Tryd.prog.wantsStandIn t = false by simpa using List.all_eq_true.1 hall t hm)

/-- The card. -/
theorem card : Rows.HashNestedCardSaid :=
  Claim7.holds_tied_plain_at .later [] _ _ _ _ said (fun _ h => by cases h) (by kernel_rfl) (fun _ h => by cases h) hashNested_row_tie rfl ⟨rfl, rfl⟩ (by kernel_rfl) rfl plain (by kernel_rfl)
end Go.Proofs.YtlkflikhbkhpeabDoor.hashNested
namespace Go.Proofs.YtlkflikhbkhpeabDoor
theorem hashNested_card : Rows.HashNestedCardSaid := hashNested.card
#print axioms hashNested_card
end Go.Proofs.YtlkflikhbkhpeabDoor
