/-
  P3.5: a short key and one more byte 0, a long key and its digest, make the same keyed digest; proved with no condition on the input.
-/
import Derived.Test.YtlkflikhbkhpeaaDoorHead
import Derived.Test.YtlkflikhbkhpeaaDoorMac
import Derived.Test.YtlkflikhbkhpeaaDoorEqd
import Derived.Test.YtlkflikhbkhpeaaDoorApps
import Derived.Test.YtlkflikhbkhpeaaDoorOpen
namespace Go.Proofs.YtlkflikhbkhpeaaDoor.hashKeys
open Go.ChangeShapes Go.WideShapes Go.ChangeAt Go.RowKit

theorem same_mac (l m k : List UInt8) (h : mac k m = mac l m) (w : World) : (binOp .eql 23 (.agg (rowV (mac l m))) (.agg (rowV (mac k m)))).run Tryd.prog w = .ok (.bool true) w := by
  rw [h]
  exact eql_row (mac l m) (mac_length l m) w

set_option maxHeartbeats 1000000 in
set_option maxRecDepth 100000 in
theorem walk {w : World} (a : Option Addr) (l : List UInt8) (ca : Nat) (hra : Bts a l w) (hla : l.length ≤ 140737488351232) (_hca : l.length ≤ ca) (_hna : a = none → ca = 0) (b : Option Addr) (m : List UInt8) (cb : Nat) (hrb : Bts b m w) (hlb : m.length ≤ 140737488351232) (_hcb : m.length ≤ cb) (_hnb : b = none → cb = 0) (ht : Tabs w) :
    Calls Tryd.prog 8 #[.slice a l.length ca, .slice b m.length cb] w fun e w' => e = .returned (.bool true) ∧ Below w.heap.size w w' := by
  have HRA : Hid (Bts a l w) := hra
  have HRB : Hid (Bts b m w) := hrb
  have HLA : Hid (l.length ≤ 140737488351232) := hla
  have HLB : Hid (m.length ≤ 140737488351232) := hlb
  have HT : Hid (Tabs w) := ht
  clear hra hrb hlb ht
  obtain ⟨n, hn⟩ : ∃ n, n = l.length := ⟨_, rfl⟩
  have HN : Hid (n = l.length) := hn
  rw [← hn] at hla
  have hcop := fun (v : World) (h : Bts a l v) => copied_any a l ca v h (by have := HLA.out; omega)
  have HCOP : Hid (∀ v, Bts a l v → Calls Tryd.prog 10 #[.slice a n ca] v fun e w' => ∃ u, e = .returned u ∧ w'.ownsRow v.heap.size 5 1 u n (cellsB l) ∧ Below v.heap.size v w') := by
    rw [hn]
    exact hcop
  rw [← hn]
  clear hn hcop
  go_enter Tryd.func8, Tryd.ntmps8
  go_wp2_with fail
  refine (head_any w HT.out).mono ?_
  rintro e w1 ⟨rfl, hb1⟩
  have HB1 : Hid (Below w.heap.size w w1) := hb1
  clear hb1
  go_wp2_with fail
  refine Calls.mono (HCOP.out w1 (HRA.out.below HB1.out)) ?_
  rintro e w2 ⟨u2, rfl, hown, hb2⟩
  have HO2 : Hid (w2.ownsRow w1.heap.size 5 1 u2 n (cellsB l)) := hown
  have HS2 : Hid (Below w1.heap.size w1 w2) := hb2
  clear hown hb2
  by_cases h64 : n = 64
  · have hI : (n : Int) = 64 := by omega
    go_wp2_with (at_builtin; refine wpList_append_byte rfl _ _ rfl w1.heap.size u2 n l rfl (HO2.out.alloc _) w2 0 0 rfl rfl 1 rfl (by omega) HS2.out.size ?_; intro v3 w3 hown3 hbel3; have HB3 : Hid (Below w.heap.size w w3) := HB1.out.trans ((hbel3 _ _ HS2.out (Nat.le_refl _)).mono HB1.out.size); clear hown3 hbel3)
    go_ret
    exact ⟨rfl, HB3.out⟩
  by_cases hgt : 64 < n
  · go_wp2_with (at_builtin; refine wpList_append_byte rfl _ _ rfl w1.heap.size u2 n l rfl (HO2.out.alloc _) w2 0 0 rfl rfl 1 rfl (by omega) HS2.out.size ?_; intro v3 w3 hown3 hbel3; have HB3 : Hid (Below w.heap.size w w3) := HB1.out.trans ((hbel3 _ _ HS2.out (Nat.le_refl _)).mono HB1.out.size); clear hown3 hbel3)
    refine Calls.mono (HCOP.out w3 (HRA.out.below HB3.out)) ?_
    rintro e w4 ⟨u4, rfl, hown4, hb4⟩
    obtain ⟨a4, c4, rfl, hbt4, hlen4, hn4, hc4, hlt4⟩ := own_bts hown4
    have HB4 : Hid (Below w.heap.size w w4) := HB3.out.trans (hb4.mono HB3.out.size)
    have hmd := md5_any a4 l c4 w4 hbt4 (fun ad e => (hlt4 ad e).2.1) (by rw [hlen4]; exact hc4) (HT.out.below HB4.out) (by rw [hlen4]; omega)
    rw [hlen4] at hmd
    have HMD : Hid _ := hmd
    clear hown4 hb4 hbt4 hlen4 hn4 hc4 hlt4 hmd
    go_wp2_with fail
    refine Calls.mono HMD.out ?_
    clear HMD
    rintro e w5 ⟨rfl, hb5⟩
    have HB5 : Hid (Below w.heap.size w w5) := HB4.out.trans (hb5.mono HB4.out.size)
    clear hb5
    go_wp2_with (refine wpList_store_row rfl 23 _ _ rfl w5.heap.size rfl _ (rowV (md5 l)) rfl 23 (Lies.new w5 _ _) (infoMd l) (by rw [rowV_size, md5_length]; rfl) (rowV_one _) rfl ?_; refine wpList_gen (fun w6 => Hid (Lies w6 w5.heap.size (rowV (md5 l)) 23) ∧ Hid (Below w.heap.size w w6)) ⟨(Lies.new w5 _ _).row _, below_row (HB5.out.alloc HB5.out.size _) HB5.out.size _⟩ ?_; rintro w6 ⟨HM6, HB6⟩)
    refine Calls.mono (HCOP.out w6 (HRA.out.below HB6.out)) ?_
    rintro e w7 ⟨u7, rfl, hown7, hb7⟩
    obtain ⟨a7, c7, rfl, hbt7, hlen7, hn7, hc7, hlt7⟩ := own_bts hown7
    have HB7 : Hid (Below w.heap.size w w7) := HB6.out.trans (hb7.mono HB6.out.size)
    have HM7 : Hid (Lies w7 w5.heap.size (rowV (md5 l)) 23) := HM6.out.below hb7 HM6.out.lt
    have HR7 : Hid (Bts a7 l w7) := hbt7
    have HQ7 : Hid (∀ ad, a7 = some ad → ad.block < w7.heap.size) := fun ad e => (hlt7 ad e).2.1
    have HC7 : Hid (l.length ≤ c7) := by rw [← HN.out]; exact hc7
    clear hown7 hb7 hbt7 hlen7 hn7 hc7 hlt7
    go_wp2_with fail
    refine (copied_any b m cb w7 (HRB.out.below HB7.out) (by have := HLB.out; omega)).mono ?_
    rintro e w8 ⟨u8, rfl, hown8, hb8⟩
    obtain ⟨b8, c8, rfl, hbt8, hlen8, hn8, hc8, hlt8⟩ := own_bts hown8
    have HB8 : Hid (Below w.heap.size w w8) := HB7.out.trans (hb8.mono HB7.out.size)
    have HM8 : Hid (Lies w8 w5.heap.size (rowV (md5 l)) 23) := HM7.out.below hb8 HM7.out.lt
    have hmac := mac_any a7 b8 l m c7 c8 w8 (HR7.out.below hb8) hbt8 (fun ad e => Nat.lt_of_lt_of_le (HQ7.out ad e) hb8.size) (fun ad e => (hlt8 ad e).2.1) HC7.out hc8 (HT.out.below HB8.out) (by have := HLA.out; omega) (by have := HLB.out; omega)
    rw [← HN.out] at hmac
    have HMAC : Hid _ := hmac
    clear hown8 hb8 hbt8 hlen8 hn8 hc8 hlt8 hmac
    go_wp2_with fail
    refine Calls.mono HMAC.out ?_
    clear HMAC
    rintro e w9 ⟨rfl, hb9⟩
    have HB9 : Hid (Below w.heap.size w w9) := HB8.out.trans (hb9.mono HB8.out.size)
    have HM9 : Hid (Lies w9 w5.heap.size (rowV (md5 l)) 23) := HM8.out.below hb9 HM8.out.lt
    clear hb9
    go_wp2_with fail
    refine (copied_any b m cb w9 (HRB.out.below HB9.out) (by have := HLB.out; omega)).mono ?_
    rintro e w10 ⟨u10, rfl, hown10, hb10⟩
    obtain ⟨b10, c10, rfl, hbt10, hlen10, hn10, hc10, hlt10⟩ := own_bts hown10
    have HB10 : Hid (Below w.heap.size w w10) := HB9.out.trans (hb10.mono HB9.out.size)
    have HM10 : Hid (Lies w10 w5.heap.size (rowV (md5 l)) 23) := HM9.out.below hb10 HM9.out.lt
    have hmac := mac_any (some ⟨w5.heap.size, 0, none⟩) b10 (md5 l) m 16 c10 w10 (lies_bts HM10.out) hbt10 (some_lt HM10.out.lt) (fun ad e => (hlt10 ad e).2.1) (by rw [md5_length]; omega) hc10 (HT.out.below HB10.out) (by rw [md5_length]; omega) (by have := HLB.out; omega)
    rw [md5_length] at hmac
    have HMAC : Hid _ := hmac
    clear hown10 hb10 hbt10 hlen10 hn10 hc10 hlt10 hmac
    go_wp2_with fail
    refine Calls.mono HMAC.out ?_
    clear HMAC
    rintro e w11 ⟨rfl, hb11⟩
    have HB11 : Hid (Below w.heap.size w w11) := HB10.out.trans (hb11.mono HB10.out.size)
    clear hb11
    have heq := same_mac l m (md5 l) (mac_long l m (by rw [← HN.out]; exact hgt))
    go_wp2
    go_ret
    exact ⟨rfl, HB11.out⟩
  · go_wp2_with (at_builtin; refine wpList_append_byte rfl _ _ rfl w1.heap.size u2 n l rfl (HO2.out.alloc _) w2 0 0 rfl rfl 1 rfl (by omega) HS2.out.size ?_; intro v3 w3 hown3 hbel3; have HO3 : Hid (w3.ownsRow w1.heap.size 5 1 v3 (n + 1) (cellsB (l ++ [0]))) := hown3; have HB3 : Hid (Below w.heap.size w w3) := HB1.out.trans ((hbel3 _ _ HS2.out (Nat.le_refl _)).mono HB1.out.size); clear hown3 hbel3)
    obtain ⟨a3, c3, rfl, hbt3, hlen3, hn3, hc3, hlt3⟩ := own_bts HO3.out
    have HR3 : Hid (Bts a3 (l ++ [0]) w3) := hbt3
    have HQ3 : Hid (∀ ad, a3 = some ad → ad.block < w3.heap.size) := fun ad e => (hlt3 ad e).2.1
    have HC3 : Hid ((l ++ [0]).length ≤ c3) := by rw [hlen3]; exact hc3
    have HL3 : Hid ((l ++ [0]).length = n + 1) := hlen3
    clear hbt3 hlen3 hn3 hc3 hlt3 HO3
    refine Calls.mono (HCOP.out w3 (HRA.out.below HB3.out)) ?_
    rintro e w7 ⟨u7, rfl, hown7, hb7⟩
    obtain ⟨a7, c7, rfl, hbt7, hlen7, hn7, hc7, hlt7⟩ := own_bts hown7
    have HB7 : Hid (Below w.heap.size w w7) := HB3.out.trans (hb7.mono HB3.out.size)
    have HS7 : Hid (Below w3.heap.size w3 w7) := hb7
    have HR7 : Hid (Bts a7 l w7) := hbt7
    have HQ7 : Hid (∀ ad, a7 = some ad → ad.block < w7.heap.size) := fun ad e => (hlt7 ad e).2.1
    have HC7 : Hid (l.length ≤ c7) := by rw [← HN.out]; exact hc7
    clear hown7 hb7 hbt7 hlen7 hn7 hc7 hlt7
    go_wp2_with fail
    refine (copied_any b m cb w7 (HRB.out.below HB7.out) (by have := HLB.out; omega)).mono ?_
    rintro e w8 ⟨u8, rfl, hown8, hb8⟩
    obtain ⟨b8, c8, rfl, hbt8, hlen8, hn8, hc8, hlt8⟩ := own_bts hown8
    have HB8 : Hid (Below w.heap.size w w8) := HB7.out.trans (hb8.mono HB7.out.size)
    have HS8 : Hid (Below w3.heap.size w3 w8) := HS7.out.trans (hb8.mono HS7.out.size)
    have hmac := mac_any a7 b8 l m c7 c8 w8 (HR7.out.below hb8) hbt8 (fun ad e => Nat.lt_of_lt_of_le (HQ7.out ad e) hb8.size) (fun ad e => (hlt8 ad e).2.1) HC7.out hc8 (HT.out.below HB8.out) (by have := HLA.out; omega) (by have := HLB.out; omega)
    rw [← HN.out] at hmac
    have HMAC : Hid _ := hmac
    clear hown8 hb8 hbt8 hlen8 hn8 hc8 hlt8 hmac
    go_wp2_with fail
    refine Calls.mono HMAC.out ?_
    clear HMAC
    rintro e w9 ⟨rfl, hb9⟩
    have HB9 : Hid (Below w.heap.size w w9) := HB8.out.trans (hb9.mono HB8.out.size)
    have HS9 : Hid (Below w3.heap.size w3 w9) := HS8.out.trans (hb9.mono HS8.out.size)
    clear hb9
    go_wp2_with fail
    refine (copied_any b m cb w9 (HRB.out.below HB9.out) (by have := HLB.out; omega)).mono ?_
    rintro e w10 ⟨u10, rfl, hown10, hb10⟩
    obtain ⟨b10, c10, rfl, hbt10, hlen10, hn10, hc10, hlt10⟩ := own_bts hown10
    have HB10 : Hid (Below w.heap.size w w10) := HB9.out.trans (hb10.mono HB9.out.size)
    have HS10 : Hid (Below w3.heap.size w3 w10) := HS9.out.trans (hb10.mono HS9.out.size)
    have hmac := mac_any a3 b10 (l ++ [0]) m c3 c10 w10 (HR3.out.below HS10.out) hbt10 (fun ad e => Nat.lt_of_lt_of_le (HQ3.out ad e) HS10.out.size) (fun ad e => (hlt10 ad e).2.1) HC3.out hc10 (HT.out.below HB10.out) (by rw [HL3.out]; omega) (by have := HLB.out; omega)
    rw [HL3.out] at hmac
    have HMAC : Hid _ := hmac
    clear hown10 hb10 hbt10 hlen10 hn10 hc10 hlt10 hmac
    go_wp2_with fail
    refine Calls.mono HMAC.out ?_
    clear HMAC
    rintro e w11 ⟨rfl, hb11⟩
    have HB11 : Hid (Below w.heap.size w w11) := HB10.out.trans (hb11.mono HB10.out.size)
    clear hb11
    have heq := same_mac l m (l ++ [0]) (mac_short l m (by rw [← HN.out]; omega))
    go_wp2
    go_ret
    exact ⟨rfl, HB11.out⟩

theorem contract (H : Type) (enc : TypeId × Value → H) (W : World) (base : Nat) (args : Array Value) (ds gs : List (DataW H)) (before : List MemPlace)
    (hval : ∀ (j : Nat) t v, Tryd.f8.params[j]? = some t → args[j]? = some v → Value.okWide Tryd.prog W .any base t v)
    (hW : DataW.Whole enc Tryd.prog Tryd.f8.params.toList Rows.hashKeysSpec.vars false W args.toList ds gs before)
    (hsz : (DataW.weightsEach Tryd.prog (Tryd.f8.params.toList ++ (OpenSpec.ofChange Rows.hashKeysSpec).bare.plain.varTypes Tryd.prog) (ds ++ gs)).all (· ≤ reachBytes) = true)
    (hL : laidMetH Tryd.prog Rows.hashKeysRow.laid W) :
    Calls Tryd.prog 8 args W fun e W' => ∃ v, e = .returned v ∧ Rows.hashKeysSpec.post enc Tryd.prog Tryd.f8 false true false false W args v W' := by
  have hW' := hW
  obtain ⟨p, q, hA0, hV, rfl, hfz, hnd⟩ := hW
  have hA : DataW.TrodAll enc Tryd.prog W 0 (fun _ => true) true Tryd.f8.params.toList args.toList ds p := hA0
  rw [Tryd.params8] at hA hval hsz
  obtain ⟨v0, vs0, d0, ds0, p0, q0, hargs, rfl, rfl, h0, r0⟩ := trodAll_cons hA
  obtain ⟨v1, vs1, d1, ds1, p1, q1, rfl, rfl, rfl, h1, r1⟩ := trodAll_cons r0
  obtain ⟨rfl, rfl, rfl⟩ := trodAll_nil r1
  obtain rfl : args = #[v0, v1] := by cases args; simp_all
  obtain ⟨rfl, rfl⟩ := trodVars_none hV
  have k0 := h0
  have lt0 : ∀ x ∈ p0, x.block < W.heap.size := by obtain ⟨m, hm⟩ := k0; exact DataW.trod_lt m _ _ _ hm
  obtain ⟨a0, len0, cap0, rfl⟩ := okWide_slice Tryd.underlying22 (hval 0 22 v0 rfl rfl)
  obtain ⟨l0, e0, row0, cp0, bd0⟩ := open_bytes h0
  have nn0 := open_none k0
  have s0 : l0.length ≤ 140737488351232 := by
    rcases bd0 with ⟨el, sp, rfl, hl⟩ | ⟨rfl, hl⟩
    · have := sized_slice hsz (j := 0) (t := 22) (e := 5) rfl rfl Tryd.underlying22
      rw [bytes5] at this
      simp only [reachBytes] at this
      omega
    · omega
  subst e0
  have k1 := h1
  have lt1 : ∀ x ∈ p1, x.block < W.heap.size := by obtain ⟨m, hm⟩ := k1; exact DataW.trod_lt m _ _ _ hm
  obtain ⟨a1, len1, cap1, rfl⟩ := okWide_slice Tryd.underlying22 (hval 1 22 v1 rfl rfl)
  obtain ⟨l1, e1, row1, cp1, bd1⟩ := open_bytes h1
  have nn1 := open_none k1
  have s1 : l1.length ≤ 140737488351232 := by
    rcases bd1 with ⟨el, sp, rfl, hl⟩ | ⟨rfl, hl⟩
    · have := sized_slice hsz (j := 1) (t := 22) (e := 5) rfl rfl Tryd.underlying22
      rw [bytes5] at this
      simp only [reachBytes] at this
      omega
    · omega
  subst e1
  clear hA0
  refine (walk a0 l0 cap0 row0 s0 cp0 nn0 a1 l1 cap1 row1 s1 cp1 nn1 (tabs_of hL)).mono fun e W' ⟨he, bel⟩ => ?_
  subst he
  exact ⟨_, rfl, _, _, _, [], _, [], hW', trodAll_mk1 (shut_bool Tryd.underlying4 _), trodAll_cons_mk (Below.trod laidOut (by kernel_rfl) (of_decide_eq_true (by kernel_rfl)) k0 bel lt0) (trodAll_cons_mk (Below.trod laidOut (by kernel_rfl) (of_decide_eq_true (by kernel_rfl)) k1 bel lt1) trodAll_mk0), rfl, bel.frame _, fun h => by cases h⟩

theorem laid_met (os : Os) : laidMet Tryd.prog Rows.hashKeysRow.laid ((laidWorld os).forCall (fun _ _ => 0) ⟨#[], #[.slice none 0 0, .slice none 0 0], []⟩).memory :=
  laidMet_of_run' 8 (by kernel_rfl) (by kernel_rfl)
theorem reads (os : Os) {H : Type} (enc : TypeId × Value → H) : ∃ places, DataW.whole enc Tryd.prog ((laidWorld os).forCall (fun _ _ => 0) ⟨#[], #[.slice none 0 0, .slice none 0 0], []⟩).memory Tryd.f8.params.toList Rows.hashKeysSpec.vars false #[Value.slice none 0 0, Value.slice none 0 0].toList 8 = some ([.nil, .nil], [], places) :=
  ⟨[], by kernel_rfl⟩

set_option maxRecDepth 100000 in
theorem lifted (os : Os) (started : os.Started) (H : Type) (enc : TypeId × Value → H) (F : Stop.Interp) :
    ReturnsInHanded {} Tryd.checked os 8 .any ((OpenSpec.ofChange Rows.hashKeysSpec).preRow enc Tryd.prog Tryd.f8 Rows.hashKeysRow.domain false Rows.hashKeysRow.laid) (((OpenSpec.ofChange Rows.hashKeysSpec).at F).post enc Tryd.prog Tryd.f8 false true false false) := by
  obtain ⟨places, hx⟩ := reads os enc
  refine returnsInHanded_of_row (C := Tryd.checked) (s := OpenSpec.ofChange Rows.hashKeysSpec) own started (by kernel_rfl) Tryd.func8
    (witness_row_at (enc := enc) (C := Tryd.checked) false (laidWorld os) #[.slice none 0 0, .slice none 0 0] rfl (by kernel_rfl) (by kernel_rfl) (by kernel_rfl)
      (OpenSpec.preRow_of_cond 8 hx (by kernel_rfl) (fun k hk => by cases hk) (by kernel_rfl) (laid_met os))) ?_
  intro W base args ds gs before hval hW _ _ hsz hL _ _
  exact contract H enc W base args ds gs before hval hW hsz hL

theorem said : Rows.HashKeysSaid :=
  OpenClaim.holds_of_cond 8 Tryd.f8 rfl rfl rfl rfl rfl rfl rfl ⟨rfl, rfl, rfl, rfl, rfl⟩ rfl rfl rfl rfl rfl (by kernel_rfl) Tryd.func8 (by kernel_rfl)
    (of_decide_eq_true (by kernel_rfl)) (by unfold Func.isWrapper; first | (rw [if_pos (by decide +kernel)]; kernel_rfl) | (rw [if_neg (by decide +kernel)]; exact ⟨rfl, rfl⟩))
    (fun os started H enc _ F => by rw [OpenClaim.pre_eq_preRow]; exact lifted os started H enc F)

/-- No parameter wants a stand-in; the program's own looks are off. -/
theorem plain (f : FuncId) (fn : Func) (hf : Tryd.pinned.checked.prog.funcNamed "posthorn/posthornlaw03.HashKeys" = some f) (hfn : Tryd.pinned.checked.prog.funcs[f]? = some fn) :
    false = Tryd.pinned.checked.prog.looks [] ∧ ∀ (j : Nat) t, fn.params[j]? = some t → Tryd.pinned.checked.prog.wantsStandIn t = false := by
  obtain rfl : f = 8 := Option.some.inj ((show Tryd.prog.funcNamed "posthorn/posthornlaw03.HashKeys" = some 8 by kernel_rfl).symm.trans hf) |>.symm
  obtain rfl : fn = Tryd.f8 := (Option.some.inj (Tryd.func8.symm.trans hfn)).symm
  refine ⟨by kernel_rfl, fun j t ht => ?_⟩
  rw [Tryd.params8] at ht
  have hm : t ∈ [22, 22] := by simpa using Array.mem_of_getElem? ht
  have hall : ([22, 22].all fun u => !Tryd.prog.wantsStandIn u) = true := by kernel_rfl
  exact (show Tryd.prog.wantsStandIn t = false by simpa using List.all_eq_true.1 hall t hm)

/-- The card. -/
theorem card : Rows.HashKeysCardSaid :=
  Claim7.holds_tied_plain_at .later [] _ _ _ _ said (fun _ h => by cases h) (by kernel_rfl) (fun _ h => by cases h) hashKeys_row_tie rfl ⟨rfl, rfl⟩ (by kernel_rfl) rfl plain (by kernel_rfl)
end Go.Proofs.YtlkflikhbkhpeaaDoor.hashKeys
namespace Go.Proofs.YtlkflikhbkhpeaaDoor
theorem hashKeys_card : Rows.HashKeysCardSaid := hashKeys.card
#print axioms hashKeys_card
end Go.Proofs.YtlkflikhbkhpeaaDoor
