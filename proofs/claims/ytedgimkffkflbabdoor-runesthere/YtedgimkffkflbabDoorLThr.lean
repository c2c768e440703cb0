/-
  P5.8: Punycode is read as it was written, and what is read is written as it was, but for capitals.
-/
import Derived.Test.YtedgimkffkflbabDoorOpen5
import Derived.Test.YtedgimkffkflbabDoorRPu
import Derived.Test.YtedgimkffkflbabDoorRUnw
import Derived.Test.YtedgimkffkflbabDoorWak
import Derived.Test.YtedgimkffkflbabDoorSml
import Derived.Test.YtedgimkffkflbabDoorCard5
import Derived.ProofKit
import Derived.ChangeMaps5
import Derived.OpenShut
import Derived.ShutString
import Derived.ChangeOld
import Derived.SizedLaws
namespace Go.Proofs.YtedgimkffkflbabDoor.runesThere
open Go.ChangeShapes Go.WideShapes Go.ChangeAt Go.RowKit
open Go.ChangeMaps (open_string shut_string)

theorem punL_len (l : List Int) : ∀ (rest : List Nat) (f : Nat → Int) (n : Int) (i h bias : Nat) (first : Bool) (d : List UInt8), punL l rest f n i h bias first = some d → d.length ≤ 11 * rest.length
  | [], _, _, _, _, _, _, d, e => by
    simp only [punL] at e
    injection e with e
    subst e
    exact Nat.zero_le _
  | a :: rest, f, n, i, h, bias, first, d, e => by
    simp only [punL] at e
    split at e
    · cases e
    · rename_i hov
      rw [Option.map_eq_some_iff] at e
      obtain ⟨d', e1, e2⟩ := e
      subst e2
      have h1 := punL_len l rest _ _ _ _ _ _ d' e1
      have h2 := digs_short (stp l f n i h a).toNat 0 bias 10 (by omega)
      rw [List.length_append, List.length_cons]
      omega
theorem punT_ok (l : List Int) (h : punE l = 0) : (∀ r ∈ l, isR r) ∧ ∃ d, punD l = some d ∧ punT l = ⟨(punH l ++ d).toArray⟩ ∧ (punH l ++ d).length ≤ 12 * l.length + 1 := by
  unfold punE at h
  by_cases hn : noR l < l.length
  · rw [if_pos hn] at h
    omega
  · rw [if_neg hn] at h
    refine ⟨(noR_all l).1 (by have := noR_le l; omega), ?_⟩
    cases hd : punD l with
    | none => rw [hd] at h; simp at h
    | some d =>
      refine ⟨d, rfl, by unfold punT; rw [if_neg hn, hd], ?_⟩
      have h1 := punL_len l _ _ _ _ _ _ _ d hd
      have h2 := ordW_length l
      have h3 := lowB_length l l.length
      unfold punH
      rw [List.length_append, List.length_append]
      split
      · simp; omega
      · simp; omega
theorem punT_of (u : List Int) (hR : ∀ r ∈ u, isR r) (d : List UInt8) (hd : punD u = some d) : punT u = ⟨(punH u ++ d).toArray⟩ ∧ punE u = 0 := by
  have hn : ¬ noR u < u.length := by have := (noR_all u).2 hR; omega
  unfold punT punE
  rw [if_neg hn, if_neg hn, hd]
  exact ⟨rfl, rfl⟩
theorem unp_bad (s : List UInt8) (h : (unpE s).1 ≠ 0) : unpT s = [] := by
  unfold unpE at h
  unfold unpT
  by_cases hhi : hiN (s.take (mrkN s)) < mrkN s
  · rw [if_pos hhi]
  · rw [if_neg hhi] at h ⊢
    cases hU : unpD s with
    | inl e => rfl
    | inr ps => rw [hU] at h; exact absurd rfl h
theorem unp_short (l : List UInt8) : (unpT l).length ≤ 2 * l.length := by
  unfold unpT
  split
  · simp
  · cases h : unpD l with
    | inl e => simp
    | inr ps =>
      simp only
      have h0 : (lowR (l.take (mrkN l))).length = mrkN l := by
        unfold lowR
        rw [List.length_map, List.length_take]
        have := mrkN_le l
        omega
      obtain ⟨h1, h2⟩ := unL_ok l _ _ _ _ _ _ _ _ (by omega) h
      rw [insAll_length _ _ (by rw [h0]; exact h1), h0]
      have := mrkN_le l
      omega
theorem unp_puny (s : ByteArray) (h : (unpE s.data.toList).1 = 0) : punT (unpT s.data.toList) = ⟨(smallL s.data.toList).toArray⟩ ∧ punE (unpT s.data.toList) = 0 := by
  obtain ⟨h1, d, h2, h3⟩ := puny_back s.data.toList h
  obtain ⟨h4, h5⟩ := punT_of _ h1 d h2
  rw [h3] at h4
  exact ⟨h4, h5⟩

set_option maxHeartbeats 8000000 in
set_option maxRecDepth 100000 in
theorem walk {w : World} (a : Option Addr) (l : List Int) (cap : Nat) (hr : Nts .i32 a l w) (hl : l.length ≤ 1048576) (h32 : ∀ x ∈ l, -2147483648 ≤ x ∧ x ≤ 2147483647) (s : ByteArray) (hs : s.size ≤ 1048576) (ht : Tb w) :
    Calls Tryd.prog 3 #[.slice a l.length cap, .string s] w fun e w' => e = .returned (.bool true) ∧ Below w.heap.size w w' := by
  have HL : Hid (Nts .i32 a l w) := hr
  have HT : Hid (Tb w) := ht
  have HX : Hid (∀ x ∈ l, -2147483648 ≤ x ∧ x ≤ 2147483647) := h32
  have hll := len_list s
  have hds := unp_short s.data.toList
  have HUN : Hid (∀ (z : ByteArray) (wx : World), z.size ≤ 268435456 → Below w.heap.size w wx → Calls Tryd.prog 7 #[.string z] wx fun e w' => (∃ v, e = .returned (.tuple #[v, .agg (unpV z.data.toList)]) ∧ w'.ownsRow wx.heap.size 21 1 v (unpT z.data.toList).length (cellsN .i32 (unpT z.data.toList))) ∧ Below wx.heap.size wx w') := fun z wx hz hx => unp_any z wx ((HT.out.below hx (Nat.le_refl _)).tab) ((HT.out.below hx (Nat.le_refl _)).gcl) hz
  have HWK : Hid (∀ wx, Below w.heap.size w wx → Calls Tryd.prog 10 #[] wx fun e w' => e = .returned (.bool true) ∧ Below wx.heap.size wx w') := fun wx hx => wakes_any wx (HT.out.below hx (Nat.le_refl _))
  have hP := puny_any a l cap w hr (by omega)
  have HP : Hid (∀ wx, Below w.heap.size w wx → Calls Tryd.prog 6 #[.slice a l.length cap] wx fun e w' => e = .returned (.tuple #[.string (punT l), .int .i64 (punE l)]) ∧ Below wx.heap.size wx w') := fun wx hx => dpuny_any a l cap wx (HL.out.below hx) (by omega) HX.out
  have HOK : Hid (punE l = 0 → (∀ r ∈ l, isR r) ∧ ∃ d, punD l = some d ∧ punT l = ⟨(punH l ++ d).toArray⟩ ∧ (punH l ++ d).length ≤ 12 * l.length + 1) := fun h => punT_ok l h
  have HBAD : Hid ((unpE s.data.toList).1 ≠ 0 → unpT s.data.toList = []) := fun h => unp_bad _ h
  have HBK0 : Hid ((unpE s.data.toList).1 = 0 → punT (unpT s.data.toList) = ⟨(smallL s.data.toList).toArray⟩ ∧ punE (unpT s.data.toList) = 0) := fun h => unp_puny s h
  have HSM : Hid (∀ wx, Calls Tryd.prog 11 #[.string s] wx fun e w' => e = .returned (.string ⟨(smallL s.data.toList).toArray⟩) ∧ Below wx.heap.size wx w') := fun wx => small_any s wx (by omega)
  have HUNs : Hid (∀ (wx : World), Below w.heap.size w wx → Calls Tryd.prog 7 #[.string s] wx fun e w' => (∃ v, e = .returned (.tuple #[v, .agg #[.int .i64 ((unpE s.data.toList).1 : Nat), .int .i64 ((unpE s.data.toList).2 : Nat)]]) ∧ w'.ownsRow wx.heap.size 21 1 v (unpT s.data.toList).length (cellsN .i32 (unpT s.data.toList))) ∧ Below wx.heap.size wx w') := fun wx hx => HUN.out s wx (by omega) hx
  have HDU : Hid (∀ (wx : World), Calls Tryd.prog 9 #[.string s] wx fun e w' => (∃ v, e = .returned (.tuple #[v, .agg #[.int .i64 ((unpE s.data.toList).1 : Nat), .int .i64 ((unpE s.data.toList).2 : Nat)]]) ∧ w'.ownsRow wx.heap.size 21 1 v (unpT s.data.toList).length (cellsN .i32 (unpT s.data.toList))) ∧ Below wx.heap.size wx w') := fun wx => dunp_any s wx (by omega)
  have HPU : Hid (∀ wx b c, Nts .i32 b (unpT s.data.toList) wx → Calls Tryd.prog 5 #[.slice b (unpT s.data.toList).length c] wx fun e w' => e = .returned (.tuple #[.string (punT (unpT s.data.toList)), .int .i64 (punE (unpT s.data.toList))]) ∧ Below wx.heap.size wx w') := fun wx b c hb => puny_any b _ c wx hb (by omega)
  clear hr h32 ht
  generalize smallL s.data.toList = SM at *
  generalize unpT s.data.toList = U at *
  generalize (unpE s.data.toList).1 = x at *
  generalize (unpE s.data.toList).2 = y at *
  obtain ⟨X, hXx⟩ : ∃ X : Int, (x : Int) = X := ⟨_, rfl⟩
  rw [hXx] at HUNs HDU
  have HX0 : Hid (X = 0 → x = 0) := fun h => by omega
  have HX1 : Hid (¬ X = 0 → x ≠ 0) := fun h => by omega
  clear hXx
  obtain ⟨PT, hPT⟩ : ∃ PT, punT l = PT := ⟨_, rfl⟩
  obtain ⟨PE, hPE⟩ : ∃ PE, punE l = PE := ⟨_, rfl⟩
  rw [hPT, hPE] at hP HP HOK
  have HPT : Hid (punT l = PT) := hPT
  clear hPT hPE
  go_enter Tryd.func3, Tryd.ntmps3
  go_wp2_with fail
  refine hP.mono ?_
  rintro e w1 ⟨rfl, b1⟩
  have HB1 : Hid (Below w.heap.size w w1) := b1
  clear b1 hP
  go_wp2_with fail
  refine (HP.out _ HB1.out).mono ?_
  rintro e w2 ⟨rfl, b2⟩
  have HB2 : Hid (Below w.heap.size w w2) := HB1.out.trans (b2.mono HB1.out.size)
  clear b2 HB1 HP
  by_cases h0 : PE = 0
  case' pos =>
    subst h0
    obtain ⟨hR, d, hd, hT, hdl⟩ := HOK.out rfl
    obtain ⟨t1, t2⟩ := puny_there l hR d hd
    have hps : PT.size ≤ 268435456 := by
      rw [hT]
      show (punH l ++ d).toArray.size ≤ _
      rw [List.size_toArray]
      omega
    have hUP := HUN.out PT w2 hps HB2.out
    have e1 : PT.data.toList = punH l ++ d := by rw [hT]
    have e2 : unpV (punH l ++ d) = #[.int .i64 0, .int .i64 0] := by
      show #[Value.int .i64 ((unpE (punH l ++ d)).1 : Nat), Value.int .i64 ((unpE (punH l ++ d)).2 : Nat)] = _
      rw [t2]
      rfl
    rw [e1, t1, e2] at hUP
    clear hR hd hT hdl t1 t2 hps e1 e2 HOK HPT HUN d
    go_wp2_with fail
    refine hUP.mono ?_
    rintro e w3 ⟨⟨v3, rfl, o3⟩, b3⟩
    obtain ⟨a3, k3, rfl, n3, -⟩ := own_nts o3
    have B3 : Below w3.heap.size w3 (w3.alloc (.cells #[.int .i64 0, .int .i64 0] 27)) := (Below.refl _ w3).alloc (Nat.le_refl _) _
    have HB3 : Hid (Below w.heap.size w (w3.alloc (.cells #[.int .i64 0, .int .i64 0] 27))) := (HB2.out.trans (b3.mono HB2.out.size)).trans (B3.mono (HB2.out.trans (b3.mono HB2.out.size)).size)
    have z0 := (Lies.new w3 #[.int .i64 0, .int .i64 0] 27).cell 0
    simp only [List.getElem?_toArray, List.getElem?_cons_zero] at z0
    have HEQ := eqr_any a3 a l l k3 cap (w3.alloc (.cells #[.int .i64 0, .int .i64 0] 27)) (n3.below B3) (HL.out.below HB3.out) (by omega)
    rw [decide_eq_true rfl] at HEQ
    clear b3 B3 o3 n3 hUP HB2
    go_wp2_with fail
    refine HEQ.mono ?_
    rintro e wk ⟨rfl, q, rfl⟩
    have HBK : Hid (Below w.heap.size w ((w3.alloc (.cells #[.int .i64 0, .int .i64 0] 27)).drewN q)) := ⟨HB3.out.os, HB3.out.tape, HB3.out.output, HB3.out.size, HB3.out.block⟩
    clear HEQ HB3
    generalize (w3.alloc (.cells #[.int .i64 0, .int .i64 0] 27)).drewN q = wk at *
    clear z0
    go_wp2_with fail
  case' neg =>
    have HBK : Hid (Below w.heap.size w w2) := HB2.out
    clear HOK HPT HUN HB2
    generalize w2 = wk at *
    go_wp2_with fail
  all_goals
    refine (HUNs.out _ HBK.out).mono ?_
    rintro e w3 ⟨⟨v3, rfl, o3⟩, b3⟩
    obtain ⟨a3, k3, rfl, n3, -⟩ := own_nts o3
    have B3 : Below w3.heap.size w3 (w3.alloc (.cells #[.int .i64 X, .int .i64 y] 27)) := (Below.refl _ w3).alloc (Nat.le_refl _) _
    have HB3 : Hid (Below w.heap.size w (w3.alloc (.cells #[.int .i64 X, .int .i64 y] 27))) := (HBK.out.trans (b3.mono HBK.out.size)).trans (B3.mono (HBK.out.trans (b3.mono HBK.out.size)).size)
    have HE3 : Hid (Lies (w3.alloc (.cells #[.int .i64 X, .int .i64 y] 27)) w3.heap.size #[.int .i64 X, .int .i64 y] 27) := Lies.new w3 _ _
    have HN3 : Hid (Nts .i32 a3 U (w3.alloc (.cells #[.int .i64 X, .int .i64 y] 27))) := n3.below B3
    clear b3 B3 o3 n3 HUNs HBK
    go_wp2_with fail
    generalize w3.alloc (.cells #[.int .i64 X, .int .i64 y] 27) = w4 at *
    generalize w3.heap.size = g3 at *
    refine (HDU.out _).mono ?_
    rintro e w5 ⟨⟨v5, rfl, o5⟩, b5⟩
    obtain ⟨a5, k5, rfl, n5, -⟩ := own_nts o5
    have B5 : Below w5.heap.size w5 (w5.alloc (.cells #[.int .i64 X, .int .i64 y] 27)) := (Below.refl _ w5).alloc (Nat.le_refl _) _
    have HB5 : Hid (Below w.heap.size w (w5.alloc (.cells #[.int .i64 X, .int .i64 y] 27))) := (HB3.out.trans (b5.mono HB3.out.size)).trans (B5.mono (HB3.out.trans (b5.mono HB3.out.size)).size)
    have he5 : Lies (w5.alloc (.cells #[.int .i64 X, .int .i64 y] 27)) g3 #[.int .i64 X, .int .i64 y] 27 := (HE3.out.below b5 HE3.out.lt).alloc _
    have hf5 : Lies (w5.alloc (.cells #[.int .i64 X, .int .i64 y] 27)) w5.heap.size #[.int .i64 X, .int .i64 y] 27 := Lies.new w5 _ _
    have HN5 : Hid (Nts .i32 a3 U (w5.alloc (.cells #[.int .i64 X, .int .i64 y] 27))) := (HN3.out.below b5).below B5
    have c0 := he5.cell 0
    have c1 := he5.cell 1
    have z0 := hf5.cell 0
    have z1 := hf5.cell 1
    simp only [List.getElem?_toArray, List.getElem?_cons_zero, List.getElem?_cons_succ] at c0 c1 z0 z1
    clear b5 B5 o5 n5 HDU HB3 HE3 HN3 he5 hf5
    by_cases hx : X = 0
    · obtain ⟨t1, t2⟩ := HBK0.out (HX0.out hx)
      subst hx
      have hPU := HPU.out _ a3 k3 HN5.out
      rw [t1, t2] at hPU
      clear t1 t2 HBK0 HBAD HPU HN5
      go_wp2_with fail
      refine hPU.mono ?_
      rintro e w6 ⟨rfl, b6⟩
      have HB6 : Hid (Below w.heap.size w w6) := HB5.out.trans (b6.mono HB5.out.size)
      clear b6 hPU HB5 c0 c1 z0 z1
      go_wp2_with fail
      refine (HSM.out _).mono ?_
      rintro e w7 ⟨rfl, b7⟩
      have HB7 : Hid (Below w.heap.size w w7) := HB6.out.trans (b7.mono HB6.out.size)
      clear b7 HB6 HSM
      go_wp2_with fail
      refine (HWK.out _ HB7.out).mono ?_
      rintro e w8 ⟨rfl, b8⟩
      have HB8 : Hid (Below w.heap.size w w8) := HB7.out.trans (b8.mono HB7.out.size)
      clear b8 HB7 HWK
      go_wp2
      go_ret
      exact ⟨rfl, HB8.out⟩
    · have hU := HBAD.out (HX1.out hx)
      subst hU
      clear HBK0 HBAD HPU HN5 HSM
      go_wp2_with fail
      refine (HWK.out _ HB5.out).mono ?_
      rintro e w8 ⟨rfl, b8⟩
      have HB8 : Hid (Below w.heap.size w w8) := HB5.out.trans (b8.mono HB5.out.size)
      clear b8 HB5 HWK c0 c1 z0 z1
      go_wp2
      go_ret
      exact ⟨rfl, HB8.out⟩

set_option maxRecDepth 100000 in
theorem contract (H : Type) (enc : TypeId × Value → H) (W : World) (base : Nat) (args : Array Value) (ds gs : List (DataW H)) (before : List MemPlace)
    (hval : ∀ (j : Nat) t v, Tryd.f3.params[j]? = some t → args[j]? = some v → Value.okWide Tryd.prog W .any base t v)
    (hW : DataW.Whole enc Tryd.prog Tryd.f3.params.toList Rows.runesThereSpec.vars false W args.toList ds gs before)
    (hsz : (DataW.weightsEach Tryd.prog (Tryd.f3.params.toList ++ (Rows.OpenSpec.upto Rows.runesThereSpec).bare.plain.varTypes Tryd.prog) (ds ++ gs)).all (· ≤ reachBytes) = true)
    (hk : Rows.uptoSmall H (ds ++ gs) = true) (hL : laidMetH Tryd.prog Rows.runesThereUptoRow.laid W) (hsh : W.ShapedOpen Tryd.prog) :
    Calls Tryd.prog 3 args W fun e W' => ∃ v, e = .returned v ∧ Rows.runesThereSpec.post enc Tryd.prog Tryd.f3 false true false false W args v W' := by
  have hW' := hW
  obtain ⟨p, q, hA0, hV, rfl, hfz, hnd⟩ := hW
  have hA : DataW.TrodAll enc Tryd.prog W 0 (fun _ => true) true Tryd.f3.params.toList args.toList ds p := hA0
  rw [Tryd.params3] at hA hval hsz
  obtain ⟨v0, vs0, d0, ds0, p0, q0, hargs, rfl, rfl, h0, r0⟩ := trodAll_cons hA
  obtain ⟨v1, vs1, d1, ds1, p1, q1, rfl, rfl, rfl, h1, r1⟩ := trodAll_cons r0
  obtain ⟨rfl, rfl, rfl⟩ := trodAll_nil r1
  obtain rfl : args = #[v0, v1] := by cases args; simp_all
  obtain ⟨rfl, rfl⟩ := trodVars_none hV
  have k0 := h0
  have lt0 : ∀ x ∈ p0, x.block < W.heap.size := by obtain ⟨m, hm⟩ := k0; exact DataW.trod_lt m _ _ _ hm
  obtain ⟨a0, len0, cap0, rfl⟩ := okWide_slice Tryd.underlying22 (hval 0 22 v0 rfl rfl)
  obtain ⟨l0, e0, row0, bx0, bd0⟩ := open_runes h0
  obtain ⟨a1, rfl, rfl, rfl, w1⟩ := open_string Tryd.underlying9 (hval 1 9 v1 rfl rfl) h1
  clear hA0
  have s0 : l0.length ≤ 1048576 := by
    rcases bd0 with ⟨el, sp, rfl, hl⟩ | ⟨rfl, hl⟩
    · have := bulk_slice hk (el := el) (sp := sp) (by simp)
      omega
    · omega
  subst e0
  have s1 : a1.size ≤ 1048576 := bulk_string hk (by simp)
  refine (walk a0 l0 cap0 row0 s0 bx0 a1 s1 (tabs_of hL hsh)).mono fun e W' ⟨he, bel⟩ => ?_
  subst he
  exact ⟨_, rfl, _, _, _, [], _, [], hW', trodAll_mk1 (shut_bool Tryd.underlying4 _), trodAll_cons_mk (Below.trod laidOut (by kernel_rfl) (of_decide_eq_true (by kernel_rfl)) k0 bel lt0) (trodAll_cons_mk (shut_string Tryd.underlying9 w1) trodAll_mk0), rfl, bel.frame _, fun h => by cases h⟩

set_option maxRecDepth 100000 in
theorem laid_met (os : Os) : laidMet Tryd.prog Rows.runesThereUptoRow.laid ((laidWorld os).forCall (fun _ _ => 0) ⟨#[], #[.slice none 0 0, .string ByteArray.empty], []⟩).memory :=
  laidMet_of_run' 8 (by kernel_rfl) (by kernel_rfl)
set_option maxRecDepth 100000 in
theorem reads (os : Os) {H : Type} (enc : TypeId × Value → H) : ∃ places, DataW.whole enc Tryd.prog ((laidWorld os).forCall (fun _ _ => 0) ⟨#[], #[.slice none 0 0, .string ByteArray.empty], []⟩).memory Tryd.f3.params.toList Rows.runesThereSpec.vars false #[Value.slice none 0 0, Value.string ByteArray.empty].toList 8 = some ([.nil, .lit (.string [])], [], places) :=
  ⟨[], by kernel_rfl⟩

set_option maxRecDepth 100000 in
theorem lifted (os : Os) (started : os.Started) (H : Type) (enc : TypeId × Value → H) (F : Stop.Interp) :
    ReturnsInHanded {} Tryd.checked os 3 .any ((Rows.OpenSpec.upto Rows.runesThereSpec).preRow enc Tryd.prog Tryd.f3 Rows.runesThereUptoRow.domain false Rows.runesThereUptoRow.laid) (((Rows.OpenSpec.upto Rows.runesThereSpec).at F).post enc Tryd.prog Tryd.f3 false true false false) := by
  obtain ⟨places, hx⟩ := reads os enc
  refine returnsInHanded_of_row (C := Tryd.checked) (s := Rows.OpenSpec.upto Rows.runesThereSpec) own started (by kernel_rfl) Tryd.func3
    (witness_row_at (enc := enc) (C := Tryd.checked) false (laidWorld os) #[.slice none 0 0, .string ByteArray.empty] rfl (by kernel_rfl) (by kernel_rfl) (by kernel_rfl)
      (OpenSpec.preRow_of_cond 8 hx (by kernel_rfl) (fun k hk => by cases hk; kernel_rfl) (by kernel_rfl) (laid_met os))) ?_
  intro W base args ds gs before hval hW _ hcond hsz hL hsh _
  exact contract H enc W base args ds gs before hval hW hsz (hcond _ rfl) hL hsh

theorem said : Rows.RunesThereUptoSaid :=
  OpenClaim.holds_of_cond 3 Tryd.f3 rfl rfl rfl rfl rfl rfl rfl ⟨rfl, rfl, rfl, rfl, rfl⟩ rfl rfl rfl rfl rfl (by kernel_rfl) Tryd.func3 (by kernel_rfl)
    (of_decide_eq_true (by kernel_rfl)) (by unfold Func.isWrapper; first | (rw [if_pos (by decide +kernel)]; kernel_rfl) | (rw [if_neg (by decide +kernel)]; exact ⟨rfl, rfl⟩))
    (fun os started H enc _ F => by rw [OpenClaim.pre_eq_preRow]; exact lifted os started H enc F)

/-- No parameter wants a stand-in; the program's own looks are off. -/
theorem plain (f : FuncId) (fn : Func) (hf : Tryd.pinned.checked.prog.funcNamed "posthorn/posthornlaw05.RunesThere" = some f) (hfn : Tryd.pinned.checked.prog.funcs[f]? = some fn) :
    false = Tryd.pinned.checked.prog.looks [] ∧ ∀ (j : Nat) t, fn.params[j]? = some t → Tryd.pinned.checked.prog.wantsStandIn t = false := by
  obtain rfl : f = 3 := Option.some.inj ((show Tryd.prog.funcNamed "posthorn/posthornlaw05.RunesThere" = some 3 by kernel_rfl).symm.trans hf) |>.symm
  obtain rfl : fn = Tryd.f3 := (Option.some.inj (Tryd.func3.symm.trans hfn)).symm
  refine ⟨by kernel_rfl, fun j t ht => ?_⟩
  rw [Tryd.params3] at ht
  have hm : t ∈ [22, 9] := by simpa using Array.mem_of_getElem? ht
  have hall : ([22, 9].all fun u => !Tryd.prog.wantsStandIn u) = true := by kernel_rfl
  exact (show Tryd.prog.wantsStandIn t = false by simpa using List.all_eq_true.1 hall t hm)

/-- The card. -/
theorem card : Rows.RunesThereUptoCardSaid :=
  Claim7.holds_tied_plain_at .later [] _ _ _ _ said (fun _ h => by cases h) (by kernel_rfl) (fun _ h => by cases h) runesThereUpto_row_tie rfl ⟨rfl, rfl⟩ (by kernel_rfl) rfl plain (by kernel_rfl)
end Go.Proofs.YtedgimkffkflbabDoor.runesThere
namespace Go.Proofs.YtedgimkffkflbabDoor
theorem runesThereUpto_card : Rows.RunesThereUptoCardSaid := runesThere.card
#print axioms runesThereUpto_card
end Go.Proofs.YtedgimkffkflbabDoor
