/-
  P4.7, P4.9: bytes quoted, and back; short rows of plain signs, no blank at an end: proved for inputs of bulk at most 1048576 (the given upto form).
-/
import Derived.Test.YtenfopabdegmhabDoorCard4
import Derived.Test.YtenfopabdegmhabDoorOpenC
import Derived.Test.YtenfopabdegmhabDoorQbL
import Derived.ProofKit
import Derived.ChangeMaps5
import Derived.OpenShut
import Derived.ShutString
import Derived.ChangeOld
import Derived.SizedLaws
namespace Go.Proofs.YtenfopabdegmhabDoor.codeQuoteBack
open Go.ChangeShapes Go.WideShapes Go.ChangeAt Go.RowKit

theorem back_u (l : List UInt8) : uE (quoteL l) = 0 ∧ uA (quoteL l) = 0 ∧ uL (quoteL l) = l := by
  obtain ⟨h1, h2⟩ := quote_back l
  unfold uE uA uL
  rw [if_pos h1, if_pos h1, if_pos h1]
  exact ⟨rfl, rfl, h2⟩
set_option maxHeartbeats 4000000 in
set_option maxRecDepth 100000 in
theorem walk {w : World} (a : Option Addr) (l : List UInt8) (cap : Nat) (hr : Bts a l w) (hl : l.length ≤ 1048576) (hc : l.length ≤ cap) (hnn : a = none → cap = 0) (hcm : cap ≤ 9223372036854775807) (htab : Tabs w) :
    Calls Tryd.prog 6 #[.slice a l.length cap] w fun e w' => e = .returned (.bool true) ∧ Below w.heap.size w w' := by
  obtain ⟨n, hn⟩ : ∃ n, n = l.length := ⟨_, rfl⟩
  have HBT : Hid (Bts a l w) := hr
  have HN : Hid (n = l.length) := hn
  have HTB : Hid (∀ wx : World, Below w.heap.size w wx → Tabs wx) := fun wx hb => htab.below hb htab.lt.1 htab.lt.2
  have HW : Hid (Calls Tryd.prog 8 #[] w fun e w' => e = .returned (.bool true) ∧ Below w.heap.size w w') := wakes_any w htab
  have HQ : Hid (∀ wx : World, Below w.heap.size w wx → Calls Tryd.prog 14 #[.slice a n cap] wx fun e w' => e = .returned (.string ⟨(quoteL l).toArray⟩) ∧ Below wx.heap.size wx w') := fun wx hb => by
    have ht := htab.below hb htab.lt.1 htab.lt.2
    obtain ⟨m, hm⟩ := ht.ml
    exact quote_any a l cap n m wx ht.table hm hn (hr.below hb) hnn hc hcm (by omega)
  have HQL : Hid ((⟨(quoteL l).toArray⟩ : ByteArray).data.toList = quoteL l) := List.toList_toArray ..
  have hsz : (⟨(quoteL l).toArray⟩ : ByteArray).size = (quoteL l).length := by rw [← len_list, HQL.out]
  have hq1 := quote_longer l
  have hq2 := quote_len l
  rw [← hsz, ← hn] at hq1 hq2
  have HU : Hid (∀ wx : World, Below w.heap.size w wx → Calls Tryd.prog 15 #[.string ⟨(quoteL l).toArray⟩] wx fun e w' => ∃ v, e = .returned (.tuple #[v, .agg #[.int .i64 0, .int .i64 0]]) ∧ w'.ownsRow wx.heap.size 5 1 v l.length (cellsB l) ∧ Below wx.heap.size wx w') := fun wx hb => by
    have ht := htab.below hb htab.lt.1 htab.lt.2
    have h := unq_any ⟨(quoteL l).toArray⟩ wx ht.table ht.lt.1 (by omega)
    obtain ⟨e1, e2, e3⟩ := back_u l
    rw [HQL.out, e1, e2, e3] at h
    exact h
  have HTK : Hid (Taken (⟨(quoteL l).toArray⟩ : ByteArray).data.toList) := by
    show Taken _
    rw [HQL.out]
    exact quote_taken l
  generalize (⟨(quoteL l).toArray⟩ : ByteArray) = S at HQ HU HTK hq1 hq2
  rw [← hn]
  rw [← hn] at hl hc
  clear hr hn htab HQL hsz
  go_enter Tryd.func6, Tryd.ntmps6
  go_wp2_with fail
  refine Calls.mono HW.out ?_
  rintro e w1 ⟨rfl, hb1⟩
  have HB1 : Hid (Below w.heap.size w w1) := hb1
  clear hb1 HW
  go_wp2_with fail
  refine Calls.mono (HQ.out _ HB1.out) ?_
  rintro e w2 ⟨rfl, hb2⟩
  have HB2 : Hid (Below w.heap.size w w2) := HB1.out.trans (hb2.mono HB1.out.size)
  clear hb2 HB1 HQ
  go_wp2_with fail
  refine Calls.mono (HU.out _ HB2.out) ?_
  rintro e w3 ⟨v3, rfl, ho3, hb3⟩
  have HB3 : Hid (Below w.heap.size w (w3.alloc (.cells #[.int .i64 0, .int .i64 0] 26))) := (HB2.out.trans (hb3.mono HB2.out.size)).alloc (HB2.out.trans (hb3.mono HB2.out.size)).size _
  have cv1 := own_conv (ho3.alloc (.cells #[.int .i64 0, .int .i64 0] 26))
  have cv2 := bts_back (HBT.out.below HB3.out) cap
  rw [← HN.out] at cv2
  have hsn : ¬ S.size < n := by omega
  clear ho3 hb3 HU HB2
  go_wp2
  clear cv1 cv2 hsn hc hcm hnn HN HBT
  have HLS : Hid (S.data.toList.length = S.size) := len_list S
  go_loop [6, 7] (fun r i => ∃ k : Nat, k ≤ S.size ∧ i = .int .i64 k ∧ r = .int .i64 ((stAt S.data.toList k).p : Nat)) (fun _ i => S.size - (intOf i).toNat)
  case atStart => exact ⟨0, by omega, rfl, rfl⟩
  case round =>
    obtain ⟨k, hk, rfl, rfl⟩ := hrel
    by_cases hlt : k < S.size
    · have hll : k < S.data.toList.length := by rw [HLS.out]; exact hlt
      have hat : S.data.toList[k]'hll = S[k] := rfl
      have hp1 := (HTK.out.shrt k (by rw [HLS.out]; omega)).1
      have hp2 := (HTK.out.shrt (k + 1) (by rw [HLS.out]; omega)).1
      obtain ⟨P, hP⟩ : ∃ P, P = (stAt S.data.toList k).p := ⟨_, rfl⟩
      rw [← hP] at hp1
      rw [← hP]
      by_cases h13 : S[k].toNat = 13
      · obtain ⟨⟨h1, h10⟩, hpe⟩ := HTK.out.cr k hll h13
        have h1' : k + 1 < S.size := by rw [← HLS.out]; exact h1
        have h10' : (S[k + 1]'h1').toNat = 10 := h10
        have HPN : Hid ((stAt S.data.toList (k + 1)).p = P) := by rw [hP]; exact hpe
        have hq : ((k : Int) + 1 == (S.size : Int)) = false := by simp; omega
        clear h10 hpe hP hat hp2 h1
        go_wp2
        go_round
        case rel => exact ⟨k + 1, by omega, by go_num, by first | (rw [HPN.out]; done) | (rw [HPN.out]; go_num)⟩
        case measure => simp [intOf] <;> omega
      · by_cases h10 : S[k].toNat = 10
        · obtain ⟨⟨h0, hpr⟩, hpe⟩ := HTK.out.lf k hll h10
          have HPN : Hid ((stAt S.data.toList (k + 1)).p = 0) := hpe
          obtain ⟨j, rfl⟩ : ∃ j, k = j + 1 := ⟨k - 1, by omega⟩
          have hj : j < S.size := by omega
          have hpr' : (S[j]'hj).toNat = 13 := hpr
          clear hpr hpe hP hat hp2 h13
          by_cases hlast : j + 1 + 1 = S.size
          · have hq : ((j : Int) + 1 + 1 == (S.size : Int)) = true := by simp; omega
            go_wp2
            go_round
            case rel => exact ⟨j + 1 + 1, by omega, by go_num, by first | (rw [HPN.out]; done) | (rw [HPN.out]; go_num)⟩
            case measure => simp [intOf] <;> omega
          · have hq : ((j : Int) + 1 + 1 == (S.size : Int)) = false := by simp; omega
            have h2 : j + 1 + 1 < S.size := by omega
            go_wp2
            go_round
            case rel => exact ⟨j + 1 + 1, by omega, by go_num, by first | (rw [HPN.out]; done) | (rw [HPN.out]; go_num)⟩
            case measure => simp [intOf] <;> omega
        · obtain ⟨h126, h32, hpe, hbl⟩ := HTK.out.other k hll h10 h13
          have HPN : Hid ((stAt S.data.toList (k + 1)).p = P + 1) := by rw [hP]; exact hpe
          have hp3 : P + 1 ≤ 76 := by rw [hpe, ← hP] at hp2; exact hp2
          have h126' : S[k].toNat ≤ 126 := h126
          have n13 : ((S[k].toNat : Int) == 13) = false := by simp; omega
          have n10 : ((S[k].toNat : Int) == 10) = false := by simp; omega
          have h32' : 32 ≤ S[k].toNat ∨ S[k].toNat = 9 := h32
          have hbl' : (S[k].toNat = 32 ∨ S[k].toNat = 9) → ∃ h1 : k + 1 < S.size, (S[k + 1]'h1).toNat ≠ 13 := fun h => by
            obtain ⟨h1, h2⟩ := hbl h
            exact ⟨by rw [← HLS.out]; exact h1, h2⟩
          clear hpe hP hat hp2 h126 h32 hbl hp1
          have g126 : ¬ (126 : Int) < (S[k].toNat : Int) := by omega
          by_cases h32 : S[k].toNat = 32
          · obtain ⟨h1, h2⟩ := hbl' (.inl h32)
            have hq : ((k : Int) + 1 == (S.size : Int)) = false := by simp; omega
            have h3 : (((S[k + 1]'h1).toNat : Int) == 13) = false := by simp; omega
            clear hbl' h32' h2
            go_wp2
            go_round
            case rel => exact ⟨k + 1, by omega, by go_num, by first | (rw [HPN.out]; done) | (rw [HPN.out]; go_num)⟩
            case measure => simp [intOf] <;> omega
          · by_cases h9 : S[k].toNat = 9
            · obtain ⟨h1, h2⟩ := hbl' (.inr h9)
              have hq : ((k : Int) + 1 == (S.size : Int)) = false := by simp; omega
              have h3 : (((S[k + 1]'h1).toNat : Int) == 13) = false := by simp; omega
              clear hbl' h32' h2
              go_wp2
              go_round
              case rel => exact ⟨k + 1, by omega, by go_num, by first | (rw [HPN.out]; done) | (rw [HPN.out]; go_num)⟩
              case measure => simp [intOf] <;> omega
            · have g32 : ¬ (S[k].toNat : Int) < 32 := Int.not_lt.2 (Int.ofNat_le.2 (h32'.resolve_right h9))
              have e32 : ((S[k].toNat : Int) == 32) = false := by simp; omega
              have e9 : ((S[k].toNat : Int) == 9) = false := by simp; omega
              clear hbl' h32'
              by_cases hlast : k + 1 = S.size
              · have hq : ((k : Int) + 1 == (S.size : Int)) = true := by simp; omega
                go_wp2
                go_round
                case rel => exact ⟨k + 1, by omega, by go_num, by first | (rw [HPN.out]; done) | (rw [HPN.out]; go_num)⟩
                case measure => simp [intOf] <;> omega
              · have hq : ((k : Int) + 1 == (S.size : Int)) = false := by simp; omega
                have h2 : k + 1 < S.size := by omega
                go_wp2
                go_round
                case rel => exact ⟨k + 1, by omega, by go_num, by first | (rw [HPN.out]; done) | (rw [HPN.out]; go_num)⟩
                case measure => simp [intOf] <;> omega
    · go_wp2
      go_ret
      exact ⟨rfl, HB3.out⟩

theorem contract (H : Type) (enc : TypeId × Value → H) (W : World) (base : Nat) (args : Array Value) (ds gs : List (DataW H)) (before : List MemPlace)
    (hval : ∀ (j : Nat) t v, Tryd.f6.params[j]? = some t → args[j]? = some v → Value.okWide Tryd.prog W .any base t v)
    (hW : DataW.Whole enc Tryd.prog Tryd.f6.params.toList Rows.codeQuoteBackSpec.vars false W args.toList ds gs before)
    (hsz : (DataW.weightsEach Tryd.prog (Tryd.f6.params.toList ++ (Rows.OpenSpec.upto Rows.codeQuoteBackSpec).bare.plain.varTypes Tryd.prog) (ds ++ gs)).all (· ≤ reachBytes) = true)
    (hk : Rows.uptoSmall H (ds ++ gs) = true) (hL : laidMetH Tryd.prog Rows.codeQuoteBackUptoRow.laid W) (hsh : W.ShapedOpen Tryd.prog) :
    Calls Tryd.prog 6 args W fun e W' => ∃ v, e = .returned v ∧ Rows.codeQuoteBackSpec.post enc Tryd.prog Tryd.f6 false true false false W args v W' := by
  have hW' := hW
  obtain ⟨p, q, hA0, hV, rfl, hfz, hnd⟩ := hW
  have hA : DataW.TrodAll enc Tryd.prog W 0 (fun _ => true) true Tryd.f6.params.toList args.toList ds p := hA0
  rw [Tryd.params6] at hA hval hsz
  obtain ⟨v0, vs0, d0, ds0, p0, q0, hargs, rfl, rfl, h0, r0⟩ := trodAll_cons hA
  obtain ⟨rfl, rfl, rfl⟩ := trodAll_nil r0
  obtain rfl : args = #[v0] := by cases args; simp_all
  obtain ⟨rfl, rfl⟩ := trodVars_none hV
  have k0 := h0
  have lt0 : ∀ x ∈ p0, x.block < W.heap.size := by obtain ⟨m, hm⟩ := k0; exact DataW.trod_lt m _ _ _ hm
  obtain ⟨a0, len0, cap0, rfl⟩ := okWide_slice Tryd.underlying22 (hval 0 22 v0 rfl rfl)
  obtain ⟨l0, e0, row0, cp0, bd0⟩ := open_bytes h0
  have nn0 := open_none k0
  clear hA0
  have s0 : l0.length ≤ 1048576 := by
    rcases bd0 with ⟨el, sp, rfl, hl⟩ | ⟨rfl, hl⟩
    · have := bulk_slice hk (el := el) (sp := sp) (by simp)
      omega
    · omega
  subst e0
  refine (walk a0 l0 cap0 row0 s0 cp0 nn0 (open_cap k0) (tabs_of hL hsh)).mono fun e W' ⟨he, bel⟩ => ?_
  subst he
  exact ⟨_, rfl, _, _, _, [], _, [], hW', trodAll_mk1 (shut_bool Tryd.underlying4 _), trodAll_cons_mk (Below.trod laidOut (by kernel_rfl) (of_decide_eq_true (by kernel_rfl)) k0 bel lt0) trodAll_mk0, rfl, bel.frame _, fun h => by cases h⟩

theorem laid_met (os : Os) : laidMet Tryd.prog Rows.codeQuoteBackUptoRow.laid ((laidWorld os).forCall (fun _ _ => 0) ⟨#[], #[.slice none 0 0], []⟩).memory :=
  laidMet_of_run' 8 (by kernel_rfl) (by kernel_rfl)
theorem reads (os : Os) {H : Type} (enc : TypeId × Value → H) : ∃ places, DataW.whole enc Tryd.prog ((laidWorld os).forCall (fun _ _ => 0) ⟨#[], #[.slice none 0 0], []⟩).memory Tryd.f6.params.toList Rows.codeQuoteBackSpec.vars false #[Value.slice none 0 0].toList 8 = some ([.nil], [], places) :=
  ⟨[], by kernel_rfl⟩

set_option maxRecDepth 100000 in
theorem lifted (os : Os) (started : os.Started) (H : Type) (enc : TypeId × Value → H) (F : Stop.Interp) :
    ReturnsInHanded {} Tryd.checked os 6 .any ((Rows.OpenSpec.upto Rows.codeQuoteBackSpec).preRow enc Tryd.prog Tryd.f6 Rows.codeQuoteBackUptoRow.domain false Rows.codeQuoteBackUptoRow.laid) (((Rows.OpenSpec.upto Rows.codeQuoteBackSpec).at F).post enc Tryd.prog Tryd.f6 false true false false) := by
  obtain ⟨places, hx⟩ := reads os enc
  refine returnsInHanded_of_row (C := Tryd.checked) (s := Rows.OpenSpec.upto Rows.codeQuoteBackSpec) own started (by kernel_rfl) Tryd.func6
    (witness_row_at (enc := enc) (C := Tryd.checked) false (laidWorld os) #[.slice none 0 0] rfl (by kernel_rfl) (by kernel_rfl) (by kernel_rfl)
      (OpenSpec.preRow_of_cond 8 hx (by kernel_rfl) (fun k hk => by cases hk; kernel_rfl) (by kernel_rfl) (laid_met os))) ?_
  intro W base args ds gs before hval hW _ hcond hsz hL hsh _
  exact contract H enc W base args ds gs before hval hW hsz (hcond _ rfl) hL hsh

theorem said : Rows.CodeQuoteBackUptoSaid :=
  OpenClaim.holds_of_cond 6 Tryd.f6 rfl rfl rfl rfl rfl rfl rfl ⟨rfl, rfl, rfl, rfl, rfl⟩ rfl rfl rfl rfl rfl (by kernel_rfl) Tryd.func6 (by kernel_rfl)
    (of_decide_eq_true (by kernel_rfl)) (by unfold Func.isWrapper; first | (rw [if_pos (by decide +kernel)]; kernel_rfl) | (rw [if_neg (by decide +kernel)]; exact ⟨rfl, rfl⟩))
    (fun os started H enc _ F => by rw [OpenClaim.pre_eq_preRow]; exact lifted os started H enc F)

/-- No parameter wants a stand-in; the program's own looks are off. -/
theorem plain (f : FuncId) (fn : Func) (hf : Tryd.pinned.checked.prog.funcNamed "posthorn/posthornlaw04.CodeQuoteBack" = some f) (hfn : Tryd.pinned.checked.prog.funcs[f]? = some fn) :
    false = Tryd.pinned.checked.prog.looks [] ∧ ∀ (j : Nat) t, fn.params[j]? = some t → Tryd.pinned.checked.prog.wantsStandIn t = false := by
  obtain rfl : f = 6 := Option.some.inj ((show Tryd.prog.funcNamed "posthorn/posthornlaw04.CodeQuoteBack" = some 6 by kernel_rfl).symm.trans hf) |>.symm
  obtain rfl : fn = Tryd.f6 := (Option.some.inj (Tryd.func6.symm.trans hfn)).symm
  refine ⟨by kernel_rfl, fun j t ht => ?_⟩
  rw [Tryd.params6] at ht
  have hm : t ∈ [22] := by simpa using Array.mem_of_getElem? ht
  have hall : ([22].all fun u => !Tryd.prog.wantsStandIn u) = true := by kernel_rfl
  exact (show Tryd.prog.wantsStandIn t = false by simpa using List.all_eq_true.1 hall t hm)

/-- The card. -/
theorem card : Rows.CodeQuoteBackUptoCardSaid :=
  Claim7.holds_tied_plain_at .later [] _ _ _ _ said (fun _ h => by cases h) (by kernel_rfl) (fun _ h => by cases h) codeQuoteBackUpto_row_tie rfl ⟨rfl, rfl⟩ (by kernel_rfl) rfl plain (by kernel_rfl)
end Go.Proofs.YtenfopabdegmhabDoor.codeQuoteBack
namespace Go.Proofs.YtenfopabdegmhabDoor
theorem codeQuoteBackUpto_card : Rows.CodeQuoteBackUptoCardSaid := codeQuoteBack.card
#print axioms codeQuoteBackUpto_card
end Go.Proofs.YtenfopabdegmhabDoor
