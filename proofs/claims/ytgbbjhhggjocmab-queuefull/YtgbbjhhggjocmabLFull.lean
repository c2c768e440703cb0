/-
  P7.2, P7.6: the greatest ring and the greatest heap take 2^20 things, and no one more; proved in full.
-/
import Derived.Test.YtgbbjhhggjocmabHbB
import Derived.Test.YtgbbjhhggjocmabRows
import Derived.ProofKit
import Derived.ChangeMaps5
import Derived.OpenShut
import Derived.ShutString
import Derived.ChangeOld
import Derived.SizedLaws
namespace Go.Proofs.Ytgbbjhhggjocmab.queueFull
open Go.ChangeShapes Go.WideShapes Go.ChangeAt Go.RowKit

/-- What was pushed: the keys in their order. -/
def keysM (k : Nat) : List En := (List.range k).map fun (i : Nat) => (((i : Int), (0 : Int)), i)
theorem keysM_length (k : Nat) : (keysM k).length = k := by simp [keysM]
theorem keysM_succ (k : Nat) : keysM k ++ [(((k : Int), 0), k)] = keysM (k + 1) := by simp [keysM, List.range_succ]
theorem lst_first : ∀ (M : List En) (e : En), (∀ x ∈ M, ¬ bf true x e) → lst true e M = e
  | [], e, _ => rfl
  | x :: r, e, h => by
    unfold lst
    rw [if_neg (h x List.mem_cons_self)]
    exact lst_first r e (fun y hy => h y (List.mem_cons_of_mem _ hy))
theorem keys_top (k : Nat) (hk : 0 < k) : topM true (keysM k) = (0, 0) := by
  obtain ⟨j, rfl⟩ : ∃ j, k = j + 1 := ⟨k - 1, by omega⟩
  have e : keysM (j + 1) = ((0, 0), 0) :: (List.range j).map fun (i : Nat) => ((((i + 1 : Nat) : Int), (0 : Int)), i + 1) := by
    unfold keysM
    rw [List.range_succ_eq_map, List.map_cons, List.map_map]
    rfl
  rw [e]
  show (lst true _ _).1 = _
  rw [lst_first _ _ (fun x hx => by
    obtain ⟨i, _, rfl⟩ := List.mem_map.1 hx
    unfold bf kap
    simp
    omega)]
theorem ones_push (k : Nat) (hk : k < 1048576) : pushLB 1048576 (List.replicate k 1) 1 = List.replicate (k + 1) 1 := by
  unfold pushLB
  rw [if_pos (by rw [List.length_replicate]; exact hk), List.replicate_succ']
theorem pushE_ok (k : Nat) (hk : k < 1048576) : pushE 1048576 k = 0 := by unfold pushE; rw [if_neg (by decide), if_neg (by omega)]
set_option maxRecDepth 20000 in
set_option maxHeartbeats 4000000 in
theorem walk (w : World) : Calls Try.prog 5 #[] w fun e w' => e = .returned (.bool true) ∧ Below w.heap.size w w' := by
  have HNR : Hid (∀ wx, Calls Try.prog 41 #[.int .i64 1048576] wx fun e w' => e = .returned (.tuple #[.pointer (some ⟨wx.heap.size, 0, none⟩), .int .i64 0]) ∧ RgB w' (some wx.heap.size) none 1048576 [] ∧ Below wx.heap.size wx w') := fun wx => newB_good 1048576 (by decide) (by decide) wx
  have HNH : Hid (∀ wx, Below w.heap.size w wx → Calls Try.prog 7 #[.func (.func 42) #[] #[]] wx fun e w' => e = .returned (.pointer (some ⟨wx.heap.size, 0, none⟩)) ∧ Hw w.heap.size w w' wx.heap.size 42 true [] 0 (.slice none 0 0) ∧ Below wx.heap.size wx w') := fun wx hb => (hnew_any 42 true bykey_cmp wx).mono (fun e w' hh => by
    obtain ⟨q1, q2, q3⟩ := hh
    refine ⟨q1, ⟨Ht.new q2, hb.trans (q3.mono hb.size), fun k hk => ?_, Nat.le_refl _⟩, q3⟩
    rcases hk with rfl | hk
    · exact hb.size
    · cases hk)
  have HSO : Hid (∀ wx, Calls Try.prog 6 #[] wx fun e w' => e = .returned (.bool true) ∧ Below wx.heap.size wx w') := fun wx => sorts_any wx
  go_enter Try.func5, Try.ntmps5
  go_wp2_with (first
    | (go_at_call 41; refine (HNR.out _).mono ?_; clear HNR; rintro e w1 ⟨rfl, hr, hb⟩; have HR1 : Hid (RgB w1 (some w.heap.size) none 1048576 []) := hr; have HB1 : Hid (Below w.heap.size w w1) := hb; clear hr hb)
    | (go_at_call 7; refine (HNH.out _ HB1.out).mono ?_; clear HNH; rintro e w2 ⟨rfl, hh, hb⟩; have HS0 : Hid (HbB w w2 w1.heap.size 42 true [] 0 (.slice none 0 0) w.heap.size none 1048576 []) := ⟨hh.ht, HR1.out.below hb, fun k hk hf => (by have h1 := HR1.out.lt k hf; rcases hk with hk | hk <;> cases hk; omega), hh.bel, hh.own, fun k hf => (by rcases hf with hf | hf <;> cases hf; exact Nat.le_refl _)⟩; clear hh hb HR1 HB1; generalize w1.heap.size = b at *; obtain ⟨br, hbr⟩ : ∃ br, br = w.heap.size := ⟨_, rfl⟩; rw [← hbr] at HS0 ⊢; have HBR : Hid (br = w.heap.size) := hbr; clear hbr)
    | (go_at_call 6; refine (HSO.out _).mono ?_; clear HSO; rintro e w3 ⟨rfl, hb⟩; have HS1 : Hid (HbB w w3 b 42 true [] 0 (.slice none 0 0) br none 1048576 []) := HS0.out.later hb; clear hb HS0))
  go_loopw [18] (fun iv wr => ∃ (k : Nat) (v : Value) (q : Option Nat), iv = .int .i64 (k : Int) ∧ k ≤ 1048576 ∧ Hid (HbB w wr b 42 true (keysM k) k v br q 1048576 (List.replicate k 1))) (fun iv _ => 1048576 - (intOf iv).toNat)
  case atStart => exact ⟨0, _, none, rfl, by omega, HS1.out⟩
  case round =>
    obtain ⟨k, v, q, rfl, hk, HS⟩ := hrel
    clear HS1
    by_cases hlt : k < 1048576
    · have hki : (k : Int) < 1048576 := by omega
      have HP1 : Hid (Calls Try.prog 43 #[.pointer (some ⟨br, 0, none⟩), .int .i8 1] wr fun e w' => e = .returned (.int .i64 0) ∧ ∃ q', HbB w w' b 42 true (keysM k) k v br q' 1048576 (List.replicate (k + 1) 1)) := hbB_push HS.out 1 (List.replicate (k + 1) 1) 0 (by rw [List.length_replicate]; exact pushE_ok k hlt) (ones_push k hlt)
      have HP2 : Hid (∀ wx q', HbB w wx b 42 true (keysM k) k v br q' 1048576 (List.replicate (k + 1) 1) → Calls Try.prog 10 #[.pointer (some ⟨b, 0, none⟩), .agg #[.int .i64 (k : Int), .int .i64 0]] wx fun e w' => e = .returned (.int .i64 0) ∧ ∃ v', HbB w w' b 42 true (keysM (k + 1)) (k + 1) v' br q' 1048576 (List.replicate (k + 1) 1)) := fun wx q' h => (hbB_hpush h ((k : Int), 0) (by rw [keysM_length]; exact hlt) (by omega)).mono (fun e w' hh => by obtain ⟨r1, v', r2, _⟩ := hh; rw [keysM_succ] at r2; exact ⟨r1, v', r2⟩)
      go_wp2_with (first
        | (go_at_call 43; refine HP1.out.mono ?_; clear HP1; rintro e w4 ⟨rfl, q4, hs⟩; have HS4 : Hid (HbB w w4 b 42 true (keysM k) k v br q4 1048576 (List.replicate (k + 1) 1)) := hs; clear hs)
        | (go_at_call 10; refine (HP2.out _ _ HS4.out).mono ?_; clear HP2; rintro e w5 ⟨rfl, v5, hs⟩; have HS5 : Hid (HbB w w5 b 42 true (keysM (k + 1)) (k + 1) v5 br q4 1048576 (List.replicate (k + 1) 1)) := hs; clear hs))
      go_roundw
      case rel => exact ⟨k + 1, v5, q4, by go_num, by omega, HS5.out⟩
      case measure => simp [intOf]; omega
    · obtain rfl : k = 1048576 := by omega
      have hlr : (List.replicate 1048576 (1 : Int)).length = 1048576 := List.length_replicate
      have HP1 : Hid (Calls Try.prog 43 #[.pointer (some ⟨br, 0, none⟩), .int .i8 1] wr fun e w' => e = .returned (.int .i64 4) ∧ ∃ q', HbB w w' b 42 true (keysM 1048576) 1048576 v br q' 1048576 (List.replicate 1048576 1)) := hbB_push HS.out 1 _ 4 (by rw [hlr]; rfl) (by unfold pushLB; rw [if_neg (by rw [hlr]; omega)])
      have HP2 : Hid (∀ wx q', HbB w wx b 42 true (keysM 1048576) 1048576 v br q' 1048576 (List.replicate 1048576 1) → Calls Try.prog 10 #[.pointer (some ⟨b, 0, none⟩), .agg #[.int .i64 0, .int .i64 0]] wx fun e w' => e = .returned (.int .i64 4) ∧ HbB w w' b 42 true (keysM 1048576) 1048576 v br q' 1048576 (List.replicate 1048576 1)) := fun wx q' h => (hfull_t h.ht (0, 0) (keysM_length _)).mono (fun e w' hh => ⟨hh.1, h.later hh.2⟩)
      have HP3 : Hid (∀ wx q', HbB w wx b 42 true (keysM 1048576) 1048576 v br q' 1048576 (List.replicate 1048576 1) → Calls Try.prog 44 #[.pointer (some ⟨br, 0, none⟩)] wx fun e w' => e = .returned (.int .i64 0) ∧ HbB w w' b 42 true (keysM 1048576) 1048576 v br q' 1048576 (List.replicate 1048576 1)) := fun wx q' h => (roomB_any (some br) q' 1048576 _ wx h.rg).mono (fun e w' hh => by obtain ⟨r1, n, rfl⟩ := hh; rw [hlr, Nat.sub_self] at r1; exact ⟨r1, h.later (below_drewN wx n)⟩)
      have HP4 : Hid (∀ wx q', HbB w wx b 42 true (keysM 1048576) 1048576 v br q' 1048576 (List.replicate 1048576 1) → Calls Try.prog 13 #[.pointer (some ⟨b, 0, none⟩)] wx fun e w' => e = .returned (.tuple #[.agg #[.int .i64 0, .int .i64 0], .bool true]) ∧ ∃ v', HbB w (w'.alloc (.cells #[.int .i64 0, .int .i64 0] 27)) b 42 true (resM true (keysM 1048576)) 1048576 v' br q' 1048576 (List.replicate 1048576 1)) := fun wx q' h => (hbB_hpop h).mono (fun e w' hh => by
        obtain ⟨r1, v', r2, _, _⟩ := hh
        have e1 : (!(keysM 1048576).isEmpty) = true := by
          have := keysM_length 1048576
          generalize keysM 1048576 = K at this
          cases K with
          | nil => simp at this
          | cons _ _ => rfl
        rw [keys_top _ (by decide), e1] at r1
        exact ⟨r1, v', r2.later ((Below.refl _ _).alloc (Nat.le_refl _) _)⟩)
      have HP5 : Hid (∀ wx v' q', HbB w wx b 42 true (resM true (keysM 1048576)) 1048576 v' br q' 1048576 (List.replicate 1048576 1) → Calls Try.prog 10 #[.pointer (some ⟨b, 0, none⟩), .agg #[.int .i64 0, .int .i64 0]] wx fun e w' => e = .returned (.int .i64 0) ∧ ∃ M np v', HbB w w' b 42 true M np v' br q' 1048576 (List.replicate 1048576 1)) := fun wx v' q' h => (hbB_hpush h (0, 0) (by rw [resM_length, keysM_length]; omega) (by omega)).mono (fun e w' hh => by obtain ⟨r1, v2, r2, _⟩ := hh; exact ⟨r1, _, _, v2, r2⟩)
      have HP6 : Hid (∀ wx M np v' q', HbB w wx b 42 true M np v' br q' 1048576 (List.replicate 1048576 1) → Calls Try.prog 45 #[.pointer (some ⟨br, 0, none⟩), .int .i64 1048581] wx fun e w' => e = .returned (.int .i64 1048576) ∧ HbB w w' b 42 true M np v' br q' 1048576 []) := fun wx M np v' q' h => (hbB_drop h 1048581 1048576 (by rw [hlr]; rfl)).mono (fun e w' hh => by
        obtain ⟨r1, r2⟩ := hh
        rw [List.drop_eq_nil_of_le (by rw [hlr]; exact Nat.le_refl _)] at r2
        exact ⟨r1, r2⟩)
      have HP7 : Hid (∀ wx M np v' q', HbB w wx b 42 true M np v' br q' 1048576 [] → Calls Try.prog 46 #[.pointer (some ⟨br, 0, none⟩)] wx fun e w' => e = .returned (.int .i64 0) ∧ w' = wx) := fun wx M np v' q' h => lenB_any (some br) q' 1048576 [] wx h.rg
      have HP8 : Hid (∀ wx M np v' q', HbB w wx b 42 true M np v' br q' 1048576 [] → Calls Try.prog 43 #[.pointer (some ⟨br, 0, none⟩), .int .i8 2] wx fun e w' => e = .returned (.int .i64 0) ∧ ∃ q'', HbB w w' b 42 true M np v' br q'' 1048576 [2]) := fun wx M np v' q' h => hbB_push h 2 [2] 0 rfl rfl
      clear hlr
      generalize resM true (keysM 1048576) = K2 at *
      generalize keysM 1048576 = K1 at *
      generalize (List.replicate 1048576 (1 : Int)) = R1 at *
      go_wp2_with (first
        | (go_at_call 43; refine HP1.out.mono ?_; clear HP1; rintro e w4 ⟨rfl, q4, hs⟩; have HS4 : Hid (HbB w w4 b 42 true K1 1048576 v br q4 1048576 R1) := hs; clear hs)
        | (go_at_call 10; refine (HP2.out _ _ HS4.out).mono ?_; clear HP2 HS4; rintro e w5 ⟨rfl, hs⟩; have HS5 : Hid (HbB w w5 b 42 true K1 1048576 v br q4 1048576 R1) := hs; clear hs)
        | (go_at_call 44; refine (HP3.out _ _ HS5.out).mono ?_; clear HP3 HS5; rintro e w6 ⟨rfl, hs⟩; have HS6 : Hid (HbB w w6 b 42 true K1 1048576 v br q4 1048576 R1) := hs; clear hs)
        | (go_at_call 13; refine (HP4.out _ _ HS6.out).mono ?_; clear HP4 HS6; rintro e w7 ⟨rfl, v7, hs⟩; have HS7 : Hid (HbB w (w7.alloc (.cells #[.int .i64 0, .int .i64 0] 27)) b 42 true K2 1048576 v7 br q4 1048576 R1) := hs; clear hs)
        | (go_at_call 10; refine (HP5.out _ _ _ HS7.out).mono ?_; clear HP5 HS7; rintro e w8 ⟨rfl, M8, n8, v8, hs⟩; have HS8 : Hid (HbB w w8 b 42 true M8 n8 v8 br q4 1048576 R1) := hs; clear hs)
        | (go_at_call 45; refine (HP6.out _ _ _ _ _ HS8.out).mono ?_; clear HP6 HS8; rintro e w9 ⟨rfl, hs⟩; have HS9 : Hid (HbB w w9 b 42 true M8 n8 v8 br q4 1048576 []) := hs; clear hs)
        | (go_at_call 46; refine (HP7.out _ _ _ _ _ HS9.out).mono ?_; clear HP7; rintro e wz ⟨rfl, hz⟩; subst hz)
        | (go_at_call 43; refine (HP8.out _ _ _ _ _ HS9.out).mono ?_; clear HP8; rintro e w10 ⟨rfl, q10, hs⟩; have HS10 : Hid (HbB w w10 b 42 true M8 n8 v8 br q10 1048576 [2]) := hs; clear hs))
      go_ret
      exact ⟨rfl, HS10.out.bel⟩

theorem own : ownKnob Try.prog.godebug = none := by kernel_rfl
set_option maxRecDepth 100000 in
theorem contract (H : Type) (enc : TypeId × Value → H) (W : World) (base : Nat) (args : Array Value) (ds gs : List (DataW H)) (before : List MemPlace)
    (hval : ∀ (j : Nat) t v, Try.f5.params[j]? = some t → args[j]? = some v → Value.okWide Try.prog W .any base t v)
    (hW : DataW.Whole enc Try.prog Try.f5.params.toList Rows.queueFullSpec.vars false W args.toList ds gs before)
    (hsz : (DataW.weightsEach Try.prog (Try.f5.params.toList ++ Rows.queueFullSpec.plain.varTypes Try.prog) (ds ++ gs)).all (· ≤ reachBytes) = true)
    :
    Calls Try.prog 5 args W fun e W' => ∃ v, e = .returned v ∧ Rows.queueFullSpec.post enc Try.prog Try.f5 false true false false W args v W' := by
  have hW' := hW
  obtain ⟨p, q, hA0, hV, rfl, hfz, hnd⟩ := hW
  have hA : DataW.TrodAll enc Try.prog W 0 (fun _ => true) true Try.f5.params.toList args.toList ds p := hA0
  rw [Try.params5] at hA hval hsz
  obtain ⟨hargs0, rfl, rfl⟩ := trodAll_nil hA
  obtain rfl : args = #[] := by cases args; simp_all
  obtain ⟨rfl, rfl⟩ := trodVars_none hV
  clear hA0
  simp only [List.append_nil] at hW'
  refine (walk  W).mono fun e W' ⟨he, bel⟩ => ?_
  subst he
  exact ⟨_, rfl, _, _, _, [], [], [], hW', trodAll_mk1 (shut_bool Try.underlying4 _), trodAll_mk0, rfl, bel.frame _, fun h => by cases h⟩

set_option maxRecDepth 100000 in
theorem lifted (os : Os) (started : os.Started) (H : Type) (enc : TypeId × Value → H) :
    ReturnsInHanded {} Try.checked os 5 .any (Rows.queueFullSpec.pre6 enc Try.prog Try.f5 Rows.queueFullRow.domain false) (Rows.queueFullSpec.post enc Try.prog Try.f5 false true false false) := by
  refine returnsInHanded_of_change_sized (C := Try.checked) own started (by kernel_rfl) Try.func5
    (ChangeSpec.witness6 (enc := enc) (C := Try.checked) false ⟨#[], #[], []⟩ 8 (by kernel_rfl) (by kernel_rfl) (by kernel_rfl) (by kernel_rfl)) ?_
  intro W base args ds gs before hval0 hW hcnd hsz0 _
  exact contract H enc W base args ds gs before hval0 hW hsz0

theorem over : Rows.queueFullRow.holds Try.pinned (OpenSpec.ofChange Rows.queueFullSpec) :=
  OpenClaim.holds_of_wide 5 Try.f5 rfl rfl rfl rfl rfl rfl rfl ⟨rfl, rfl, rfl, rfl, rfl⟩ rfl rfl rfl rfl rfl (by kernel_rfl) Try.func5 (by kernel_rfl)
    (of_decide_eq_true (by kernel_rfl)) (by unfold Func.isWrapper; first | (rw [if_pos (by decide +kernel)]; kernel_rfl) | (rw [if_neg (by decide +kernel)]; exact ⟨rfl, rfl⟩))
    (fun os started H enc _ => lifted os started H enc)
end Go.Proofs.Ytgbbjhhggjocmab.queueFull
namespace Go.Proofs.Ytgbbjhhggjocmab
theorem queueFull_said : Rows.QueueFullSaid := queueFull.over
#print axioms queueFull_said
end Go.Proofs.Ytgbbjhhggjocmab
