/-
  For every text: the program and the document unfold it alike (P16.4), and one fold is taken out of one text. Conditions: none but those of the statement.
-/
import Derived.Test.YtpepjiocjcjeeaaFc16
import Derived.Test.YtpepjiocjcjeeaaFd16
import Derived.Test.YtpepjiocjcjeeaaRows
import Derived.ProofKit
import Derived.ChangeMaps5
import Derived.OpenShut
import Derived.ShutString
import Derived.ChangeOld
import Derived.SizedLaws
namespace Go.Proofs.Ytpepjiocjcjeeaa.fieldUnfolds
open Go.ChangeShapes Go.WideShapes Go.ChangeAt Go.RowKit
open Go.ChangeMaps (open_string shut_string)

theorem unf_lit : unf [97, 13, 10, 32, 98] = [97, 32, 98] := by
  rw [unf_cons, if_neg (by decide), unf_cons, if_pos (by decide)]
  show 97 :: unf [32, 98] = _
  rw [unf_cons, if_neg (by decide), unf_cons, if_neg (by decide), unf_nil]
set_option maxRecDepth 100000 in
set_option maxHeartbeats 2000000 in
theorem walk (s : ByteArray) (hs : s.size ≤ 140737488351232) (w : World) : Calls Try.prog 3 #[.string s] w fun e w' => e = .returned (.bool true) ∧ Below w.heap.size w w' := by
  have HP : Hid (∀ wx, Calls Try.prog 5 #[.string s] wx fun e w' => e = .returned (.string (tx (unf s.data.toList))) ∧ Below wx.heap.size wx w') := fun wx => unfold_any s hs wx
  have HD : Hid (∀ wx, Calls Try.prog 6 #[.string s] wx fun e w' => e = .returned (.string (tx (unf s.data.toList))) ∧ Below wx.heap.size wx w') := fun wx => uunfold_any s hs wx
  have HL : Hid (∀ wx, Calls Try.prog 5 #[.string ⟨#[97, 13, 10, 32, 98]⟩] wx fun e w' => e = .returned (.string ⟨#[97, 32, 98]⟩) ∧ Below wx.heap.size wx w') := fun wx => by
    have := unfold_any ⟨#[97, 13, 10, 32, 98]⟩ (by decide) wx
    have e : tx (unf (⟨#[97, 13, 10, 32, 98]⟩ : ByteArray).data.toList) = ⟨#[97, 32, 98]⟩ := by
      show tx (unf [97, 13, 10, 32, 98]) = _
      rw [unf_lit]
      rfl
    rw [e] at this
    exact this
  generalize tx (unf s.data.toList) = U at *
  clear hs
  go_enter Try.func3, Try.ntmps3
  go_wp2_with fail
  refine (HP.out _).mono ?_
  rintro e w1 ⟨rfl, hb1⟩
  have HB1 : Hid (Below w.heap.size w w1) := hb1
  clear hb1
  go_wp2_with fail
  refine (HD.out _).mono ?_
  rintro e w2 ⟨rfl, hb2⟩
  have HB2 : Hid (Below w.heap.size w w2) := HB1.out.trans (hb2.mono HB1.out.size)
  clear hb2
  go_wp2_with fail
  refine (HL.out _).mono ?_
  rintro e w3 ⟨rfl, hb3⟩
  have HB3 : Hid (Below w.heap.size w w3) := HB2.out.trans (hb3.mono HB2.out.size)
  clear hb3
  go_wp2_with fail
  go_ret
  exact ⟨rfl, HB3.out⟩

theorem own : ownKnob Try.prog.godebug = none := by kernel_rfl
set_option maxRecDepth 100000 in
theorem contract (H : Type) (enc : TypeId × Value → H) (W : World) (base : Nat) (args : Array Value) (ds gs : List (DataW H)) (before : List MemPlace)
    (hval : ∀ (j : Nat) t v, Try.f3.params[j]? = some t → args[j]? = some v → Value.okWide Try.prog W .any base t v)
    (hW : DataW.Whole enc Try.prog Try.f3.params.toList Rows.fieldUnfoldsSpec.vars false W args.toList ds gs before)
    (hsz : (DataW.weightsEach Try.prog (Try.f3.params.toList ++ Rows.fieldUnfoldsSpec.plain.varTypes Try.prog) (ds ++ gs)).all (· ≤ reachBytes) = true)
    :
    Calls Try.prog 3 args W fun e W' => ∃ v, e = .returned v ∧ Rows.fieldUnfoldsSpec.post enc Try.prog Try.f3 false true false false W args v W' := by
  have hW' := hW
  obtain ⟨p, q, hA0, hV, rfl, hfz, hnd⟩ := hW
  have hA : DataW.TrodAll enc Try.prog W 0 (fun _ => true) true Try.f3.params.toList args.toList ds p := hA0
  rw [Try.params3] at hA hval hsz
  obtain ⟨v0, vs0, d0, ds0, p0, q0, hargs, rfl, rfl, h0, r0⟩ := trodAll_cons hA
  obtain ⟨rfl, rfl, rfl⟩ := trodAll_nil r0
  obtain rfl : args = #[v0] := by cases args; simp_all
  obtain ⟨rfl, rfl⟩ := trodVars_none hV
  obtain ⟨a0, rfl, rfl, rfl, w0⟩ := open_string Try.underlying9 (hval 0 9 v0 rfl rfl) h0
  clear hA0
  have s0 := sized_string hsz (j := 0) (t := 9) rfl rfl
  simp only [reachBytes, Array.length_toList] at s0
  simp only [List.append_nil] at hW'
  refine (walk a0 s0 W).mono fun e W' ⟨he, bel⟩ => ?_
  subst he
  exact ⟨_, rfl, _, _, _, [], [], [], hW', trodAll_mk1 (shut_bool Try.underlying4 _), trodAll_cons_mk (shut_string Try.underlying9 w0) trodAll_mk0, rfl, bel.frame _, fun h => by cases h⟩

set_option maxRecDepth 100000 in
theorem lifted (os : Os) (started : os.Started) (H : Type) (enc : TypeId × Value → H) :
    ReturnsInHanded {} Try.checked os 3 .any (Rows.fieldUnfoldsSpec.pre6 enc Try.prog Try.f3 Rows.fieldUnfoldsRow.domain false) (Rows.fieldUnfoldsSpec.post enc Try.prog Try.f3 false true false false) := by
  refine returnsInHanded_of_change_sized (C := Try.checked) own started (by kernel_rfl) Try.func3
    (ChangeSpec.witness6 (enc := enc) (C := Try.checked) false ⟨#[], #[.string ByteArray.empty], []⟩ 8 (by kernel_rfl) (by kernel_rfl) (by kernel_rfl) (by kernel_rfl)) ?_
  intro W base args ds gs before hval0 hW hcnd hsz0 _
  exact contract H enc W base args ds gs before hval0 hW hsz0

theorem over : Rows.fieldUnfoldsRow.holds Try.pinned (OpenSpec.ofChange Rows.fieldUnfoldsSpec) :=
  OpenClaim.holds_of_wide 3 Try.f3 rfl rfl rfl rfl rfl rfl rfl ⟨rfl, rfl, rfl, rfl, rfl⟩ rfl rfl rfl rfl rfl (by kernel_rfl) Try.func3 (by kernel_rfl)
    (of_decide_eq_true (by kernel_rfl)) (by unfold Func.isWrapper; first | (rw [if_pos (by decide +kernel)]; kernel_rfl) | (rw [if_neg (by decide +kernel)]; exact ⟨rfl, rfl⟩))
    (fun os started H enc _ => lifted os started H enc)
end Go.Proofs.Ytpepjiocjcjeeaa.fieldUnfolds
namespace Go.Proofs.Ytpepjiocjcjeeaa
theorem fieldUnfolds_said : Rows.FieldUnfoldsSaid := fieldUnfolds.over
#print axioms fieldUnfolds_said
end Go.Proofs.Ytpepjiocjcjeeaa
