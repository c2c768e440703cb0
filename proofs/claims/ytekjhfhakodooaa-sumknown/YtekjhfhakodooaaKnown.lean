/-
  The sums that the document names and the numbers of the errors; a closed statement, proved.
-/
import Derived.Test.YtekjhfhakodooaaRepeat
import Derived.Test.YtekjhfhakodooaaOpen
import Derived.Test.YtekjhfhakodooaaRows
import Derived.ProofKit
import Derived.OpenShut
import Derived.ChangeOld
import Derived.SizedLaws
namespace Go.Proofs.Ytekjhfhakodooaa.sumKnown
open Go.ChangeShapes Go.WideShapes Go.ChangeAt Go.RowKit

theorem known_one : (join 1#32 0#32 1).toNat = 4067132163 := by decide +kernel
theorem known_none : (join 1#32 5#32 0).toNat = 4 := by decide +kernel
theorem known_zero : (more 0#32 (List.replicate 32 0)).toNat = 2324772522 := by decide +kernel
theorem known_full : (more 0#32 (List.replicate 32 255)).toNat = 1655221059 := by decide +kernel
/-- The bytes 0, 1, 2 .. -/
def ups (k : Nat) : List UInt8 := (List.range k).map UInt8.ofNat
theorem known_ups : (more 0#32 (ups 32)).toNat = 1188919630 := by decide +kernel
theorem ups_length (k : Nat) : (ups k).length = k := by simp [ups]
theorem ups_step (k : Nat) : cellsB (ups k) ++ [.int .u8 ((UInt8.ofNat k).toNat : Int)] = cellsB (ups (k + 1)) := by
  unfold ups
  rw [List.range_succ, List.map_append, cellsB_append]
  rfl

theorem join_one (w : World) : Calls Try.prog 9 #[.int .u32 1, .int .u32 0, .int .i64 1] w fun e w' => e = .returned (.tuple #[.int .u32 4067132163, .int .i64 0]) ∧ Below w.heap.size w w' := by
  have := join_any 1#32 0#32 1 (by omega) w
  rw [known_one] at this
  exact this
theorem join_noth (w : World) : Calls Try.prog 9 #[.int .u32 1, .int .u32 5, .int .i64 0] w fun e w' => e = .returned (.tuple #[.int .u32 4, .int .i64 0]) ∧ Below w.heap.size w w' := by
  have := join_any 1#32 5#32 0 (by omega) w
  rw [known_none] at this
  exact this
theorem join_bad (w : World) : Calls Try.prog 9 #[.int .u32 7, .int .u32 7, .int .i64 (-1)] w fun e w' => e = .returned (.tuple #[.int .u32 0, .int .i64 2]) ∧ w' = w :=
  join_neg 7#32 7#32 (-1) (by omega) w
theorem of_nil (w : World) : Calls Try.prog 11 #[.slice none 0 0] w fun e w' => e = .returned (.int .u32 0) ∧ w' = w := by
  have := of_any none [] 0 w (.inl rfl) (by unfold maxLen; decide)
  rw [more_nil] at this
  exact this
theorem of_known (a : Option Addr) (l : List UInt8) (c n : Nat) (w : World) (h : Bts a l w) (hl : l.length = 32) (hk : (more 0#32 l).toNat = n) :
    Calls Try.prog 11 #[.slice a 32 c] w fun e w' => e = .returned (.int .u32 (n : Int)) ∧ w' = w := by
  have := of_any a l c w h (by rw [hl]; unfold maxLen; decide)
  rw [hl, hk] at this
  exact this

set_option maxRecDepth 100000 in
set_option maxHeartbeats 1000000 in
theorem walk (w : World) : Calls Try.prog 3 #[] w fun e w' => e = .returned (.bool true) ∧ Below w.heap.size w w' := by
  obtain ⟨i0, hi, hz0, hz1, hz2⟩ := info_parts info5
  have HM : Hid (∀ n : Nat, n ≤ 32 → n ≤ maxLen) := fun n h => by unfold maxLen; omega
  go_enter Try.func3, Try.ntmps3
  go_wp2_with fail
  go_loopw [1, 9] (fun v i wr => ∃ k : Nat, k ≤ 32 ∧ i = .int .i64 k ∧ Hid (wr.ownsRow w.heap.size 5 1 v k (cellsB (ups k))) ∧ Hid (Below w.heap.size w wr)) (fun _ i _ => 32 - (intOf i).toNat)
  case atStart => exact ⟨0, by omega, rfl, World.ownsRow_nil _ _ _ _, Below.refl _ _⟩
  case round =>
    obtain ⟨k, hk, rfl, HO, HB⟩ := hrel
    by_cases hlt : k < 32
    · have hown := HO.out
      have HS : Hid (cellsB (ups k) ++ [.int .u8 (k : Int)] = cellsB (ups (k + 1))) := by
        have h1 : ∀ i : Fin 32, ((UInt8.ofNat i.val).toNat : Int) = (i.val : Int) := by decide
        have h2 := ups_step k
        rw [h1 ⟨k, hlt⟩] at h2
        exact h2
      go_wp2_with (at_builtin; refine wpList_append_own _ rfl _ _ 22 rfl w.heap.size 5 i0 (.int .u8 0) 1 1 Try.underlying22 hi hz0 hz1 hz2 rfl (by decide) _ _ _ rfl (hown.alloc _) ⟨wr.heap.size, 0, none⟩ 1 1 [.int .u8 (k : Int)] rfl rfl ?c1 ?c2 ?c3 ?c4 ?c5 ?_)
      case c1 =>
        intro j u hj
        match j, hj with
        | 0, hj => simp at hj; subst hj; simp [Addr.add]
      case c2 => intro u hu; simp at hu; subst hu; rfl
      case c3 => unfold maxLen; omega
      case c4 => omega
      case c5 => have := HB.out.size; simp; omega
      intro v' w2 hown' hgrow _
      have R : Hid (w2.ownsRow w.heap.size 5 1 v' (k + 1) (cellsB (ups (k + 1)))) := by
        show w2.ownsRow _ _ _ _ _ _
        rw [HS.out] at hown'
        exact hown'
      have HB3 : Hid (Below w.heap.size w w2) := (HB.out.alloc HB.out.size _).grown hgrow (by have := HB.out.size; simp; omega) (fun q hq => (hown.lt q hq).1)
      clear hown' hgrow hown HO HB HS
      go_wp2
      go_roundw
      case rel => exact ⟨k + 1, by omega, by go_num, R, HB3⟩
      case measure => simp [intOf]; omega
    · obtain rfl : k = 32 := by omega
      have HO2 : Hid (wr.ownsRow w.heap.size 5 1 u1 (ups 32).length (cellsB (ups 32))) := by rw [ups_length]; exact HO.out
      obtain ⟨au, cu, rfl, hbu⟩ := own_bts HO2.out
      have BU : Hid (Bts au (ups 32) wr) := hbu
      clear hbu HO HO2
      rw [ups_length]
      go_wp2_with fail
      refine (join_one wr).mono ?_
      rintro e w1 ⟨rfl, hb1⟩
      have HB1 : Hid (Below w.heap.size w w1) := HB.out.trans (hb1.mono HB.out.size)
      have BU1 : Hid (Bts au (ups 32) w1) := BU.out.below hb1
      clear hb1 BU HB
      go_wp2_with fail
      refine (join_noth w1).mono ?_
      rintro e w2 ⟨rfl, hb1⟩
      have HB2 : Hid (Below w.heap.size w w2) := HB1.out.trans (hb1.mono HB1.out.size)
      have BU2 : Hid (Bts au (ups 32) w2) := BU1.out.below hb1
      clear hb1 BU1 HB1
      go_wp2_with fail
      refine (join_bad w2).mono ?_
      rintro e w3 ⟨rfl, hw⟩
      rw [hw]
      clear hw
      go_wp2_with fail
      refine (wakes_any w2).mono ?_
      rintro e w4 ⟨rfl, hb1⟩
      have HB4 : Hid (Below w.heap.size w w4) := HB2.out.trans (hb1.mono HB2.out.size)
      have BU4 : Hid (Bts au (ups 32) w4) := BU2.out.below hb1
      clear hb1 BU2 HB2
      go_wp2_with fail
      refine (of_nil w4).mono ?_
      rintro e w5 ⟨rfl, hw⟩
      rw [hw]
      clear hw
      obtain ⟨w6, hrun0, hown, hgrow⟩ := run_make_full (P := Try.prog) w4 w4.heap.size 22 5 i0 (.int .u8 0) 1 Try.underlying22 hi hz0 hz1 .i64 .i64 32 (by rw [hz2]; omega) (by unfold maxLen; omega) (Nat.le_refl _)
      have hrun : (Instr.makeSlice 22 (.int .i64 32) (.int .i64 32)).run Try.prog w4 = .ok (.slice (some ⟨w4.heap.size, 0, none⟩) 32 32) w6 := hrun0
      clear hrun0
      rw [show (madeCells (Value.int .u8 0).cells (32 * 1)).toList = cellsB (List.replicate 32 0) from made_zero 32] at hown
      have HB6' : Hid (Below w4.heap.size w4 w6) := (Below.refl _ _).grown hgrow (Nat.le_refl _) (fun k h => by cases h)
      have HB6 : Hid (Below w.heap.size w w6) := HB4.out.trans (HB6'.out.mono HB4.out.size)
      have BU6 : Hid (Bts au (ups 32) w6) := BU4.out.below HB6'.out
      have BZ : Hid (Bts (some ⟨w4.heap.size, 0, none⟩) (List.replicate 32 0) w6) := by
        obtain ⟨ar, cr, e, hb⟩ := own_bts (l := List.replicate 32 0) (v := .slice (some ⟨w4.heap.size, 0, none⟩) 32 32) (w := w6) (base := w4.heap.size) (by rw [List.length_replicate]; exact hown)
        injection e with e1
        rw [e1]
        exact hb
      clear hown hgrow BU4 HB4 HB6'
      go_wp2_with fail
      refine (of_known _ (List.replicate 32 0) 32 2324772522 w6 BZ.out List.length_replicate known_zero).mono ?_
      rintro e w7 ⟨rfl, hw⟩
      rw [hw]
      clear hw hrun BZ
      go_wp2_with fail
      have hcell : (w6.alloc (.cells #[.int .u8 255] 5)).cell? ⟨w6.heap.size, 0, none⟩ = some (.int .u8 255) := (Lies.new w6 _ _).cell 0
      refine (repeat_any w6.heap.size _ hcell (by simp)).mono ?_
      rintro e w8 ⟨rfl, hl8, hb8⟩
      have HB8 : Hid (Below w.heap.size w w8) := (HB6.out.alloc HB6.out.size _).trans (hb8.mono (by have := HB6.out.size; simp; omega))
      have BU8 : Hid (Bts au (ups 32) w8) := (BU6.out.below ((Below.refl _ _).alloc (Nat.le_refl _) _)).below hb8
      have BR : Hid (Bts (some ⟨w6.heap.size + 1, 0, none⟩) (List.replicate 32 255) w8) := by
        rw [show (w6.alloc (.cells #[.int .u8 255] 5)).heap.size = w6.heap.size + 1 by simp] at hl8
        exact lies_part [] (List.replicate 32 255) [] hl8
      clear hb8 hl8 hcell BU6 HB6
      go_wp2_with fail
      refine (of_known _ (List.replicate 32 255) 32 1655221059 w8 BR.out List.length_replicate known_full).mono ?_
      rintro e w9 ⟨rfl, hw⟩
      rw [hw]
      clear hw BR
      go_wp2_with fail
      refine (of_known au (ups 32) cu 1188919630 w8 BU8.out (ups_length 32) known_ups).mono ?_
      rintro e w9 ⟨rfl, hw⟩
      rw [hw]
      clear hw
      go_wp2
      go_ret
      exact ⟨rfl, HB8.out⟩
theorem own : ownKnob Try.prog.godebug = none := by kernel_rfl

set_option maxRecDepth 100000 in
theorem lifted (os : Os) (started : os.Started) (H : Type) (enc : TypeId × Value → H) :
    ReturnsInHanded {} Try.checked os 3 .any (Rows.sumKnownSpec.pre6 enc Try.prog Try.f3 Rows.sumKnownRow.domain false) (Rows.sumKnownSpec.post enc Try.prog Try.f3 false true false false) := by
  refine returnsInHanded_of_change_sized (C := Try.checked) own started (by kernel_rfl) Try.func3
    (ChangeSpec.witness6 (enc := enc) (C := Try.checked) false ⟨#[], #[], []⟩ 8 (by kernel_rfl) (by kernel_rfl) (by kernel_rfl) (by kernel_rfl)) ?_
  intro W base args ds gs before hval0 hW hcnd hsz0 _
  have hval : ∀ (j : Nat) t v, Try.f3.params[j]? = some t → args[j]? = some v → Value.okWide Try.prog W .any base t v := hval0
  have hW' := hW
  obtain ⟨p, q, hA0, hV, rfl, hfz, hnd⟩ := hW
  have hA : DataW.TrodAll enc Try.prog W 0 (fun _ => true) true Try.f3.params.toList args.toList ds p := hA0
  have hsz : (DataW.weightsEach Try.prog (Try.f3.params.toList ++ Rows.sumKnownSpec.plain.varTypes Try.prog) (ds ++ gs)).all (· ≤ reachBytes) = true := hsz0
  rw [Try.params3] at hA hval hsz
  obtain ⟨hargs, rfl, rfl⟩ := trodAll_nil hA
  obtain rfl : args = #[] := by cases args; simp_all
  obtain ⟨rfl, rfl⟩ := trodVars_none hV
  clear hA0 hval0
  simp only [List.append_nil] at hW'
  refine (walk  W).mono fun e W' ⟨he, bel⟩ => ?_
  subst he
  exact ⟨_, rfl, _, _, _, [], [], [], hW', trodAll_mk1 (shut_bool Try.underlying4 _), trodAll_mk0, rfl, bel.frame _, fun h => by cases h⟩

theorem over : Rows.sumKnownRow.holds Try.pinned (OpenSpec.ofChange Rows.sumKnownSpec) :=
  OpenClaim.holds_of_wide 3 Try.f3 rfl rfl rfl rfl rfl rfl rfl ⟨rfl, rfl, rfl, rfl, rfl⟩ rfl rfl rfl rfl rfl (by kernel_rfl) Try.func3 (by kernel_rfl)
    (of_decide_eq_true (by kernel_rfl)) (by unfold Func.isWrapper; first | (rw [if_pos (by decide +kernel)]; kernel_rfl) | (rw [if_neg (by decide +kernel)]; exact ⟨rfl, rfl⟩))
    (fun os started H enc _ => lifted os started H enc)
end Go.Proofs.Ytekjhfhakodooaa.sumKnown
namespace Go.Proofs.Ytekjhfhakodooaa
theorem sumKnown_said : Rows.SumKnownSaid := sumKnown.over
#print axioms sumKnown_said
end Go.Proofs.Ytekjhfhakodooaa
