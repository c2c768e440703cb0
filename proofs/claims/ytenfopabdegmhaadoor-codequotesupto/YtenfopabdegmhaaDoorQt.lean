/-
  The program's sign, quoteLine and Quote.
-/
import Derived.Test.YtenfopabdegmhaaDoorQtP
import Derived.Test.YtenfopabdegmhaaDoorHexOf4
import Derived.Test.YtenfopabdegmhaaDoorUnhexOk4
import Derived.Test.YtenfopabdegmhaaDoorBase2
import Derived.Test.YtenfopabdegmhaaDoorOwn2
import Derived.Test.YtenfopabdegmhaaDoorConst4
import Derived.Test.YtenfopabdegmhaaDoorShelf
import Derived.Lib.Index
namespace Go.Proofs.YtenfopabdegmhaaDoor
open Go.RowKit

theorem val_is (c : UInt8) : isB 8 (c.toNat : Int) = valB c := by
  have h : ∀ b : Fin 256, isB 8 (b.val : Int) = decide (33 ≤ b.val ∧ b.val ≤ 126 ∧ b.val ≠ 61) := by decide +kernel
  exact h ⟨c.toNat, c.toNat_lt⟩
theorem isblank_any (c : UInt8) (w : World) : Calls Tryd.prog 31 #[.int .u8 (c.toNat : Int)] w fun e w' => e = .returned (.bool (blkB c)) ∧ w' = w := by
  unfold blkB
  by_cases h1 : c.toNat = 32
  · have q : ((c.toNat : Int) == 32) = true := by simp; omega
    have e : decide (c.toNat = 32 ∨ c.toNat = 9) = true := by simp [h1]
    rw [e]
    clear h1 e
    go_enter Tryd.func31, Tryd.ntmps31
    go_wp2
    go_ret
    exact ⟨rfl, rfl⟩
  · have q : ((c.toNat : Int) == 32) = false := by simp; omega
    by_cases h2 : c.toNat = 9
    · have q2 : ((c.toNat : Int) == 9) = true := by simp; omega
      have e : decide (c.toNat = 32 ∨ c.toNat = 9) = true := by simp [h2]
      rw [e]
      clear h1 h2 e
      go_enter Tryd.func31, Tryd.ntmps31
      go_wp2
      go_ret
      exact ⟨rfl, rfl⟩
    · have q2 : ((c.toNat : Int) == 9) = false := by simp; omega
      have e : decide (c.toNat = 32 ∨ c.toNat = 9) = false := by simp [h1, h2]
      rw [e]
      clear h1 h2 e
      go_enter Tryd.func31, Tryd.ntmps31
      go_wp2
      go_ret
      exact ⟨rfl, rfl⟩

theorem Table.of_below {w w' : World} (h : Table w) (hb : Below w.heap.size w w') : Table w' := h.keep hb

set_option maxHeartbeats 1000000 in
set_option maxRecDepth 100000 in
theorem sign_any (c : UInt8) (last : Bool) (g o k : Nat) (w : World) (ht : Table w) (hb : Bts (some ⟨g, o, none⟩) [c] w) :
    Calls Tryd.prog 28 #[.slice (some ⟨g, o, none⟩) 1 k, .bool last] w fun e w' => e = .returned (.string ⟨(signQ c last).toArray⟩) ∧ Below w.heap.size w w' := by
  have HT : Hid (Table w) := ht
  have hback := bts_back hb k
  simp only [List.length_cons, List.length_nil] at hback
  obtain ⟨g', o', e', hg, hc⟩ := hb.cell 0 (by simp)
  injection e' with e'
  injection e' with e1 e2
  subst e1 e2
  simp only [List.getElem_cons_zero, Nat.add_zero] at hc
  have HI : Hid (Calls Tryd.prog 32 #[.int .i64 8, .int .u8 (c.toNat : Int)] w fun e w' => e = .returned (.bool (valB c)) ∧ w' = w) := by
    have := is_any 8 (c.toNat : Int) w ht
    rw [val_is] at this
    exact this
  have HB : Hid (Calls Tryd.prog 31 #[.int .u8 (c.toNat : Int)] w fun e w' => e = .returned (.bool (blkB c)) ∧ w' = w) := isblank_any c w
  have HX : Hid (Calls Tryd.prog 46 #[.slice (some ⟨g, o, none⟩) 1 k] w fun e w' => e = .returned (.string ⟨#[hexD (c.toNat / 16), hexD (c.toNat % 16)]⟩) ∧ Below w.heap.size w w') := by
    have h1 : RowAt ⟨#[c]⟩ g o w := fun j hj => by
      obtain rfl : j = 0 := by
        have : j < 1 := hj
        omega
      exact hc
    exact hexof_any ⟨#[c]⟩ g o k w h1 (by show 2 * 1 ≤ 281474976710656; omega)
  have HS : Hid (signQ c last = if valB c = true ∨ (blkB c = true ∧ last = false) then [c] else [61, hexD (c.toNat / 16), hexD (c.toNat % 16)]) := rfl
  clear hb ht
  generalize signQ c last = S at HS ⊢
  cases hv : valB c with
  | true =>
    have HE : Hid (S = [c]) := by show _ = _; rw [HS.out, if_pos (.inl hv)]
    rw [hv] at HI
    clear hv HS
    go_enter Tryd.func28, Tryd.ntmps28
    go_wp2_with (go_at_call 32; refine Calls.mono HI.out ?_; rintro e w1 ⟨rfl, rfl⟩)
    go_ret
    exact ⟨by rw [HE.out]; rfl, Below.refl _ _⟩
  | false =>
    rw [hv] at HI
    cases hbl : blkB c with
    | false =>
      have HE : Hid (S = [61, hexD (c.toNat / 16), hexD (c.toNat % 16)]) := by show _ = _; rw [HS.out, if_neg (by rw [hv, hbl]; simp)]
      rw [hbl] at HB
      clear hv hbl HS
      go_enter Tryd.func28, Tryd.ntmps28
      go_wp2_with (first | (go_at_call 32; refine Calls.mono HI.out ?_; rintro e w1 ⟨rfl, rfl⟩) | (go_at_call 31; refine Calls.mono HB.out ?_; rintro e w2 ⟨rfl, rfl⟩) | (go_at_call 46; refine Calls.mono HX.out ?_; rintro e w3 ⟨rfl, hb3⟩))
      go_ret
      exact ⟨by rw [HE.out]; rfl, hb3⟩
    | true =>
      rw [hbl] at HB
      cases last with
      | true =>
        have HE : Hid (S = [61, hexD (c.toNat / 16), hexD (c.toNat % 16)]) := by show _ = _; rw [HS.out, if_neg (by rw [hv]; simp)]
        clear hv hbl HS
        go_enter Tryd.func28, Tryd.ntmps28
        go_wp2_with (first | (go_at_call 32; refine Calls.mono HI.out ?_; rintro e w1 ⟨rfl, rfl⟩) | (go_at_call 31; refine Calls.mono HB.out ?_; rintro e w2 ⟨rfl, rfl⟩) | (go_at_call 46; refine Calls.mono HX.out ?_; rintro e w3 ⟨rfl, hb3⟩))
        go_ret
        exact ⟨by rw [HE.out]; rfl, hb3⟩
      | false =>
        have HE : Hid (S = [c]) := by show _ = _; rw [HS.out, if_pos (.inr ⟨hbl, rfl⟩)]
        clear hv hbl HS
        go_enter Tryd.func28, Tryd.ntmps28
        go_wp2_with (first | (go_at_call 32; refine Calls.mono HI.out ?_; rintro e w1 ⟨rfl, rfl⟩) | (go_at_call 31; refine Calls.mono HB.out ?_; rintro e w2 ⟨rfl, rfl⟩))
        go_ret
        exact ⟨by rw [HE.out]; rfl, Below.refl _ _⟩
end Go.Proofs.YtenfopabdegmhaaDoor
