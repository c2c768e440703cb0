/-
  The contracts of the document's sign, line and Quote.
-/
import Derived.Test.YtenfopabdegmhaaDoorRQtP
import Derived.Test.YtenfopabdegmhaaDoorRHexOf4
import Derived.Test.YtenfopabdegmhaaDoorQt
namespace Go.Proofs.YtenfopabdegmhaaDoor
open Go.RowKit

theorem byte_one (w : World) (c : UInt8) : Bts (some ⟨w.heap.size, 0, none⟩) [c] (w.alloc (.cells #[.int .u8 (c.toNat : Int)] 5)) := by
  refine .inr ⟨w.heap.size, 0, rfl, by simp, fun j hj => ?_⟩
  obtain rfl : j = 0 := by simpa using hj
  exact (Lies.new _ _ _).cell 0
theorem hex_one (w : World) (c : UInt8) : Calls Tryd.prog 47 #[.slice (some ⟨w.heap.size, 0, none⟩) 1 1] (w.alloc (.cells #[.int .u8 (c.toNat : Int)] 5)) fun e w' => e = .returned (.string ⟨#[hexD (c.toNat / 16), hexD (c.toNat % 16)]⟩) ∧ Below w.heap.size w w' := by
  have h1 : RowAt ⟨#[c]⟩ w.heap.size 0 (w.alloc (.cells #[.int .u8 (c.toNat : Int)] 5)) := fun j hj => by
    obtain rfl : j = 0 := by
      have : j < 1 := hj
      omega
    exact (Lies.new _ _ _).cell 0
  refine (rhexof_any ⟨#[c]⟩ w.heap.size 1 _ h1 (by show 1 ≤ 1048576; omega)).mono ?_
  rintro e w' ⟨rfl, hb⟩
  exact ⟨rfl, ((Below.refl _ w).alloc (Nat.le_refl _) _).trans (hb.mono (by simp))⟩

set_option maxHeartbeats 2000000 in
set_option maxRecDepth 100000 in
theorem rsign_any (c : UInt8) (last : Bool) (w : World) :
    Calls Tryd.prog 29 #[.int .u8 (c.toNat : Int), .bool last] w fun e w' => e = .returned (.string ⟨(signQ c last).toArray⟩) ∧ Below w.heap.size w w' := by
  have hback := bts_back (byte_one w c) 1
  simp only [List.length_cons, List.length_nil] at hback
  have HX : Hid (Calls Tryd.prog 47 #[.slice (some ⟨w.heap.size, 0, none⟩) 1 1] (w.alloc (.cells #[.int .u8 (c.toNat : Int)] 5)) fun e w' => e = .returned (.string ⟨#[hexD (c.toNat / 16), hexD (c.toNat % 16)]⟩) ∧ Below w.heap.size w w') := hex_one w c
  have HB0 : Hid (Below w.heap.size w (w.alloc (.cells #[.int .u8 (c.toNat : Int)] 5))) := (Below.refl _ _).alloc (Nat.le_refl _) _
  have hQ : (⟨#[61]⟩ : ByteArray) ++ (⟨#[hexD (c.toNat / 16), hexD (c.toNat % 16)]⟩ : ByteArray) = ⟨#[61, hexD (c.toNat / 16), hexD (c.toNat % 16)]⟩ := by
    apply ByteArray.ext
    simp
  have hQ2 : (⟨#[hexD (c.toNat / 16), hexD (c.toNat % 16)]⟩ : ByteArray).size = 2 := rfl
  have HS : Hid (signQ c last = if valB c = true ∨ (blkB c = true ∧ last = false) then [c] else [61, hexD (c.toNat / 16), hexD (c.toNat % 16)]) := rfl
  generalize signQ c last = S at HS ⊢
  have h256 : c.toNat < 256 := c.toNat_lt
  by_cases hv : 33 ≤ c.toNat ∧ c.toNat ≤ 126 ∧ c.toNat ≠ 61
  · have HE : Hid (S = [c]) := by show _ = _; rw [HS.out, if_pos (.inl (by unfold valB; simpa using hv))]
    obtain ⟨h1, h2, h3⟩ := hv
    have y33 : (33 : Int) ≤ (c.toNat : Int) := by omega
    have y126 : (c.toNat : Int) ≤ 126 := by omega
    have y61 : ((c.toNat : Int) != 61) = true := by simp; omega
    clear HS HX hQ hQ2 h1 h2 h3
    go_enter Tryd.func29, Tryd.ntmps29
    go_wp2
    go_ret
    exact ⟨by rw [HE.out]; rfl, HB0.out⟩
  · have n1 : (33 : Int) ≤ (c.toNat : Int) ∧ (¬ (c.toNat : Int) ≤ 126) ∨ c.toNat = 61 ∨ c.toNat = 32 ∨ c.toNat = 9 ∨ (¬ (33 : Int) ≤ (c.toNat : Int) ∧ ((c.toNat : Int) == 32) = false ∧ ((c.toNat : Int) == 9) = false) := by
      simp
      omega
    have hvf : valB c = false := by unfold valB; simpa using hv
    rcases n1 with ⟨a1, a2⟩ | a1 | a1 | a1 | ⟨a1, a2, a3⟩
    · have HE : Hid (S = [61, hexD (c.toNat / 16), hexD (c.toNat % 16)]) := by
        show _ = _
        rw [HS.out, if_neg]
        rw [hvf]
        unfold blkB
        simp
        omega
      have e32 : ((c.toNat : Int) == 32) = false := by simp; omega
      have e9 : ((c.toNat : Int) == 9) = false := by simp; omega
      clear HS hback hv hvf
      go_enter Tryd.func29, Tryd.ntmps29
      go_wp2_with fail
      refine Calls.mono HX.out ?_
      rintro e w1 ⟨rfl, hb1⟩
      have HB1 : Hid (Below w.heap.size w w1) := hb1
      clear hb1
      go_wp2
      go_ret
      exact ⟨by rw [HE.out]; rfl, HB1.out⟩
    · have HE : Hid (S = [61, hexD (c.toNat / 16), hexD (c.toNat % 16)]) := by
        show _ = _
        rw [HS.out, if_neg]
        rw [hvf]
        unfold blkB
        simp
        omega
      have y33 : (33 : Int) ≤ (c.toNat : Int) := by omega
      have y126 : (c.toNat : Int) ≤ 126 := by omega
      have y61 : ((c.toNat : Int) != 61) = false := by simp; omega
      have e32 : ((c.toNat : Int) == 32) = false := by simp; omega
      have e9 : ((c.toNat : Int) == 9) = false := by simp; omega
      clear HS hback hv hvf a1
      go_enter Tryd.func29, Tryd.ntmps29
      go_wp2_with fail
      refine Calls.mono HX.out ?_
      rintro e w1 ⟨rfl, hb1⟩
      have HB1 : Hid (Below w.heap.size w w1) := hb1
      clear hb1
      go_wp2
      go_ret
      exact ⟨by rw [HE.out]; rfl, HB1.out⟩
    · cases last
      · have HE : Hid (S = [c]) := by show _ = _; rw [HS.out, if_pos (.inr ⟨by unfold blkB; simp [a1], rfl⟩)]
        have n33 : ¬ (33 : Int) ≤ (c.toNat : Int) := by omega
        have e32 : ((c.toNat : Int) == 32) = true := by simp; omega
        clear HS HX hQ hQ2 hv hvf a1
        go_enter Tryd.func29, Tryd.ntmps29
        go_wp2
        go_ret
        exact ⟨by rw [HE.out]; rfl, HB0.out⟩
      · have HE : Hid (S = [61, hexD (c.toNat / 16), hexD (c.toNat % 16)]) := by
          show _ = _
          rw [HS.out, if_neg]
          rw [hvf]
          simp
        have n33 : ¬ (33 : Int) ≤ (c.toNat : Int) := by omega
        have e32 : ((c.toNat : Int) == 32) = true := by simp; omega
        clear HS hback hv hvf a1
        go_enter Tryd.func29, Tryd.ntmps29
        go_wp2_with fail
        refine Calls.mono HX.out ?_
        rintro e w1 ⟨rfl, hb1⟩
        have HB1 : Hid (Below w.heap.size w w1) := hb1
        clear hb1
        go_wp2
        go_ret
        exact ⟨by rw [HE.out]; rfl, HB1.out⟩
    · cases last
      · have HE : Hid (S = [c]) := by show _ = _; rw [HS.out, if_pos (.inr ⟨by unfold blkB; simp [a1], rfl⟩)]
        have n33 : ¬ (33 : Int) ≤ (c.toNat : Int) := by omega
        have e32 : ((c.toNat : Int) == 32) = false := by simp; omega
        have e9 : ((c.toNat : Int) == 9) = true := by simp; omega
        clear HS HX hQ hQ2 hv hvf a1
        go_enter Tryd.func29, Tryd.ntmps29
        go_wp2
        go_ret
        exact ⟨by rw [HE.out]; rfl, HB0.out⟩
      · have HE : Hid (S = [61, hexD (c.toNat / 16), hexD (c.toNat % 16)]) := by
          show _ = _
          rw [HS.out, if_neg]
          rw [hvf]
          simp
        have n33 : ¬ (33 : Int) ≤ (c.toNat : Int) := by omega
        have e32 : ((c.toNat : Int) == 32) = false := by simp; omega
        have e9 : ((c.toNat : Int) == 9) = true := by simp; omega
        clear HS hback hv hvf a1
        go_enter Tryd.func29, Tryd.ntmps29
        go_wp2_with fail
        refine Calls.mono HX.out ?_
        rintro e w1 ⟨rfl, hb1⟩
        have HB1 : Hid (Below w.heap.size w w1) := hb1
        clear hb1
        go_wp2
        go_ret
        exact ⟨by rw [HE.out]; rfl, HB1.out⟩
    · have HE : Hid (S = [61, hexD (c.toNat / 16), hexD (c.toNat % 16)]) := by
        show _ = _
        rw [HS.out, if_neg]
        rw [hvf]
        unfold blkB
        simp at a2 a3 ⊢
        omega
      clear HS hback hv hvf
      go_enter Tryd.func29, Tryd.ntmps29
      go_wp2_with fail
      refine Calls.mono HX.out ?_
      rintro e w1 ⟨rfl, hb1⟩
      have HB1 : Hid (Below w.heap.size w w1) := hb1
      clear hb1
      go_wp2
      go_ret
      exact ⟨by rw [HE.out]; rfl, HB1.out⟩
end Go.Proofs.YtenfopabdegmhaaDoor
