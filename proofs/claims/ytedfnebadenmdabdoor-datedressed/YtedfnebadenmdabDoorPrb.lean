/-
  The program's Print of a date that may be, and its text, read again.
-/
import Derived.Test.YtedfnebadenmdabDoorPrn
import Derived.Test.YtedfnebadenmdabDoorPrtP
import Derived.Test.YtedfnebadenmdabDoorParF
namespace Go.Proofs.YtedfnebadenmdabDoor
open Go.RowKit

theorem gp32 : Gp [32] := ⟨by decide, by decide⟩
theorem dg_pad2 {n : Nat} (h : n < 100) : Dg (padL 2 n) 2 2 := ⟨pad_all 2 n, by rw [pad_len2 h]; omega, by rw [pad_len2 h]; omega⟩
theorem parse_print {y m1 d h mi sc z wd : Nat} {sg : UInt8} {x : Dt} (hm : May x) (ey : x.y = y) (em : x.mo = (m1 : Int) + 1) (ed : x.d = d) (eh : x.h = h) (ei : x.mi = mi) (es : x.s = sc) (hz : (sg = 43 ∧ x.z = z) ∨ (sg = 45 ∧ x.z = -(z : Int))) (hwd : wdN (numD x.y x.mo x.d) = (wd : Int)) :
    parse (printB wd d m1 y h mi sc ⟨#[sg]⟩ (z / 60) (z % 60)).data.toList = ⟨x, 0, 0⟩ := by
  have hwd6 := wdN_in (numD x.y x.mo x.d)
  obtain ⟨q1, q2, q3, q4, q5, q6⟩ := hm.day
  have ql := longN_pos x.y x.mo
  have t1 := hm.h1; have t3 := hm.m1; have t5 := hm.s1; have t6 := hm.z0; have t7 := hm.z1
  have hzz : z ≤ 1439 := by omega
  obtain ⟨a1, a2, a3⟩ := wdM_facts ⟨wd, by omega⟩
  obtain ⟨b1, b2, b3⟩ := moM_facts ⟨m1, by omega⟩
  have p1 := pad_len1 (n := d) (by omega)
  have p4 := pad_len4 (n := y) (by omega)
  rw [printB_list]
  refine parse_form (g0 := []) (g1 := [32]) (x := x) (fun b hb => by cases hb) ⟨a1, a2, a3⟩ gp32.all ⟨pad_all 1 d, p1.1, p1.2⟩ gp32 ⟨b1, b2, b3⟩ gp32 ⟨pad_all 4 y, by omega, by omega⟩ gp32 (dg_pad2 (by omega)) (dg_pad2 (by omega)) (dg_pad2 (by omega)) gp32 (dg_pad2 (by omega)) (dg_pad2 (by omega)) ?_ ?_ pEnd_nil (fun b hb => by cases hb) hm ?_ em ?_ ?_ ?_ ?_ hwd
  · rw [pad_val]; omega
  · rw [pad_val, pad_val]
    rcases hz with ⟨h1, h2⟩ | ⟨h1, h2⟩
    · exact .inl ⟨h1, by omega⟩
    · exact .inr ⟨h1, by omega⟩
  · rw [pad_val]; exact ey
  · rw [pad_val]; exact ed
  · rw [pad_val]; exact eh
  · rw [pad_val]; exact ei
  · rw [pad_val]; exact es
theorem print_any (x : Dt) (hm : May x) : ∃ t : ByteArray, (∀ w, Ahd w → PowTab w → Calls Tryd.prog 15 #[dtV x] w fun e w' => e = .returned (.tuple #[.string t, .int .i64 0]) ∧ Below w.heap.size w w') ∧ parse t.data.toList = ⟨x, 0, 0⟩ ∧
    ∃ (y m1 d h mi sc z wd : Nat) (sg : UInt8), t = printB wd d m1 y h mi sc ⟨#[sg]⟩ (z / 60) (z % 60) ∧ x.y = y ∧ x.mo = (m1 : Int) + 1 ∧ x.d = d ∧ x.h = h ∧ x.mi = mi ∧ x.s = sc ∧ ((sg = 43 ∧ x.z = z) ∨ (sg = 45 ∧ x.z = -(z : Int))) ∧ wdN (numD x.y x.mo x.d) = (wd : Int) := by
  have hw := wdN_in (numD x.y x.mo x.d)
  obtain ⟨q1, q2, q3, q4, q5, q6⟩ := hm.day
  have hm' := hm
  obtain ⟨_, t0, _, t2, _, t4, _, _, _⟩ := hm'
  obtain ⟨yy, mo, dd, hh, mm, ss, zz⟩ := x
  simp only at hw q1 q2 q3 q4 q5 q6 t0 t2 t4
  obtain ⟨y, rfl⟩ := Int.eq_ofNat_of_zero_le (show 0 ≤ yy by omega)
  obtain ⟨d, rfl⟩ := Int.eq_ofNat_of_zero_le (show 0 ≤ dd by omega)
  obtain ⟨h, rfl⟩ := Int.eq_ofNat_of_zero_le t0
  obtain ⟨mi, rfl⟩ := Int.eq_ofNat_of_zero_le t2
  obtain ⟨sc, rfl⟩ := Int.eq_ofNat_of_zero_le t4
  obtain ⟨m1, rfl⟩ : ∃ m1 : Nat, mo = (m1 : Int) + 1 := ⟨(mo - 1).toNat, by omega⟩
  obtain ⟨wd, hwd⟩ := Int.eq_ofNat_of_zero_le hw.1
  by_cases hz : 0 ≤ zz
  · obtain ⟨z, rfl⟩ := Int.eq_ofNat_of_zero_le hz
    exact ⟨_, fun w ht hp => print_pos y m1 d h mi sc z wd (z / 60) (z % 60) w ht hp hm hwd rfl rfl, parse_print hm rfl rfl rfl rfl rfl rfl (.inl ⟨rfl, rfl⟩) hwd, y, m1, d, h, mi, sc, z, wd, 43, rfl, rfl, rfl, rfl, rfl, rfl, rfl, .inl ⟨rfl, rfl⟩, hwd⟩
  · obtain ⟨z, hz2⟩ : ∃ z : Nat, zz = -(z : Int) := ⟨(-zz).toNat, by omega⟩
    subst hz2
    exact ⟨_, fun w ht hp => print_neg y m1 d h mi sc z wd (z / 60) (z % 60) w ht hp hm hwd (by omega) rfl rfl, parse_print hm rfl rfl rfl rfl rfl rfl (.inr ⟨rfl, rfl⟩) hwd, y, m1, d, h, mi, sc, z, wd, 45, rfl, rfl, rfl, rfl, rfl, rfl, rfl, .inr ⟨rfl, rfl⟩, hwd⟩
end Go.Proofs.YtedfnebadenmdabDoor
