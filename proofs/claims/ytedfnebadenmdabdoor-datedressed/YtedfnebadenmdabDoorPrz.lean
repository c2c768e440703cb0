/-
  How long a date's text may be.
-/
import Derived.Test.YtedfnebadenmdabDoorPrb
namespace Go.Proofs.YtedfnebadenmdabDoor

theorem print_size {x : Dt} {t : ByteArray} (hm : May x) (h : ∃ (y m1 d h mi sc z wd : Nat) (sg : UInt8), t = printB wd d m1 y h mi sc ⟨#[sg]⟩ (z / 60) (z % 60) ∧ x.y = y ∧ x.mo = (m1 : Int) + 1 ∧ x.d = d ∧ x.h = h ∧ x.mi = mi ∧ x.s = sc ∧ ((sg = 43 ∧ x.z = z) ∨ (sg = 45 ∧ x.z = -(z : Int))) ∧ wdN (numD x.y x.mo x.d) = (wd : Int)) : t.size ≤ 2000 := by
  obtain ⟨y, m1, d, h, mi, sc, z, wd, sg, rfl, ey, em, ed, eh, ei, es, ez, ew⟩ := h
  obtain ⟨q1, q2, q3, q4, q5, q6⟩ := hm.day
  have ql := longN_pos x.y x.mo
  have t1 := hm.h1; have t3 := hm.m1; have t5 := hm.s1; have t6 := hm.z0; have t7 := hm.z1
  have hw := wdN_in (numD x.y x.mo x.d)
  have hzz : z ≤ 1439 := by omega
  have s1 := nmS_size wdS wd (by have : wdS.size = 21 := rfl; omega)
  have s2 := nmS_size moS m1 (by have : moS.size = 36 := rfl; omega)
  have p1 := padS_le 1 d (by omega) (by omega)
  have p2 := padS_le 4 y (by omega) (by omega)
  have p3 := padS_le 2 h (by omega) (by omega)
  have p4 := padS_le 2 mi (by omega) (by omega)
  have p5 := padS_le 2 sc (by omega) (by omega)
  have p6 := padS_le 2 (z / 60) (by omega) (by omega)
  have p7 := padS_le 2 (z % 60) (by omega) (by omega)
  have b1 : (⟨#[44, 32]⟩ : ByteArray).size = 2 := rfl
  have b2 : (⟨#[32]⟩ : ByteArray).size = 1 := rfl
  have b3 : (⟨#[58]⟩ : ByteArray).size = 1 := rfl
  have b4 : (⟨#[sg]⟩ : ByteArray).size = 1 := rfl
  unfold printB
  simp only [ByteArray.size_append]
  omega
end Go.Proofs.YtedfnebadenmdabDoor
