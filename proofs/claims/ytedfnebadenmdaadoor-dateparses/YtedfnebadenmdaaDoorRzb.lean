/-
  The document's reader of dates: zone.
-/
import Derived.Test.YtedfnebadenmdaaDoorRrc
import Derived.Test.YtedfnebadenmdaaDoorRdz
namespace Go.Proofs.YtedfnebadenmdaaDoor
open Go.RowKit

def sgS : ByteArray := ⟨#[43, 45]⟩
theorem inA_sg (b : UInt8) : inA sgS b = (decide (some b = some 43) || decide (some b = some 45)) := by
  unfold inA sgS
  simp only [List.contains_cons, List.contains_nil, Bool.or_false]
  rw [Bool.eq_iff_iff]
  simp
theorem oneOf_sg (s : ByteArray) (k : Nat) : oneOf sgS s k = (standB s k 43 || standB s k 45) := by
  unfold standB
  by_cases hk : k < s.size
  · rw [oneOf_at _ s k hk, head_drop s k hk, inA_sg]
  · rw [oneOf_end _ s k hk, head_end s k hk]
    rfl
/-- Four digits. -/
structure Four (Q : ByteArray) : Prop where
  size : Q.size = 4
  dig : ∀ b ∈ Q.data.toList, isB 2 (b.toNat : Int) = true
theorem four_val {Q : ByteArray} (h : Four Q) (h0 : 0 < Q.size) (h1 : 1 < Q.size) (h2 : 2 < Q.size) (h3 : 3 < Q.size) :
    (48 ≤ Q[0].toNat ∧ Q[0].toNat ≤ 57) ∧ (48 ≤ Q[1].toNat ∧ Q[1].toNat ≤ 57) ∧ (48 ≤ Q[2].toNat ∧ Q[2].toNat ≤ 57) ∧ (48 ≤ Q[3].toNat ∧ Q[3].toNat ≤ 57) ∧
    zoneD Q.data.toList = if Q[2].toNat ≤ 53 then some (60 * (10 * ((Q[0].toNat : Int) - 48) + ((Q[1].toNat : Int) - 48)) + 10 * ((Q[2].toNat : Int) - 48) + ((Q[3].toNat : Int) - 48)) else none := by
  have d : ∀ i, (hi : i < Q.size) → 48 ≤ Q[i].toNat ∧ Q[i].toNat ≤ 57 := fun i hi => digit_iff Q[i] (h.dig Q[i] (Array.mem_toList_iff.2 (Array.getElem_mem hi)))
  have e : Q.data.toList = [Q[0], Q[1], Q[2], Q[3]] := by
    apply List.ext_getElem
    · rw [Array.length_toList]; exact h.size
    · intro i hi hj
      have hi' : i < 4 := by simpa using hj
      match i, hi' with
      | 0, _ => rfl
      | 1, _ => rfl
      | 2, _ => rfl
      | 3, _ => rfl
  refine ⟨d 0 h0, d 1 h1, d 2 h2, d 3 h3, ?_⟩
  have d0 := d 0 h0
  have d1 := d 1 h1
  have d2 := d 2 h2
  have d3 := d 3 h3
  rw [e]
  generalize Q[0] = a at d0 ⊢
  generalize Q[1] = b at d1 ⊢
  generalize Q[2] = c at d2 ⊢
  generalize Q[3] = f at d3 ⊢
  have n1 : numV ([a, b, c, f].drop 2) = (c.toNat - 48) * 10 + (f.toNat - 48) := by simp [numV]
  have n2 : numV ([a, b, c, f].take 2) = (a.toNat - 48) * 10 + (b.toNat - 48) := by simp [numV]
  unfold zoneD
  rw [n1, n2]
  by_cases hc : c.toNat ≤ 53
  · rw [if_pos ⟨rfl, by omega⟩, if_pos hc]
    congr 1
    omega
  · rw [if_neg (by intro h; omega), if_neg hc]
theorem rz_ok {T : TypeId} {g : Nat} {s : ByteArray} {k k2 : Nat} {e p v : Int} {o : Option Int} {w w2 : World} (hr : Rd0 T w2 g s k2 e p) (hb : But g w w2) (ho : o = some v) (v0 : -6000 ≤ v) (v1 : v ≤ 6000)
    (h : pZone (s.data.toList.drop k) = orBad 61 (s.data.toList.drop k) o (s.data.toList.drop k2)) :
    ∃ v' k' e' p', Ending.returned (.int .i64 v) = .returned (.int .i64 v') ∧ -6000 ≤ v' ∧ v' ≤ 6000 ∧ Rd0 T w2 g s k' e' p' ∧ Step s.size pZone (stOf s k e p) (stOf s k' e' p') v' ∧ But g w w2 := by
  subst ho
  exact ⟨v, k2, e, p, rfl, v0, v1, hr, Step.go (fun _ => h), hb⟩
theorem rz_no {T : TypeId} {g : Nat} {s : ByteArray} {k k2 : Nat} {e p : Int} {o : Option Int} {w w3 : World} (hk : k ≤ s.size) (hr : Rd0 T w3 g s k2 (if e = 0 then 61 else e) (if e = 0 then (k : Int) else p)) (hb : But g w w3) (ho : o = none)
    (h : pZone (s.data.toList.drop k) = orBad 61 (s.data.toList.drop k) o (s.data.toList.drop k2)) :
    ∃ v' k' e' p', Ending.returned (.int .i64 0) = .returned (.int .i64 v') ∧ -6000 ≤ v' ∧ v' ≤ 6000 ∧ Rd0 T w3 g s k' e' p' ∧ Step s.size pZone (stOf s k e p) (stOf s k' e' p') v' ∧ But g w w3 := by
  subst ho
  exact ⟨0, k2, _, _, rfl, by omega, by omega, hr, Step.fail 0 hk (by decide) (fun _ => h), hb⟩
end Go.Proofs.YtedfnebadenmdaaDoor
