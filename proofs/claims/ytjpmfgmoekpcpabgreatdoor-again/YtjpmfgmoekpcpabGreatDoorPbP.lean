/-
  The plain mathematics of writing parameters one by one: no Go in sight.
-/
import Derived.Test.YtjpmfgmoekpcpabGreatDoorPmB
import Derived.Test.YtjpmfgmoekpcpabGreatDoorPureBad
namespace Go.Proofs.YtjpmfgmoekpcpabGreatDoor

/-- The same, behind a text. -/
def Pz.on (t : List UInt8) : Except Nat (List UInt8) → Except Nat (List UInt8)
  | .error e => .error e
  | .ok u => .ok (t ++ u)
theorem Pz.on_on (t u : List UInt8) (x : Except Nat (List UInt8)) : Pz.on t (Pz.on u x) = Pz.on (t ++ u) x := by cases x <;> simp [Pz.on]
theorem Pz.on_nil (x : Except Nat (List UInt8)) : x = Pz.on [] x := by cases x <;> simp [Pz.on]
theorem prtL_at (l : List Pm) (k : Nat) (h : k < l.length) : prtL (l.drop k) = if nmB l[k].name = true then (if vaB l[k] = true then Pz.on (wr1 l[k]) (prtL (l.drop (k + 1))) else .error 101) else .error 100 := by
  rw [List.drop_eq_getElem_cons h, prtL]
  split
  · split
    · cases prtL (l.drop (k + 1)) <;> rfl
    · rfl
  · rfl
/-- What all would come to. -/
def wrA (l : List Pm) : List UInt8 := l.flatMap wr1
theorem wrA_take (l : List Pm) (k : Nat) (h : k < l.length) : wrA (l.take (k + 1)) = wrA (l.take k) ++ wr1 l[k] := by
  unfold wrA
  rw [List.take_succ_eq_append_getElem h, List.flatMap_append]
  simp
theorem wrA_le (l : List Pm) (k : Nat) : (wrA (l.take k)).length ≤ (wrA l).length := by
  have e : wrA l = wrA (l.take k) ++ wrA (l.drop k) := by unfold wrA; rw [← List.flatMap_append, List.take_append_drop]
  rw [e, List.length_append]
  omega
theorem wr1_le (l : List Pm) (k : Nat) (h : k < l.length) : (wr1 l[k]).length ≤ (wrA l).length := by
  have h1 := wrA_take l k h
  have h2 := wrA_le l (k + 1)
  rw [h1, List.length_append] at h2
  omega
theorem wr1_name (p : Pm) : p.name.length + 1 ≤ (wr1 p).length := by unfold wr1; simp
end Go.Proofs.YtjpmfgmoekpcpabGreatDoor
/-
  Plain: bytes below 128; what Print answers.
-/
namespace Go.Proofs.YtjpmfgmoekpcpabGreatDoor

theorem asc_is (c : UInt8) : isB 13 (c.toNat : Int) = decide (c.toNat < 128) := by
  have h : ∀ b : Fin 256, isB 13 (b.val : Int) = decide (b.val < 128) := by decide +kernel
  exact h ⟨c.toNat, c.toNat_lt⟩
theorem bad13 (l : List UInt8) : badN 13 l = l.length ↔ ∀ c ∈ l, c.toNat < 128 := by
  induction l with
  | nil => simp [badN]
  | cons b t ih =>
    unfold badN
    rw [asc_is]
    by_cases h : b.toNat < 128
    · simp [h, ← ih]
    · simp [h]
theorem prtL_is : ∀ (l : List Pm) (t : List UInt8), prtL l = .ok t → t = wrA l
  | [], t, h => by injection h with h; exact h.symm
  | p :: r, t, h => by
    obtain ⟨_, _, u, hu, rfl⟩ := prtL_cons h
    rw [prtL_is r u hu]
    rfl
theorem prtL_err : ∀ (l : List Pm) (e : Nat), prtL l = .error e → e ≠ 0
  | [], e, h => by cases h
  | p :: r, e, h => by
    unfold prtL at h
    split at h
    · split at h
      · split at h
        · rename_i e' he
          injection h with h
          exact h ▸ prtL_err r e' he
        · cases h
      · injection h with h; omega
    · injection h with h; omega
theorem prt_err (l : List Pm) (e : Nat) (h : prt l = .error e) : e ≠ 0 := by
  unfold prt at h
  split at h
  · injection h with h; omega
  · exact prtL_err l e h
theorem prt_ok (l : List Pm) (t : List UInt8) (h : prt l = .ok t) : l.length ≤ 16 ∧ prtL l = .ok t := by
  unfold prt at h
  split at h
  · cases h
  · exact ⟨by omega, h⟩
end Go.Proofs.YtjpmfgmoekpcpabGreatDoor
