/-
  The plain mathematics of digits held against one another: without the noughts ahead the longer row says the greater number.
-/
import Derived.Test.YtdgbkllhcoincaaDoorPureDec
import GoSem.Op.String
namespace Go.Proofs.YtdgbkllhcoincaaDoor
open Go.Lib

def Digs (l : List UInt8) : Prop := ∀ b ∈ l, 48 ≤ b.toNat ∧ b.toNat ≤ 57
theorem Digs.tail {b : UInt8} {l : List UInt8} (h : Digs (b :: l)) : Digs l := fun x hx => h x (by simp [hx])
theorem Digs.head {b : UInt8} {l : List UInt8} (h : Digs (b :: l)) : 48 ≤ b.toNat ∧ b.toNat ≤ 57 := h b (by simp)

theorem fold_acc : ∀ (l : List UInt8) (a : Nat), l.foldl (fun n b => n * 10 + (b.toNat - 48)) a = a * 10 ^ l.length + numV l
  | [], a => by simp [numV]
  | b :: r, a => by
    have h1 := fold_acc r (a * 10 + (b.toNat - 48))
    have h2 := fold_acc r (0 * 10 + (b.toNat - 48))
    have e : numV (b :: r) = (0 * 10 + (b.toNat - 48)) * 10 ^ r.length + numV r := h2
    rw [List.foldl_cons, h1, e, List.length_cons, Nat.pow_succ, Nat.add_mul, Nat.zero_mul, Nat.zero_add, Nat.mul_assoc, Nat.mul_comm 10 (10 ^ r.length), Nat.add_assoc]
theorem numV_cons (b : UInt8) (r : List UInt8) : numV (b :: r) = (b.toNat - 48) * 10 ^ r.length + numV r := by
  have e : numV (b :: r) = (0 * 10 + (b.toNat - 48)) * 10 ^ r.length + numV r := fold_acc r (0 * 10 + (b.toNat - 48))
  rw [e, Nat.zero_mul, Nat.zero_add]
theorem numV_lt : ∀ (l : List UInt8), Digs l → numV l < 10 ^ l.length
  | [], _ => by simp [numV]
  | b :: r, h => by
    have h1 := numV_lt r h.tail
    have h2 := h.head
    rw [numV_cons, List.length_cons, Nat.pow_succ]
    have h3 : (b.toNat - 48) * 10 ^ r.length ≤ 9 * 10 ^ r.length := Nat.mul_le_mul_right _ (by omega)
    omega

theorem same_len : ∀ (l m : List UInt8), l.length = m.length → Digs l → Digs m → (Op.bytesLess l m = true ↔ numV l < numV m) ∧ (l = m ↔ numV l = numV m)
  | [], [], _, _, _ => by simp [Op.bytesLess]
  | [], _ :: _, h, _, _ => by simp at h
  | _ :: _, [], h, _, _ => by simp at h
  | a :: x, b :: y, h, hl, hm => by
    have hlen : x.length = y.length := by simpa using h
    obtain ⟨i1, i2⟩ := same_len x y hlen hl.tail hm.tail
    have ha := hl.head
    have hb := hm.head
    have lx := numV_lt x hl.tail
    have ly := numV_lt y hm.tail
    rw [numV_cons, numV_cons, hlen]
    rw [hlen] at lx
    generalize hp : 10 ^ y.length = p at lx ly ⊢
    rw [Op.bytesLess]
    have hab : a < b ↔ a.toNat < b.toNat := UInt8.lt_iff_toNat_lt
    have heq : a = b ↔ a.toNat = b.toNat := UInt8.toNat_inj.symm
    rcases Nat.lt_trichotomy a.toNat b.toNat with c | c | c
    · have c1 : a < b := hab.2 c
      have c2 : a ≠ b := fun e => by rw [heq] at e; omega
      have hmul : (a.toNat - 48) * p + p ≤ (b.toNat - 48) * p := by
        have : (a.toNat - 48 + 1) * p ≤ (b.toNat - 48) * p := Nat.mul_le_mul_right _ (by omega)
        rw [Nat.add_mul, Nat.one_mul] at this
        exact this
      refine ⟨⟨fun _ => by omega, fun _ => by simp [c1]⟩, ⟨fun e => by injection e with e; exact absurd e c2, fun e => by omega⟩⟩
    · have c1 : a = b := heq.2 c
      subst c1
      refine ⟨?_, ?_⟩
      · simp only [UInt8.lt_irrefl, decide_false, Bool.false_or, beq_self_eq_true, Bool.true_and]
        rw [i1]
        omega
      · rw [List.cons.injEq]
        constructor
        · intro e; have := i2.1 e.2; omega
        · intro e; exact ⟨rfl, i2.2 (by omega)⟩
    · have c1 : ¬ a < b := fun e => by rw [hab] at e; omega
      have c2 : a ≠ b := fun e => by rw [heq] at e; omega
      have hmul : (b.toNat - 48) * p + p ≤ (a.toNat - 48) * p := by
        have : (b.toNat - 48 + 1) * p ≤ (a.toNat - 48) * p := Nat.mul_le_mul_right _ (by omega)
        rw [Nat.add_mul, Nat.one_mul] at this
        exact this
      refine ⟨⟨fun e => by simp [c1, c2] at e, fun e => by omega⟩, ⟨fun e => by injection e with e; exact absurd e c2, fun e => by omega⟩⟩

/-- No nought ahead, or one digit alone. -/
def Canon : List UInt8 → Prop
  | [] => False
  | [_] => True
  | a :: _ :: _ => 49 ≤ a.toNat
theorem canon_ge : ∀ (l : List UInt8), Canon l → 2 ≤ l.length → 10 ^ (l.length - 1) ≤ numV l
  | [], _, h => by simp at h
  | [_], _, h => by simp at h
  | a :: b :: r, hc, _ => by
    have hc' : 49 ≤ a.toNat := hc
    rw [numV_cons]
    have : 1 * 10 ^ (b :: r).length ≤ (a.toNat - 48) * 10 ^ (b :: r).length := Nat.mul_le_mul_right _ (by omega)
    simp only [List.length_cons, Nat.add_sub_cancel] at this ⊢
    omega
theorem canon_len (l : List UInt8) (h : Canon l) : 1 ≤ l.length := by
  cases l with
  | nil => exact absurd h (by simp [Canon])
  | cons a r => simp
theorem longer (l m : List UInt8) (hm : Digs m) (cl : Canon l) (cm : Canon m) (h : m.length < l.length) : numV m < numV l := by
  have h1 := canon_ge l cl (by have := canon_len m cm; omega)
  have h2 := numV_lt m hm
  have h3 : 10 ^ m.length ≤ 10 ^ (l.length - 1) := Nat.pow_le_pow_right (by omega) (by omega)
  omega

/-- The noughts ahead struck. -/
def stripZ : List UInt8 → List UInt8
  | a :: b :: r => if a.toNat = 48 then stripZ (b :: r) else a :: b :: r
  | l => l
theorem stripZ_step (a b : UInt8) (r : List UInt8) (h : a.toNat = 48) : stripZ (a :: b :: r) = stripZ (b :: r) := by rw [stripZ, if_pos h]
theorem numV_nought (a : UInt8) (r : List UInt8) (h : a.toNat = 48) : numV (a :: r) = numV r := by rw [numV_cons, h]; simp
theorem canon_of (l : List UInt8) (hd : Digs l) (h1 : 1 ≤ l.length) (h : ¬ (1 < l.length ∧ ∃ a r, l = a :: r ∧ a.toNat = 48)) : Canon l := by
  match l, h1 with
  | [_], _ => trivial
  | a :: b :: r, _ =>
    have := hd.head
    show 49 ≤ a.toNat
    rcases Nat.lt_or_ge a.toNat 49 with c | c
    · exact absurd ⟨by simp, a, b :: r, rfl, by omega⟩ h
    · exact c

theorem dec_digs (u : Nat) : Digs (decDigits u) := fun b hb => digit_iff b (dec_all u b hb)
theorem dec_head (u : Nat) (h : 1 ≤ u) : ∃ a r, decDigits u = a :: r ∧ 49 ≤ a.toNat := by
  induction u using Nat.strongRecOn with
  | _ u ih =>
    rw [decDigits]
    by_cases h10 : u < 10
    · rw [dif_pos h10]
      exact ⟨_, [], rfl, by rw [(dig_byte u h10).2]; omega⟩
    · rw [dif_neg h10]
      obtain ⟨a, r, e, ha⟩ := ih (u / 10) (by omega) (by omega)
      rw [e]
      exact ⟨a, _, rfl, ha⟩
theorem dec_canon (u : Nat) : Canon (decDigits u) := by
  by_cases h : 1 ≤ u
  · obtain ⟨a, r, e, ha⟩ := dec_head u h
    rw [e]
    cases r with
    | nil => trivial
    | cons b r => exact ha
  · have : u = 0 := by omega
    subst this
    rw [decDigits, dif_pos (by omega)]
    trivial

def decS (n : Nat) : ByteArray := ⟨(decDigits n).toArray⟩
theorem decS_list (n : Nat) : (decS n).data.toList = decDigits n := rfl
theorem decS_size (n : Nat) : (decS n).size = (decDigits n).length := List.size_toArray
end Go.Proofs.YtdgbkllhcoincaaDoor
