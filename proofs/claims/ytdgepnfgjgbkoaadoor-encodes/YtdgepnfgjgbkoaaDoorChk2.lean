/-
  Small laws on bytes, texts and lists.
-/
import Derived.Test.YtdgepnfgjgbkoaaDoorBase
import Derived.Test.YtdgepnfgjgbkoaaDoorChk
namespace Go.Proofs.YtdgepnfgjgbkoaaDoor
open Go.RowKit

theorem pad_eq (c : UInt8) : ((c.toNat : Int) == 61) = decide (c = 61) := by
  rw [Bool.eq_iff_iff]
  simp only [beq_iff_eq, decide_eq_true_eq]
  constructor
  · intro h
    exact UInt8.toNat_inj.1 (by simpa using (by omega : c.toNat = 61))
  · intro h
    rw [h]
    rfl
theorem pad_ne (c : UInt8) : ((c.toNat : Int) != 61) = !decide (c = 61) := by
  rw [bne, pad_eq]

theorem ext_list (s : ByteArray) (a b : Nat) : (s.extract a b).data.toList = (s.data.toList.take b).drop a := by
  simp [ByteArray.data_extract, List.drop_take]
theorem len_list (s : ByteArray) : s.data.toList.length = s.size := by rw [Array.length_toList]; rfl
theorem at_list (s : ByteArray) (k : Nat) (h : k < s.size) : s.data.toList[k]'(by rw [len_list]; exact h) = s[k] := rfl

/-- Three bytes that have just been laid. -/
theorem three_bts (w : World) (t : TypeId) (x y z : Int) (a b c : UInt8) (hx : x = (a.toNat : Int)) (hy : y = (b.toNat : Int)) (hz : z = (c.toNat : Int)) (n : Nat) :
    Bts (some ⟨w.heap.size, 0, none⟩) ([a, b, c].take n) (w.alloc (.cells #[.int .u8 x, .int .u8 y, .int .u8 z] t)) := by
  subst hx hy hz
  refine Bts.take (.inr ⟨w.heap.size, 0, rfl, by simp, fun j hj => ?_⟩) n
  have h3 : j < 3 := hj
  match j, h3 with
  | 0, _ => simp
  | 1, _ => simp
  | 2, _ => simp

theorem take4 (l : List UInt8) (k : Nat) (h : k + 3 < l.length) : l.take (k + 4) = l.take k ++ [l[k], l[k + 1], l[k + 2], l[k + 3]] := by
  have e3 := List.take_succ_eq_append_getElem (l := l) (i := k + 3) (by omega)
  have e2 := List.take_succ_eq_append_getElem (l := l) (i := k + 2) (by omega)
  have e1 := List.take_succ_eq_append_getElem (l := l) (i := k + 1) (by omega)
  have e0 := List.take_succ_eq_append_getElem (l := l) (i := k) (by omega)
  rw [show l.take (k + 4) = _ from e3, show l.take (k + 3) = _ from e2, show l.take (k + 2) = _ from e1, e0]
  simp only [List.append_assoc, List.cons_append, List.nil_append]
theorem own_nil (w : World) (B : Nat) : w.ownsRow B 5 1 (.slice none 0 0) ([] : List UInt8).length (cellsB []) := ⟨rfl, .inl ⟨rfl, rfl⟩⟩

end Go.Proofs.YtdgepnfgjgbkoaaDoor
/-
  The program's Bad of a text and of bytes, and its checkers.
-/
namespace Go.Proofs.YtdgepnfgjgbkoaaDoor
open Go.RowKit

def runM (m : Option Q) (l : List UInt8) : Option Q := m.bind fun q => runQ q l
theorem runM_nil (m : Option Q) : runM m [] = m := by cases m <;> rfl
theorem runM_none (l : List UInt8) : runM none l = none := rfl
theorem runM_cons (m : Option Q) (b : UInt8) (t : List UInt8) : runM m (b :: t) = runM (stepM m b.toNat) t := by
  cases m with
  | none => rfl
  | some q => show runQ q (b :: t) = _; simp only [runQ, stepM, runM, Option.bind_some]
theorem runM_append (m : Option Q) (l r : List UInt8) : runM m (l ++ r) = runM (runM m l) r := by
  induction l generalizing m with
  | nil => rw [List.nil_append, runM_nil]
  | cons b t ih => rw [List.cons_append, runM_cons, ih, runM_cons]
theorem runM_take (m : Option Q) (l : List UInt8) (k : Nat) (h : k < l.length) : runM m (l.take (k + 1)) = stepM (runM m (l.take k)) l[k].toNat := by
  rw [List.take_succ_eq_append_getElem h, runM_append, runM_cons, runM_nil]

theorem Fst.lt {w : World} (h : Fst w) : 0 < w.heap.size := by
  obtain ⟨t, fr, h⟩ := h
  exact (Array.getElem?_eq_some_iff.1 h).1
theorem Fst.below {w w' : World} {B : Nat} (h : Fst w) (hb : Below B w w') (hB : 0 < B) : Fst w' := by
  obtain ⟨t, fr, h⟩ := h
  exact ⟨t, fr, (hb.block _ hB).trans h⟩
theorem Fst.but {w w' : World} {g : Nat} (h : Fst w) (hb : But g w w') (hne : 0 ≠ g) : Fst w' := by
  have hlt := h.lt
  obtain ⟨t, fr, h⟩ := h
  exact ⟨t, fr, (hb.block _ hlt hne).trans h⟩

theorem badUA_step (q : Q) (n whole : Nat) (l : List UInt8) (k : Nat) (hk : k < l.length) :
    badUA q n whole (l.drop k) = match stepQ q l[k].toNat with
      | none => whole
      | some q' => badUA q' (n + 1) (if q'.1 = 0 then n + 1 else whole) (l.drop (k + 1)) := by
  rw [List.drop_eq_getElem_cons hk]
  rfl

set_option maxHeartbeats 2000000 in
set_option maxRecDepth 100000 in
theorem ubs_any (s : ByteArray) (w : World) (hf : Fst w) (hs : s.size ≤ 9223372036854775806) :
    Calls Tryd.prog 16 #[.string s] w fun e w' => e = .returned (.int .i64 (badU s.data.toList)) ∧ Below w.heap.size w w' := by
  have HF : Hid (Fst w) := hf
  have hlt := hf.lt
  clear hf
  go_enter Tryd.func16, Tryd.ntmps16
  go_wp2
  go_loopw [4, 8] (fun whole i wr => ∃ (k wh : Nat) (q : Q), i = .int .i64 k ∧ whole = .int .i64 wh ∧ k ≤ s.size ∧ wh ≤ k ∧ Hid (badU s.data.toList = badUA q k wh (s.data.toList.drop k)) ∧ Hid (MSt wr w.heap.size [] 66 (some q)) ∧ Hid (Below w.heap.size w wr)) (fun _ i _ => s.size - (intOf i).toNat)
  case atStart => exact ⟨0, 0, q0, rfl, rfl, Nat.zero_le _, Nat.le_refl _, rfl, ⟨0, 0, 0, false, Lies.new w _ 66, by omega, rfl, rfl, fun h => absurd rfl h⟩, (Below.refl _ _).alloc (Nat.le_refl _) _⟩
  case round =>
    obtain ⟨k, wh, q, rfl, rfl, hk, hwk, HE, HM, HB⟩ := hrel
    by_cases hlk : k < s.size
    · have hlk' : k < s.data.toList.length := by rw [len_list]; exact hlk
      have HS : Hid (_ = _) := badUA_step q k wh s.data.toList k hlk'
      have HC : Hid (∀ b : UInt8, Calls Tryd.prog 33 #[.pointer (some ⟨w.heap.size, 0, none⟩), .int .u8 (b.toNat : Int)] wr fun e w' => e = .returned (.tuple #[]) ∧ But w.heap.size wr w' ∧ MSt w' w.heap.size [] 66 (stepM (some q) b.toNat)) :=
        fun b => take_any w.heap.size [] 66 (some q) b wr HM.out (HF.out.below HB.out hlt)
      rw [at_list s k hlk] at HS
      go_wp2_with fail
      refine (HC.out _).mono ?_
      rintro e w1 ⟨rfl, b1, m1⟩
      have HB1 : Hid (Below w.heap.size w w1) := HB.out.trans (b1.below (Nat.le_refl _) HB.out.size)
      have HM1 : Hid (MSt w1 w.heap.size [] 66 (stepM (some q) s[k].toNat)) := m1
      cases hq : stepQ q s[k].toNat with
      | none =>
        simp only [hq] at HS
        simp only [stepM, Option.bind_some, hq] at m1
        obtain ⟨left, low, high, wrong, ms, ml, rfl⟩ := m1
        obtain ⟨c0, c1, c2, c3⟩ := ms.cell
        simp only [List.length_nil, Nat.zero_add] at c0 c1 c2 c3
        clear ms
        have HR : Hid (badU s.data.toList = wh) := HE.out.trans HS.out
        go_wp2
        go_ret
        exact ⟨ret_i64 (by rw [HR.out]), HB1.out⟩
      | some q' =>
        simp only [hq] at HS
        simp only [stepM, Option.bind_some, hq] at m1
        obtain ⟨left, low, high, wrong, ms, ml, rfl, mq1, mq2⟩ := m1
        obtain ⟨c0, c1, c2, c3⟩ := ms.cell
        simp only [List.length_nil, Nat.zero_add] at c0 c1 c2 c3
        simp only [stepM, Option.bind_some, hq] at HM1
        clear ms mq2
        by_cases h0 : q'.1 = 0
        · rw [if_pos h0] at HS
          have e0 : (left == 0) = true := by simp; omega
          have HN : Hid (badU s.data.toList = badUA q' (k + 1) (k + 1) (s.data.toList.drop (k + 1))) := HE.out.trans HS.out
          clear HE HS mq1
          go_wp2
          go_roundw
          case rel => exact ⟨k + 1, k + 1, q', by go_num, by go_num, by omega, by omega, HN, HM1, HB1⟩
          case measure => simp [intOf]; omega
        · rw [if_neg h0] at HS
          have e0 : (left == 0) = false := by simp; omega
          have HN : Hid (badU s.data.toList = badUA q' (k + 1) wh (s.data.toList.drop (k + 1))) := HE.out.trans HS.out
          clear HE HS mq1
          go_wp2
          go_roundw
          case rel => exact ⟨k + 1, wh, q', by go_num, rfl, by omega, by omega, HN, HM1, HB1⟩
          case measure => simp [intOf]; omega
    · have HR : Hid (badU s.data.toList = wh) := by
        show _ = _
        rw [HE.out, List.drop_eq_nil_of_le (by rw [len_list]; omega)]
        rfl
      go_wp2
      go_ret
      exact ⟨ret_i64 (by rw [HR.out]), HB.out⟩

set_option maxHeartbeats 2000000 in
set_option maxRecDepth 100000 in
theorem ubb_any (a : Option Addr) (l : List UInt8) (cap : Nat) (w : World) (hf : Fst w) (hb : Bts a l w) (hs : l.length ≤ 9223372036854775806) :
    Calls Tryd.prog 64 #[.slice a l.length cap] w fun e w' => e = .returned (.int .i64 (badU l)) ∧ Below w.heap.size w w' := by
  have HF : Hid (Fst w) := hf
  have HL : Hid (Bts a l w) := hb
  have hlt := hf.lt
  clear hf hb
  go_enter Tryd.func64, Tryd.ntmps64
  go_wp2
  go_loopw [4, 8] (fun whole i wr => ∃ (k wh : Nat) (q : Q), i = .int .i64 k ∧ whole = .int .i64 wh ∧ k ≤ l.length ∧ wh ≤ k ∧ Hid (badU l = badUA q k wh (l.drop k)) ∧ Hid (MSt wr w.heap.size [] 66 (some q)) ∧ Hid (Below w.heap.size w wr)) (fun _ i _ => l.length - (intOf i).toNat)
  case atStart => exact ⟨0, 0, q0, rfl, rfl, Nat.zero_le _, Nat.le_refl _, rfl, ⟨0, 0, 0, false, Lies.new w _ 66, by omega, rfl, rfl, fun h => absurd rfl h⟩, (Below.refl _ _).alloc (Nat.le_refl _) _⟩
  case round =>
    obtain ⟨k, wh, q, rfl, rfl, hk, hwk, HE, HM, HB⟩ := hrel
    by_cases hlk : k < l.length
    · have HS : Hid (_ = _) := badUA_step q k wh l k hlk
      have HC : Hid (∀ b : UInt8, Calls Tryd.prog 33 #[.pointer (some ⟨w.heap.size, 0, none⟩), .int .u8 (b.toNat : Int)] wr fun e w' => e = .returned (.tuple #[]) ∧ But w.heap.size wr w' ∧ MSt w' w.heap.size [] 66 (stepM (some q) b.toNat)) :=
        fun b => take_any w.heap.size [] 66 (some q) b wr HM.out (HF.out.below HB.out hlt)
      obtain ⟨g, o, rfl, hg, hc⟩ := (HL.out.below HB.out).cell k hlk
      go_wp2_with fail
      refine (HC.out _).mono ?_
      rintro e w1 ⟨rfl, b1, m1⟩
      have HB1 : Hid (Below w.heap.size w w1) := HB.out.trans (b1.below (Nat.le_refl _) HB.out.size)
      have HM1 : Hid (MSt w1 w.heap.size [] 66 (stepM (some q) l[k].toNat)) := m1
      cases hq : stepQ q l[k].toNat with
      | none =>
        simp only [hq] at HS
        simp only [stepM, Option.bind_some, hq] at m1
        obtain ⟨left, low, high, wrong, ms, ml, rfl⟩ := m1
        obtain ⟨c0, c1, c2, c3⟩ := ms.cell
        simp only [List.length_nil, Nat.zero_add] at c0 c1 c2 c3
        clear ms
        have HR : Hid (badU l = wh) := HE.out.trans HS.out
        go_wp2
        go_ret
        exact ⟨ret_i64 (by rw [HR.out]), HB1.out⟩
      | some q' =>
        simp only [hq] at HS
        simp only [stepM, Option.bind_some, hq] at m1
        obtain ⟨left, low, high, wrong, ms, ml, rfl, mq1, mq2⟩ := m1
        obtain ⟨c0, c1, c2, c3⟩ := ms.cell
        simp only [List.length_nil, Nat.zero_add] at c0 c1 c2 c3
        simp only [stepM, Option.bind_some, hq] at HM1
        clear ms mq2
        by_cases h0 : q'.1 = 0
        · rw [if_pos h0] at HS
          have e0 : (left == 0) = true := by simp; omega
          have HN : Hid (badU l = badUA q' (k + 1) (k + 1) (l.drop (k + 1))) := HE.out.trans HS.out
          clear HE HS mq1
          go_wp2
          go_roundw
          case rel => exact ⟨k + 1, k + 1, q', by go_num, by go_num, by omega, by omega, HN, HM1, HB1⟩
          case measure => simp [intOf]; omega
        · rw [if_neg h0] at HS
          have e0 : (left == 0) = false := by simp; omega
          have HN : Hid (badU l = badUA q' (k + 1) wh (l.drop (k + 1))) := HE.out.trans HS.out
          clear HE HS mq1
          go_wp2
          go_roundw
          case rel => exact ⟨k + 1, wh, q', by go_num, rfl, by omega, by omega, HN, HM1, HB1⟩
          case measure => simp [intOf]; omega
    · have HR : Hid (badU l = wh) := by
        show _ = _
        rw [HE.out, List.drop_eq_nil_of_le (by omega)]
        rfl
      go_wp2
      go_ret
      exact ⟨ret_i64 (by rw [HR.out]), HB.out⟩

def okM (m : Option Q) : Bool := m.isSome
def wholeM (m : Option Q) : Bool := match m with
  | none => false
  | some q => q.1 == 0
theorem okM_wrong {m : Option Q} {left low high : Int} {wrong : Bool} (h : MSq m left low high wrong) : okM m = !wrong := by
  cases m with
  | none => rw [show wrong = true from h]; rfl
  | some q => rw [h.1]; rfl
theorem wholeM_left {m : Option Q} {left low high : Int} {wrong : Bool} (h : MSq m left low high wrong) : wholeM m = (!wrong && (left == 0)) := by
  cases m with
  | none => rw [show wrong = true from h]; rfl
  | some q =>
    rw [h.1, h.2.1]
    simp only [wholeM, Bool.not_false, Bool.true_and]
    rw [Bool.eq_iff_iff]
    simp

end Go.Proofs.YtdgepnfgjgbkoaaDoor
