/-
  The lowest bit of a number, as the machine's operations on bits have it.
-/
import Derived.Test.YtnlgbopdbihnjaaGreatDoorFenP
import Derived.WalkKit
import Derived.Test.YtnlgbopdbihnjaaGreatDoorNum
import Derived.Test.YtnlgbopdbihnjaaGreatDoorDmP
namespace Go.Proofs.YtnlgbopdbihnjaaGreatDoor

theorem and_odd (x y : Nat) : (2 * x + 1) &&& (2 * y + 1) = 2 * (x &&& y) + 1 := by
  apply Nat.eq_of_testBit_eq
  intro i
  cases i with
  | zero => simp [Nat.testBit_zero]
  | succ i =>
    rw [Nat.testBit_and, Nat.testBit_succ, Nat.testBit_succ, Nat.testBit_succ]
    rw [show (2 * x + 1) / 2 = x from by omega, show (2 * y + 1) / 2 = y from by omega, show (2 * (x &&& y) + 1) / 2 = x &&& y from by omega, Nat.testBit_and]
theorem and_even (x y : Nat) : (2 * x) &&& (2 * y) = 2 * (x &&& y) := by
  apply Nat.eq_of_testBit_eq
  intro i
  cases i with
  | zero => simp [Nat.testBit_zero]
  | succ i =>
    rw [Nat.testBit_and, Nat.testBit_succ, Nat.testBit_succ, Nat.testBit_succ]
    rw [show (2 * x) / 2 = x from by omega, show (2 * y) / 2 = y from by omega, show (2 * (x &&& y)) / 2 = x &&& y from by omega, Nat.testBit_and]
theorem and_mix (x y : Nat) : (2 * x) &&& (2 * y + 1) = 2 * (x &&& y) := by
  apply Nat.eq_of_testBit_eq
  intro i
  cases i with
  | zero => simp [Nat.testBit_zero]
  | succ i =>
    rw [Nat.testBit_and, Nat.testBit_succ, Nat.testBit_succ, Nat.testBit_succ]
    rw [show (2 * x) / 2 = x from by omega, show (2 * y + 1) / 2 = y from by omega, show (2 * (x &&& y)) / 2 = x &&& y from by omega, Nat.testBit_and]
theorem and_mix' (x y : Nat) : (2 * x + 1) &&& (2 * y) = 2 * (x &&& y) := by rw [Nat.and_comm, and_mix, Nat.and_comm]
theorem and_compl (n m : Nat) (h : m < 2 ^ n) : m &&& (2 ^ n - (m + 1)) = 0 := by
  apply Nat.eq_of_testBit_eq
  intro i
  rw [Nat.testBit_and, Nat.testBit_two_pow_sub_succ h, Nat.zero_testBit]
  cases m.testBit i <;> simp
theorem and_neg (k : Nat) : ∀ n, 0 < k → k < 2 ^ n → k &&& (2 ^ n - k) = lowb k := by
  induction k using Nat.strongRecOn with
  | _ k ih =>
    intro n h0 h1
    cases n with
    | zero => simp at h1; omega
    | succ n =>
      have e : (2 : Nat) ^ (n + 1) = 2 * 2 ^ n := by rw [Nat.pow_succ]; omega
      by_cases hk : k % 2 = 1
      · obtain ⟨m, rfl⟩ : ∃ m, k = 2 * m + 1 := ⟨k / 2, by omega⟩
        rw [lowb_odd hk, e, show 2 * 2 ^ n - (2 * m + 1) = 2 * (2 ^ n - (m + 1)) + 1 from by omega, and_odd, and_compl n m (by omega)]
      · obtain ⟨m, rfl⟩ : ∃ m, k = 2 * m := ⟨k / 2, by omega⟩
        rw [lowb_even (by omega), e, show 2 * 2 ^ n - 2 * m = 2 * (2 ^ n - m) from by omega, and_even, ih m (by omega) n (by omega) (by omega), show 2 * m / 2 = m from by omega]
theorem and_pred (k : Nat) (h : 0 < k) : k &&& (k - 1) = k - lowb k := by
  induction k using Nat.strongRecOn with
  | _ k ih =>
    by_cases hk : k % 2 = 1
    · obtain ⟨m, rfl⟩ : ∃ m, k = 2 * m + 1 := ⟨k / 2, by omega⟩
      rw [lowb_odd hk, show 2 * m + 1 - 1 = 2 * m from by omega, and_mix', Nat.and_self]
    · obtain ⟨m, rfl⟩ : ∃ m, k = 2 * m := ⟨k / 2, by omega⟩
      have := lowb_le m
      rw [lowb_even (by omega), show 2 * m - 1 = 2 * (m - 1) + 1 from by omega, and_mix, ih m (by omega) (by omega), show 2 * m / 2 = m from by omega]
      omega

theorem wrap_small (n : Nat) (h : n < 2 ^ 63) : IntKind.i64.wrap (n : Int) = n := by
  rw [IntKind.wrap_i64]
  omega
theorem bits_low (k : Nat) (h : k < 2 ^ 62) : bits .and .i64 (k : Int) (-(k : Int)) = lowb k := by
  have hl := lowb_le k
  show IntKind.i64.wrap (((BitVec.ofInt 64 (k : Int)) &&& (BitVec.ofInt 64 (-(k : Int)))).toNat : Int) = _
  rw [BitVec.toNat_and, BitVec.toNat_ofInt, BitVec.toNat_ofInt]
  by_cases h0 : k = 0
  · subst h0
    rw [lowb_zero]
    decide
  · have e1 : ((k : Int) % ((2 ^ 64 : Nat) : Int)).toNat = k := by omega
    have e2 : ((-(k : Int)) % ((2 ^ 64 : Nat) : Int)).toNat = 2 ^ 64 - k := by omega
    rw [e1, e2, and_neg k 64 (by omega) (by omega), wrap_small _ (by omega)]
theorem bits_pred (k : Nat) (h0 : 0 < k) (h : k < 2 ^ 62) : bits .and .i64 (k : Int) ((k : Int) - 1) = ((k - lowb k : Nat) : Int) := by
  show IntKind.i64.wrap (((BitVec.ofInt 64 (k : Int)) &&& (BitVec.ofInt 64 ((k : Int) - 1))).toNat : Int) = _
  rw [BitVec.toNat_and, BitVec.toNat_ofInt, BitVec.toNat_ofInt]
  have e1 : ((k : Int) % ((2 ^ 64 : Nat) : Int)).toNat = k := by omega
  have e2 : (((k : Int) - 1) % ((2 ^ 64 : Nat) : Int)).toNat = k - 1 := by omega
  rw [e1, e2, and_pred k h0, wrap_small _ (by omega)]
end Go.Proofs.YtnlgbopdbihnjaaGreatDoor
/-
  The program's marks: how many marked places stand ahead of one, and where the one of a number stands.
-/
namespace Go.Proofs.YtnlgbopdbihnjaaGreatDoor
open Go.RowKit

/-- Marks of N places lie in block g. -/
def MkAt (w : World) (g N : Nat) (f : Nat → Int) : Prop := ∃ cs : List Int, cs.length = N + 1 ∧ Lies w g (cellsN .i32 cs).toArray 21 ∧ ∀ k, 1 ≤ k → k ≤ N → cs[k]? = some (ent f k)
/-- Marks are nought or one. -/
def F01 (f : Nat → Int) : Prop := (∀ j, 0 ≤ f j) ∧ ∀ j, f j ≤ 1
theorem MkAt.lt {w : World} {g N : Nat} {f : Nat → Int} (h : MkAt w g N f) : g < w.heap.size := by
  obtain ⟨_, _, h, _⟩ := h
  exact h.lt
theorem MkAt.keep {w w' : World} {g N : Nat} {f : Nat → Int} (h : MkAt w g N f) (e : w'.heap[g]? = w.heap[g]?) : MkAt w' g N f := by
  obtain ⟨cs, h1, h2, h3⟩ := h
  exact ⟨cs, h1, e.trans h2, h3⟩
theorem MkAt.below {w w' : World} {g N B : Nat} {f : Nat → Int} (h : MkAt w g N f) (hb : Below B w w') (hg : g < B) : MkAt w' g N f := h.keep (hb.block g hg)
theorem MkAt.ext {w : World} {g N : Nat} {f f' : Nat → Int} (h : MkAt w g N f) (e : ∀ j, j < N → f j = f' j) : MkAt w g N f' := by
  obtain ⟨cs, h1, h2, h3⟩ := h
  refine ⟨cs, h1, h2, fun k hk1 hk2 => ?_⟩
  rw [h3 k hk1 hk2]
  have := lowb_le k
  simp only [ent]
  rw [pre_ext f f' k (fun j hj => e j (by omega)), pre_ext f f' (k - lowb k) (fun j hj => e j (by omega))]
theorem cellsN_cell {w : World} {g : Nat} {cs : List Int} {t : TypeId} (h : Lies w g (cellsN .i32 cs).toArray t) (k : Nat) (x : Int) (hx : cs[k]? = some x) : w.cell? ⟨g, k, none⟩ = some (.int .i32 x) := by
  rw [h.cell k]
  simp [cellsN, hx]
theorem cellsN_set {w : World} {g : Nat} {cs : List Int} {t : TypeId} (h : Lies w g (cellsN .i32 cs).toArray t) (k : Nat) (x : Int) : Lies (w.setCell ⟨g, k, none⟩ (.int .i32 x)) g (cellsN .i32 (cs.set k x)).toArray t := by
  have := h.set k (.int .i32 x)
  rw [List.setIfInBounds_toArray] at this
  have e : (cellsN .i32 cs).set k (.int .i32 x) = cellsN .i32 (cs.set k x) := by simp [cellsN, List.map_set]
  rw [e] at this
  exact this
theorem F01.put {f : Nat → Int} (h : F01 f) (at' : Nat) (by' : Int) (h0 : 0 ≤ f at' + by') (h1 : f at' + by' ≤ 1) : F01 (put1 f at' by') := by
  refine ⟨fun j => ?_, fun j => ?_⟩
  · unfold put1
    split
    · rename_i e; subst e; exact h0
    · exact h.1 j
  · unfold put1
    split
    · rename_i e; subst e; exact h1
    · exact h.2 j

set_option maxHeartbeats 1000000 in
set_option maxRecDepth 100000 in
theorem mfor_any (n : Nat) (w : World) (hn : n ≤ 1073741824) :
    Calls Tryz.prog 131 #[.int .i64 n] w fun e w' => e = .returned (.slice (some ⟨w.heap.size, 0, none⟩) (n + 1) (n + 1)) ∧ Below w.heap.size w w' ∧ MkAt w' w.heap.size n (fun _ => 0) ∧ w'.heap.size = w.heap.size + 1 := by
  obtain ⟨w3, hmk, hown3, b3, hsz3⟩ := make_roomN w 159 21 4 .i32 Tryz.underlying159 infoR (by omega) (n + 1) (n + 1) ((n : Int) + 1) ((n : Int) + 1) (by push_cast; rfl) (by push_cast; rfl) (by omega) (by omega) w.heap.size (Nat.le_refl _)
  have HM : Hid (MkAt w3 w.heap.size n (fun _ => 0)) := by
    obtain ⟨h1, ⟨h2, _⟩ | ⟨g, cap, cur, hv, hB, hg, hcap, _, hs, ht⟩⟩ := hown3
    · cases h2
    · injection hv with e1 e2 e3
      injection e1 with e1
      injection e1 with e1 e4
      subst e1 e3
      refine ⟨List.replicate (n + 1) 0, by simp, ?_, fun k hk1 hk2 => ?_⟩
      · have : cur = (cellsN .i32 (List.replicate (n + 1) 0)).toArray := by
          apply Array.ext'
          show cur.toList = cellsN .i32 (List.replicate (n + 1) 0)
          rw [← ht, Nat.mul_one, List.take_of_length_le (by simp; omega)]
        rw [← this]
        exact hg
      · rw [ent_zero, List.getElem?_replicate, if_pos (by omega)]
  have HB : Hid (Below w.heap.size w w3) := b3
  clear hown3 b3
  go_enter Tryz.func131, Tryz.ntmps131
  go_wp2
  go_ret
  exact ⟨rfl, HB.out, HM.out, hsz3⟩

set_option maxHeartbeats 1000000 in
set_option maxRecDepth 100000 in
theorem ahead_any (g N at' : Nat) (f : Nat → Int) (w : World) (h : MkAt w g N f) (hf : F01 f) (hN : N ≤ 1073741824) (ha : at' ≤ N) :
    Calls Tryz.prog 137 #[.slice (some ⟨g, 0, none⟩) (N + 1) (N + 1), .int .i64 at'] w fun e w' => e = .returned (.int .i64 (pre f at')) ∧ w' = w := by
  obtain ⟨cs, hl, hL, he⟩ := h
  have HC : Hid (∀ k, 1 ≤ k → k ≤ N → w.cell? ⟨g, k, none⟩ = some (.int .i32 (ent f k))) := fun k h1 h2 => cellsN_cell hL k _ (he k h1 h2)
  have HF : Hid (F01 f) := hf
  have hg := hL.lt
  clear hL he hl hf
  go_enter Tryz.func137, Tryz.ntmps137
  go_wp2
  go_loop [5, 6] (fun n k => ∃ (c : Nat) (m : Int), k = .int .i64 c ∧ n = .int .i64 m ∧ c ≤ at' ∧ Hid (m + pre f c = pre f at')) (fun _ k => (intOf k).toNat)
  case atStart => exact ⟨at', 0, rfl, rfl, Nat.le_refl _, by show _ = _; omega⟩
  case round =>
    obtain ⟨c, m, rfl, rfl, hc, HM⟩ := hrel
    have hm0 := pre_mono f HF.out.1 (a := 0) (b := c) (by omega)
    have hm1 := pre_le f HF.out.2 at'
    have hm2 := pre_le f HF.out.2 c
    have hm3 := HM.out
    have hm4 := pre_mono f HF.out.1 (a := c) (b := at') hc
    simp only [pre] at hm0
    by_cases h0 : 0 < c
    · have hcell := HC.out c h0 (by omega)
      have hb := bits_pred c h0 (by omega)
      have hr := ent_range f HF.out.1 HF.out.2 c
      have hlp := lowb_pos h0
      have hle := lowb_le c
      have HN : Hid ((m + ent f c) + pre f (c - lowb c) = pre f at') := by show _ = _; unfold ent; omega
      have hw : IntKind.i64.wrap (m + ent f c) = m + ent f c := by rw [IntKind.wrap_i64]; omega
      clear hm3 HM
      go_wp2
      go_round
      case rel => exact ⟨c - lowb c, m + ent f c, rfl, rfl, by omega, HN⟩
      case measure => simp [intOf]; omega
    · obtain rfl : c = 0 := by omega
      have HR : Hid (m = pre f at') := by
        have := HM.out
        simp only [pre] at this
        show _ = _
        omega
      clear hm3 HM
      go_wp2
      go_ret
      exact ⟨ret_i64 HR.out, rfl⟩

set_option maxHeartbeats 1000000 in
set_option maxRecDepth 100000 in
theorem add_any (g N at' : Nat) (by' : Int) (f : Nat → Int) (w : World) (h : MkAt w g N f) (hf : F01 f) (hf' : F01 (put1 f at' by')) (hN : N ≤ 1073741824) (ha : at' < N) :
    Calls Tryz.prog 133 #[.slice (some ⟨g, 0, none⟩) (N + 1) (N + 1), .int .i64 at', .int .i32 by'] w fun e w' => e = .returned (.tuple #[]) ∧ But g w w' ∧ MkAt w' g N (put1 f at' by') := by
  obtain ⟨cs, hl, hL, he⟩ := h
  have HF : Hid (F01 f) := hf
  have HF' : Hid (F01 (put1 f at' by')) := hf'
  have HL : Hid (Lies w g (cellsN .i32 cs).toArray 21) := hL
  have HE : Hid (∀ k, 1 ≤ k → k ≤ N → cs[k]? = some (if k < at' + 1 then ent (put1 f at' by') k else ent f k)) := fun k h1 h2 => by
    rw [he k h1 h2]
    by_cases e : k < at' + 1
    · rw [if_pos e, ent_other f at' by' k (.inl (by omega))]
    · rw [if_neg e]
  clear hL he hf hf'
  go_enter Tryz.func133, Tryz.ntmps133
  go_wp2
  go_loopw [6] (fun k wr => ∃ (c : Nat) (ds : List Int), k = .int .i64 c ∧ at' < c ∧ c ≤ 2147483649 ∧ Hid (c - lowb c ≤ at') ∧ ds.length = N + 1 ∧ Hid (Lies wr g (cellsN .i32 ds).toArray 21) ∧ Hid (∀ k, 1 ≤ k → k ≤ N → ds[k]? = some (if k < c then ent (put1 f at' by') k else ent f k)) ∧ Hid (But g w wr)) (fun k _ => N + 1 - (intOf k).toNat)
  case atStart => exact ⟨at' + 1, cs, by go_num, by omega, by omega, (cover_start at').1, hl, HL, HE, But.refl _ _⟩
  case round =>
    obtain ⟨c, ds, rfl, hc0, hcm, HC, hdl, HL1, HE1, HB⟩ := hrel
    have hg := HL1.out.lt
    by_cases hcN : c ≤ N
    · have hd := HE1.out c (by omega) hcN
      rw [if_neg (by omega)] at hd
      have hcell := cellsN_cell HL1.out c _ hd
      have hfr := HL1.out.frozen c
      have hr := ent_range f HF.out.1 HF.out.2 c
      have hr' := ent_range _ HF'.out.1 HF'.out.2 c
      have hcv := ent_cover f at' by' c HC.out hc0
      rw [hcv] at hr'
      have hb := bits_low c (by omega)
      have hlp := lowb_pos (k := c) (by omega)
      have hle := lowb_le c
      have hw : IntKind.i32.wrap (ent f c + by') = ent f c + by' := by rw [IntKind.wrap_i32]; omega
      have HL2 : Hid (Lies (wr.setCell ⟨g, c, none⟩ (.int .i32 (ent f c + by'))) g (cellsN .i32 (ds.set c (ent f c + by'))).toArray 21) := cellsN_set HL1.out c _
      have HB2 : Hid (But g w (wr.setCell ⟨g, c, none⟩ (.int .i32 (ent f c + by')))) := HB.out.set c _
      have HC2 : Hid ((c + lowb c) - lowb (c + lowb c) ≤ at') := (cover_next HC.out hc0).1
      have HE2 : Hid (∀ k, 1 ≤ k → k ≤ N → (ds.set c (ent f c + by'))[k]? = some (if k < c + lowb c then ent (put1 f at' by') k else ent f k)) := fun k h1 h2 => by
        by_cases e : k = c
        · subst e
          rw [List.getElem?_set_self (by omega), if_pos (by omega), hcv]
        · rw [List.getElem?_set_ne (Ne.symm e), HE1.out k h1 h2]
          by_cases e1 : k < c
          · rw [if_pos e1, if_pos (by omega)]
          · by_cases e2 : k < c + lowb c
            · rw [if_neg e1, if_pos e2, ent_other f at' by' k (.inr (cover_between hc0 (by omega) e2))]
            · rw [if_neg e1, if_neg e2]
      clear hd hcv HE1 HL1 HB HC
      go_wp2
      go_roundw
      case rel => exact ⟨c + lowb c, _, by go_num, by omega, by omega, HC2, by rw [List.length_set]; exact hdl, HL2, HE2, HB2⟩
      case measure => simp [intOf]; omega
    · go_wp2
      go_end0
      refine ⟨rfl, HB.out, ds, hdl, HL1.out, fun k h1 h2 => ?_⟩
      rw [HE1.out k h1 h2, if_pos (by omega)]

end Go.Proofs.YtnlgbopdbihnjaaGreatDoor
/-
  The plain mathematics of Punycode's digits and of the bias: no Go in sight.
-/
namespace Go.Proofs.YtnlgbopdbihnjaaGreatDoor

/-- The bound of the digit number i. -/
def bnd (i bias : Nat) : Nat := min (max (36 * (i + 1) - bias) 1) 26
theorem bnd_pos (i bias : Nat) : 1 ≤ bnd i bias := by unfold bnd; omega
theorem bnd_le (i bias : Nat) : bnd i bias ≤ 26 := by unfold bnd; omega
/-- The byte of a digit. -/
def dgt (v : Nat) : UInt8 := if v < 26 then UInt8.ofNat (97 + v) else UInt8.ofNat (22 + v)
theorem digs_less {q i bias : Nat} (h : ¬ q < bnd i bias) : (q - bnd i bias) / (36 - bnd i bias) < q := by
  have h1 := bnd_pos i bias
  have := Nat.div_le_self (q - bnd i bias) (36 - bnd i bias)
  omega
/-- The digits of a number. -/
def digs (q i bias : Nat) : List UInt8 :=
  if _h : q < bnd i bias then [dgt q]
  else dgt (bnd i bias + (q - bnd i bias) % (36 - bnd i bias)) :: digs ((q - bnd i bias) / (36 - bnd i bias)) (i + 1) bias
termination_by q
decreasing_by exact digs_less _h
theorem digs_last {q i bias : Nat} (h : q < bnd i bias) : digs q i bias = [dgt q] := by rw [digs, dif_pos h]
theorem digs_more {q i bias : Nat} (h : ¬ q < bnd i bias) : digs q i bias = dgt (bnd i bias + (q - bnd i bias) % (36 - bnd i bias)) :: digs ((q - bnd i bias) / (36 - bnd i bias)) (i + 1) bias := by rw [digs, dif_neg h]
theorem digs_length (q i bias : Nat) : (digs q i bias).length ≤ q + 1 := by
  induction q using Nat.strongRecOn generalizing i with
  | _ q ih =>
    by_cases h : q < bnd i bias
    · rw [digs_last h]; simp
    · rw [digs_more h]
      have h1 := digs_less h
      have := ih _ h1 (i + 1)
      simp only [List.length_cons]
      omega
/-- Steps have few digits. -/
theorem digs_short (q i bias : Nat) : ∀ k, q < 10 ^ k → (digs q i bias).length ≤ k + 1 := by
  induction q using Nat.strongRecOn generalizing i with
  | _ q ih =>
    intro k hk
    by_cases h : q < bnd i bias
    · rw [digs_last h]; simp
    · rw [digs_more h]
      have h1 := digs_less h
      have h2 := bnd_pos i bias
      have h3 := bnd_le i bias
      cases k with
      | zero => simp at hk; omega
      | succ k =>
        have h4 : (q - bnd i bias) / (36 - bnd i bias) < 10 ^ k := by
          rw [Nat.div_lt_iff_lt_mul (by omega)]
          rw [Nat.pow_succ] at hk
          have : 10 ^ k * 10 ≤ 10 ^ k * (36 - bnd i bias) := Nat.mul_le_mul_left _ (by omega)
          omega
        have := ih _ h1 (i + 1) k h4
        simp only [List.length_cons]
        omega
/-- The bias, as it goes down. -/
def biasL (d k : Nat) : Nat := if _h : 455 < d then biasL (d / 35) (k + 36) else k + 36 * d / (d + 38)
termination_by d
decreasing_by omega
theorem biasL_go {d k : Nat} (h : 455 < d) : biasL d k = biasL (d / 35) (k + 36) := by rw [biasL, dif_pos h]
theorem biasL_end {d k : Nat} (h : ¬ 455 < d) : biasL d k = k + 36 * d / (d + 38) := by rw [biasL, dif_neg h]
theorem biasL_le (d : Nat) : ∀ k, biasL d k ≤ k + d + 36 := by
  induction d using Nat.strongRecOn with
  | _ d ih =>
    intro k
    by_cases h : 455 < d
    · rw [biasL_go h]
      have := ih (d / 35) (by omega) (k + 36)
      omega
    · rw [biasL_end h]
      have : 36 * d / (d + 38) ≤ 36 := by
        rw [← Nat.lt_succ_iff, Nat.div_lt_iff_lt_mul (by omega)]
        omega
      omega
/-- The bias behind a step. -/
def biasB (s h : Nat) (first : Bool) : Nat := biasL ((if first then s / 700 else s / 2) + (if first then s / 700 else s / 2) / h) 0
theorem biasB_le (s h : Nat) (first : Bool) : biasB s h first ≤ 2 * s + 36 := by
  unfold biasB
  have h1 : (if first then s / 700 else s / 2) ≤ s / 2 := by split <;> omega
  generalize (if first then s / 700 else s / 2) = d at h1
  have := Nat.div_le_self d h
  have := biasL_le (d + d / h) 0
  omega
end Go.Proofs.YtnlgbopdbihnjaaGreatDoor
/-
  The plain mathematics of the order of wide runes: no Go in sight.
-/
namespace Go.Proofs.YtnlgbopdbihnjaaGreatDoor

/-- The rune at a place. -/
def rn (l : List Int) (k : Nat) : Int := l.getD k 0
theorem rn_get (l : List Int) (k : Nat) (h : k < l.length) : rn l k = l[k] := by simp [rn, List.getD_eq_getElem?_getD, List.getElem?_eq_getElem h]
/-- Which of two places comes first. -/
def ltW (l : List Int) (a b : Nat) : Bool := decide (rn l a < rn l b ∨ (rn l a = rn l b ∧ a < b))
def leW (l : List Int) (a b : Nat) : Bool := !ltW l b a
theorem leW_iff (l : List Int) (a b : Nat) : leW l a b = true ↔ (rn l a < rn l b ∨ (rn l a = rn l b ∧ a ≤ b)) := by
  unfold leW ltW
  simp only [Bool.not_eq_true', decide_eq_false_iff_not]
  omega
theorem leW_trans (l : List Int) (a b c : Nat) (h1 : leW l a b = true) (h2 : leW l b c = true) : leW l a c = true := by
  rw [leW_iff] at *
  omega
theorem leW_total (l : List Int) (a b : Nat) : (leW l a b || leW l b a) = true := by
  rw [Bool.or_eq_true, leW_iff, leW_iff]
  omega
/-- The places of wide runes below k, from the left. -/
def wideK (l : List Int) (k : Nat) : List Nat := (List.range k).filter fun j => decide (128 ≤ rn l j)
theorem wideK_succ (l : List Int) (k : Nat) : wideK l (k + 1) = wideK l k ++ (if 128 ≤ rn l k then [k] else []) := by
  unfold wideK
  rw [List.range_succ, List.filter_append]
  congr 1
  by_cases h : 128 ≤ rn l k
  · simp [h]
  · simp [h]
theorem wideK_lt {l : List Int} {k j : Nat} (h : j ∈ wideK l k) : j < k ∧ 128 ≤ rn l j := by
  unfold wideK at h
  rw [List.mem_filter] at h
  exact ⟨List.mem_range.1 h.1, by simpa using h.2⟩
theorem wideK_length (l : List Int) (k : Nat) : (wideK l k).length ≤ k := by
  have := List.length_filter_le (fun j => decide (128 ≤ rn l j)) (List.range k)
  rw [List.length_range] at this
  exact this
/-- The order of the wide runes. -/
def ordW (l : List Int) : List Nat := (wideK l l.length).mergeSort (leW l)
theorem ordW_mem {l : List Int} {j : Nat} (h : j ∈ ordW l) : j < l.length ∧ 128 ≤ rn l j := by
  unfold ordW at h
  rw [List.mem_mergeSort] at h
  exact wideK_lt h
theorem ordW_length (l : List Int) : (ordW l).length ≤ l.length := by
  unfold ordW
  rw [List.length_mergeSort]
  exact wideK_length l l.length
end Go.Proofs.YtnlgbopdbihnjaaGreatDoor
/-
  Punycode, as a recursion over the wide runes in their order: what both sides reckon.
-/
namespace Go.Proofs.YtnlgbopdbihnjaaGreatDoor

/-- The step of the rune at a place. -/
def stp (l : List Int) (f : Nat → Int) (n : Int) (i h at' : Nat) : Int := (rn l at' - n) * ((h : Int) + 1) + pre f at' - i
/-- The digits of the wide runes, one behind the other; none: a step is too great. -/
def punL (l : List Int) : List Nat → (Nat → Int) → Int → Nat → Nat → Nat → Bool → Option (List UInt8)
  | [], _, _, _, _, _, _ => some []
  | at' :: rest, f, n, i, h, bias, first =>
    if 2147483647 < stp l f n i h at' then none
    else (punL l rest (put1 f at' 1) (rn l at') ((pre f at').toNat + 1) (h + 1) (biasB (stp l f n i h at').toNat (h + 1) first) false).map fun d => digs (stp l f n i h at').toNat 0 bias ++ d
/-- The marks of the runes below 128, up to a place. -/
def lowF (l : List Int) (k : Nat) : Nat → Int := fun j => if j < k ∧ rn l j < 128 then 1 else 0
/-- The bytes of the runes below 128, up to a place. -/
def lowB (l : List Int) (k : Nat) : List UInt8 := ((l.take k).filter fun r => decide (r < 128)).map fun r => UInt8.ofNat r.toNat
def punH (l : List Int) : List UInt8 := lowB l l.length ++ (if lowB l l.length = [] then [] else [45])
def punD (l : List Int) : Option (List UInt8) := punL l (ordW l) (lowF l l.length) 128 0 (lowB l l.length).length 72 true

/-- What is known at each step. -/
structure PunOk (l : List Int) (rest : List Nat) (f : Nat → Int) (n : Int) (i h : Nat) : Prop where
  f01 : F01 f
  tot : pre f l.length = h
  ile : i ≤ h
  n01 : 0 ≤ n ∧ n ≤ 1114111
  nxt : ∀ j ∈ rest, j < l.length ∧ f j = 0 ∧ 128 ≤ rn l j ∧ rn l j ≤ 1114111 ∧ (n < rn l j ∨ (n = rn l j ∧ (i : Int) ≤ pre f j))
  srt : rest.Pairwise fun a b => rn l a < rn l b ∨ (rn l a = rn l b ∧ a < b)
theorem PunOk.pre0 {l : List Int} {rest : List Nat} {f : Nat → Int} {n : Int} {i h : Nat} (H : PunOk l rest f n i h) (j : Nat) : 0 ≤ pre f j := by
  have := pre_mono f H.f01.1 (a := 0) (b := j) (Nat.zero_le _)
  simpa [pre] using this
theorem PunOk.preh {l : List Int} {rest : List Nat} {f : Nat → Int} {n : Int} {i h : Nat} (H : PunOk l rest f n i h) {j : Nat} (hj : j ≤ l.length) : pre f j ≤ h := by
  have := pre_mono f H.f01.1 hj
  rw [H.tot] at this
  exact this
theorem PunOk.hle {l : List Int} {rest : List Nat} {f : Nat → Int} {n : Int} {i h : Nat} (H : PunOk l rest f n i h) : h ≤ l.length := by
  have := pre_le f H.f01.2 l.length
  rw [H.tot] at this
  omega
theorem PunOk.step0 {l : List Int} {rest : List Nat} {f : Nat → Int} {n : Int} {i h at' : Nat} (H : PunOk l (at' :: rest) f n i h) : 0 ≤ stp l f n i h at' := by
  obtain ⟨h1, h2, h3, h4, h5⟩ := H.nxt at' List.mem_cons_self
  have hp := H.pre0 at'
  have hi := H.ile
  unfold stp
  rcases h5 with h5 | ⟨h5, h6⟩
  · have : 1 * ((h : Int) + 1) ≤ (rn l at' - n) * ((h : Int) + 1) := Int.mul_le_mul_of_nonneg_right (by omega) (by omega)
    omega
  · rw [h5, Int.sub_self, Int.zero_mul]
    omega
theorem PunOk.step {l : List Int} {rest : List Nat} {f : Nat → Int} {n : Int} {i h at' : Nat} (H : PunOk l (at' :: rest) f n i h) : PunOk l rest (put1 f at' 1) (rn l at') ((pre f at').toNat + 1) (h + 1) := by
  obtain ⟨h1, h2, h3, h4, h5⟩ := H.nxt at' List.mem_cons_self
  have hp := H.pre0 at'
  have hph := H.preh (Nat.le_of_lt h1)
  have hs := List.pairwise_cons.1 H.srt
  refine ⟨H.f01.put at' 1 (by omega) (by omega), ?_, by omega, ⟨by omega, h4⟩, fun j hj => ?_, hs.2⟩
  · rw [pre_put, if_pos h1, H.tot]
    push_cast
    rfl
  · obtain ⟨g1, g2, g3, g4, _⟩ := H.nxt j (List.mem_cons_of_mem _ hj)
    have ho := hs.1 j hj
    have hne : j ≠ at' := by
      intro e
      subst e
      omega
    refine ⟨g1, ?_, g3, g4, ?_⟩
    · unfold put1
      rw [if_neg hne]
      exact g2
    · rcases ho with ho | ⟨ho, hlt⟩
      · exact .inl ho
      · refine .inr ⟨ho, ?_⟩
        rw [pre_put, if_pos hlt]
        have := pre_mono f H.f01.1 (Nat.le_of_lt hlt)
        omega

theorem lowF_01 (l : List Int) (k : Nat) : F01 (lowF l k) := ⟨fun j => by unfold lowF; split <;> omega, fun j => by unfold lowF; split <;> omega⟩
theorem lowF_zero (l : List Int) (j : Nat) : lowF l 0 j = 0 := by unfold lowF; rw [if_neg (by omega)]
theorem lowF_yes (l : List Int) (k : Nat) (h : rn l k < 128) : ∀ j, lowF l (k + 1) j = put1 (lowF l k) k 1 j := by
  intro j
  unfold lowF put1
  simp only
  by_cases e : j = k
  · subst e
    rw [if_pos ⟨by omega, h⟩, if_pos rfl, if_neg (by omega)]
    omega
  · rw [if_neg e]
    by_cases hj : j < k ∧ rn l j < 128
    · rw [if_pos ⟨by omega, hj.2⟩, if_pos hj]
    · rw [if_neg (by omega), if_neg hj]
theorem lowF_no (l : List Int) (k : Nat) (h : ¬ rn l k < 128) : lowF l (k + 1) = lowF l k := by
  funext j
  unfold lowF
  by_cases e : j = k
  · subst e
    rw [if_neg (fun x => h x.2), if_neg (fun x => h x.2)]
  · by_cases hj : j < k ∧ rn l j < 128
    · rw [if_pos ⟨by omega, hj.2⟩, if_pos hj]
    · rw [if_neg (by omega), if_neg hj]
theorem lowB_zero (l : List Int) : lowB l 0 = [] := rfl
theorem lowB_yes (l : List Int) (k : Nat) (hk : k < l.length) (h : l[k] < 128) : lowB l (k + 1) = lowB l k ++ [UInt8.ofNat l[k].toNat] := by
  unfold lowB
  rw [List.take_succ_eq_append_getElem hk, List.filter_append, List.map_append]
  simp [h]
theorem lowB_no (l : List Int) (k : Nat) (hk : k < l.length) (h : ¬ l[k] < 128) : lowB l (k + 1) = lowB l k := by
  unfold lowB
  rw [List.take_succ_eq_append_getElem hk, List.filter_append, List.map_append]
  simp [h]
theorem lowB_length (l : List Int) (k : Nat) : (lowB l k).length ≤ k := by
  unfold lowB
  rw [List.length_map]
  have := List.length_filter_le (fun r => decide (r < 128)) (l.take k)
  rw [List.length_take] at this
  omega
theorem lowF_tot (l : List Int) (k : Nat) (hk : k ≤ l.length) : ∀ m, k ≤ m → pre (lowF l k) m = (lowB l k).length := by
  induction k with
  | zero =>
    intro m _
    rw [pre_ext (lowF l 0) (fun _ => 0) m (fun j _ => lowF_zero l j), pre_zero]
    rfl
  | succ k ih =>
    intro m hm
    have hr := rn_get l k (by omega)
    by_cases h : l[k] < 128
    · rw [lowB_yes l k (by omega) h, pre_ext _ _ m (fun j _ => lowF_yes l k (by rw [hr]; exact h) j), pre_put, if_pos (by omega), ih (by omega) m (by omega), List.length_append]
      push_cast
      rfl
    · rw [lowB_no l k (by omega) h, lowF_no l k (by rw [hr]; exact h), ih (by omega) m (by omega)]

theorem pairwise_ord (l : List Int) : (ordW l).Pairwise fun a b => rn l a < rn l b ∨ (rn l a = rn l b ∧ a < b) := by
  have h1 : (ordW l).Pairwise fun a b => leW l a b = true := List.pairwise_mergeSort (fun a b c => leW_trans l a b c) (fun a b => leW_total l a b) _
  have h2 : (ordW l).Nodup := by
    unfold ordW
    rw [(List.mergeSort_perm _ _).nodup_iff]
    unfold wideK
    exact List.Pairwise.filter _ List.nodup_range
  refine (List.Pairwise.and h1 h2).imp ?_
  intro a b ⟨h, hne⟩
  rw [leW_iff] at h
  omega
/-- At the beginning. -/
theorem punOk_start (l : List Int) (h : ∀ r ∈ l, isR r) : PunOk l (ordW l) (lowF l l.length) 128 0 (lowB l l.length).length := by
  refine ⟨lowF_01 l _, lowF_tot l _ (Nat.le_refl _) _ (Nat.le_refl _), Nat.zero_le _, by omega, fun j hj => ?_, pairwise_ord l⟩
  obtain ⟨h1, h2⟩ := ordW_mem hj
  have h3 := h l[j] (List.getElem_mem h1)
  have h4 := rn_get l j h1
  refine ⟨h1, ?_, h2, by rw [h4]; exact h3.2.1, ?_⟩
  · unfold lowF
    rw [if_neg (by omega)]
  · have := pre_mono (lowF l l.length) (lowF_01 l _).1 (a := 0) (b := j) (Nat.zero_le _)
    simp only [pre] at this
    omega
end Go.Proofs.YtnlgbopdbihnjaaGreatDoor
/-
  The places of the wide runes, put in one by one: no Go in sight.
-/
namespace Go.Proofs.YtnlgbopdbihnjaaGreatDoor

/-- Of two places the one that comes first. -/
def Rw2 (l : List Int) (a b : Nat) : Prop := rn l a < rn l b ∨ (rn l a = rn l b ∧ a < b)
theorem sorted_eq {R : Nat → Nat → Prop} (hirr : ∀ a, ¬ R a a) (hasym : ∀ a b, R a b → R b a → False) : ∀ (a b : List Nat), a.Pairwise R → b.Pairwise R → (∀ x, x ∈ a ↔ x ∈ b) → a = b
  | [], [], _, _, _ => rfl
  | [], y :: b, _, _, h => by have := (h y).2 (by simp); cases this
  | x :: a, [], _, _, h => by have := (h x).1 (by simp); cases this
  | x :: a, y :: b, ha, hb, h => by
    rw [List.pairwise_cons] at ha hb
    have e : x = y := by
      have h1 := (h x).1 (by simp)
      have h2 := (h y).2 (by simp)
      rw [List.mem_cons] at h1 h2
      rcases h1 with h1 | h1
      · exact h1
      · rcases h2 with h2 | h2
        · exact h2.symm
        · exact absurd (hb.1 x h1) (fun h' => hasym _ _ h' (ha.1 y h2))
    subst e
    congr 1
    refine sorted_eq hirr hasym a b ha.2 hb.2 (fun z => ?_)
    have hz := h z
    rw [List.mem_cons, List.mem_cons] at hz
    constructor
    · intro hm
      rcases hz.1 (.inr hm) with e | e
      · subst e; exact absurd (ha.1 z hm) (hirr z)
      · exact e
    · intro hm
      rcases hz.2 (.inr hm) with e | e
      · subst e; exact absurd (hb.1 z hm) (hirr z)
      · exact e
/-- What stands in the list by place k. -/
structure OrdOk (l : List Int) (k : Nat) (S : List Nat) : Prop where
  sorted : S.Pairwise (Rw2 l)
  mem : ∀ x, x ∈ S ↔ x ∈ wideK l k
theorem ordOk_start (l : List Int) : OrdOk l 0 [] := ⟨List.Pairwise.nil, fun x => by simp [wideK]⟩
theorem OrdOk.done {l : List Int} {S : List Nat} (h : OrdOk l l.length S) : S = ordW l := by
  refine sorted_eq (R := Rw2 l) (fun a h => ?_) (fun a b h1 h2 => ?_) S (ordW l) h.sorted (pairwise_ord l) (fun x => ?_)
  · unfold Rw2 at h; omega
  · unfold Rw2 at h1 h2; omega
  · rw [h.mem x]
    unfold ordW
    rw [List.mem_mergeSort]
theorem OrdOk.small {l : List Int} {k : Nat} {S : List Nat} (h : OrdOk l k S) (hr : ¬ 128 ≤ rn l k) : OrdOk l (k + 1) S :=
  ⟨h.sorted, fun x => by rw [wideK_succ, if_neg hr, List.append_nil]; exact h.mem x⟩
theorem OrdOk.lt {l : List Int} {k : Nat} {S : List Nat} (h : OrdOk l k S) {x : Nat} (hx : x ∈ S) : x < k ∧ 128 ≤ rn l x := wideK_lt ((h.mem x).1 hx)
theorem OrdOk.put {l : List Int} {k at' : Nat} {S : List Nat} (h : OrdOk l k S) (hr : 128 ≤ rn l k) (ha : at' ≤ S.length) (hhi : ∀ j (hj : j < S.length), at' ≤ j → rn l k < rn l S[j]) (hlo : at' = 0 ∨ ∃ hj : at' - 1 < S.length, rn l S[at' - 1] ≤ rn l k) :
    OrdOk l (k + 1) (S.take at' ++ [k] ++ S.drop at') := by
  have hlow : ∀ x ∈ S.take at', rn l x ≤ rn l k := by
    intro x hx
    obtain ⟨j, hj, rfl⟩ := List.getElem_of_mem hx
    rw [List.length_take] at hj
    rw [List.getElem_take]
    rcases hlo with h0 | ⟨hj', hle⟩
    · omega
    · rcases Nat.lt_or_ge j (at' - 1) with h1 | h1
      · have := List.pairwise_iff_getElem.1 h.sorted j (at' - 1) (by omega) hj' h1
        unfold Rw2 at this
        omega
      · have e : j = at' - 1 := by omega
        subst e
        exact hle
  have hhigh : ∀ x ∈ S.drop at', rn l k < rn l x := by
    intro x hx
    obtain ⟨j, hj, rfl⟩ := List.getElem_of_mem hx
    rw [List.length_drop] at hj
    rw [List.getElem_drop]
    exact hhi _ _ (by omega)
  have hS := h.sorted
  rw [← List.take_append_drop at' S, List.pairwise_append] at hS
  refine ⟨?_, fun x => ?_⟩
  · rw [List.append_assoc, List.pairwise_append]
    refine ⟨hS.1, ?_, ?_⟩
    · rw [List.singleton_append, List.pairwise_cons]
      exact ⟨fun x hx => .inl (hhigh x hx), hS.2.1⟩
    · intro x hx y hy
      rw [List.singleton_append, List.mem_cons] at hy
      rcases hy with rfl | hy
      · have := hlow x hx
        have := (h.lt (List.mem_of_mem_take hx)).1
        unfold Rw2
        omega
      · exact hS.2.2 x hx y hy
  · rw [wideK_succ, if_pos hr, List.mem_append, List.mem_append, List.mem_append, ← h.mem x]
    conv => rhs; rw [← List.take_append_drop at' S, List.mem_append]
    constructor
    · rintro ((h | h) | h)
      · exact .inl (.inl h)
      · exact .inr h
      · exact .inl (.inr h)
    · rintro ((h | h) | h)
      · exact .inl (.inl h)
      · exact .inr h
      · exact .inl (.inr h)
end Go.Proofs.YtnlgbopdbihnjaaGreatDoor
