/-
  The contract of domain.wrongDomain.
-/
import Derived.Test.YthkoionigdnhgabGreatDoorPureBad
import Derived.Test.YthkoionigdnhgabGreatDoorGa8
import Derived.Test.YthkoionigdnhgabGreatDoorDmP
namespace Go.Proofs.YthkoionigdnhgabGreatDoor
open Go.RowKit

theorem ld_fin : ∀ b : Fin 256, isB 3 (b.val : Int) = ldB (UInt8.ofNat b.val) ∧ isB 14 (b.val : Int) = decide (128 ≤ b.val) ∧ isB 10 (b.val : Int) = lbB (UInt8.ofNat b.val) ∧ isB 7 (b.val : Int) = plB (UInt8.ofNat b.val) ∧ isB 13 (b.val : Int) = decide (b.val < 128) := by decide +kernel
theorem ld_is (c : UInt8) : isB 3 (c.toNat : Int) = ldB c ∧ isB 14 (c.toNat : Int) = decide (128 ≤ c.toNat) ∧ isB 10 (c.toNat : Int) = lbB c ∧ isB 7 (c.toNat : Int) = plB c ∧ isB 13 (c.toNat : Int) = decide (c.toNat < 128) := by
  have := ld_fin ⟨c.toNat, c.toNat_lt⟩
  simpa using this
def mE (s : ByteArray) (a b : Nat) : Bool := decide (b < a) && !decide (s.data.toList[a - 1]? = some 45)
theorem list_at (s : ByteArray) (k : Nat) (h : k < s.size) : s.data.toList[k]? = some s[k] := by
  rw [List.getElem?_eq_getElem (by rw [len_list]; exact h)]
  rfl
def spotV (e : Nat × Nat) : Array Value := #[.int .i64 (e.1 : Nat), .int .i64 (e.2 : Nat)]

set_option maxHeartbeats 1000000 in
set_option maxRecDepth 100000 in
theorem wdw_any (b : Nat) (p : Nat) (w : World) (hc : w.cell? ⟨b, 0, none⟩ = some (.int .i64 (p : Nat))) :
    Calls Tryz.prog 115 #[.pointer (some ⟨b, 0, none⟩)] w fun e w' => e = .returned (.agg #[.int .i64 80, .int .i64 (p : Nat)]) ∧ Below w.heap.size w w' := by
  have hb : b < w.heap.size := World.block_lt_of_cell? w _ hc
  have HL : Hid (Lies ((w.alloc (.cells #[.int .i64 0, .int .i64 0] 41)).setRow w.heap.size #[.int .i64 80, .int .i64 (p : Int)]) w.heap.size #[.int .i64 80, .int .i64 (p : Int)] 41) := (Lies.new w _ _).row _
  have HL0 : Hid (Lies (w.alloc (.cells #[.int .i64 0, .int .i64 0] 41)) w.heap.size #[.int .i64 0, .int .i64 0] 41) := Lies.new w _ _
  have HB : Hid (Below w.heap.size w ((w.alloc (.cells #[.int .i64 0, .int .i64 0] 41)).setRow w.heap.size #[.int .i64 80, .int .i64 (p : Int)])) := below_row ((Below.refl _ _).alloc (Nat.le_refl _) _) (Nat.le_refl _) _
  go_enter Tryz.func115, Tryz.ntmps115
  go_wp2_with (refine wpList_store_row rfl 41 _ _ rfl w.heap.size rfl _ #[.int .i64 80, .int .i64 (p : Int)] rfl 41 HL0.out infoSp rfl (by simp [Value.oneCell']) rfl ?_)
  exact bodyPost_ret (results_row (p := 1) (by kernel_rfl) _ _ w.heap.size 41 _ (0, 0) _ rfl HL.out Tryz.underlying41 rfl infoSp) rfl ⟨rfl, HB.out⟩
set_option maxHeartbeats 1000000 in
set_option maxRecDepth 100000 in
theorem wdm_any (pa pb ps : Nat) (s : ByteArray) (a b : Nat) (w : World) (h1 : w.cell? ⟨pa, 0, none⟩ = some (.int .i64 (a : Nat))) (h2 : w.cell? ⟨pb, 0, none⟩ = some (.int .i64 (b : Nat))) (h3 : w.cell? ⟨ps, 0, none⟩ = some (.string s)) (ha : a ≤ s.size) (hs : s.size ≤ 255) :
    Calls Tryz.prog 116 #[.pointer (some ⟨pa, 0, none⟩), .pointer (some ⟨pb, 0, none⟩), .pointer (some ⟨ps, 0, none⟩)] w fun e w' => e = .returned (.bool (mE s a b)) ∧ w' = w := by
  have z1 := World.block_lt_of_cell? w _ h1
  have z2 := World.block_lt_of_cell? w _ h2
  have z3 := World.block_lt_of_cell? w _ h3
  dsimp only at z1 z2 z3
  by_cases hlt : b < a
  · obtain ⟨k, rfl⟩ : ∃ k, a = k + 1 := ⟨a - 1, by omega⟩
    have hk : k < s.size := by omega
    have hlt' : (b : Int) < (k : Int) + 1 := by omega
    have hE : mE s (k + 1) b = !(s[k] == 45) := by
      unfold mE
      rw [decide_eq_true hlt, Bool.true_and, Nat.add_sub_cancel, list_at s k hk, Bool.eq_iff_iff]
      simp
    have h1' : w.cell? ⟨pa, 0, none⟩ = some (.int .i64 ((k : Int) + 1)) := h1
    rw [hE]
    clear hE hlt h1
    have he : ((s[k].toNat : Int) != 45) = !(s[k] == 45) := by
      rw [bne, Bool.eq_iff_iff]
      simp only [Bool.not_eq_true', beq_eq_false_iff_ne, ne_eq]
      constructor
      · intro h e
        exact h (by rw [e]; rfl)
      · intro h e
        exact h (UInt8.toNat_inj.1 (by rw [show (45 : UInt8).toNat = 45 from rfl]; omega))
    have HE : Hid (((s[k].toNat : Int) != 45) = !(s[k] == 45)) := he
    clear he
    go_enter Tryz.func116, Tryz.ntmps116
    go_wp2_with fail
    go_ret
    refine ⟨?_, rfl⟩
    show Ending.returned (.bool ((s[k].toNat : Int) != 45)) = _
    rw [HE.out]
  · have hE : mE s a b = false := by
      unfold mE
      rw [decide_eq_false hlt, Bool.false_and]
    rw [hE]
    have hlt' : ¬ (b : Int) < (a : Int) := by omega
    clear hlt hE
    go_enter Tryz.func116, Tryz.ntmps116
    go_wp2_with fail
    go_ret
    exact ⟨rfl, rfl⟩
set_option maxHeartbeats 2000000 in
set_option maxRecDepth 100000 in
theorem wds_any (pa pb ps pf : Nat) (s : ByteArray) (a b f : Nat) (w : World) (ht : Table w) (h1 : w.cell? ⟨pa, 0, none⟩ = some (.int .i64 (a : Nat))) (h2 : w.cell? ⟨pb, 0, none⟩ = some (.int .i64 (b : Nat))) (h3 : w.cell? ⟨ps, 0, none⟩ = some (.string s)) (h4 : w.cell? ⟨pf, 0, none⟩ = some (.int .i64 (f : Nat))) (ha : a < s.size) :
    Calls Tryz.prog 117 #[.pointer (some ⟨ps, 0, none⟩), .pointer (some ⟨pa, 0, none⟩), .pointer (some ⟨pb, 0, none⟩), .pointer (some ⟨pf, 0, none⟩)] w fun e w' => e = .returned (.bool (stB f a (a - b) s[a])) ∧ w' = w := by
  have z1 := World.block_lt_of_cell? w _ h1
  have z2 := World.block_lt_of_cell? w _ h2
  have z3 := World.block_lt_of_cell? w _ h3
  have z4 := World.block_lt_of_cell? w _ h4
  dsimp only at z1 z2 z3 z4
  have HI : Hid (∀ c : Int, Calls Tryz.prog 95 #[.int .i64 c, .int .u8 (s[a].toNat : Int)] w fun e w' => e = .returned (.bool (isB c (s[a].toNat : Int))) ∧ w' = w) := fun c => is_any c _ w ht
  obtain ⟨i3, i14, _⟩ := ld_is s[a]
  have HI3 : Hid (Calls Tryz.prog 95 #[.int .i64 3, .int .u8 (s[a].toNat : Int)] w fun e w' => e = .returned (.bool (ldB s[a])) ∧ w' = w) := by
    have := HI.out 3
    rw [i3] at this
    exact this
  have HI14 : Hid (Calls Tryz.prog 95 #[.int .i64 14, .int .u8 (s[a].toNat : Int)] w fun e w' => e = .returned (.bool (decide (128 ≤ s[a].toNat))) ∧ w' = w) := by
    have := HI.out 14
    rw [i14] at this
    exact this
  clear HI i3 i14 ht
  have e45 : decide (s[a] = 45) = ((s[a].toNat : Int) == 45) := by
    rw [Bool.eq_iff_iff, decide_eq_true_eq, beq_iff_eq]
    constructor
    · intro h; rw [h]; rfl
    · intro h; exact UInt8.toNat_inj.1 (by rw [show (45 : UInt8).toNat = 45 from rfl]; omega)
  have HST : Hid (stB f a (a - b) s[a] = (ldB s[a] || (((s[a].toNat : Int) == 45) && decide (b < a)) || (decide (128 ≤ s[a].toNat) && decide (a < f)))) := by
    show _ = _
    unfold stB
    rw [e45, show decide (0 < a - b) = decide (b < a) from by rw [Bool.eq_iff_iff]; simp; omega]
  clear e45
  generalize hst : stB f a (a - b) s[a] = r at HST ⊢
  clear hst
  obtain ⟨l, hl⟩ : ∃ l, l = ldB s[a] := ⟨_, rfl⟩
  obtain ⟨h, hh⟩ : ∃ h, h = decide (128 ≤ s[a].toNat) := ⟨_, rfl⟩
  rw [← hl] at HI3 HST
  rw [← hh] at HI14 HST
  clear hl hh
  obtain ⟨y, hy⟩ : ∃ y, ((s[a].toNat : Int) == 45) = y := ⟨_, rfl⟩
  rw [hy] at HST
  have hab : decide (b < a) = decide ((b : Int) < (a : Int)) := by rw [Bool.eq_iff_iff]; simp
  have haf : decide (a < f) = decide ((a : Int) < (f : Int)) := by rw [Bool.eq_iff_iff]; simp
  rw [hab, haf] at HST
  clear hab haf
  cases l
  · cases y
    · cases h
      · go_enter Tryz.func117, Tryz.ntmps117
        go_wp2_with fail
        refine HI3.out.mono ?_
        rintro e w1 ⟨rfl, rfl⟩
        go_wp2_with fail
        refine HI14.out.mono ?_
        rintro e w1 ⟨rfl, rfl⟩
        go_wp2_with fail
        go_ret
        exact ⟨by rw [HST.out]; first | rfl | (simp; omega), rfl⟩
      · by_cases haf : (a : Int) < (f : Int)
        · rw [decide_eq_true haf] at HST
          go_enter Tryz.func117, Tryz.ntmps117
          go_wp2_with fail
          refine HI3.out.mono ?_
          rintro e w1 ⟨rfl, rfl⟩
          go_wp2_with fail
          refine HI14.out.mono ?_
          rintro e w1 ⟨rfl, rfl⟩
          go_wp2_with fail
          go_ret
          exact ⟨by rw [HST.out]; first | rfl | (simp; omega), rfl⟩
        · rw [decide_eq_false haf] at HST
          go_enter Tryz.func117, Tryz.ntmps117
          go_wp2_with fail
          refine HI3.out.mono ?_
          rintro e w1 ⟨rfl, rfl⟩
          go_wp2_with fail
          refine HI14.out.mono ?_
          rintro e w1 ⟨rfl, rfl⟩
          go_wp2_with fail
          go_ret
          exact ⟨by rw [HST.out]; first | rfl | (simp; omega), rfl⟩
    · by_cases hba : (b : Int) < (a : Int)
      · rw [decide_eq_true hba] at HST
        go_enter Tryz.func117, Tryz.ntmps117
        go_wp2_with fail
        refine HI3.out.mono ?_
        rintro e w1 ⟨rfl, rfl⟩
        go_wp2_with fail
        go_ret
        exact ⟨by rw [HST.out]; first | rfl | (simp; omega), rfl⟩
      · rw [decide_eq_false hba] at HST
        cases h
        · go_enter Tryz.func117, Tryz.ntmps117
          go_wp2_with fail
          refine HI3.out.mono ?_
          rintro e w1 ⟨rfl, rfl⟩
          go_wp2_with fail
          refine HI14.out.mono ?_
          rintro e w1 ⟨rfl, rfl⟩
          go_wp2_with fail
          go_ret
          exact ⟨by rw [HST.out]; first | rfl | (simp; omega), rfl⟩
        · by_cases haf : (a : Int) < (f : Int)
          · rw [decide_eq_true haf] at HST
            go_enter Tryz.func117, Tryz.ntmps117
            go_wp2_with fail
            refine HI3.out.mono ?_
            rintro e w1 ⟨rfl, rfl⟩
            go_wp2_with fail
            refine HI14.out.mono ?_
            rintro e w1 ⟨rfl, rfl⟩
            go_wp2_with fail
            go_ret
            exact ⟨by rw [HST.out]; first | rfl | (simp; omega), rfl⟩
          · rw [decide_eq_false haf] at HST
            go_enter Tryz.func117, Tryz.ntmps117
            go_wp2_with fail
            refine HI3.out.mono ?_
            rintro e w1 ⟨rfl, rfl⟩
            go_wp2_with fail
            refine HI14.out.mono ?_
            rintro e w1 ⟨rfl, rfl⟩
            go_wp2_with fail
            go_ret
            exact ⟨by rw [HST.out]; first | rfl | (simp; omega), rfl⟩
  · go_enter Tryz.func117, Tryz.ntmps117
    go_wp2_with fail
    refine HI3.out.mono ?_
    rintro e w1 ⟨rfl, rfl⟩
    go_wp2_with fail
    go_ret
    exact ⟨by rw [HST.out]; first | rfl | (simp; omega), rfl⟩
end Go.Proofs.YthkoionigdnhgabGreatDoor
