/-
  The small walks of the digest: words turned and mixed, the program's and the document's.
-/
import Derived.Test.YtlkflikhbkhpeabDoorMd
import Derived.Test.YtlkflikhbkhpeabDoorRowl
namespace Go.Proofs.YtlkflikhbkhpeabDoor
open Go.RowKit

theorem bits_xor (x y : BitVec 32) : bits .xor .u32 (x.toNat : Int) (y.toNat : Int) = ((x ^^^ y).toNat : Int) := by
  rw [u32_xor_nat _ _ x.isLt y.isLt, BitVec.toNat_xor]
theorem bits_and (x y : BitVec 32) : bits .and .u32 (x.toNat : Int) (y.toNat : Int) = ((x &&& y).toNat : Int) := by
  rw [u32_and_nat _ _ x.isLt y.isLt, BitVec.toNat_and]
theorem bits_or (x y : BitVec 32) : bits .or .u32 (x.toNat : Int) (y.toNat : Int) = ((x ||| y).toNat : Int) := by
  rw [u32_or_nat _ _ x.isLt y.isLt, BitVec.toNat_or]
theorem bits_xor64 (x y : BitVec 32) : bits .xor .u64 (x.toNat : Int) (y.toNat : Int) = ((x ^^^ y).toNat : Int) := by
  rw [u64_xor_nat _ _ (by have := x.isLt; omega) (by have := y.isLt; omega), BitVec.toNat_xor]
theorem bits_and64 (x y : BitVec 32) : bits .and .u64 (x.toNat : Int) (y.toNat : Int) = ((x &&& y).toNat : Int) := by
  rw [u64_and_nat _ _ (by have := x.isLt; omega) (by have := y.isLt; omega), BitVec.toNat_and]
theorem bits_or64 (x y : BitVec 32) : bits .or .u64 (x.toNat : Int) (y.toNat : Int) = ((x ||| y).toNat : Int) := by
  rw [u64_or_nat _ _ (by have := x.isLt; omega) (by have := y.isLt; omega), BitVec.toNat_or]

theorem not_xor (x : BitVec 32) : ~~~ x = 0xFFFFFFFF#32 ^^^ x := by
  apply BitVec.eq_of_getLsbD_eq
  intro i hi
  rw [BitVec.getLsbD_not, BitVec.getLsbD_xor]
  have : (0xFFFFFFFF#32).getLsbD i = true := by
    have h : ∀ j : Fin 32, (0xFFFFFFFF#32).getLsbD j.val = true := by decide
    exact h ⟨i, hi⟩
  rw [this]
  simp [hi]
theorem max_xor (x : BitVec 32) : bits .xor .u32 IntKind.u32.max (x.toNat : Int) = ((~~~ x).toNat : Int) := by
  rw [not_xor]
  exact bits_xor 0xFFFFFFFF#32 x
theorem ret_u32 {a b : Int} (h : a = b) : Ending.returned (.int .u32 a) = .returned (.int .u32 b) := by rw [h]
theorem ret_u64 {a b : Int} (h : a = b) : Ending.returned (.int .u64 a) = .returned (.int .u64 b) := by rw [h]
theorem ret_i64 {a b : Int} (h : a = b) : Ending.returned (.int .i64 a) = .returned (.int .i64 b) := by rw [h]
theorem and31 (k : Nat) (h : k < 32) : bits .and .u64 (k : Int) 31 = (k : Int) := by
  have := u64_and_nat k 31 (by omega) (by omega)
  rw [show k &&& 31 = k by rw [show 31 = 2 ^ 5 - 1 by rfl, Nat.and_two_pow_sub_one_eq_mod]; omega] at this
  exact this

theorem ret_two {a b c d : Int} (h : a = b) (h' : c = d) : Ending.returned (.tuple #[.int .u32 a, .int .i64 c]) = .returned (.tuple #[.int .u32 b, .int .i64 d]) := by rw [h, h']
theorem rot_spelt (x : BitVec 32) (k : Nat) (hk : k < 32) : bits .or .u32 ((x.toNat : Int) * 2 ^ k % 4294967296) ((x.toNat : Int) / 2 ^ (32 - k)) = ((x.rotateLeft k).toNat : Int) := by
  have e1 : ((x.toNat : Int) * 2 ^ k % 4294967296) = ((x <<< k).toNat : Int) := by
    rw [BitVec.toNat_shiftLeft, Nat.shiftLeft_eq, Int.natCast_emod, Int.natCast_mul, Int.natCast_pow]
    rfl
  have e2 : ((x.toNat : Int) / 2 ^ (32 - k)) = ((x >>> (32 - k)).toNat : Int) := by
    rw [BitVec.toNat_ushiftRight, Nat.shiftRight_eq_div_pow, Int.natCast_ediv, Int.natCast_pow]
    rfl
  rw [e1, e2, bits_or, BitVec.rotateLeft_def, Nat.mod_eq_of_lt hk]

theorem rot_any (x : BitVec 32) (k : Nat) (hk : k < 24) (h0 : 0 < k) (w : World) : Calls Tryd.prog 40 #[.int .u32 x.toNat, .int .i64 k] w fun e w' => e = .returned (.int .u32 (x.rotateLeft k).toNat) ∧ w' = w := by
  have q := and31 k (by omega)
  go_enter Tryd.func40, Tryd.ntmps40
  go_wp2
  go_ret
  exact ⟨ret_u32 (rot_spelt x k (by omega)), rfl⟩

/-- The register as a value. -/
def rgv (r : Rg) : Array Value := #[.int .u32 r.a.toNat, .int .u32 r.b.toNat, .int .u32 r.c.toNat, .int .u32 r.d.toNat]
theorem below_drew (w : World) (o : Obj) (n : Nat) : Below w.heap.size w ((w.alloc o).drewN n) := ⟨rfl, rfl, rfl, by simp, fun k hk => Below.heap_alloc w o k hk⟩

theorem mixed_any (r : Rg) (i : Nat) (hi : i < 64) (w : World) : Calls Tryd.prog 37 #[.agg (rgv r), .int .i64 i] w fun e w' => e = .returned (.tuple #[.int .u32 (ff i r.b r.c r.d).toNat, .int .i64 (gg i : Nat)]) ∧ Below w.heap.size w w' := by
  have HB : Hid (∀ (o : Obj) (n : Nat), Below w.heap.size w ((w.alloc o).drewN n)) := below_drew w
  unfold rgv
  by_cases h1 : i < 16
  · have q : (i : Int) / 16 = 0 := by omega
    go_enter Tryd.func37, Tryd.ntmps37
    go_wp2_with fail
    go_quiet (fail)
    go_wp2
    go_ret2
    refine ⟨ret_two ?_ ?_, HB.out _ _⟩
    · rw [max_xor, bits_and, bits_and, bits_or]
      unfold ff
      rw [if_pos h1]
    · unfold gg
      rw [if_pos h1]
  by_cases h2 : i < 32
  · have q : (i : Int) / 16 = 1 := by omega
    go_enter Tryd.func37, Tryd.ntmps37
    go_wp2_with fail
    go_quiet (fail)
    go_wp2
    go_ret2
    refine ⟨ret_two ?_ ?_, HB.out _ _⟩
    · rw [max_xor, bits_and, bits_and, bits_or]
      unfold ff
      rw [if_neg h1, if_pos h2]
    · unfold gg
      rw [if_neg h1, if_pos h2]
      omega
  by_cases h3 : i < 48
  · have q : (i : Int) / 16 = 2 := by omega
    go_enter Tryd.func37, Tryd.ntmps37
    go_wp2_with fail
    go_quiet (fail)
    go_wp2
    go_ret2
    refine ⟨ret_two ?_ ?_, HB.out _ _⟩
    · rw [bits_xor, bits_xor]
      unfold ff
      rw [if_neg h1, if_neg h2, if_pos h3]
    · unfold gg
      rw [if_neg h1, if_neg h2, if_pos h3]
      omega
  · have q : (i : Int) / 16 = 3 := by omega
    go_enter Tryd.func37, Tryd.ntmps37
    go_wp2_with fail
    go_quiet (fail)
    go_wp2
    go_ret2
    refine ⟨ret_two ?_ ?_, HB.out _ _⟩
    · rw [max_xor, bits_or, bits_xor]
      unfold ff
      rw [if_neg h1, if_neg h2, if_neg h3]
    · unfold gg
      rw [if_neg h1, if_neg h2, if_neg h3]
      omega

theorem add_spelt (x y : BitVec 32) : ((x.toNat : Int) + (y.toNat : Int)) % 4294967296 = ((x + y).toNat : Int) := by
  rw [BitVec.toNat_add]
  omega

theorem rgv_one (r : Rg) : (rgv r).all (·.oneCell') = true := by
  simp [rgv]
  exact ⟨rfl, rfl, rfl, rfl⟩
theorem rgv_size (r : Rg) : (rgv r).size = 4 := rfl
theorem infoR : (Tryd.prog.info? 43).map (·.size) = some 4 := by kernel_rfl
theorem infoRg (r : Rg) : (Tryd.prog.info? 43).map (·.size) = some (rgv r).size := infoR
def zero4 : Array Value := #[.int .u32 0, .int .u32 0, .int .u32 0, .int .u32 0]

/-- Four cells written one by one. -/
theorem Lies.four {w : World} {g : Nat} {t : TypeId} (h : Lies w g zero4 t) (a b c d : Value) :
    Lies ((((w.setCell ⟨g, 0, none⟩ a).setCell ⟨g, 1, none⟩ b).setCell ⟨g, 2, none⟩ c).setCell ⟨g, 3, none⟩ d) g #[a, b, c, d] t := (((h.set 0 a).set 1 b).set 2 c).set 3 d

theorem turned_any (r : Rg) (x : BitVec 32) (k : Nat) (hk : k < 24) (h0 : 0 < k) (w : World) : Calls Tryd.prog 38 #[.agg (rgv r), .int .u32 x.toNat, .int .i64 k] w fun e w' => e = .returned (.agg (rgv ⟨r.d, r.b + (r.a + x).rotateLeft k, r.b, r.c⟩)) ∧ Below w.heap.size w w' := by
  go_enter Tryd.func38, Tryd.ntmps38
  unfold rgv
  go_wp2_with fail
  go_quiet (fail)
  go_wp2_with fail
  rw [add_spelt]
  refine (rot_any _ k hk h0 _).mono ?_
  rintro e w1 ⟨rfl, hw⟩
  rw [hw]
  clear hw
  obtain ⟨y, hy⟩ : ∃ y, y = (r.a + x).rotateLeft k := ⟨_, rfl⟩
  rw [← hy]
  have HY : Hid (y = (r.a + x).rotateLeft k) := hy
  clear hy
  go_wp2_with fail
  rw [add_spelt r.b y]
  refine bodyPost_ret (v := .agg (rgv ⟨r.d, r.b + y, r.b, r.c⟩)) ?_ rfl ⟨by rw [HY.out]; rfl, ?_⟩
  · exact results_cell_row rfl _ _ _ 43 _ (0, 0) _ rfl (((new_one w _ zero4 43).drewN nq).four _ _ _ _) Tryd.underlying43 rfl (infoRg _)
  · refine Below.setCell (Below.setCell (Below.setCell (Below.setCell ?_ (by simp) _) (by simp) _) (by simp) _) (by simp) _
    exact ⟨rfl, rfl, rfl, by simp; omega, fun k hk => (Below.heap_alloc _ _ k (by simp; omega)).trans (Below.heap_alloc w _ k hk)⟩

/-! The document's. -/
theorem not_any (x : BitVec 32) (w : World) : Calls Tryd.prog 35 #[.int .u64 x.toNat] w fun e w' => e = .returned (.int .u64 (~~~ x).toNat) ∧ w' = w := by
  have hx := x.isLt
  go_enter Tryd.func35, Tryd.ntmps35
  go_wp2
  go_ret
  refine ⟨ret_u64 ?_, rfl⟩
  rw [BitVec.toNat_not]
  omega

theorem rmixed_any (b c d : BitVec 32) (i : Nat) (w : World) : Calls Tryd.prog 25 #[.int .i64 i, .int .u64 b.toNat, .int .u64 c.toNat, .int .u64 d.toNat] w fun e w' => e = .returned (.int .u64 (ff i b c d).toNat) ∧ w' = w := by
  by_cases h1 : i < 16
  · go_enter Tryd.func25, Tryd.ntmps25
    go_wp2_with fail
    refine (not_any b w).mono ?_
    rintro e w1 ⟨rfl, hw⟩
    rw [hw]
    clear hw
    generalize he : ~~~ b = nb
    have HE : Hid (~~~ b = nb) := he
    clear he
    go_wp2
    go_ret
    refine ⟨ret_u64 ?_, rfl⟩
    rw [bits_and64, bits_and64, bits_or64, ← HE.out]
    unfold ff
    rw [if_pos h1]
  by_cases h2 : i < 32
  · go_enter Tryd.func25, Tryd.ntmps25
    go_wp2_with fail
    refine (not_any d w).mono ?_
    rintro e w1 ⟨rfl, hw⟩
    rw [hw]
    clear hw
    generalize he : ~~~ d = nb
    have HE : Hid (~~~ d = nb) := he
    clear he
    go_wp2
    go_ret
    refine ⟨ret_u64 ?_, rfl⟩
    rw [bits_and64, bits_and64, bits_or64, ← HE.out]
    unfold ff
    rw [if_neg h1, if_pos h2]
  by_cases h3 : i < 48
  · go_enter Tryd.func25, Tryd.ntmps25
    go_wp2
    go_ret
    refine ⟨ret_u64 ?_, rfl⟩
    rw [bits_xor64, bits_xor64]
    unfold ff
    rw [if_neg h1, if_neg h2, if_pos h3]
  · go_enter Tryd.func25, Tryd.ntmps25
    go_wp2_with fail
    refine (not_any d w).mono ?_
    rintro e w1 ⟨rfl, hw⟩
    rw [hw]
    clear hw
    generalize he : ~~~ d = nb
    have HE : Hid (~~~ d = nb) := he
    clear he
    go_wp2
    go_ret
    refine ⟨ret_u64 ?_, rfl⟩
    rw [bits_or64, bits_xor64, ← HE.out]
    unfold ff
    rw [if_neg h1, if_neg h2, if_neg h3]

theorem place_any (i : Nat) (hi : i < 64) (w : World) : Calls Tryd.prog 28 #[.int .i64 i] w fun e w' => e = .returned (.int .i64 (gg i : Nat)) ∧ w' = w := by
  go_enter Tryd.func28, Tryd.ntmps28
  by_cases h1 : i < 16
  · go_wp2
    go_ret
    refine ⟨ret_i64 ?_, rfl⟩
    unfold gg
    rw [if_pos h1]
  by_cases h2 : i < 32
  · go_wp2
    go_ret
    refine ⟨ret_i64 ?_, rfl⟩
    unfold gg
    rw [if_neg h1, if_pos h2]
    omega
  by_cases h3 : i < 48
  · go_wp2
    go_ret
    refine ⟨ret_i64 ?_, rfl⟩
    unfold gg
    rw [if_neg h1, if_neg h2, if_pos h3]
    omega
  · go_wp2
    go_ret
    refine ⟨ret_i64 ?_, rfl⟩
    unfold gg
    rw [if_neg h1, if_neg h2, if_neg h3]
    omega

theorem rturned_any (x : BitVec 32) (k : Nat) (hk : k < 24) (w : World) : Calls Tryd.prog 29 #[.int .u64 x.toNat, .int .i64 k] w fun e w' => e = .returned (.int .u64 (x.rotateLeft k).toNat) ∧ w' = w := by
  go_enter Tryd.func29, Tryd.ntmps29
  go_wp2
  go_loop [0, 5] (fun n i => ∃ (j : Nat) (y : BitVec 32), j ≤ k ∧ i = .int .i64 j ∧ n = .int .u64 y.toNat ∧ Hid (y = x.rotateLeft j)) (fun _ i => k - (intOf i).toNat)
  case atStart => exact ⟨0, x, by omega, rfl, rfl, (rot_zero x).symm⟩
  case round =>
    obtain ⟨j, y, hj, rfl, rfl, HY⟩ := hrel
    have hy := y.isLt
    by_cases hlt : j < k
    · go_wp2
      go_round
      case rel =>
        refine ⟨j + 1, y.rotateLeft 1, by omega, by go_num, ?_, ?_⟩
        · rw [rot_one]
          congr 1
        · show _ = _
          rw [HY.out, rot_succ x j (by omega)]
      case measure => simp [intOf]; omega
    · obtain rfl : j = k := by omega
      go_wp2
      go_ret
      exact ⟨ret_u64 (by rw [HY.out]; simp), rfl⟩
end Go.Proofs.YtlkflikhbkhpeabDoor
