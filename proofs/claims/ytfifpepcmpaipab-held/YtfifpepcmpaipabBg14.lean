/-
  The statements' own begins: the places at which lines begin.
-/
import Derived.Test.YtfifpepcmpaipabHdP
import Derived.Test.YtfifpepcmpaipabOwn7
import Derived.Test.YtfifpepcmpaipabTi14
namespace Go.Proofs.Ytfifpepcmpaipab
open Go.RowKit

def celN (x : Nat) : List Value := [.int .i64 (x : Int)]
theorem celN_length (x : Nat) : (celN x).length = 1 := rfl
theorem oneN (x : Nat) : ∀ v ∈ celN x, v.oneCell' = true := by simp [celN, Value.oneCell']
theorem infoN : (Try.prog.info? 3).map (fun i => (i.zero, i.size, i.bytes)) = some (some (.int .i64 0), 1, 8) := by kernel_rfl
theorem bgs_len (b : List UInt8) (k : Nat) : (bgs b k).length ≤ k + 1 := by
  unfold bgs
  have := List.length_filter_le (eol b) (List.range' 2 k)
  rw [List.length_range'] at this
  rw [List.length_cons]
  omega
theorem num_cell {w : World} {g n c : Nat} {l : List Nat} (h : Ow celN 3 1 w (.slice (some ⟨g, 0, none⟩) n c) l) (i : Nat) (hi : i < l.length) : w.cell? ⟨g, i, none⟩ = some (.int .i64 (l[i] : Int)) := by
  have hl : (l.flatMap celN).length = l.length * 1 := flat_length celN_length l
  rw [h.cells i (by omega)]
  have := flat_at celN_length l i 0 hi (by decide)
  rw [Nat.mul_one, Nat.add_zero] at this
  rw [this]
  rfl
set_option maxHeartbeats 2000000 in
set_option maxRecDepth 20000 in
theorem lbegins_any (a : Option Addr) (l : List UInt8) (n cap : Nat) (hn : n = l.length) (hl : l.length ≤ 1099511627776) (w : World) (hb : Bts a l w) :
    Calls Try.prog 10 #[.slice a n cap] w fun e w' => ∃ g c, e = .returned (.slice (some ⟨g, 0, none⟩) (bgs l (l.length - 1)).length c) ∧ Ow celN 3 1 w' (.slice (some ⟨g, 0, none⟩) (bgs l (l.length - 1)).length c) (bgs l (l.length - 1)) ∧ w.heap.size ≤ g ∧ Below w.heap.size w w' := by
  subst hn
  obtain ⟨W, hW⟩ : ∃ W, W = w.alloc (.cells #[.int .i64 0] 3) := ⟨_, rfl⟩
  have HB0 : Hid (Below w.heap.size w W) := by subst hW; exact (Below.refl _ _).alloc (Nat.le_refl _) _
  have HO0 : Hid (Ow celN 3 1 W (.slice (some ⟨w.heap.size, 0, none⟩) 1 1) (bgs l 0)) := by subst hW; exact ⟨rfl, .inr ⟨w.heap.size, 1, _, rfl, Nat.zero_le _, heap_alloc_last w _, Nat.le_refl _, by unfold maxLen; omega, rfl, rfl⟩⟩
  have HBT : Hid (Bts a l w) := hb
  have HWW : Hid (w.alloc (.cells #[.int .i64 0] 3) = W) := hW.symm
  clear hW hb
  go_enter Try.func10, Try.ntmps10
  go_wp2_with (rw [HWW.out])
  clear HWW
  go_loopw [3, 4] (fun v iv wr => ∃ (i g c : Nat), 2 ≤ i ∧ i ≤ l.length - 1 + 2 ∧ v = .slice (some ⟨g, 0, none⟩) (bgs l (i - 2)).length c ∧ iv = .int .i64 (i : Int) ∧ Hid (Ow celN 3 1 wr (.slice (some ⟨g, 0, none⟩) (bgs l (i - 2)).length c) (bgs l (i - 2))) ∧ Hid (w.heap.size ≤ g) ∧ Hid (Below w.heap.size w wr)) (fun _ iv _ => l.length + 2 - (intOf iv).toNat)
  case atStart => exact ⟨2, w.heap.size, 1, Nat.le_refl _, by omega, rfl, rfl, HO0.out, Nat.le_refl _, HB0.out⟩
  case round =>
    obtain ⟨i, g, c, hi, hk, rfl, rfl, HO, HG, HB⟩ := hrel
    clear HO0 HB0
    by_cases hlt : i ≤ l.length
    · obtain ⟨g1, q, rfl, hg, hrow⟩ := HBT.out.resolve_left (fun e => by rw [e] at hlt; simp at hlt; omega)
      have hc1 := (HB.out.cell (p := ⟨g1, q + (i - 2), none⟩) hg).trans (hrow (i - 2) (by omega))
      have hc2 := (HB.out.cell (p := ⟨g1, q + (i - 1), none⟩) hg).trans (hrow (i - 1) (by omega))
      have e1 : (i : Int) - 2 = ((i - 2 : Nat) : Int) := by omega
      have e2 : (i : Int) - 1 = ((i - 1 : Nat) : Int) := by omega
      have HLN : Hid ((bgs l (i - 2)).length ≤ 1099511627776) := by have := bgs_len l (i - 2); show _ ≤ _; omega
      have HNX0 : bgs l (i + 1 - 2) = bgs l (i - 2) ++ (if (l[i - 2]'(by omega) == 13 && l[i - 1]'(by omega) == 10) = true then [i] else []) := by
        have := bgs_next l (i - 2)
        rw [show i - 2 + 1 = i + 1 - 2 by omega, show i - 2 + 2 = i by omega] at this
        rw [this]
        unfold eol
        rw [List.getElem?_eq_getElem (by omega), List.getElem?_eq_getElem (by omega)]
        simp
      clear hrow
      generalize l[i - 2]'(by omega) = d1 at *
      generalize l[i - 1]'(by omega) = d2 at *
      by_cases h13 : d1 = 13
      · have k13 : ((d1.toNat : Int) == 13) = true := u8v h13
        by_cases h10 : d2 = 10
        · have k10 : ((d2.toNat : Int) == 10) = true := u8v h10
          have HNX : Hid (bgs l (i + 1 - 2) = bgs l (i - 2) ++ [i]) := by rw [HNX0, h13, h10]; exact rfl
          clear HNX0 h13 h10
          go_wp2_with (at_builtin; refine wpList_append_ow celN_length (by decide) oneN rfl _ _ 23 rfl Try.underlying23 (.int .i64 0) 8 infoN rfl _ (bgs l (i - 2)) rfl (HO.out.below ((Below.refl _ _).alloc (Nat.le_refl _) _)) wr.heap.size 1 i rfl (fun j u h => new_cells [.int .i64 (i : Int)] j u h) (by have := HLN.out; omega) (by have := HLN.out; omega) ?_; intro g8 cap8 w8 HO8 HC8 HG8; apply Hid.out)
          unfold Hid
          have HO9 : Hid (Ow celN 3 1 w8 (.slice (some ⟨g8, 0, none⟩) (bgs l (i + 1 - 2)).length cap8) (bgs l (i + 1 - 2))) := by
            rw [HNX.out]
            unfold Hid
            rw [List.length_append]
            exact HO8
          have HN9 : Hid (w.heap.size ≤ g8) := by
            rcases HG8 with h | h
            · cases h; exact HG.out
            · have := HB.out.size; simp at h; show _ ≤ _; omega
          have HB9 : Hid (Below w.heap.size w w8) := (HB.out.alloc HB.out.size _).trans (HC8.to_below (by have := HB.out.size; simp; omega) (fun i e => by cases e; exact HG.out))
          have HLL : Hid ((bgs l (i - 2)).length + 1 = (bgs l (i + 1 - 2)).length) := by rw [HNX.out, List.length_append]; exact rfl
          clear HO8 HC8 HG8 HO HG HB
          go_wp2_with fail
          go_round
          case rel => exact ⟨i + 1, g8, cap8, by omega, by omega, by rw [← HLL.out], by go_num, HO9.out, HN9.out, HB9.out⟩
          case measure => simp [intOf]; omega
        · have k10 : ((d2.toNat : Int) == 10) = false := u8w h10
          have HNX : Hid (bgs l (i + 1 - 2) = bgs l (i - 2)) := by rw [HNX0, h13, beq_false_of_ne h10]; exact List.append_nil _
          clear HNX0 h13 h10
          go_wp2_with fail
          clear hc1 hc2
          have HO9 : Hid (Ow celN 3 1 wr (.slice (some ⟨g, 0, none⟩) (bgs l (i + 1 - 2)).length c) (bgs l (i + 1 - 2))) := by rw [HNX.out]; exact HO.out
          have HLL : Hid ((bgs l (i - 2)).length = (bgs l (i + 1 - 2)).length) := by rw [HNX.out]; exact rfl
          go_round
          case rel => exact ⟨i + 1, g, c, by omega, by omega, by rw [← HLL.out], by go_num, HO9.out, HG.out, HB.out⟩
          case measure => simp [intOf]; omega
      · have k13 : ((d1.toNat : Int) == 13) = false := u8w h13
        have HNX : Hid (bgs l (i + 1 - 2) = bgs l (i - 2)) := by rw [HNX0, beq_false_of_ne h13]; exact List.append_nil _
        clear HNX0 h13
        go_wp2_with fail
        clear hc1 hc2
        have HO9 : Hid (Ow celN 3 1 wr (.slice (some ⟨g, 0, none⟩) (bgs l (i + 1 - 2)).length c) (bgs l (i + 1 - 2))) := by rw [HNX.out]; exact HO.out
        have HLL : Hid ((bgs l (i - 2)).length = (bgs l (i + 1 - 2)).length) := by rw [HNX.out]; exact rfl
        go_round
        case rel => exact ⟨i + 1, g, c, by omega, by omega, by rw [← HLL.out], by go_num, HO9.out, HG.out, HB.out⟩
        case measure => simp [intOf]; omega
    · have HE : Hid (i - 2 = l.length - 1) := by show _ = _; omega
      go_wp2_with fail
      go_ret
      rw [← HE.out]
      exact ⟨g, c, rfl, HO.out, HG.out, HB.out⟩
end Go.Proofs.Ytfifpepcmpaipab
