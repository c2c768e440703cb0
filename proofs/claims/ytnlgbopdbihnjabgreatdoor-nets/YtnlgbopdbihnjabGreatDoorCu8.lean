/-
  The contract of domain.cut.
-/
import Derived.Test.YtnlgbopdbihnjabGreatDoorPv8
import Derived.Test.YtnlgbopdbihnjabGreatDoorLate5
namespace Go.Proofs.YtnlgbopdbihnjabGreatDoor
open Go.RowKit

theorem cutGo_set : ∀ (a : List Nat) (i : Nat) (bits : Int) (j : Nat), j < a.length → (cutGo i bits (a.take j) ++ a.drop j).set j (cutB (i + j) bits (a.getD j 0)) = cutGo i bits (a.take (j + 1)) ++ a.drop (j + 1)
  | [], _, _, _, h => by simp at h
  | x :: a, i, bits, 0, _ => by simp [cutGo]
  | x :: a, i, bits, j + 1, h => by
    have := cutGo_set a (i + 1) bits j (by simpa using h)
    rw [List.take_succ_cons, List.drop_succ_cons, cutGo, List.cons_append, List.set_cons_succ, List.take_succ_cons, List.drop_succ_cons, cutGo, List.cons_append, List.getD_cons_succ, show i + (j + 1) = i + 1 + j from by omega, this]
theorem and_cut : ∀ x : Fin 256, ∀ m : Fin 8, bits .andNot .u8 (x.val : Int) ((255 / 2 ^ m.val : Nat) : Int) = ((x.val - x.val % 2 ^ (8 - m.val) : Nat) : Int) := by decide +kernel
/-- The blocks of cut: the address, its first bytes cut, and the result. -/
structure CuS (w : World) (a : List Nat) (bits : Int) (i : Nat) (wr : World) : Prop where
  a : Lies wr w.heap.size (bytesV (cutGo 0 bits (a.take i) ++ a.drop i)) 23
  r : Lies wr (w.heap.size + 1) (bytesV (List.replicate 16 0)) 23
  below : Below w.heap.size w wr
theorem cut_keep (a : List Nat) (bits : Int) (i : Nat) (hi : i < a.length) (h : ¬ bits - 8 * i < 8) : cutGo 0 bits (a.take (i + 1)) ++ a.drop (i + 1) = cutGo 0 bits (a.take i) ++ a.drop i := by
  rw [← cutGo_set a 0 bits i hi]
  have e : cutB (0 + i) bits (a.getD i 0) = a.getD i 0 := by unfold cutB; rw [Nat.zero_add, if_neg h]
  rw [e]
  apply List.ext_getElem?
  intro j
  rw [List.getElem?_set]
  split
  · rename_i hj
    subst hj
    have hl : (cutGo 0 bits (a.take i)).length = i := by
      have : ∀ (l : List Nat) (k : Nat), (cutGo k bits l).length = l.length := fun l => by
        induction l with
        | nil => intro k; rfl
        | cons x l ih => intro k; rw [cutGo, List.length_cons, List.length_cons, ih]
      rw [this, List.length_take]
      omega
    rw [List.getElem?_append_right (by omega), hl, Nat.sub_self, List.getElem?_drop, Nat.add_zero, List.getD_eq_getElem?_getD, List.getElem?_eq_getElem hi]
    rw [if_pos (by rw [List.length_append, hl, List.length_drop]; omega)]
    rfl
  · rfl
theorem CuS.put {w wr : World} {a : List Nat} {bits : Int} {i : Nat} (h : CuS w a bits i wr) (hi : i < a.length) (v : Nat) (hv : cutB i bits (a.getD i 0) = v) : CuS w a bits (i + 1) (wr.setCell ⟨w.heap.size, i, none⟩ (.int .u8 (v : Nat))) := by
  refine ⟨?_, h.r.set_other (a := ⟨w.heap.size, i, none⟩) (by show w.heap.size + 1 ≠ w.heap.size; omega) _, h.below.setCell (p := ⟨w.heap.size, i, none⟩) (Nat.le_refl _) _⟩
  have := h.a.set i (.int .u8 (v : Nat))
  rw [bytesV_set, ← hv] at this
  have e := cutGo_set a 0 bits i hi
  rw [Nat.zero_add] at e
  rw [e] at this
  rw [← hv]
  exact this
theorem CuS.keep {w wr : World} {a : List Nat} {bits : Int} {i : Nat} (h : CuS w a bits i wr) (hi : i < a.length) (hn : ¬ bits - 8 * i < 8) : CuS w a bits (i + 1) wr := by
  refine ⟨?_, h.r, h.below⟩
  rw [cut_keep a bits i hi hn]
  exact h.a
theorem cutGo_at (a : List Nat) (bits : Int) (i : Nat) (hi : i < a.length) : (bytesV (cutGo 0 bits (a.take i) ++ a.drop i))[i]? = some (.int .u8 (a[i] : Nat)) := by
  have hl : (cutGo 0 bits (a.take i)).length = i := by
    have : ∀ (l : List Nat) (k : Nat), (cutGo k bits l).length = l.length := fun l => by
      induction l with
      | nil => intro k; rfl
      | cons x l ih => intro k; rw [cutGo, List.length_cons, List.length_cons, ih]
    rw [this, List.length_take]
    omega
  unfold bytesV
  rw [List.getElem?_toArray, List.getElem?_map, List.getElem?_append_right (by omega), hl, Nat.sub_self, List.getElem?_drop, Nat.add_zero, List.getElem?_eq_getElem hi]
  rfl

set_option maxHeartbeats 4000000 in
set_option maxRecDepth 100000 in
theorem cut_any (a : List Nat) (n : Nat) (ha : a.length = 16) (hb : ∀ x ∈ a, x < 256) (hn : n ≤ 128) (w : World) : Calls Tryz.prog 42 #[.agg (bytesV a), .int .i64 (n : Int)] w fun e w' => e = .returned (.agg (bytesV (cutGo 0 n a))) ∧ Below w.heap.size w w' := by
  have HL : Hid (a.length = 16) := ha
  have HX : Hid (∀ x ∈ a, x < 256) := hb
  have H0 : Hid (CuS w a n 0 ((w.alloc (.cells (bytesV a) 23)).alloc (.cells (bytesV (List.replicate 16 0)) 23))) := ⟨(Lies.new w _ _).alloc _, new_one w _ _ _, ((Below.refl _ _).alloc (Nat.le_refl _) _).alloc (by simp) _⟩
  clear ha hb
  have hn' : (n : Int) ≤ 128 := by omega
  go_enter Tryz.func42, Tryz.ntmps42
  go_wp2_with fail
  go_loopw [7] (fun c wr => ∃ i : Nat, i ≤ 16 ∧ c = .int .i64 i ∧ Hid (CuS w a n i wr)) (fun c _ => 16 - (intOf c).toNat)
  case atStart => exact ⟨0, by omega, rfl, H0⟩
  case round =>
    obtain ⟨i, hi, rfl, HS⟩ := hrel
    clear H0
    by_cases hlt : i < 16
    · have hil : i < a.length := by rw [HL.out]; exact hlt
      have hlt' : (i : Int) < 16 := by omega
      by_cases hleft : (n : Int) - 8 * i < 8
      · have hc : wr.cell? ⟨w.heap.size, i, none⟩ = some (.int .u8 (a[i] : Nat)) := (HS.out.a.cell i).trans (cutGo_at a n i hil)
        have hf := HS.out.a.frozen i
        have hz := HS.out.a.lt
        have hx : a[i] < 256 := HX.out _ (List.getElem_mem hil)
        have hgd : a.getD i 0 = a[i] := by rw [List.getD_eq_getElem?_getD, List.getElem?_eq_getElem hil]; rfl
        obtain ⟨m, hm⟩ : ∃ m : Nat, m = (max ((n : Int) - 8 * i) 0).toNat := ⟨_, rfl⟩
        have hm8 : m < 8 := by omega
        have hif : (if (n : Int) - 8 * (i : Int) < 0 then 0 else (n : Int) - 8 * (i : Int)) = (m : Int) := by split <;> omega
        have hcb : cutB i n a[i] = a[i] - a[i] % 2 ^ (8 - m) := by unfold cutB; rw [if_pos hleft, ← hm]
        generalize a[i] = x at hc hx hgd hcb
        have hand := and_cut ⟨x, hx⟩ ⟨m, hm8⟩
        dsimp only at hand
        have HN : Hid (CuS w a n (i + 1) (wr.setCell ⟨w.heap.size, i, none⟩ (.int .u8 ((x - x % 2 ^ (8 - m) : Nat) : Int)))) := HS.out.put hil _ (by rw [hgd, hcb])
        generalize hv : x - x % 2 ^ (8 - m) = v at hand HN
        have hand2 : bits .andNot .u8 (x : Int) ((255 : Int) / 2 ^ m) = (v : Int) := by
          rw [← hand]
          congr 1
        have HN2 : Hid (CuS w a n (i + 1) (wr.setCell ⟨w.heap.size, i, none⟩ (.int .u8 (v : Int))).drew) := ⟨HN.out.a, HN.out.r, HN.out.below.drew⟩
        have HH2 : Hid (bits .andNot .u8 (x : Int) ((255 : Int) / 2 ^ (max ((n : Int) - 8 * i) 0).toNat) = (v : Int)) := by rw [← hm]; exact hand2
        clear hcb hgd hv HS hm hand HN
        go_wp2_with fail
        go_region
        try rw [hand2]
        clear hif hand2
        go_wp2_with fail
        go_roundw
        case rel => first | exact ⟨i + 1, by omega, by go_num, HN2⟩ | (rw [← HH2.out] at HN2; exact ⟨i + 1, by omega, by go_num, HN2⟩)
        case measure => simp [intOf]; omega
      · have HN : Hid (CuS w a n (i + 1) wr) := HS.out.keep hil hleft
        clear HS
        go_wp2_with fail
        go_roundw
        case rel => exact ⟨i + 1, by omega, by go_num, HN⟩
        case measure => simp [intOf]; omega
    · obtain rfl : i = 16 := by omega
      have HA : Hid (Lies wr w.heap.size (bytesV (cutGo 0 n a)) 23) := by
        have := HS.out.a
        rw [List.take_of_length_le (by rw [HL.out]; omega), List.drop_eq_nil_of_le (by rw [HL.out]; omega), List.append_nil] at this
        exact this
      have hsz : (bytesV (cutGo 0 n a)).size = 16 := by
        have : ∀ (l : List Nat) (k : Nat), (cutGo k (n : Int) l).length = l.length := fun l => by
          induction l with
          | nil => intro k; rfl
          | cons x l ih => intro k; rw [cutGo, List.length_cons, List.length_cons, ih]
        rw [bytesV_size, this, HL.out]
      have HR : Hid (Lies (wr.setRow (w.heap.size + 1) (bytesV (cutGo 0 n a))) (w.heap.size + 1) (bytesV (cutGo 0 n a)) 23) := HS.out.r.row _
      have HB : Hid (Below w.heap.size w (wr.setRow (w.heap.size + 1) (bytesV (cutGo 0 n a)))) := below_row HS.out.below (by omega) _
      go_wp2_with (first | (refine wpList_load_row rfl 23 _ rfl w.heap.size rfl (bytesV (cutGo 0 n a)) 23 _ HA.out Tryz.underlying23 rfl (by rw [hsz]; exact info16) ?_) | (refine wpList_store_row rfl 23 _ _ rfl (w.heap.size + 1) rfl _ (bytesV (cutGo 0 n a)) rfl 23 HS.out.r (by rw [hsz]; exact info16) (by rw [hsz]; rfl) (bytesV_one _) rfl ?_))
      exact bodyPost_ret (results_row (p := 4) (by kernel_rfl) _ _ (w.heap.size + 1) 23 _ (0, 0) _ rfl HR.out Tryz.underlying23 rfl (by rw [hsz]; exact info16)) rfl ⟨rfl, HB.out⟩
end Go.Proofs.YtnlgbopdbihnjabGreatDoor
