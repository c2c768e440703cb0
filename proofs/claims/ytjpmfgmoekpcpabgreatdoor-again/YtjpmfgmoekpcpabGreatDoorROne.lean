/-
  The document's One.
-/
import Derived.Test.YtjpmfgmoekpcpabGreatDoorRMd
namespace Go.Proofs.YtjpmfgmoekpcpabGreatDoor
open Go.RowKit

theorem bts_drop {g o : Nat} {l : List UInt8} {w : World} (h : Bts (some ⟨g, o, none⟩) l w) (k : Nat) : Bts (some ⟨g, o + k, none⟩) (l.drop k) w := by
  rcases h with rfl | ⟨g', o', e, hg, hr⟩
  · exact .inl (by simp)
  · injection e with e
    injection e with e1 e2
    subst e1 e2
    refine .inr ⟨g, o + k, rfl, hg, fun j hj => ?_⟩
    rw [List.length_drop] at hj
    rw [Nat.add_assoc, hr (k + j) (by omega), List.getElem_drop]
/-- What One tells of a row. -/
def oneT (l : List UInt8) : Int × Nat := (oneN l).getD (0, 0)

set_option maxHeartbeats 4000000 in
set_option maxRecDepth 100000 in
theorem done_any (a : Option Addr) (l : List UInt8) (cap at' : Nat) (w : World) (hb : Bts a l w) (hc : l.length ≤ cap) (hat : at' ≤ l.length) (hs : l.length ≤ 9223372036854775000) :
    Calls Tryz.prog 115 #[.slice a l.length cap, .int .i64 at'] w fun e w' => e = .returned (.tuple #[.int .i32 (oneT (l.drop at')).1, .int .i64 (oneT (l.drop at')).2]) ∧ Below w.heap.size w w' := by
  have HL : Hid (Bts a l w) := hb
  have HW0 : Hid (Below w.heap.size w w) := Below.refl _ w
  clear hb
  go_enter Tryz.func115, Tryz.ntmps115
  go_wp2_with fail
  go_loopw [6, 7, 8] (fun n _ _ wr => ∃ j : Nat, n = .int .i64 j ∧ 1 ≤ j ∧ j ≤ 5 ∧ Hid (Below w.heap.size w wr) ∧ Hid (∀ m, 1 ≤ m → m < j → m ≤ (l.drop at').length → ¬ okX ((l.drop at').take m))) (fun n _ _ _ => 5 - (intOf n).toNat)
  case atStart => exact ⟨1, rfl, Nat.le_refl _, by omega, HW0, fun m h1 h2 _ => by omega⟩
  case round =>
    obtain ⟨j, rfl, hj1, hj5, HW, HP⟩ := hrel
    by_cases hgo : j ≤ 4 ∧ at' + j ≤ l.length
    · obtain ⟨hj4, hjl⟩ := hgo
      obtain ⟨g, o, rfl, hg, -⟩ := HL.out.cell at' (by omega)
      have hlen : ((l.drop at').take j).length = j := by rw [List.length_take, List.length_drop]; omega
      have hm := dmade_any g (o + at') (cap - at') ((l.drop at').take j) (by omega) (by omega) (by omega) wr (((bts_drop HL.out at').take j).below HW.out)
      rw [hlen] at hm
      have HON : Hid (okX ((l.drop at').take j) → oneT (l.drop at') = (mkX ((l.drop at').take j), j)) := fun h => by
        unfold oneT
        rw [okX_one (by rw [List.length_drop]; omega) h]
        rfl
      have hcq : cap - at' ≠ 0 := by omega
      have hij : (at' : Int) + (j : Int) ≤ (l.length : Int) := by omega
      go_wp2_with fail
      refine hm.mono ?_
      rintro e w1 ⟨⟨r, rfl, hr⟩, b1⟩
      have HB1 : Hid (Below w.heap.size w w1) := HW.out.trans (b1.mono HW.out.size)
      clear hm b1
      by_cases hk : okX ((l.drop at').take j)
      · have HE : Hid (oneT (l.drop at') = (r, j)) := (HON.out hk).trans (by rw [hr hk])
        rw [decide_eq_true hk]
        clear hr HON HP hlen hk
        go_wp2
        (try simp only [Exit.inBlock, Exit.then])
        refine bodyPost_ret (v := .tuple #[.int .i32 r, .int .i64 j]) (by simp [results, Tryz.results115, go_sem]) rfl ⟨by rw [HE.out], HB1.out⟩
      · have HP2 : Hid (∀ m, 1 ≤ m → m < j + 1 → m ≤ (l.drop at').length → ¬ okX ((l.drop at').take m)) := fun m h1 h2 h3 => by
          rcases Nat.lt_or_ge m j with h | h
          · exact HP.out m h1 h h3
          · obtain rfl : m = j := by omega
            exact hk
        rw [decide_eq_false hk]
        clear hr HON HP hlen hk
        go_wp2
        go_roundw
        case rel => exact ⟨j + 1, by go_num, by omega, by omega, HB1, HP2⟩
        case measure => simp [intOf]; omega
    · have HE : Hid (oneT (l.drop at') = (0, 0)) := by
        show _ = _
        unfold oneT
        cases h : oneN (l.drop at') with
        | none => rfl
        | some p =>
          obtain ⟨r, n⟩ := p
          obtain ⟨h1, h2, h3, h4, -⟩ := one_okX h
          rw [List.length_drop] at h1
          refine absurd h4 (HP.out n h2 ?_ (by rw [List.length_drop]; exact h1))
          omega
      by_cases hj4 : j ≤ 4
      · have hij : ¬ ((at' : Int) + (j : Int) ≤ (l.length : Int)) := by omega
        clear hgo
        go_wp2
        (try simp only [Exit.inBlock, Exit.then])
        refine bodyPost_ret (v := .tuple #[.int .i32 0, .int .i64 0]) (by simp [results, Tryz.results115, go_sem]) rfl ⟨by rw [HE.out]; rfl, HW.out⟩
      · obtain rfl : j = 5 := by omega
        clear hgo hj4
        go_wp2
        (try simp only [Exit.inBlock, Exit.then])
        refine bodyPost_ret (v := .tuple #[.int .i32 0, .int .i64 0]) (by simp [results, Tryz.results115, go_sem]) rfl ⟨by rw [HE.out]; rfl, HW.out⟩

set_option maxHeartbeats 4000000 in
set_option maxRecDepth 100000 in
theorem dbad_any (a : Option Addr) (l : List UInt8) (cap : Nat) (w : World) (hb : Bts a l w) (hc : l.length ≤ cap) (hs : l.length ≤ 9223372036854775000) :
    Calls Tryz.prog 84 #[.slice a l.length cap] w fun e w' => e = .returned (.int .i64 (badU l)) ∧ Below w.heap.size w w' := by
  have HL : Hid (Bts a l w) := hb
  have HW0 : Hid (Below w.heap.size w w) := Below.refl _ w
  clear hb
  go_enter Tryz.func84, Tryz.ntmps84
  go_wp2_with fail
  go_loopw [3, 4, 5] (fun p _ _ wr => ∃ j : Nat, p = .int .i64 j ∧ j ≤ l.length ∧ Hid (Below w.heap.size w wr) ∧ Hid (badU l = j + badU (l.drop j))) (fun p _ _ _ => l.length - (intOf p).toNat)
  case atStart => exact ⟨0, rfl, Nat.zero_le _, HW0, by show _ = _; rw [List.drop_zero]; omega⟩
  case round =>
    obtain ⟨j, rfl, hj, HW, HP⟩ := hrel
    have hm := done_any a l cap j wr (HL.out.below HW.out) hc hj hs
    cases h : oneN (l.drop j) with
    | none =>
      have e1 : oneT (l.drop j) = (0, 0) := by unfold oneT; rw [h]; rfl
      rw [e1] at hm
      have HE : Hid (badU l = j) := by show _ = _; rw [HP.out, badU_none h]; rfl
      clear h e1
      go_wp2_with fail
      refine hm.mono ?_
      rintro e w1 ⟨rfl, b1⟩
      have HB1 : Hid (Below w.heap.size w w1) := HW.out.trans (b1.mono HW.out.size)
      clear hm b1
      go_wp2
      go_ret
      exact ⟨ret_i64 (by rw [HE.out]), HB1.out⟩
    | some p =>
      obtain ⟨r, n⟩ := p
      have e1 : oneT (l.drop j) = (r, n) := by unfold oneT; rw [h]; rfl
      rw [e1] at hm
      obtain ⟨h1, h2, h3, -⟩ := one_okX h
      rw [List.length_drop] at h1
      have HE : Hid (badU l = (j + n) + badU (l.drop (j + n))) := by show _ = _; rw [HP.out, badU_some h, List.drop_drop]; omega
      have hn0 : ¬ ((n : Int) = 0) := by omega
      clear h e1
      go_wp2_with fail
      refine hm.mono ?_
      rintro e w1 ⟨rfl, b1⟩
      have HB1 : Hid (Below w.heap.size w w1) := HW.out.trans (b1.mono HW.out.size)
      clear hm b1
      go_wp2
      go_roundw
      case rel => exact ⟨j + n, by go_num, by omega, HB1, HE⟩
      case measure => simp [intOf]; omega
end Go.Proofs.YtjpmfgmoekpcpabGreatDoor
