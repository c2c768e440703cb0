/-
  The contracts of octet.Unhex and of its helper.
-/
import Derived.Test.YtdgepnfgjgbkoaaDoorLate5
import Derived.Test.YtdgepnfgjgbkoaaDoorRow
import Derived.Test.YtdgepnfgjgbkoaaDoorPureUp
import Derived.Deep.RegionHeld3
namespace Go.Proofs.YtdgepnfgjgbkoaaDoor
open Go.RowKit

theorem Table.keep {w w' : World} (h : Table w) (hb : Below w.heap.size w w') : Table w' := by
  intro c hc
  have h0 : (1 : Nat) < w.heap.size := World.block_lt_of_cell? w _ (h c hc)
  rw [hb.cell (p := ⟨1, c, none⟩) h0]
  exact h c hc

set_option maxHeartbeats 400000 in
theorem hexv_any (c : Nat) (w : World) (h0 : 48 ≤ c) (h1 : c ≤ 102) :
    Calls Tryd.prog 103 #[.int .u8 (c : Int)] w fun e w' => e = .returned (.int .u8 (hexV c : Int)) ∧ w' = w := by
  by_cases a : 97 ≤ c
  · have e : ((hexV c : Nat) : Int) = (c : Int) - 97 + 10 := by unfold hexV; rw [if_pos a]; omega
    rw [e]
    go_enter Tryd.func103, Tryd.ntmps103
    go_wp2
    go_ret
    exact ⟨rfl, rfl⟩
  · by_cases b : 65 ≤ c
    · have e : ((hexV c : Nat) : Int) = (c : Int) - 65 + 10 := by unfold hexV; rw [if_neg a, if_pos b]; omega
      rw [e]
      go_enter Tryd.func103, Tryd.ntmps103
      go_wp2
      go_ret
      exact ⟨rfl, rfl⟩
    · have e : ((hexV c : Nat) : Int) = (c : Int) - 48 := by unfold hexV; rw [if_neg a, if_neg b]; omega
      rw [e]
      go_enter Tryd.func103, Tryd.ntmps103
      go_wp2
      go_ret
      exact ⟨rfl, rfl⟩

set_option maxRecDepth 100000 in
set_option maxHeartbeats 1000000 in
theorem unhex_bad (s : ByteArray) (w : World) (ht : Table w) (hs : s.size ≤ maxLen) (hok : ¬ hexOk s.data.toList) :
    Calls Tryd.prog 85 #[.string s] w fun e w' => e = .returned (.tuple #[.slice none 0 0, .agg #[.int .i64 10, .int .i64 (badN 4 s.data.toList)]]) ∧ Below w.heap.size w w' := by
  have hl : s.data.toList.length = s.size := by rw [Array.length_toList]; rfl
  unfold hexOk at hok
  rw [hl] at hok
  have hb := badN_le 4 s.data.toList
  rw [hl] at hb
  have ms := hs
  unfold maxLen at ms
  have HT : Hid (Table w) := ht
  obtain ⟨n, hn⟩ : ∃ n : Nat, n = badN 4 s.data.toList := ⟨_, rfl⟩
  have hn' : badN 4 s.data.toList = n := hn.symm
  rw [← hn] at hok hb
  clear hn hl ht
  by_cases h1 : n < s.size
  · go_enter Tryd.func85, Tryd.ntmps85
    go_wp2_with fail
    refine (bad_anyT 4 s _ (HT.out.keep ((Below.refl _ _).alloc (Nat.le_refl _) _)) hs).mono ?_
    rintro e w' ⟨rfl, rfl⟩
    go_wp2
    refine bodyPost_ret (v := .tuple #[.slice none 0 0, .agg #[.int .i64 10, .int .i64 (n : Int)]]) (by simp [results, Tryd.results85, go_sem]) rfl ⟨by rw [hn'], ?_⟩
    exact (Below.refl _ _).alloc (Nat.le_refl _) _
  · have h2 : ((s.size : Int) % 2 != 0) = true := by simp; omega
    go_enter Tryd.func85, Tryd.ntmps85
    go_wp2_with fail
    refine (bad_anyT 4 s _ (HT.out.keep ((Below.refl _ _).alloc (Nat.le_refl _) _)) hs).mono ?_
    rintro e w' ⟨rfl, rfl⟩
    go_wp2
    refine bodyPost_ret (v := .tuple #[.slice none 0 0, .agg #[.int .i64 10, .int .i64 (n : Int)]]) (by simp [results, Tryd.results85, go_sem]) rfl ⟨by rw [hn'], ?_⟩
    exact (Below.refl _ _).alloc (Nat.le_refl _) _
end Go.Proofs.YtdgepnfgjgbkoaaDoor
