/-
  A list of pieces that came in, and how much they hold together.
-/
import Derived.Test.YtlkflikhbkhpeaaDoorMd5
import Derived.Test.YtlkflikhbkhpeaaDoorApps
namespace Go.Proofs.YtlkflikhbkhpeaaDoor
open Go.RowKit

/-- Pieces that lie behind an address. -/
structure Pl (ps : List Pc) (a : Option Addr) (w : World) : Prop where
  lies : ps = [] ∨ ∃ g o, a = some ⟨g, o, none⟩ ∧ g < w.heap.size ∧ ∀ j, (h : j < ps.length) → w.cell? ⟨g, o + j, none⟩ = some ps[j].val
  bts : ∀ j, (h : j < ps.length) → Bts ps[j].at_ ps[j].bs w
  nn : ∀ j, (h : j < ps.length) → ps[j].at_ = none → ps[j].cap = 0
  small : ∀ j, (h : j < ps.length) → ps[j].bs.length ≤ 140737488351232
theorem Pl.below {ps : List Pc} {a : Option Addr} {w w' : World} (h : Pl ps a w) (hb : Below w.heap.size w w') : Pl ps a w' := by
  refine ⟨?_, fun j hj => (h.bts j hj).below hb, h.nn, h.small⟩
  rcases h.lies with e | ⟨g, o, e, hg, hc⟩
  · exact .inl e
  · exact .inr ⟨g, o, e, Nat.lt_of_lt_of_le hg hb.size, fun j hj => (hb.cell (p := ⟨g, o + j, none⟩) hg).trans (hc j hj)⟩
theorem Pl.cell {ps : List Pc} {a : Option Addr} {w : World} (h : Pl ps a w) (k : Nat) (hk : k < ps.length) : ∃ g o, a = some ⟨g, o, none⟩ ∧ g < w.heap.size ∧ w.cell? ⟨g, o + k, none⟩ = some (.slice ps[k].at_ ps[k].bs.length ps[k].cap) := by
  rcases h.lies with e | ⟨g, o, e, hg, hc⟩
  · rw [e] at hk
    simp at hk
  · exact ⟨g, o, e, hg, hc k hk⟩
/-- How much pieces hold, each counted for one more. -/
def gsum (ps : List Pc) : Nat := (ps.map fun p => 1 + p.bs.length).sum
theorem gsum_append (a b : List Pc) : gsum (a ++ b) = gsum a + gsum b := by simp [gsum]
theorem gsum_snoc (ps : List Pc) (k : Nat) (h : k < ps.length) : gsum (ps.take (k + 1)) = gsum (ps.take k) + (1 + ps[k].bs.length) := by
  rw [List.take_succ_eq_append_getElem h, gsum_append]
  simp [gsum]
theorem gsum_le (ps : List Pc) (k : Nat) : gsum (ps.take k) ≤ gsum ps := by
  have h := gsum_append (ps.take k) (ps.drop k)
  rw [List.take_append_drop] at h
  omega
theorem cat_gsum (ps : List Pc) : (cat ps).length + ps.length = gsum ps := by
  induction ps with
  | nil => rfl
  | cons p r ih =>
    unfold cat gsum at *
    simp only [List.map_cons, List.flatten_cons, List.length_append, List.length_cons, List.sum_cons]
    omega
theorem ret_b {a b : Bool} (h : a = b) : Ending.returned (.bool a) = .returned (.bool b) := by rw [h]

set_option maxRecDepth 100000 in
theorem great_any (a : Option Addr) (ps : List Pc) (cap : Nat) (w : World) (h : Pl ps a w) (hn : ps.length ≤ 140737488351232) :
    Calls Tryd.prog 23 #[.slice a ps.length cap] w fun e w' => e = .returned (.bool (decide (1073741824 < gsum ps))) ∧ w' = w := by
  have HP : Hid (Pl ps a w) := h
  clear h
  obtain ⟨K, hK⟩ : ∃ K, K = ps.length := ⟨_, rfl⟩
  have HK : Hid (K = ps.length) := hK
  rw [← hK] at hn
  rw [← hK]
  clear hK
  go_enter Tryd.func23, Tryd.ntmps23
  go_wp2_with fail
  go_loop [3, 8] (fun x i => ∃ k y : Nat, k ≤ K ∧ i = .int .i64 k ∧ x = .int .i64 y ∧ y ≤ 1073741824 ∧ Hid (y = gsum (ps.take k))) (fun _ i => K - (intOf i).toNat)
  case atStart => exact ⟨0, 0, by omega, rfl, rfl, by omega, rfl⟩
  case round =>
    obtain ⟨k, y, hk, rfl, rfl, hy, HY⟩ := hrel
    by_cases hlt : k < K
    · have hkp : k < ps.length := by rw [← HK.out]; exact hlt
      obtain ⟨g, o, rfl, hg, hc⟩ := HP.out.cell k hkp
      have hsm := HP.out.small k hkp
      have HS : Hid (gsum (ps.take (k + 1)) = y + (1 + ps[k].bs.length)) := by
        show _ = _
        rw [gsum_snoc ps k hkp, HY.out]
      obtain ⟨n, hnl⟩ : ∃ n, n = ps[k].bs.length := ⟨_, rfl⟩
      rw [← hnl] at hc hsm HS
      clear hnl
      generalize ps[k].at_ = pa at hc
      generalize ps[k].cap = pc at hc
      by_cases hbig : 1073741824 < y + (1 + n)
      · go_wp2
        go_ret
        refine ⟨ret_b ?_, rfl⟩
        have h1 := gsum_le ps (k + 1)
        have h2 := HS.out
        simp
        omega
      · go_wp2
        go_round
        case rel => exact ⟨k + 1, y + (1 + n), by omega, by go_num, by go_num, by omega, HS.out.symm⟩
        case measure => simp [intOf]; omega
    · have e : gsum ps = y := by
        rw [HY.out, List.take_of_length_le (by rw [← HK.out]; omega)]
      go_wp2
      go_ret
      exact ⟨ret_b (by simp; omega), rfl⟩
end Go.Proofs.YtlkflikhbkhpeaaDoor
