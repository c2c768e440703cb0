/-
  The text whose letters behind the mark are small.
-/
import Derived.Test.YtedgimkffkflbabDoorThrP
import Derived.Test.YtedgimkffkflbabDoorBase2
import Derived.Lib.ConvBytes
namespace Go.Proofs.YtedgimkffkflbabDoor
open Go.RowKit

/-- Bytes in a block of which nothing is shut. -/
def FzB (w : World) (g : Nat) (l : List UInt8) : Prop := ∃ (cs : Array Value) (fr : Nat × Nat), w.heap[g]? = some (.cells cs 5 fr) ∧ cs.size ≤ fr.1 ∧ l.length ≤ cs.size ∧ ∀ j (h : j < l.length), cs[j]? = some (.int .u8 (l[j].toNat : Int))
theorem FzB.lt {w : World} {g : Nat} {l : List UInt8} (h : FzB w g l) : g < w.heap.size := by
  obtain ⟨cs, fr, h1, _⟩ := h
  exact (Array.getElem?_eq_some_iff.1 h1).1
theorem FzB.cell {w : World} {g : Nat} {l : List UInt8} (h : FzB w g l) (j : Nat) (hj : j < l.length) : w.cell? ⟨g, j, none⟩ = some (.int .u8 (l[j].toNat : Int)) := by
  obtain ⟨cs, fr, h1, _, _, h4⟩ := h
  rw [cell_of_row w g j cs 5 fr h1, h4 j hj]
theorem FzB.open' {w : World} {g : Nat} {l : List UInt8} (h : FzB w g l) (j : Nat) (hj : j < l.length) : w.frozen? ⟨g, j, none⟩ = false := by
  obtain ⟨cs, fr, h1, h2, h3, _⟩ := h
  unfold World.frozen?
  rw [h1]
  simp only [Bool.and_eq_false_iff, decide_eq_false_iff_not]
  left
  omega
theorem FzB.set {w : World} {g : Nat} {l : List UInt8} (h : FzB w g l) (k : Nat) (b : UInt8) : FzB (w.setCell ⟨g, k, none⟩ (.int .u8 (b.toNat : Int))) g (l.set k b) := by
  have hlt := h.lt
  obtain ⟨cs, fr, h1, h2, h3, h4⟩ := h
  have hv : w.heap[g] = .cells cs 5 fr := (Array.getElem?_eq_some_iff.1 h1).2
  refine ⟨cs.setIfInBounds k (.int .u8 (b.toNat : Int)), fr, ?_, by simpa using h2, by simpa using h3, fun j hj => ?_⟩
  · unfold World.setCell
    rw [Array.getElem?_eq_getElem (by simpa using hlt), Array.getElem_modify]
    simp [hv]
  · rw [List.length_set] at hj
    rw [Array.getElem?_setIfInBounds, List.getElem_set]
    by_cases e : k = j
    · subst e
      rw [if_pos rfl, if_pos (by omega), if_pos rfl]
    · rw [if_neg e, if_neg e]
      exact h4 j hj
theorem FzB.bts {w : World} {g : Nat} {l : List UInt8} (h : FzB w g l) : Bts (some ⟨g, 0, none⟩) l w :=
  .inr ⟨g, 0, rfl, h.lt, fun j hj => by rw [Nat.zero_add]; exact h.cell j hj⟩
theorem conv_fz (w : World) (s : ByteArray) : ∃ c w', (convert 9 34 (.string s)).run Tryd.prog w = .ok (.slice (some ⟨w.heap.size, 0, none⟩) s.size c) w' ∧ FzB w' w.heap.size s.data.toList ∧ s.size ≤ c ∧ Below w.heap.size w w' := by
  refine ⟨_, _, Lib.run_convert_string_bytes w 9 34 5 s Tryd.underlying9 Tryd.underlying34 Tryd.underlying5, ⟨_, _, Lib.bytesWorld_at_new w 5 s, Nat.le_refl _, ?_, fun j hj => ?_⟩, grownCap_ge _ _ _ _, ?_⟩
  · unfold Lib.bytesCells
    rw [Array.size_append, Array.size_map, Array.length_toList]
    omega
  · rw [Array.length_toList] at hj
    unfold Lib.bytesCells
    rw [Array.getElem?_append_left (by simpa using hj), Array.getElem?_map, Array.getElem?_eq_getElem hj]
    rfl
  · exact ⟨rfl, rfl, rfl, by rw [Lib.bytesWorld_size]; omega, fun k hk => Lib.bytesWorld_at_old w 5 s k hk⟩

/-- The last mark behind the first byte and ahead of a place; 0: none. -/
def mkN (l : List UInt8) (p : Nat) : Nat := if 0 < lastI l p then (lastI l p).toNat else 0
theorem mkN_one (l : List UInt8) : mkN l 1 = 0 := by
  have := lastI_lt l 1
  unfold mkN
  rw [if_neg (by omega)]
theorem mkN_yes (l : List UInt8) (p : Nat) (h1 : 1 ≤ p) (h : l[p]? = some 45) : mkN l (p + 1) = p := by
  have e : lastI l (p + 1) = p := if_pos h
  unfold mkN
  rw [e, if_pos (by omega)]
  omega
theorem mkN_no (l : List UInt8) (p : Nat) (h : l[p]? ≠ some 45) : mkN l (p + 1) = mkN l p := by
  have e : lastI l (p + 1) = lastI l p := if_neg h
  unfold mkN
  rw [e]
theorem mkN_end (l : List UInt8) (p : Nat) (h : p = max l.length 1) : mkN l p = mrkN l := by
  rcases Nat.eq_zero_or_pos l.length with h0 | h0
  · have e : p = 1 := by omega
    rw [e, mkN_one]
    unfold mrkN
    rw [h0]
    simp [lastI]
  · have e : p = l.length := by omega
    rw [e]
    rfl
/-- The letters from m on and ahead of k are small. -/
def lowK (l : List UInt8) (m k : Nat) : List UInt8 := l.mapIdx fun j b => if m ≤ j ∧ j < k then lowA b else b
theorem lowK_length (l : List UInt8) (m k : Nat) : (lowK l m k).length = l.length := by simp [lowK]
theorem lowK_at (l : List UInt8) (m k : Nat) (hk : k < l.length) : (lowK l m k)[k]'(by rw [lowK_length]; exact hk) = l[k] := by
  simp [lowK]
theorem lowK_start (l : List UInt8) (m : Nat) : lowK l m m = l := by
  apply List.ext_getElem (lowK_length l m m)
  intro j h1 h2
  simp only [lowK, List.getElem_mapIdx]
  rw [if_neg (by omega)]
theorem lowK_set (l : List UInt8) (m k : Nat) (hm : m ≤ k) (hk : k < l.length) : (lowK l m k).set k (lowA l[k]) = lowK l m (k + 1) := by
  apply List.ext_getElem (by simp [lowK])
  intro j h1 h2
  rw [List.getElem_set]
  by_cases e : k = j
  · subst e
    rw [if_pos rfl]
    simp only [lowK, List.getElem_mapIdx]
    rw [if_pos (by omega)]
  · rw [if_neg e]
    simp only [lowK, List.getElem_mapIdx]
    by_cases h : m ≤ j ∧ j < k
    · rw [if_pos h, if_pos (by omega)]
    · rw [if_neg h, if_neg (by omega)]
theorem lowK_same (l : List UInt8) (m k : Nat) (hm : m ≤ k) (hk : k < l.length) (h : lowA l[k] = l[k]) : lowK l m (k + 1) = lowK l m k := by
  rw [← lowK_set l m k hm hk, h]
  apply List.ext_getElem (by simp)
  intro j h1 h2
  rw [List.getElem_set]
  by_cases e : k = j
  · subst e
    rw [if_pos rfl, lowK_at l m k hk]
  · rw [if_neg e]
theorem lowK_end (l : List UInt8) : lowK l (mrkN l) l.length = smallL l := by
  have hm := mrkN_le l
  unfold smallL
  apply List.ext_getElem (by simp [lowK]; omega)
  intro j h1 h2
  rw [lowK_length] at h1
  simp only [lowK, List.getElem_mapIdx]
  by_cases h : mrkN l ≤ j
  · rw [if_pos ⟨h, h1⟩, List.getElem_append_right (by rw [List.length_take]; omega)]
    simp only [List.getElem_map, List.getElem_drop, List.length_take]
    congr 1
    congr 1
    omega
  · rw [if_neg (by omega), List.getElem_append_left (by rw [List.length_take]; omega), List.getElem_take]

set_option maxHeartbeats 2000000 in
set_option maxRecDepth 100000 in
theorem small_any (s : ByteArray) (w : World) (hs : s.size ≤ 1073741824) :
    Calls Tryd.prog 11 #[.string s] w fun e w' => e = .returned (.string ⟨(smallL s.data.toList).toArray⟩) ∧ Below w.heap.size w w' := by
  have hll := len_list s
  obtain ⟨c, w1, hcv, f1, hc1, b1⟩ := conv_fz w s
  have HF1 : Hid (FzB w1 w.heap.size s.data.toList) := f1
  have HB1 : Hid (Below w.heap.size w w1) := b1
  clear f1 b1
  go_enter Tryd.func11, Tryd.ntmps11
  go_wp2_with fail
  go_loop [3, 4] (fun av pv => ∃ p : Nat, pv = .int .i64 p ∧ av = .int .i64 (mkN s.data.toList p : Nat) ∧ 1 ≤ p ∧ p ≤ max s.size 1) (fun _ pv => s.size - (intOf pv).toNat)
  case atStart => exact ⟨1, rfl, by rw [mkN_one]; rfl, by omega, by omega⟩
  case round =>
    obtain ⟨p, rfl, rfl, hp1, hp2⟩ := hrel
    by_cases hps : p < s.size
    · have hps' : p < s.data.toList.length := by omega
      have hat := at_list s p hps
      have hi : (p : Int) < (s.size : Int) := by omega
      by_cases h45 : s[p] = 45
      · have HM : Hid (mkN s.data.toList (p + 1) = p) := mkN_yes _ _ hp1 (by rw [List.getElem?_eq_getElem hps', hat, h45])
        have h45' : (s[p].toNat : Int) = 45 := by rw [h45]; rfl
        clear hat h45
        go_wp2
        go_round
        case rel => exact ⟨p + 1, by go_num, by rw [HM.out], by omega, by omega⟩
        case measure => simp [intOf]; omega
      · have HM : Hid (mkN s.data.toList (p + 1) = mkN s.data.toList p) := mkN_no _ _ (by rw [List.getElem?_eq_getElem hps', hat]; simpa using h45)
        have h45' : ¬ (s[p].toNat : Int) = 45 := fun h => h45 (UInt8.toNat_inj.1 (by rw [show (45 : UInt8).toNat = 45 from rfl]; omega))
        clear hat h45
        go_wp2
        go_round
        case rel => exact ⟨p + 1, by go_num, by rw [HM.out], by omega, by omega⟩
        case measure => simp [intOf]; omega
    · have hpe : p = max s.size 1 := by omega
      rw [mkN_end s.data.toList p (by rw [hll]; exact hpe)]
      have hi : ¬ (p : Int) < (s.size : Int) := by omega
      have hnl := mrkN_le s.data.toList
      have HEND : Hid (lowK s.data.toList (mrkN s.data.toList) s.size = smallL s.data.toList) := by
        show _ = _
        rw [← hll]
        exact lowK_end _
      rw [hll] at hnl
      clear hpe hp1 hp2 hps
      generalize mrkN s.data.toList = M at *
      go_wp2_with fail
      go_loopw [6] (fun iv wr => ∃ k : Nat, iv = .int .i64 k ∧ M ≤ k ∧ k ≤ s.size ∧ Hid (FzB wr w.heap.size (lowK s.data.toList M k)) ∧ Hid (Below w.heap.size w wr)) (fun iv _ => s.size - (intOf iv).toNat)
      case atStart => exact ⟨M, rfl, Nat.le_refl _, hnl, by rw [lowK_start]; exact HF1, HB1⟩
      case round =>
        obtain ⟨k, rfl, hMk, hk, HF, HB⟩ := hrel
        have hlk := lowK_length s.data.toList M k
        have hflt := HF.out.lt
        by_cases hks : k < s.size
        · have hks' : k < s.data.toList.length := by omega
          have hc := HF.out.cell k (by omega)
          have hfz := HF.out.open' k (by omega)
          rw [lowK_at _ _ _ hks'] at hc
          have hset : Hid (FzB (wr.setCell ⟨w.heap.size, k, none⟩ (.int .u8 ((lowA s.data.toList[k]).toNat : Int))) w.heap.size (lowK s.data.toList M (k + 1))) := by
            show FzB _ _ _
            rw [← lowK_set _ M k hMk hks']
            exact HF.out.set k _
          have HS : Hid (lowA s.data.toList[k] = s.data.toList[k] → lowK s.data.toList M (k + 1) = lowK s.data.toList M k) := fun h => lowK_same _ M k hMk hks' h
          have hLA : Hid (lowA s.data.toList[k] = if 65 ≤ s.data.toList[k].toNat ∧ s.data.toList[k].toNat ≤ 90 then s.data.toList[k] + 32 else s.data.toList[k]) := rfl
          have hi2 : (k : Int) < (s.size : Int) := by omega
          have hbl := s.data.toList[k].toNat_lt
          generalize s.data.toList[k] = b at *
          by_cases h65 : 65 ≤ b.toNat
          · have h65' : (65 : Int) ≤ (b.toNat : Int) := by omega
            by_cases h90 : b.toNat ≤ 90
            · have h90' : (b.toNat : Int) ≤ 90 := by omega
              have e : ((lowA b).toNat : Int) = (b.toNat : Int) + 32 := by
                rw [hLA.out, if_pos ⟨h65, h90⟩, UInt8.toNat_add]
                rw [show (32 : UInt8).toNat = 32 from rfl]
                omega
              rw [e] at hset
              have HB2 : Hid (Below w.heap.size w (wr.setCell ⟨w.heap.size, k, none⟩ (.int .u8 ((b.toNat : Int) + 32)))) := HB.out.setCell (p := ⟨w.heap.size, k, none⟩) (Nat.le_refl _) _
              have hw8 : IntKind.u8.wrap ((b.toNat : Int) + 32) = (b.toNat : Int) + 32 := by rw [IntKind.wrap_u8]; omega
              clear e HS hLA
              go_wp2
              go_roundw
              case rel => exact ⟨k + 1, by go_num, by omega, by omega, hset, HB2⟩
              case measure => simp [intOf]; omega
            · have h90' : ¬ (b.toNat : Int) ≤ 90 := by omega
              have e : lowA b = b := by rw [hLA.out, if_neg (by omega)]
              have HSE := HS.out e
              clear e HS hLA hset
              go_wp2
              go_roundw
              case rel => exact ⟨k + 1, by go_num, by omega, by omega, by rw [HSE]; exact HF, HB⟩
              case measure => simp [intOf]; omega
          · have h65' : ¬ (65 : Int) ≤ (b.toNat : Int) := by omega
            have e : lowA b = b := by rw [hLA.out, if_neg (by omega)]
            have HSE := HS.out e
            clear e HS hLA hset
            go_wp2
            go_roundw
            case rel => exact ⟨k + 1, by go_num, by omega, by omega, by rw [HSE]; exact HF, HB⟩
            case measure => simp [intOf]; omega
        · obtain rfl : k = s.size := by omega
          rw [HEND.out] at HF hlk
          have hcb := bts_back HF.out.bts c
          rw [hlk, hll] at hcb
          go_wp2
          go_ret
          exact ⟨rfl, HB.out⟩
end Go.Proofs.YtedgimkffkflbabDoor
