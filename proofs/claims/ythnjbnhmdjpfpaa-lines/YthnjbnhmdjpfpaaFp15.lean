/-
  The statements' plain: a row of a text without CR and LF.
-/
import Derived.Test.YthnjbnhmdjpfpaaBase
import Derived.Test.YthnjbnhmdjpfpaaLnP
import Derived.Test.YthnjbnhmdjpfpaaOwn2
namespace Go.Proofs.Ythnjbnhmdjpfpaa
open Go.RowKit

def okB (c : UInt8) : Bool := !(c == 13 || c == 10)
/-- The bytes of a row that are not CR and LF, at most m of them. -/
def plG (m : Nat) : List UInt8 → List UInt8 → List UInt8
  | o, [] => o
  | o, c :: r => if o.length < m then plG m (if okB c then o ++ [c] else o) r else o
theorem plG_full {m : Nat} {o r : List UInt8} (h : ¬ o.length < m) : plG m o r = o := by
  cases r with
  | nil => rfl
  | cons c r => exact if_neg h
theorem plG_cons {m : Nat} {o r : List UInt8} {c : UInt8} (h : o.length < m) : plG m o (c :: r) = plG m (if okB c then o ++ [c] else o) r := if_pos h
theorem plG_ok (m : Nat) : ∀ (r o : List UInt8), bareB o = false → o.length ≤ m → bareB (plG m o r) = false ∧ (plG m o r).length ≤ m
  | [], o, h1, h2 => ⟨h1, h2⟩
  | c :: r, o, h1, h2 => by
    by_cases hl : o.length < m
    · rw [plG_cons hl]
      by_cases hc : okB c = true
      · rw [if_pos hc]
        refine plG_ok m r _ ?_ (by simp; omega)
        rw [bare_snoc, h1]
        simpa [okB] using hc
      · rw [if_neg hc]
        exact plG_ok m r o h1 h2
    · rw [plG_full hl]
      exact ⟨h1, h2⟩
set_option maxHeartbeats 4000000 in
set_option maxRecDepth 20000 in
theorem lplain_any (s : ByteArray) (m : Nat) (hm : m ≤ 1048576) (hs : s.size ≤ 9223372036854775807) (w : World) : Calls Try.prog 26 #[.string s, .int .i64 (m : Int)] w fun e w' => e = .returned (.string ⟨(plG m [] s.data.toList).toArray⟩) ∧ Below w.heap.size w w' := by
  have HE0 : Hid (plG m [] s.data.toList = plG m [] (s.data.toList.drop 0)) := by show _ = _; rw [List.drop_zero]
  have hsl : s.data.toList.length = s.size := Array.length_toList
  go_enter Try.func26, Try.ntmps26
  go_wp2_with fail
  go_loopw [5, 6] (fun v iv wr => ∃ (k : Nat) (o : List UInt8), k ≤ s.size ∧ o.length ≤ m ∧ iv = .int .i64 (k : Int) ∧ Hid (wr.ownsRow w.heap.size 5 1 v o.length (cellsB o)) ∧ Hid (plG m [] s.data.toList = plG m o (s.data.toList.drop k)) ∧ Hid (Below w.heap.size w wr)) (fun _ iv _ => s.size - (intOf iv).toNat)
  case atStart => exact ⟨0, [], Nat.zero_le _, Nat.zero_le _, rfl, World.ownsRow_made w #[] 0 (Nat.le_refl _) (by unfold maxLen; omega) rfl, HE0.out, (Below.refl _ _).alloc (Nat.le_refl _) _⟩
  case round =>
    obtain ⟨k, o, hk, ho, rfl, HO, HE, HB⟩ := hrel
    clear HE0
    obtain ⟨ga, gc, rfl, hbt, -⟩ := own_bts HO.out
    have HBT : Hid (Bts ga o wr) := hbt
    clear hbt
    by_cases hlt : k < s.size
    · have hlt' : (k : Int) < (s.size : Int) := by omega
      by_cases hf : o.length < m
      · have hf' : (o.length : Int) < (m : Int) := by omega
        have hd : s.data.toList.drop k = s[k] :: s.data.toList.drop (k + 1) := by
          rw [List.drop_eq_getElem_cons (by omega)]
          rfl
        have HE2 : Hid (plG m [] s.data.toList = plG m (if okB s[k] then o ++ [s[k]] else o) (s.data.toList.drop (k + 1))) := by
          show _ = _
          rw [HE.out, hd, plG_cons hf]
        have hv13 : (s[k].toNat : Int) = 13 ↔ s[k] = 13 := ⟨fun h => UInt8.toNat_inj.1 (by simpa using (by omega : s[k].toNat = 13)), fun h => by rw [h]; rfl⟩
        have hv10 : (s[k].toNat : Int) = 10 ↔ s[k] = 10 := ⟨fun h => UInt8.toNat_inj.1 (by simpa using (by omega : s[k].toNat = 10)), fun h => by rw [h]; rfl⟩
        clear hd HE
        by_cases h13 : s[k] = 13
        · have e13 : ((s[k].toNat : Int) != 13) = false := by simpa using hv13.2 h13
          have HE3 : Hid (plG m [] s.data.toList = plG m o (s.data.toList.drop (k + 1))) := by
            have := HE2.out
            rw [if_neg (by rw [h13]; decide)] at this
            exact this
          clear hv13 hv10 h13 HE2
          go_wp2_with fail
          go_roundw
          case rel => exact ⟨k + 1, o, hlt, ho, by go_num, HO.out, HE3.out, HB.out⟩
          case measure => simp [intOf]; omega
        · have e13 : ((s[k].toNat : Int) != 13) = true := by simp only [bne_iff_ne, ne_eq]; exact fun h => h13 (hv13.1 h)
          by_cases h10 : s[k] = 10
          · have e10 : ((s[k].toNat : Int) != 10) = false := by simpa using hv10.2 h10
            have HE3 : Hid (plG m [] s.data.toList = plG m o (s.data.toList.drop (k + 1))) := by
              have := HE2.out
              rw [if_neg (by rw [h10]; decide)] at this
              exact this
            clear hv13 hv10 h13 h10 HE2
            go_wp2_with fail
            go_roundw
            case rel => exact ⟨k + 1, o, hlt, ho, by go_num, HO.out, HE3.out, HB.out⟩
            case measure => simp [intOf]; omega
          · have e10 : ((s[k].toNat : Int) != 10) = true := by simp only [bne_iff_ne, ne_eq]; exact fun h => h10 (hv10.1 h)
            have HE3 : Hid (plG m [] s.data.toList = plG m (o ++ [s[k]]) (s.data.toList.drop (k + 1))) := by
              have := HE2.out
              rw [if_pos (by simp [okB, h13, h10])] at this
              exact this
            clear hv13 hv10 h13 h10 HE2
            go_wp2_with (at_builtin; refine wpList_append_byte rfl _ _ rfl w.heap.size _ o.length o rfl (HO.out.alloc _) wr s[k] _ rfl rfl 1 rfl (by omega) HB.out.size ?_; intro v3 w3 hown3 hbel3)
            have HO3 : Hid (w3.ownsRow w.heap.size 5 1 v3 (o ++ [s[k]]).length (cellsB (o ++ [s[k]]))) := by
              rw [List.length_append]
              exact hown3
            have HB3 : Hid (Below w.heap.size w w3) := hbel3 _ _ HB.out (Nat.le_refl _)
            have hol : (o ++ [s[k]]).length ≤ m := by simp; omega
            clear hown3 hbel3 HO HB
            go_roundw
            case rel => exact ⟨k + 1, o ++ [s[k]], hlt, hol, by go_num, HO3.out, HE3.out, HB3.out⟩
            case measure => simp [intOf]; omega
      · have hf' : ¬ (o.length : Int) < (m : Int) := by omega
        have HR : Hid (plG m [] s.data.toList = o) := by show _ = _; rw [HE.out, plG_full hf]
        have hcv := bts_back HBT.out gc
        go_wp2_with fail
        go_ret
        exact ⟨by rw [HR.out]; rfl, HB.out⟩
    · have hlt' : ¬ (k : Int) < (s.size : Int) := by omega
      have HR : Hid (plG m [] s.data.toList = o) := by
        show _ = _
        rw [HE.out, List.drop_eq_nil_of_le (by omega)]
        rfl
      have hcv := bts_back HBT.out gc
      go_wp2_with fail
      go_ret
      exact ⟨by rw [HR.out]; rfl, HB.out⟩
end Go.Proofs.Ythnjbnhmdjpfpaa
