/-
  The contract of the document's HexOf, of rows that are not too long for append.
-/
import Derived.Test.YtjpmfgmoekpcpabGreatDoorHexOf4
namespace Go.Proofs.YtjpmfgmoekpcpabGreatDoor
open Go.RowKit

set_option maxRecDepth 100000 in
set_option maxHeartbeats 4000000 in
theorem rhexof_any (s : ByteArray) (g cap : Nat) (w : World) (hr : RowAt s g 0 w) (hs : s.size ≤ 1048576) :
    Calls Tryz.prog 101 #[.slice (some ⟨g, 0, none⟩) s.size cap] w fun e w' => e = .returned (.string (hexS s)) ∧ Below w.heap.size w w' := by
  obtain ⟨i0, hi, hz0, hz1, hz2⟩ := info_parts info5
  have HR : Hid (RowAt s g 0 w) := hr
  clear hr
  go_enter Tryz.func101, Tryz.ntmps101
  go_wp2
  have HB0 : Hid (Below w.heap.size w w) := Below.refl _ _
  go_loopw [3, 4] (fun v i wr => ∃ k : Nat, k ≤ s.size ∧ i = .int .i64 k ∧ Hid (wr.ownsRow w.heap.size 5 1 v (2 * k) (cellsB (hexL (s.data.toList.take k)))) ∧ Hid (Below w.heap.size w wr)) (fun _ i _ => s.size - (intOf i).toNat)
  case atStart => exact ⟨0, Nat.zero_le _, rfl, World.ownsRow_nil _ _ _ _, HB0⟩
  case round =>
    obtain ⟨k, hk, rfl, HO, HB⟩ := hrel
    by_cases hlt : k < s.size
    · have hg : g < w.heap.size := World.block_lt_of_cell? w _ (HR.out k hlt)
      have hc : wr.cell? ⟨g, k, none⟩ = some (.int .u8 (s[k].toNat : Int)) := by
        have h := (HB.out.cell (p := ⟨g, 0 + k, none⟩) hg).trans (HR.out k hlt)
        rwa [Nat.zero_add] at h
      have hx := s[k].toNat_lt
      obtain ⟨x, hxx⟩ : ∃ x : Nat, x = s[k].toNat := ⟨_, rfl⟩
      rw [← hxx] at hc hx
      have HX : Hid (x = s[k].toNat) := hxx
      clear hxx
      have hlo0 : (0 : Int) ≤ (x : Int) % 16 := by omega
      have hlo1 : (x : Int) % 16 < 16 := by omega
      have hhi0 : (0 : Int) ≤ (x : Int) / 16 := by omega
      have hhi1 : (x : Int) / 16 < 16 := by omega
      have hd1 := dig16_at ((x : Int) / 16).toNat (x / 16) (by omega) (by omega)
      have hd2 := dig16_at ((x : Int) % 16).toNat (x % 16) (by omega) (by omega)
      have e1 : IntKind.u8.wrap ((x : Int) / 16) = (x : Int) / 16 := by rw [IntKind.wrap_u8]; omega
      have e2 : (x : Int).tmod 16 = (x : Int) % 16 := Int.tmod_eq_emod_of_nonneg (by omega)
      go_wp2_with fail
      have hown := HO.out
      have hwr := HB.out.size
      have hgwr : g < wr.heap.size := Nat.lt_of_lt_of_le hg hwr
      have hal : ∀ o : Obj, (wr.alloc o).drew.cell? ⟨g, k, none⟩ = some (.int .u8 (x : Int)) := fun o => (((Below.refl _ wr).alloc (Nat.le_refl _) o).drew.cell (p := ⟨g, k, none⟩) hgwr).trans hc
      have hne : some g ≠ u3.ownBlock := fun e => by have := (hown.lt g e.symm).1; omega
      go_region_held3 (fun w' => w'.cell? ⟨g, k, none⟩ = some (.int .u8 (x : Int))) (first | assumption | exact hc | exact hal _ | exact (hgrow.cell_far ⟨g, k, none⟩ (Nat.lt_of_lt_of_le hgwr (by simp)) hne).trans (hal _))
        ((refine step_append_lies _ (by rfl) _ _ _ (by rfl) w.heap.size 5 i0 _ 1 1 Tryz.underlying57 hi hz0 hz1 hz2 rfl (by omega) _ _ _ (by rfl) ((hown.alloc _).drew) ⟨wr.heap.size, 0, none⟩ 2 2 [.int .u8 ((hexD (x / 16)).toNat : Int), .int .u8 ((hexD (x % 16)).toNat : Int)] (by rfl) (by rfl) (World.news_of_block (cs := #[.int .u8 ((hexD (x / 16)).toNat : Int), .int .u8 ((hexD (x % 16)).toNat : Int)]) (t := 5) (fr := (0, 0)) (heap_alloc_new wr _)) (by simp [Value.oneCell']) (by omega) (by unfold maxLen; omega) (by omega) (by simp; omega) (wr.heap.size + 1) (by simp) ?_; intro gg cap w2 hown2 hgrow hat hlt3))
      all_goals
        have R : Hid (w2.ownsRow w.heap.size 5 1 (.slice (some ⟨gg, 0, none⟩) (2 * k + 2) cap) (2 * (k + 1)) (cellsB (hexL (s.data.toList.take (k + 1))))) := by
          show w2.ownsRow _ _ _ _ _ _
          have e := hexL_take s.data.toList k (by simpa using hlt)
          have e2 : s.data.toList[k]'(by simpa using hlt) = s[k] := rfl
          rw [e2, ← HX.out] at e
          rw [e, cellsB_append]
          exact hown2
        have HB3 : Hid (Below w.heap.size w w2) := (HB.out.alloc HB.out.size _).drew.grown hgrow (by have := HB.out.size; simp; omega) (fun q hq => (hown.lt q hq).1)
        clear hown hown2 hgrow HO HB
        go_wp2
        go_roundw
        case rel => exact ⟨k + 1, by omega, by go_num, R, HB3⟩
        case measure => simp [intOf]; omega
    · obtain rfl : k = s.size := by omega
      have e : s.data.toList.take s.size = s.data.toList := List.take_of_length_le (by simp)
      rw [e] at HO
      have hl : (hexL s.data.toList).length = 2 * s.size := by rw [hexL_length]; simp
      have ho : wr.ownsRow w.heap.size 5 1 u3 (hexL s.data.toList).length (cellsB (hexL s.data.toList)) := by rw [hl]; exact HO.out
      have hback := own_conv ho
      clear HO e hl ho
      go_wp2
      go_ret
      exact ⟨rfl, HB.out⟩
end Go.Proofs.YtjpmfgmoekpcpabGreatDoor
