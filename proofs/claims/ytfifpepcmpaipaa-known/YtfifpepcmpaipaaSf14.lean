/-
  Stuff: a body with dots doubled.
-/
import Derived.Test.YtfifpepcmpaipaaCk14
import Derived.Laws.AppendOwnNone
namespace Go.Proofs.Ytfifpepcmpaipaa
open Go.RowKit

set_option maxHeartbeats 1000000 in
theorem dstuff_bad (ad : Option Addr) (l : List UInt8) (n cap : Nat) (hn : n = l.length) (hl : l.length ≤ 35184372088832) (w : World) (hb : Bts ad l w) (hz : ¬ wholeI l = 0) : Calls Try.prog 11 #[.slice ad n cap] w fun e w' => e = .returned (.tuple #[.slice none 0 0, .int .i64 (wholeI l)]) ∧ w' = w := by
  subst hn
  have HWH := dwhole_any ad l l.length cap rfl (by omega) w hb
  have hzz : (wholeI l != 0) = true := by simp [hz]
  clear hz hb
  generalize wholeI l = Z at *
  go_enter Try.func11, Try.ntmps11
  go_wp2_with fail
  refine HWH.mono ?_
  rintro e w2 ⟨rfl, rfl⟩
  go_wp2_with fail
  go_ret2
  exact ⟨rfl, rfl⟩
theorem lit3 (w : World) : Bts (some ⟨w.heap.size, 0, none⟩) [46, 13, 10] (w.alloc (.cells #[.int .u8 46, .int .u8 13, .int .u8 10] 5)) := by
  refine .inr ⟨w.heap.size, 0, rfl, by simp, fun j hj => ?_⟩
  rw [Nat.zero_add]
  rcases (by simp at hj; omega : j = 0 ∨ j = 1 ∨ j = 2) with rfl | rfl | rfl <;> simp
set_option maxHeartbeats 4000000 in
set_option maxRecDepth 20000 in
theorem dstuff_ok (ad : Option Addr) (l : List UInt8) (n cap : Nat) (hn : n = l.length) (hl : l.length ≤ 35184372088832) (w : World) (hb : Bts ad l w) (hz : wholeI l = 0) : Calls Try.prog 11 #[.slice ad n cap] w fun e w' => ∃ v, e = .returned (.tuple #[v, .int .i64 0]) ∧ w'.ownsRow w.heap.size 5 1 v (stuffL l).length (cellsB (stuffL l)) ∧ Below w.heap.size w w' := by
  subst hn
  have HWH := dwhole_any ad l l.length cap rfl (by omega) w hb
  obtain ⟨w1, hr, ho1, hb1⟩ := make_room w 0 (l.length + 3) 0 ((l.length : Int) + 3) (by omega) (by omega) (by omega) (by omega) w.heap.size (Nat.le_refl _)
  have HO1 : Hid (w1.ownsRow w.heap.size 5 1 (.slice (some ⟨w.heap.size, 0, none⟩) 0 (l.length + 3)) 0 (cellsB [])) := ho1
  have HB1 : Hid (Below w.heap.size w w1) := hb1
  have HBT : Hid (Bts ad l w) := hb
  rw [hz] at HWH
  clear hz hb ho1 hb1
  go_enter Try.func11, Try.ntmps11
  go_wp2_with fail
  refine HWH.mono ?_
  rintro e w2 ⟨rfl, rfl⟩
  clear HWH
  go_wp2_with fail
  clear hr
  go_loopw [5, 6, 8, 20] (fun v bv _ iv wr => ∃ (k : Nat) (o : List UInt8) (x : Bool), k ≤ l.length ∧ bv = .bool x ∧ iv = .int .i64 k ∧ Hid (wr.ownsRow w2.heap.size 5 1 v o.length (cellsB o)) ∧ Hid (Below w2.heap.size w2 wr) ∧ Hid (o.length ≤ 2 * k ∧ stf true l = o ++ stf x (l.drop k))) (fun _ _ _ iv _ => l.length - (intOf iv).toNat)
  case atStart => exact ⟨0, [], true, Nat.zero_le _, rfl, rfl, HO1.out, HB1.out, ⟨by simp, by simp⟩⟩
  case round =>
    obtain ⟨k, o, x, hk, rfl, rfl, HO, HB, HE⟩ := hrel
    clear HO1 HB1
    obtain ⟨g1, cap1, rfl, -⟩ := own_bts HO.out
    by_cases hlt : k < l.length
    · obtain ⟨g, q, rfl, hg, hrow⟩ := HBT.out.resolve_left (fun e => by rw [e] at hlt; cases hlt)
      have hce := (HB.out.cell (p := ⟨g, q + k, none⟩) hg).trans (hrow k hlt)
      have HE2 : Hid (stf true l = (o ++ (if (x && l[k] == 46) = true then [46, l[k]] else [l[k]])) ++ stf (l[k] == 10) (l.drop (k + 1))) := stf_take l true k hlt o x HE.out.2
      have HOL : Hid (o.length ≤ 2 * k) := HE.out.1
      have hol : o.length ≤ 70368744177664 := by have := HOL.out; omega
      clear hrow HE
      generalize l[k] = d at *
      by_cases hdot : (x && d == 46) = true
      · obtain ⟨rfl, hd⟩ : x = true ∧ d = 46 := by simpa using hdot
        have k46 : ((d.toNat : Int) == 46) = true := u8v hd
        have HE3 : Hid (stf true l = (o ++ [46, d]) ++ stf (d == 10) (l.drop (k + 1))) := by rw [HE2.out, if_pos hdot]; exact rfl
        have hd10 : ((d.toNat : Int) == 10) = (d == 10) := u8b d 10
        clear hdot hd HE2
        go_wp2_with (at_builtin; refine wpList_append_byte rfl _ _ rfl w2.heap.size _ o.length o rfl (HO.out.alloc _) wr 46 _ rfl rfl 1 rfl (by omega) HB.out.size ?_; intro v3 w3 hown3 hbel3; apply Hid.out)
        unfold Hid
        have HO3 : Hid (w3.ownsRow w2.heap.size 5 1 v3 (o.length + 1) (cellsB (o ++ [46]))) := hown3
        have HB3 : Hid (Below w2.heap.size w2 w3) := hbel3 _ _ HB.out (Nat.le_refl _)
        obtain ⟨g3, cap3, rfl, -⟩ := own_bts hown3
        clear hown3 hbel3 HO HB hce
        go_wp2_with (at_builtin; refine wpList_append_byte rfl _ _ rfl w2.heap.size _ (o.length + 1) (o ++ [46]) rfl (HO3.out.alloc _) w3 d _ rfl rfl 1 rfl (by omega) HB3.out.size ?_; intro v4 w4 hown4 hbel4; apply Hid.out)
        unfold Hid
        have HO4 : Hid (w4.ownsRow w2.heap.size 5 1 v4 (o ++ [46, d]).length (cellsB (o ++ [46, d]))) := by
          rw [List.append_assoc] at hown4
          unfold Hid
          rw [List.length_append]
          exact hown4
        have HB4 : Hid (Below w2.heap.size w2 w4) := hbel4 _ _ HB3.out (Nat.le_refl _)
        clear hown4 hbel4 HO3 HB3
        go_wp2_with fail
        go_round
        case rel => exact ⟨k + 1, o ++ [46, d], d == 10, hlt, by rw [← hd10], by go_num, HO4.out, HB4.out, ⟨by have := HOL.out; simp; omega, HE3.out⟩⟩
        case measure => simp [intOf]; omega
      · have hdn : (x && ((d.toNat : Int) == 46)) = false := by rw [show ((d.toNat : Int) == 46) = (d == 46) from u8b d 46]; simpa using hdot
        have HE3 : Hid (stf true l = (o ++ [d]) ++ stf (d == 10) (l.drop (k + 1))) := by rw [HE2.out, if_neg hdot]; exact rfl
        have hd10 : ((d.toNat : Int) == 10) = (d == 10) := u8b d 10
        clear hdot HE2
        cases x with
        | true =>
          have k46 : ((d.toNat : Int) == 46) = false := by simpa using hdn
          clear hdn
          go_wp2_with (at_builtin; refine wpList_append_byte rfl _ _ rfl w2.heap.size _ o.length o rfl (HO.out.alloc _) wr d _ rfl rfl 1 rfl (by omega) HB.out.size ?_; intro v4 w4 hown4 hbel4; apply Hid.out)
          unfold Hid
          have HO4 : Hid (w4.ownsRow w2.heap.size 5 1 v4 (o ++ [d]).length (cellsB (o ++ [d]))) := by
            unfold Hid
            rw [List.length_append]
            exact hown4
          have HB4 : Hid (Below w2.heap.size w2 w4) := hbel4 _ _ HB.out (Nat.le_refl _)
          clear hown4 hbel4 HO HB hce
          go_wp2_with fail
          go_round
          case rel => exact ⟨k + 1, o ++ [d], d == 10, hlt, by rw [← hd10], by go_num, HO4.out, HB4.out, ⟨by have := HOL.out; simp; omega, HE3.out⟩⟩
          case measure => simp [intOf]; omega
        | false =>
          clear hdn
          go_wp2_with (at_builtin; refine wpList_append_byte rfl _ _ rfl w2.heap.size _ o.length o rfl (HO.out.alloc _) wr d _ rfl rfl 1 rfl (by omega) HB.out.size ?_; intro v4 w4 hown4 hbel4; apply Hid.out)
          unfold Hid
          have HO4 : Hid (w4.ownsRow w2.heap.size 5 1 v4 (o ++ [d]).length (cellsB (o ++ [d]))) := by
            unfold Hid
            rw [List.length_append]
            exact hown4
          have HB4 : Hid (Below w2.heap.size w2 w4) := hbel4 _ _ HB.out (Nat.le_refl _)
          clear hown4 hbel4 HO HB hce
          go_wp2_with fail
          go_round
          case rel => exact ⟨k + 1, o ++ [d], d == 10, hlt, by rw [← hd10], by go_num, HO4.out, HB4.out, ⟨by have := HOL.out; simp; omega, HE3.out⟩⟩
          case measure => simp [intOf]; omega
    · obtain rfl : k = l.length := by omega
      have HE3 : Hid (stuffL l = o ++ [46, 13, 10]) := by
        have := HE.out.2
        rw [List.drop_length, show stf x [] = [] from rfl, List.append_nil] at this
        unfold Hid stuffL
        rw [this]
      have hol : o.length ≤ 70368744177664 := by have := HE.out.1; omega
      clear HE
      have HLT := lit3 wr
      go_wp2_with (at_builtin; refine wpList_append_bts rfl _ _ rfl w2.heap.size _ o.length o rfl (HO.out.alloc _) (some ⟨wr.heap.size, 0, none⟩) [46, 13, 10] 3 rfl HLT (fun e => by cases e) (by simp; omega) (by simp; exact Nat.le_succ_of_le HB.out.size) ?_; intro v3 w3 hown3 hbel3; apply Hid.out)
      unfold Hid
      obtain ⟨g3, cap3, rfl, -⟩ := own_bts hown3
      have HO3 : Hid (w3.ownsRow w2.heap.size 5 1 (.slice g3 (o.length + [46, 13, 10].length) cap3) (stuffL l).length (cellsB (stuffL l))) := by
        unfold Hid
        rw [HE3.out, List.length_append]
        exact hown3
      have HB3 : Hid (Below w2.heap.size w2 w3) := hbel3 _ _ (HB.out.alloc HB.out.size _) (Nat.le_refl _)
      clear hown3 hbel3 HLT
      go_wp2_with fail
      go_ret2
      exact ⟨_, rfl, HO3.out, HB3.out⟩
end Go.Proofs.Ytfifpepcmpaipaa
