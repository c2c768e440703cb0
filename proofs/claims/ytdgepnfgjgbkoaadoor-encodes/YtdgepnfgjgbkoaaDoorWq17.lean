/-
  quote: bytes written in Q.
-/
import Derived.Test.YtdgepnfgjgbkoaaDoorIx17
import Derived.Test.YtdgepnfgjgbkoaaDoorSpan4
import Derived.Test.YtdgepnfgjgbkoaaDoorHexOf4
namespace Go.Proofs.YtdgepnfgjgbkoaaDoor
open Go.RowKit

theorem qL_take (l : List UInt8) (k : Nat) (h : k < l.length) : qL (l.take (k + 1)) = qL (l.take k) ++ qB l[k] := by
  unfold qL
  rw [List.take_succ_eq_append_getElem h, List.flatMap_append]
  simp
theorem qB_len (c : UInt8) : (qB c).length ≤ 3 := by
  unfold qB
  split
  · simp
  · split
    · simp
    · simp [hexL]
theorem qL_len (l : List UInt8) : (qL l).length ≤ 3 * l.length := by
  induction l with
  | nil => simp [qL]
  | cons c t ih =>
    have := qB_len c
    simp only [qL, List.flatMap_cons, List.length_append, List.length_cons] at ih ⊢
    omega
set_option maxRecDepth 100000 in
set_option maxHeartbeats 2000000 in
theorem wquote_any (a : Option Addr) (l : List UInt8) (cap n : Nat) (w : World) (hn : n = l.length) (ht : Table w) (hb : Bts a l w) (hl : l.length ≤ 1099511627776) (hcap : n ≤ cap) (hcap2 : cap ≤ 9223372036854775807) :
    Calls Tryd.prog 66 #[.slice a n cap] w fun e w' => e = .returned (.string ⟨(qL l).toArray⟩) ∧ Below w.heap.size w w' := by
  obtain ⟨i0, hi, hz0, hz1, hz2⟩ := info_parts info5
  have HT : Hid (Table w) := ht
  have HL : Hid (Bts a l w) := hb
  have HN : Hid (n = l.length) := hn
  rw [← hn] at hl
  obtain ⟨w1, hmk, hO1, hB1⟩ := make_room w 0 n 0 n rfl rfl (Nat.zero_le _) (by omega) w.heap.size (Nat.le_refl _)
  have HO1 : Hid (w1.ownsRow w.heap.size 5 1 (.slice (some ⟨w.heap.size, 0, none⟩) 0 n) 0 (cellsB [])) := hO1
  have HB1 : Hid (Below w.heap.size w w1) := hB1
  clear hn ht hb hO1 hB1
  go_enter Tryd.func66, Tryd.ntmps66
  go_wp2
  go_loopw [3, 11] (fun v i wr => ∃ k : Nat, k ≤ n ∧ i = .int .i64 k ∧ Hid (wr.ownsRow w.heap.size 5 1 v (qL (l.take k)).length (cellsB (qL (l.take k)))) ∧ Hid (Below w.heap.size w wr)) (fun _ i _ => n - (intOf i).toNat)
  case atStart => exact ⟨0, Nat.zero_le _, rfl, HO1, HB1⟩
  case round =>
    obtain ⟨k, hk, rfl, HO, HB⟩ := hrel
    clear HO1 HB1 hmk
    by_cases hlt : k < n
    · obtain ⟨g, o, rfl, hg, hc⟩ := HL.out.cell k (by rw [← HN.out]; exact hlt)
      obtain ⟨c, hcc⟩ : ∃ c, c = l[k]'(by rw [← HN.out]; exact hlt) := ⟨_, rfl⟩
      rw [← hcc] at hc
      have hc2 : wr.cell? ⟨g, o + k, none⟩ = some (.int .u8 (c.toNat : Int)) := (HB.out.cell (p := ⟨g, o + k, none⟩) hg).trans hc
      have HQ : Hid (qL (l.take (k + 1)) = qL (l.take k) ++ qB c) := by
        show _ = _
        rw [hcc]
        exact qL_take l k _
      have hlq := qL_len (l.take k)
      rw [List.length_take] at hlq
      have hlen : (qL (l.take k)).length ≤ 3 * n := by omega
      have HR : Hid (RowAt ⟨#[c]⟩ g (o + k) w) := by
        intro j hj
        obtain rfl : j = 0 := by have : j < 1 := hj; omega
        exact hc
      obtain ⟨D, hD⟩ : ∃ D, D = qL (l.take k) := ⟨_, rfl⟩
      rw [← hD] at HO HQ hlen
      clear hlq hcc hc hD
      have hzr := HB.out.size
      have htr : Table wr := fun j hj => (HB.out.cell (p := ⟨1, j, none⟩) (World.block_lt_of_cell? w _ (HT.out j hj))).trans (HT.out j hj)
      have HTR : Hid (Table wr) := htr
      clear htr
      have fin : ∀ (v : Value) (w2 : World), w2.ownsRow w.heap.size 5 1 v (D ++ qB c).length (cellsB (D ++ qB c)) → Below w.heap.size w w2 → Hid (w2.ownsRow w.heap.size 5 1 v (qL (l.take (k + 1))).length (cellsB (qL (l.take (k + 1))))) ∧ Hid (Below w.heap.size w w2) := fun v w2 h1 h2 => ⟨by rw [HQ.out]; exact h1, h2⟩
      have HF : Hid (∀ (v : Value) (w2 : World), w2.ownsRow w.heap.size 5 1 v (D ++ qB c).length (cellsB (D ++ qB c)) → Below w.heap.size w w2 → Hid (w2.ownsRow w.heap.size 5 1 v (qL (l.take (k + 1))).length (cellsB (qL (l.take (k + 1))))) ∧ Hid (Below w.heap.size w w2)) := fin
      clear fin HQ
      have kk := u8x c 32 32
      obtain ⟨y, hy⟩ : ∃ y, y = isB 3 (c.toNat : Int) := ⟨_, rfl⟩
      have hIS := is_any 3 (c.toNat : Int) wr HTR.out
      rw [← hy] at hIS
      go_wp2_with fail
      refine hIS.mono ?_
      rintro e w2 ⟨rfl, rfl⟩
      have hS := sidx_any c w2
      obtain ⟨z, hz⟩ : ∃ z, z = (c == 33 || c == 42 || c == 43 || c == 45 || c == 47) := ⟨_, rfl⟩
      rw [← hz] at hS
      have HQB : Hid (qB c = if (y || z) = true then [c] else if c = 32 then [95] else 61 :: hexL [c]) := by
        show _ = _
        rw [hy, hz]
        simp only [qB, qsf, Bool.or_assoc]
      clear hy hz hIS
      cases y with
      | true =>
        have e : qB c = [c] := by rw [HQB.out]; simp
        rw [e] at HF
        clear e HQB hS kk
        go_wp2_with (at_builtin; refine wpList_append_byte rfl _ _ rfl w.heap.size _ _ D rfl (HO.out.alloc _) w2 c _ rfl rfl 1 rfl (by omega) hzr ?_; intro v3 w3 ho3 hb3)
        obtain ⟨h1, h2⟩ := HF.out v3 w3 (by rw [List.length_append]; exact ho3) (hb3 _ _ HB.out (Nat.le_refl _))
        clear HF HO HB ho3 hb3
        go_wp2
        go_roundw
        case rel => exact ⟨k + 1, by omega, by go_num, h1, h2⟩
        case measure => simp [intOf]; omega
      | false =>
        go_wp2_with fail
        refine hS.mono ?_
        rintro e w3 ⟨x, rfl, rfl, hx⟩
        cases z with
        | true =>
          have e : qB c = [c] := by rw [HQB.out]; simp
          rw [e] at HF
          clear e HQB hS kk
          have hx0 : (0 : Int) ≤ x := of_decide_eq_true hx
          clear hx
          go_wp2_with (at_builtin; refine wpList_append_byte rfl _ _ rfl w.heap.size _ _ D rfl (HO.out.alloc _) w3 c _ rfl rfl 1 rfl (by omega) hzr ?_; intro v3 w4 ho3 hb3)
          obtain ⟨h1, h2⟩ := HF.out v3 w4 (by rw [List.length_append]; exact ho3) (hb3 _ _ HB.out (Nat.le_refl _))
          clear HF HO HB ho3 hb3
          go_wp2
          go_roundw
          case rel => exact ⟨k + 1, by omega, by go_num, h1, h2⟩
          case measure => simp [intOf]; omega
        | false =>
          have hx0 : ¬ (0 : Int) ≤ x := of_decide_eq_false hx
          clear hx hS
          by_cases h32 : c = 32
          · have e : qB c = [95] := by rw [HQB.out]; simp [h32]
            rw [e] at HF
            have k3 : (c == 32) = true := by simp [h32]
            rw [k3] at kk
            clear e HQB h32 k3
            go_wp2_with (at_builtin; refine wpList_append_byte rfl _ _ rfl w.heap.size _ _ D rfl (HO.out.alloc _) w3 95 _ rfl rfl 1 rfl (by omega) hzr ?_; intro v3 w4 ho3 hb3)
            obtain ⟨h1, h2⟩ := HF.out v3 w4 (by rw [List.length_append]; exact ho3) (hb3 _ _ HB.out (Nat.le_refl _))
            clear HF HO HB ho3 hb3
            go_wp2
            go_roundw
            case rel => exact ⟨k + 1, by omega, by go_num, h1, h2⟩
            case measure => simp [intOf]; omega
          · have e : qB c = 61 :: hexL [c] := by rw [HQB.out]; simp [h32]
            rw [e] at HF
            have k3 : (c == 32) = false := by simp [h32]
            rw [k3] at kk
            clear e HQB h32 k3
            go_wp2_with (at_builtin; refine wpList_append_byte rfl _ _ rfl w.heap.size _ _ D rfl (HO.out.alloc _) w3 61 _ rfl rfl 1 rfl (by omega) hzr ?_; intro v3 w4 ho3 hb3)
            have HO4 : Hid (w4.ownsRow w.heap.size 5 1 v3 (D.length + 1) (cellsB (D ++ [61]))) := ho3
            have HB4 : Hid (Below w.heap.size w w4) := hb3 _ _ HB.out (Nat.le_refl _)
            have hz4 := HB4.out.size
            clear HO HB ho3 hb3
            have hr4 : RowAt ⟨#[c]⟩ g (o + k) w4 := fun j hj => (HB4.out.cell (p := ⟨g, o + k + j, none⟩) hg).trans (HR.out j hj)
            have hHX := hexof_any ⟨#[c]⟩ g (o + k) (cap - k) w4 hr4 (by show 2 * 1 ≤ _; omega)
            have hHS : (hexS ⟨#[c]⟩).size = 2 := by simp [hexS, hexL]; rfl
            have hHL : (hexS ⟨#[c]⟩).data.toList = hexL [c] := by simp [hexS]
            obtain ⟨X, hX⟩ : ∃ X, X = hexS ⟨#[c]⟩ := ⟨_, rfl⟩
            rw [← hX] at hHX hHS hHL
            have HHX : Hid (Calls Tryd.prog 87 #[.slice (some ⟨g, o + k, none⟩) (⟨#[c]⟩ : ByteArray).size (cap - k)] w4 fun e w' => e = .returned (.string X) ∧ Below w4.heap.size w4 w') := hHX
            clear hX hHX hr4
            go_wp2_with fail
            refine HHX.out.mono ?_
            rintro e w5 ⟨rfl, hb5⟩
            have HB5 : Hid (Below w.heap.size w w5) := HB4.out.trans (hb5.mono hz4)
            have HO5 : Hid (w5.ownsRow w.heap.size 5 1 v3 (D.length + 1) (cellsB (D ++ [61]))) := own_below HO4.out hb5
            clear HO4 HB4 hb5 HHX
            go_wp2_with (at_builtin; refine Lib.wpList_append_own_string _ rfl _ _ 38 9 rfl w.heap.size 5 i0 Tryd.underlying38 Tryd.underlying9 hi hz0 hz1 hz2 _ _ _ rfl HO5.out X rfl (by unfold maxLen; omega) (by omega) HB5.out.size ?_; intro v6 w6 ho6 hg6 _)
            have hb6 : Below w.heap.size w w6 := HB5.out.grown hg6 HB5.out.size (fun q hq => (HO5.out.lt q hq).1)
            have ho7 : w6.ownsRow w.heap.size 5 1 v6 (D ++ 61 :: hexL [c]).length (cellsB (D ++ 61 :: hexL [c])) := by
              rw [← hHL, show D ++ 61 :: X.data.toList = (D ++ [61]) ++ X.data.toList from by simp, cellsB_append]
              have e2 : (D ++ [61] ++ X.data.toList).length = D.length + 1 + X.size := by simp; omega
              rw [e2]
              exact ho6
            obtain ⟨h1, h2⟩ := HF.out v6 w6 ho7 hb6
            clear HF HB5 HO5 ho6 hg6 hb6 ho7 hHL
            go_wp2
            go_roundw
            case rel => exact ⟨k + 1, by omega, by go_num, h1, h2⟩
            case measure => simp [intOf]; omega
    · obtain rfl : k = n := by omega
      have e : l.take k = l := List.take_of_length_le (by rw [HN.out]; exact Nat.le_refl _)
      rw [e] at HO
      have hback := own_conv HO.out
      clear HO e hk hlt
      go_wp2
      go_ret
      exact ⟨rfl, HB.out⟩
end Go.Proofs.YtdgepnfgjgbkoaaDoor
