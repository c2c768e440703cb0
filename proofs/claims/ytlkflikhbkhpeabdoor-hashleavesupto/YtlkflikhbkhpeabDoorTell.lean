/-
  A digest as digits, the program's and the document's.
-/
import Derived.Test.YtlkflikhbkhpeabDoorHst
import Derived.Test.YtlkflikhbkhpeabDoorApps
namespace Go.Proofs.YtlkflikhbkhpeabDoor
open Go.RowKit

def digitsL : List UInt8 := [48, 49, 50, 51, 52, 53, 54, 55, 56, 57, 97, 98, 99, 100, 101, 102]
/-- A digit. -/
def hx (n : Nat) : UInt8 := digitsL.getD n 0
/-- Bytes as digits. -/
def tl (l : List UInt8) : List UInt8 := l.flatMap fun b => [hx (b.toNat / 16), hx (b.toNat % 16)]
theorem tl_snoc (l : List UInt8) (k : Nat) (h : k < l.length) : tl (l.take (k + 1)) = tl (l.take k) ++ [hx (l[k].toNat / 16), hx (l[k].toNat % 16)] := by
  unfold tl
  rw [List.take_succ_eq_append_getElem h, List.flatMap_append]
  simp
theorem tl_length (l : List UInt8) : (tl l).length = 2 * l.length := by
  induction l with
  | nil => rfl
  | cons a l ih =>
    unfold tl at *
    rw [List.flatMap_cons, List.length_append, ih]
    simp
    omega
/-- The digits, as the texts have them. -/
def digS : ByteArray := ⟨#[48, 49, 50, 51, 52, 53, 54, 55, 56, 57, 97, 98, 99, 100, 101, 102]⟩
theorem digS_at (n : Nat) (h : n < 16) (h' : n < digS.size) : digS[n] = hx n := by
  have : ∀ j : Fin 16, digS[j.val]'j.isLt = hx j.val := by decide
  exact this ⟨n, h⟩
theorem digS_cut (n : Nat) (h : n < 16) : digS.extract n (n + 1) = ⟨#[hx n]⟩ := by
  have : ∀ j : Fin 16, digS.extract j.val (j.val + 1) = ⟨#[hx j.val]⟩ := by decide +kernel
  exact this ⟨n, h⟩
theorem and15 (x : UInt8) : bits .and .u8 (x.toNat : Int) 15 = ((x.toNat % 16 : Nat) : Int) := by
  have := u8_and_nat x.toNat 15 x.toNat_lt (by omega)
  rw [show x.toNat &&& 15 = x.toNat % 16 by rw [show 15 = 2 ^ 4 - 1 by rfl, Nat.and_two_pow_sub_one_eq_mod]] at this
  exact this

theorem wp_append_bts {o : Oper} {a : Act} {w : World} {K : Act → World → Prop} {Q : Exit → Act → World → Prop} (s x : Operand)
    (ho : o.op = .call { callee := .builtin .append, args := #[s, x], argTypes := #[22, 22] }) (base : Nat) (v : Value) (n : Nat) (xs : List UInt8) (hs : a.eval s = v) (hown : w.ownsRow base 5 1 v n (cellsB xs))
    (ad : Addr) (l : List UInt8) (m c : Nat) (hx : a.eval x = .slice (some ad) m c) (hm : l.length = m) (hb : Bts (some ad) l w) (hbytes : n + m ≤ 140737488355328) (hbase : base ≤ w.heap.size) (d : Option Tmp) (hd : o.dst = d)
    (h : ∀ v' w', w'.ownsRow base 5 1 v' (n + m) (cellsB (xs ++ l)) → (∀ B w0, Below B w0 w → B ≤ base → Below B w0 w') → K (a.put d v') w') : o.wp Tryd.prog a w K Q := by
  obtain ⟨i0, hi, hz0, hz1, hz2⟩ := info_parts info5
  subst hm hd
  refine wp_append_own _ s x 22 ho base 5 i0 (.int .u8 0) 1 1 Tryd.underlying22 hi hz0 hz1 hz2 rfl (by decide) v n _ hs hown ad l.length c (cellsB l) hx (by rw [cellsB_length]; omega) (bts_news hb) (cellsB_one l) (by unfold maxLen; omega) (by omega) hbase ?_
  intro v' w' hown' hgrow _
  exact h v' w' (by rw [cellsB_append]; exact hown') (fun B w0 hb hB => hb.grown hgrow (by omega) (fun q hq => Nat.le_trans hB (hown.lt q hq).1))

theorem infoDl (l : List UInt8) (h : l.length = 16) : (Tryd.prog.info? 24).map (·.size) = some (rowV l).size := by rw [rowV_size, h]; kernel_rfl

theorem own_back {w : World} {base : Nat} {v : Value} (l : List UInt8) (h : w.ownsRow base 5 1 v l.length (cellsB l)) :
    (convert 22 9 v).run Tryd.prog w = .ok (.string ⟨l.toArray⟩) w := by
  obtain ⟨h1, h2⟩ := id h
  rcases h2 with ⟨rfl, h0⟩ | ⟨g, cap, cur, rfl, _⟩
  · have hl : l = [] := List.eq_nil_of_length_eq_zero h0
    subst hl
    rw [run_convert_bytes_string w 22 9 5 none 0 0 Tryd.underlying22 Tryd.underlying5 Tryd.underlying9]
    simp [Conv.bytesToString]
    rfl
  · refine run_convert_bytes_back (P := Tryd.prog) w 22 9 5 ⟨g, 0, none⟩ cap l Tryd.underlying22 Tryd.underlying5 Tryd.underlying9 (fun j hj => ?_)
    have := h.cellAt j (by omega)
    rw [Addr.add_lit, Nat.zero_add, this]
    simp [cellsB, List.getElem?_eq_getElem hj]
theorem run_index_row (l : List UInt8) (hl : l.length = 16) (k : Nat) (hk : k < l.length) (w : World) : (Instr.index 24 (.agg (rowV l)) (.int .i64 (k : Int))).run Tryd.prog w = .ok (.int .u8 (l[k].toNat : Int)) w := by
  have h5 : (Tryd.prog.info? 5).map (·.size) = some 1 := by kernel_rfl
  cases hq : Tryd.prog.info? 5 with
  | none => simp [hq] at h5
  | some i =>
    have hs : i.size = 1 := by simpa [hq] using h5
    have hat := rowV_at l k hk
    simp [Instr.index, asIntOf, run_underlying Tryd.underlying24, run_underlying Tryd.underlying5, sizeOf, typeInfo, hq, hs, part, isAgg, hat]
    intro h
    omega
theorem run_index_dig (n : Nat) (hn : n < 16) (w : World) : (Instr.index 9 (.string digS) (.int .u8 (n : Int))).run Tryd.prog w = .ok (.int .u8 ((hx n).toNat : Int)) w := by
  have h : digS[n]? = some (hx n) := by rw [getElem?_pos digS n hn, digS_at n hn hn]
  simp [Instr.index, asIntOf, run_underlying Tryd.underlying9, h]
theorem two_bts (w : World) (a b : UInt8) : Bts (some ⟨w.heap.size, 0, none⟩) [a, b] (w.alloc (.cells #[.int .u8 (a.toNat : Int), .int .u8 (b.toNat : Int)] 5)) :=
  .inr ⟨w.heap.size, 0, rfl, by simp, fun j hj => by
    rw [Nat.zero_add]
    match j, hj with
    | 0, _ => exact (Lies.new w _ 5).cell 0
    | 1, _ => exact (Lies.new w _ 5).cell 1⟩

set_option maxHeartbeats 1000000 in
set_option maxRecDepth 100000 in
theorem tell_any (l : List UInt8) (hl : l.length = 16) (w : World) : Calls Tryd.prog 17 #[.agg (rowV l)] w fun e w' => e = .returned (.string ⟨(tl l).toArray⟩) ∧ Below w.heap.size w w' := by
  obtain ⟨i0, hi, hz0, hz1, hz2⟩ := info_parts info5
  have HL : Hid (l.length = 16) := hl
  clear hl
  go_enter Tryd.func17, Tryd.ntmps17
  go_wp2_with (first | (at_make; refine wpList_make_own _ rfl _ _ 22 rfl w.heap.size 5 i0 (.int .u8 0) 1 Tryd.underlying22 hi hz0 hz1 .i64 .i64 _ 32 rfl rfl (by omega) (by rw [hz2]; omega) (by unfold maxLen; omega) (by simp) ?_; intro w1 hown1 hgrow1; have HO1 : Hid (w1.ownsRow w.heap.size 5 1 _ 0 []) := hown1; have HB1 : Hid (Below w.heap.size w w1) := ((Below.refl _ _).alloc (Nat.le_refl _) _).grown hgrow1 (by simp) (fun q hq => by cases hq); have HL1 : Hid (Lies w1 w.heap.size (rowV l) 24) := (Lies.new w (rowV l) 24).below (((Below.refl (w.heap.size + 1) _)).grown hgrow1 (by simp) (fun q hq => by cases hq)) (by omega); clear hown1 hgrow1) | (refine wpList_load_row rfl 24 _ rfl _ rfl (rowV l) 24 _ HL1.out Tryd.underlying24 rfl (infoDl _ HL.out) ?_))
  have HOz : Hid (w1.ownsRow w.heap.size 5 1 (.slice (some ⟨w.heap.size + 1, 0, none⟩) 0 32) (2 * 0) (cellsB (tl (l.take 0)))) := by
    have h := HO1.out
    simp only [World.size_alloc] at h
    exact h
  clear HO1
  go_loopw [3, 8] (fun u i wr => ∃ k : Nat, k ≤ 16 ∧ i = .int .i64 k ∧ Hid (wr.ownsRow w.heap.size 5 1 u (2 * k) (cellsB (tl (l.take k)))) ∧ Hid (Below w.heap.size w wr)) (fun _ i _ => 16 - (intOf i).toNat)
  case atStart => exact ⟨0, by omega, rfl, HOz, HB1⟩
  case round =>
    obtain ⟨k, hk, rfl, HO, HB⟩ := hrel
    by_cases hlt : k < 16
    · have hkl : k < l.length := by rw [HL.out]; exact hlt
      have hix := run_index_row l HL.out k hkl
      have HTL : Hid (tl (l.take (k + 1)) = tl (l.take k) ++ [hx (l[k].toNat / 16), hx (l[k].toNat % 16)]) := tl_snoc l k hkl
      generalize l[k] = x at hix HTL
      have hx8 := x.toNat_lt
      have i1 := run_index_dig (x.toNat / 16) (by omega)
      have i2 := run_index_dig (x.toNat % 16) (by omega)
      have e1 : (x.toNat : Int) / 16 = ((x.toNat / 16 : Nat) : Int) := by omega
      have e2 := and15 x
      generalize hd1 : hx (x.toNat / 16) = d1 at i1 HTL
      generalize hd2 : hx (x.toNat % 16) = d2 at i2 HTL
      clear hd1 hd2
      obtain ⟨n1, hn1⟩ : ∃ n1, n1 = x.toNat / 16 := ⟨_, rfl⟩
      obtain ⟨n2, hn2⟩ : ∃ n2, n2 = x.toNat % 16 := ⟨_, rfl⟩
      rw [← hn1] at i1 e1
      rw [← hn2] at i2 e2
      clear hn1 hn2
      unfold digS at i1 i2
      go_wp2_with fail
      refine wp_region_late (fun _ => True) 9 (by kernel_rfl) trivial (fun hHeld => ?_)
      refine wpAnyE_take (i := 0) (d := some 11) (v := ?_) rfl (by kernel_rfl) (by kernel_rfl) (by kernel_rfl) (by kernel_rfl) (fun _ _ _ h => h) rfl rfl ?hy (by assumption) ?_
      case hy => (intro w' hSw; (try dsimp only at hSw); go_simp <;> (try with_reducible rfl))
      simp only [Act.put, List.setIfInBounds_toArray, List.set_cons_zero, List.set_cons_succ]
      refine wpAnyE_take (i := 1) (d := some 12) (v := ?_) rfl (by kernel_rfl) (by kernel_rfl) (by kernel_rfl) (by kernel_rfl) (fun _ _ _ h => h) rfl rfl ?hy (by assumption) ?_
      case hy => (intro w' hSw; (try dsimp only at hSw); go_simp <;> (try with_reducible rfl))
      simp only [Act.put, List.setIfInBounds_toArray, List.set_cons_zero, List.set_cons_succ]
      refine wpAnyE_take (i := 2) (d := some 13) (v := ?_) rfl (by kernel_rfl) (by kernel_rfl) (by kernel_rfl) (by kernel_rfl) (fun _ _ _ h => h) rfl rfl ?hy (by assumption) ?_
      case hy => (intro w' hSw; (try dsimp only at hSw); go_simp <;> (try with_reducible rfl))
      simp only [Act.put, List.setIfInBounds_toArray, List.set_cons_zero, List.set_cons_succ]
      refine wpAnyE_take (i := 3) (d := some 14) (v := ?_) rfl (by kernel_rfl) (by kernel_rfl) (by kernel_rfl) (by kernel_rfl) (fun _ _ _ h => h) rfl rfl ?hy (by assumption) ?_
      case hy => (intro w' hSw; (try dsimp only at hSw); go_simp <;> (try with_reducible rfl))
      simp only [Act.put, List.setIfInBounds_toArray, List.set_cons_zero, List.set_cons_succ]
      refine wpAnyE_take (i := 4) (d := some 15) (v := ?_) rfl (by kernel_rfl) (by kernel_rfl) (by kernel_rfl) (by kernel_rfl) (fun _ _ _ h => h) rfl rfl ?hy (by assumption) ?_
      case hy => (intro w' hSw; (try dsimp only at hSw); go_simp <;> (try with_reducible rfl))
      simp only [Act.put, List.setIfInBounds_toArray, List.set_cons_zero, List.set_cons_succ]
      refine wpAnyE_take (i := 5) (d := some 16) (v := ?_) rfl (by kernel_rfl) (by kernel_rfl) (by kernel_rfl) (by kernel_rfl) (fun _ _ _ h => h) rfl rfl ?hy (by assumption) ?_
      case hy => (intro w' hSw; (try dsimp only at hSw); go_simp <;> (try with_reducible rfl))
      simp only [Act.put, List.setIfInBounds_toArray, List.set_cons_zero, List.set_cons_succ]
      refine wpAnyE_take (i := 6) (d := some 17) (v := ?_) rfl (by kernel_rfl) (by kernel_rfl) (by kernel_rfl) (by kernel_rfl) (fun _ _ _ h => h) rfl rfl ?hy (by assumption) ?_
      case hy => (intro w' hSw; (try dsimp only at hSw); go_simp <;> (try with_reducible rfl))
      simp only [Act.put, List.setIfInBounds_toArray, List.set_cons_zero, List.set_cons_succ]
      refine wpAnyE_one (i := 7) (by kernel_rfl) rfl rfl ?_
      go_simp
      refine wpAnyE_one (i := 8) (by kernel_rfl) rfl rfl ?_
      refine wp_append_bts _ _ rfl w.heap.size _ (2 * k) (tl (l.take k)) rfl (HO.out.alloc _) ⟨wr.heap.size, 0, none⟩ [d1, d2] 2 2 rfl rfl (two_bts wr d1 d2) (by omega) (by have := HB.out.size; simp; omega) _ rfl ?_
      intro v2 w2 hown2 hbel2
      have HO2 : Hid (w2.ownsRow w.heap.size 5 1 v2 (2 * (k + 1)) (cellsB (tl (l.take (k + 1))))) := by
        rw [HTL.out]
        exact hown2
      have HB2 : Hid (Below w.heap.size w w2) := hbel2 _ _ ((HB.out.alloc HB.out.size _).drew) (Nat.le_refl _)
      clear hown2 hbel2
      refine ⟨.inr trivial, ?_⟩
      refine wpAnyE_one (i := 9) (by kernel_rfl) rfl rfl ?_
      go_simp
      refine wpAnyE_done (by kernel_rfl) ?_ _
      clear hix i1 i2 e1 e2 hHeld
      go_wp2
      go_roundw
      case rel => exact ⟨k + 1, by omega, by go_num, HO2, HB2⟩
      case measure => simp [intOf]; omega
    · obtain rfl : k = 16 := by omega
      have hO := HO.out
      rw [List.take_of_length_le (by rw [HL.out]; omega)] at hO
      have hcv := own_back (tl l) (by rw [tl_length, HL.out]; exact hO)
      clear hO
      go_wp2
      go_ret
      exact ⟨rfl, HB.out⟩
end Go.Proofs.YtlkflikhbkhpeabDoor
