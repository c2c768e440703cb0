/-
  Bytes put behind the others, the program's.
-/
import Derived.Test.YtlkflikhbkhpeabDoorHst
namespace Go.Proofs.YtlkflikhbkhpeabDoor
open Go.RowKit

/-- A hash whose block is g and that has taken the bytes t. -/
structure HashAt (w : World) (g : Nat) (t : List UInt8) : Prop where
  ex : ∃ row : List UInt8, row.length = 64 ∧ row.take (t.length % 64) = t.drop (64 * (t.length / 64)) ∧ Lies w g (hv true (eat t (t.length / 64)) row t.length) 46
theorem HashAt.lt {w : World} {g : Nat} {t : List UInt8} (h : HashAt w g t) : g < w.heap.size := by
  obtain ⟨_, _, _, hl⟩ := h.ex
  exact hl.lt

theorem Tabs.drew {w : World} (h : Tabs w) : Tabs w.drew := ⟨h.sin, h.trn⟩
theorem exec_load {P : Program} {op : Oper} {a : Act} {w : World} (ty : TypeId) (x : Operand) (ho : op.op = .load ty x) (b o : Nat) (hx : a.eval x = .pointer (some ⟨b, o, none⟩)) (cs : Array Value) (d : TypeDesc) (hc : w.rangeAt b o cs.toList)
    (hu : P.underlying ty = some d) (hd : d.isRow = true) (hi : (P.info? ty).map (·.size) = some cs.size) : (execOp a.eval op).run P w = .ok (.value (.agg cs)) w := by
  unfold execOp
  have := run_loadVar_mid (P := P) w b o ty cs.toList d hc hu hd (by rw [Array.length_toList]; exact hi)
  rw [Array.toArray_toList] at this
  simp only [ho, hx, Instr.loadAt, Instr.sureAddr, Sem.run_bind, Sem.run_pure, Result.andThen_ok, this]
theorem run_row_l (w : World) (g o l : Nat) (h3 : l < 64) :
    (Instr.sliceAt 38 (.pointer (some ⟨g, o, none⟩)) (some (.int .i64 (l : Int))) none none).run Tryd.prog w = .ok (.slice (some ⟨g, o + l, none⟩) (64 - l) (64 - l)) w := by
  have b2 : (Instr.sliceBound (.int .i64 (l : Int)) 64 .sliceB).run Tryd.prog w = .ok l w := by
    rw [run_sliceBound _ _ _ _ _ (by omega) (by omega)]
    rfl
  have ne : ¬ 64 = l := by omega
  simp [Instr.sliceAt, Instr.sureAddr, run_underlying Tryd.underlying38, Instr.sliceBounds, b2, ne, Addr.add_mid]
theorem infoRow (l : List UInt8) (h : l.length = 64) : (Tryd.prog.info? 38).map (·.size) = some (rowV l).size := by rw [rowV_size, h]; kernel_rfl

/-! Which bytes wait, which rows are whole. -/
theorem drop_append_le (t l : List UInt8) (k : Nat) (h : k ≤ t.length) : (t ++ l).drop k = t.drop k ++ l := List.drop_append_of_le_length h
theorem splice_take {row : List UInt8} {k : Nat} {cs : List UInt8} (hk : k + cs.length ≤ row.length) : (splice row k cs).take (k + cs.length) = row.take k ++ cs := by
  unfold splice
  rw [← List.append_assoc, List.take_append_of_le_length (by simp; omega)]
  rw [List.take_of_length_le (by simp; omega)]
theorem splice_length {row : List UInt8} {k : Nat} {cs : List UInt8} (hk : k + cs.length ≤ row.length) : (splice row k cs).length = row.length := length_splice row k cs hk

/-- What stands while rows are taken. -/
structure Going (w wr : World) (g : Nat) (T : List UInt8) (b : Value) : Prop where
  ex : ∃ (n : Nat) (rem : List UInt8) (A : Option Addr) (cp : Nat) (row : List UInt8), b = .slice A rem.length cp ∧ rem = T.drop (64 * n) ∧ 64 * n ≤ T.length ∧ Bts A rem wr ∧ (∀ ad, A = some ad → ad.block ≠ g) ∧ rem.length ≤ cp ∧ row.length = 64 ∧
    Lies wr g (hv true (eat T n) row T.length) 46 ∧ But g w wr
def sliceLen : Value → Nat
  | .slice _ n _ => n
  | _ => 0
theorem Going.done {w' : World} {g n : Nat} {T rem row : List UInt8} (hr : rem = T.drop (64 * n)) (hn : 64 * n ≤ T.length) (h64 : rem.length < 64) (hrow : row.length = 64) (c : Nat) (hc : c = Nat.min rem.length (64 - 0))
    (hl : Lies w' g (hv true (eat T n) (splice row 0 (rem.take c)) T.length) 46) : HashAt w' g T := by
  have hlen : rem.length = T.length - 64 * n := by rw [hr, List.length_drop]
  have e1 : T.length / 64 = n := by omega
  have e2 : T.length % 64 = rem.length := by omega
  have hc' : c = rem.length := by rw [hc]; exact Nat.min_eq_left (by omega)
  have hcs : rem.take c = rem := by rw [hc', List.take_length]
  rw [hcs] at hl
  refine ⟨splice row 0 rem, ?_, ?_, ?_⟩
  · rw [splice_length (by omega), hrow]
  · rw [e1, e2, ← hr]
    have := splice_take (row := row) (k := 0) (cs := rem) (by omega)
    rw [Nat.zero_add] at this
    rw [this, List.take_zero, List.nil_append]
  · rw [e1]
    exact hl
theorem bts_drop {a : Option Addr} {l : List UInt8} {w : World} (h : Bts a l w) (k : Nat) {A : Option Addr} (hA : k < l.length → A = a.map (·.add k)) : Bts A (l.drop k) w := by
  by_cases hk : k < l.length
  · rcases h with rfl | ⟨g, o, e, hg, hr⟩
    · simp at hk
    · refine .inr ⟨g, o + k, by rw [hA hk, e, Option.map_some, Addr.add_lit], hg, fun j hj => ?_⟩
      rw [List.length_drop] at hj
      rw [Nat.add_assoc, hr (k + j) (by omega), List.getElem_drop]
  · exact .inl (List.drop_eq_nil_of_le (by omega))

theorem HashAt.short {w' : World} {g wt c : Nat} {t l row : List UInt8} (hrow : row.length = 64) (hwait : row.take (t.length % 64) = t.drop (64 * (t.length / 64))) (hwt : wt = t.length % 64) (hc : c = Nat.min l.length (64 - wt)) (h : wt + c < 64)
    (hl : Lies w' g (hv true (eat t (t.length / 64)) (splice row wt (l.take c)) (t ++ l).length) 46) : HashAt w' g (t ++ l) := by
  have hcl : c = l.length := by
    have hc' : c = min l.length (64 - wt) := hc
    omega
  have hcs : l.take c = l := by rw [hcl, List.take_length]
  rw [hcs] at hl
  have hlen : (t ++ l).length = t.length + l.length := List.length_append
  have e1 : (t ++ l).length / 64 = t.length / 64 := by omega
  have e2 : (t ++ l).length % 64 = wt + l.length := by omega
  refine ⟨splice row wt l, ?_, ?_, ?_⟩
  · rw [splice_length (by omega), hrow]
  · rw [e1, e2, splice_take (by omega), hwt, hwait, drop_append_le _ _ _ (by omega)]
  · rw [e1, eat_append _ _ _ (by omega)]
    exact hl
/-- The row that waited is full. -/
theorem row_full {wt c : Nat} {t l row : List UInt8} (hrow : row.length = 64) (hwait : row.take (t.length % 64) = t.drop (64 * (t.length / 64))) (hwt : wt = t.length % 64) (hc : c = Nat.min l.length (64 - wt)) (h : wt + c = 64) :
    splice row wt (l.take c) = ((t ++ l).drop (64 * (t.length / 64))).take 64 ∧ l.drop c = (t ++ l).drop (64 * (t.length / 64 + 1)) ∧ 64 * (t.length / 64 + 1) ≤ (t ++ l).length := by
  have hcl : c ≤ l.length := by rw [hc]; exact Nat.min_le_left _ _
  have hlc : (l.take c).length = c := by rw [List.length_take]; exact Nat.min_eq_left hcl
  have hd : (t.drop (64 * (t.length / 64))).length = wt := by rw [List.length_drop]; omega
  refine ⟨?_, ?_, by rw [List.length_append]; omega⟩
  · have h1 := splice_take (row := row) (k := wt) (cs := l.take c) (by omega)
    rw [hlc, h, List.take_of_length_le (by rw [splice_length (by omega)]; omega)] at h1
    have e : (t.drop (64 * (t.length / 64))).take 64 = t.drop (64 * (t.length / 64)) := List.take_of_length_le (by omega)
    have e2 : row.take wt = t.drop (64 * (t.length / 64)) := by rw [hwt]; exact hwait
    rw [h1, drop_append_le _ _ _ (by omega), List.take_append, hd, e, e2, show 64 - wt = c by omega]
  · have e : t.drop (t.length + c) = [] := List.drop_eq_nil_of_le (by omega)
    rw [show 64 * (t.length / 64 + 1) = t.length + c by omega, List.drop_append, e, List.nil_append, Nat.add_sub_cancel_left]

set_option maxHeartbeats 1000000 in
set_option maxRecDepth 100000 in
theorem take_any (g : Nat) (t l : List UInt8) (a : Option Addr) (cap : Nat) (w : World) (hh : HashAt w g t) (hb : Bts a l w) (hne : ∀ ad, a = some ad → ad.block ≠ g) (hcap : l.length ≤ cap) (hg : 2 ≤ g) (ht : Tabs w)
    (hl : t.length + l.length ≤ 1152921504606846976) :
    Calls Tryd.prog 23 #[.pointer (some ⟨g, 0, none⟩), .slice a l.length cap] w fun e w' => e = .returned (.tuple #[]) ∧ HashAt w' g (t ++ l) ∧ But g w w' := by
  obtain ⟨row, hrow, hwait, hlie⟩ := hh.ex
  have HROW : Hid (row.length = 64) := hrow
  have HWAIT : Hid (row.take (t.length % 64) = t.drop (64 * (t.length / 64))) := hwait
  have HLIE : Hid (Lies w g (hv true (eat t (t.length / 64)) row t.length) 46) := hlie
  have HB : Hid (Bts a l w) := hb
  have HNE : Hid (∀ ad, a = some ad → ad.block ≠ g) := hne
  have HT : Hid (Tabs w) := ht
  have c69 : w.cell? ⟨g, 69, none⟩ = some (.int .i64 (t.length : Int)) := (hlie.cell 69).trans (hv_len _ _ _ _ hrow)
  have f69 := hlie.frozen 69
  clear hh hb hne ht hrow hwait hlie
  obtain ⟨N, hN⟩ : ∃ N, N = t.length := ⟨_, rfl⟩
  obtain ⟨M, hM⟩ : ∃ M, M = l.length := ⟨_, rfl⟩
  rw [← hN, ← hM] at hl
  rw [← hN] at c69
  rw [← hM] at hcap
  rw [← hM]
  have HN : Hid (N = t.length) := hN
  have HM : Hid (M = l.length) := hM
  clear hN hM
  go_enter Tryd.func23, Tryd.ntmps23
  by_cases hw0 : N % 64 = 0
  · have hI : (N : Int) % 64 = 0 := by omega
    have HGO : Hid (Going w (w.setCell ⟨g, 69, none⟩ (.int .i64 ((N : Int) + (M : Int)))) g (t ++ l) (.slice a M cap)) := by
      refine ⟨t.length / 64, l, a, cap, row, by rw [HM.out], ?_, by rw [List.length_append]; omega, (But.refl g w).set 69 _ |>.bts HB.out HNE.out, HNE.out, by rw [← HM.out]; exact hcap, HROW.out, ?_, (But.refl g w).set 69 _⟩
      · rw [drop_append_le _ _ _ (by omega), List.drop_eq_nil_of_le (by rw [← HN.out]; omega), List.nil_append]
      · have h := HLIE.out.set 69 (.int .i64 (((t ++ l).length : Nat) : Int))
        rw [hv_setLen _ _ _ _ _ HROW.out] at h
        rw [eat_append _ _ _ (by omega)]
        rw [show (N : Int) + (M : Int) = (((t ++ l).length : Nat) : Int) by rw [List.length_append, ← HN.out, ← HM.out]; omega]
        exact h
    go_wp2_with fail
    rw [hI]
    clear hI hw0
    go_loopw [1] (fun b wr => Hid (Going w wr g (t ++ l) b)) (fun b _ => sliceLen b)
    case atStart => exact HGO
    case round =>
      obtain ⟨n, rem, A, cp, rw1, hbb, hrem, hn64, hbts, hnA, hcp, hr1, hlie, hbut⟩ := hrel.out.ex
      subst hbb
      clear hrel
      obtain ⟨R, hR⟩ : ∃ R, R = rem.length := ⟨_, rfl⟩
      rw [← hR] at hcp
      rw [← hR]
      have HR : Hid (R = rem.length) := hR
      have HREM : Hid (rem = (t ++ l).drop (64 * n)) := hrem
      have HN64 : Hid (64 * n ≤ (t ++ l).length) := hn64
      have HBT : Hid (Bts A rem wr) := hbts
      have HNA : Hid (∀ ad, A = some ad → ad.block ≠ g) := hnA
      have HR1 : Hid (rw1.length = 64) := hr1
      have HLI : Hid (Lies wr g (hv true (eat (t ++ l) n) rw1 (t ++ l).length) 46) := hlie
      have HBU : Hid (But g w wr) := hbut
      have hRb : R ≤ 1152921504606846976 := by rw [hR, hrem, List.length_drop, List.length_append, ← HN.out, ← HM.out]; omega
      clear hR hrem hn64 hbts hnA hr1 hlie hbut
      by_cases h64 : 64 ≤ R
      · obtain ⟨gb, o, rfl, hgb, _⟩ := HBT.out.cell 0 (by rw [← HR.out]; omega)
        obtain ⟨r, hr⟩ : ∃ r, r = eat (t ++ l) n := ⟨_, rfl⟩
        have HRR : Hid (r = eat (t ++ l) n) := hr
        obtain ⟨bl, hbl⟩ : ∃ bl, bl = rem.take 64 := ⟨_, rfl⟩
        have HBL : Hid (bl = rem.take 64) := hbl
        have HBL64 : Hid (bl.length = 64) := by show _ = _; rw [hbl, List.length_take, ← HR.out]; omega
        have HS : Hid (∀ w', Below wr.heap.size wr w' → w'.rangeAt g 1 (rgv r).toList ∧ w'.rangeAt gb o (rowV bl).toList) := fun w' hb => by
          refine ⟨by rw [hr]; exact hv_reg (HLI.out.below hb HLI.out.lt), fun j v hj => ?_⟩
          have hb2 := HBT.out.below hb
          have hj' : j < bl.length := by
            have := (List.getElem?_eq_some_iff.1 hj).1
            simpa [rowV, cellsB] using this
          have hjl : j < rem.length := by rw [← HR.out]; have := HBL64.out; omega
          obtain ⟨g2, o2, e2, _, hc⟩ := hb2.cell j hjl
          injection e2 with e2
          injection e2 with e3 e4
          subst e3 e4
          rw [hc, ← hj]
          have e5 : (rowV bl).toList = cellsB bl := by simp [rowV]
          have e6 : rem[j] = bl[j] := by subst hbl; rw [List.getElem_take]
          rw [e5, cellsB_at bl j hj', e6]
        clear hr hbl
        have i1 : (64 : Int) ≤ (R : Int) := by omega
        have i2 : (64 : Int) ≤ (cp : Int) := by omega
        have i3 : ¬ cp = 0 := by omega
        have har : ∀ w', (Instr.arrayAt 38 (.slice (some ⟨gb, o, none⟩) 64 cp)).run Tryd.prog w' = .ok (.pointer (some ⟨gb, o, none⟩)) w' := fun w' => run_arrayAt (P := Tryd.prog) (w := w') 38 5 64 (some ⟨gb, o, none⟩) 64 cp Tryd.underlying38 (by omega)
        go_wp2_with fail
        refine wp_region_late (fun w' => w'.rangeAt g 1 (rgv r).toList ∧ w'.rangeAt gb o (rowV bl).toList) 12 (by kernel_rfl) (HS.out _ (Below.refl _ wr).drew) (fun hHeld => ?_)
        refine wpAnyE_take (i := 0) (d := some 53) (v := ?_) rfl (by kernel_rfl) (by kernel_rfl) (by kernel_rfl) (by kernel_rfl) (fun _ _ _ h => h) rfl rfl ?hy (by assumption) ?_
        case hy => (intro w' hSw; (try dsimp only at hSw); go_simp <;> (try with_reducible rfl))
        simp only [Act.put, List.setIfInBounds_toArray, List.set_cons_zero, List.set_cons_succ]
        refine wpAnyE_take (i := 1) (d := some 54) (v := ?_) rfl (by kernel_rfl) (by kernel_rfl) (by kernel_rfl) (by kernel_rfl) (fun _ _ _ h => h) rfl rfl ?hy (by assumption) ?_
        case hy => (intro w' hSw; (try dsimp only at hSw); go_simp <;> (try with_reducible rfl))
        simp only [Act.put, List.setIfInBounds_toArray, List.set_cons_zero, List.set_cons_succ]
        refine wpAnyE_take (i := 2) (d := some 55) (v := ?_) rfl (by kernel_rfl) (by kernel_rfl) (by kernel_rfl) (by kernel_rfl) (fun _ _ _ h => h) rfl rfl ?hy (by assumption) ?_
        case hy => (intro w' hSw; (try dsimp only at hSw); go_simp <;> (try with_reducible rfl))
        simp only [Act.put, List.setIfInBounds_toArray, List.set_cons_zero, List.set_cons_succ]
        refine wpAnyE_take (i := 3) (d := some 56) (v := ?_) rfl (by kernel_rfl) (by kernel_rfl) (by kernel_rfl) (by kernel_rfl) (fun _ _ _ h => h) rfl rfl ?hy (by assumption) ?_
        case hy => (intro w' hSw; (try dsimp only at hSw); go_simp <;> (try with_reducible rfl))
        simp only [Act.put, List.setIfInBounds_toArray, List.set_cons_zero, List.set_cons_succ]
        refine wpAnyE_take (i := 4) (d := some 57) (v := .agg (rgv r)) rfl (by kernel_rfl) (by kernel_rfl) (by kernel_rfl) (by kernel_rfl) (fun _ _ _ h => h) rfl rfl ?hy (by assumption) ?_
        case hy => exact fun w' hSw => exec_load 43 _ rfl g 1 rfl (rgv r) _ hSw.1 Tryd.underlying43 rfl (infoRg _)
        simp only [Act.put, List.setIfInBounds_toArray, List.set_cons_zero, List.set_cons_succ]
        refine wpAnyE_take (i := 5) (d := some 58) (v := ?_) rfl (by kernel_rfl) (by kernel_rfl) (by kernel_rfl) (by kernel_rfl) (fun _ _ _ h => h) rfl rfl ?hy (by assumption) ?_
        case hy => (intro w' hSw; (try dsimp only at hSw); go_simp <;> (try with_reducible rfl))
        simp only [Act.put, List.setIfInBounds_toArray, List.set_cons_zero, List.set_cons_succ]
        refine wpAnyE_take (i := 6) (d := some 59) (v := ?_) rfl (by kernel_rfl) (by kernel_rfl) (by kernel_rfl) (by kernel_rfl) (fun _ _ _ h => h) rfl rfl ?hy (by assumption) ?_
        case hy => (intro w' hSw; (try dsimp only at hSw); go_simp <;> (try with_reducible rfl))
        simp only [Act.put, List.setIfInBounds_toArray, List.set_cons_zero, List.set_cons_succ]
        refine wpAnyE_take (i := 7) (d := some 60) (v := ?_) rfl (by kernel_rfl) (by kernel_rfl) (by kernel_rfl) (by kernel_rfl) (fun _ _ _ h => h) rfl rfl ?hy (by assumption) ?_
        case hy => (intro w' hSw; (try dsimp only at hSw); go_simp <;> (try with_reducible rfl))
        simp only [Act.put, List.setIfInBounds_toArray, List.set_cons_zero, List.set_cons_succ]
        refine wpAnyE_take (i := 8) (d := some 61) (v := .agg (rowV bl)) rfl (by kernel_rfl) (by kernel_rfl) (by kernel_rfl) (by kernel_rfl) (fun _ _ _ h => h) rfl rfl ?hy (by assumption) ?_
        case hy => exact fun w' hSw => exec_load 38 _ rfl gb o rfl (rowV bl) _ hSw.2 Tryd.underlying38 rfl (infoRow _ HBL64.out)
        simp only [Act.put, List.setIfInBounds_toArray, List.set_cons_zero, List.set_cons_succ]
        refine wpAnyE_one (i := 9) (by kernel_rfl) rfl rfl ?_
        go_simp
        refine (behind_any r bl HBL64.out _ ?_).mono ?_
        · exact (HBU.out.tabs HT.out hg).drew
        rintro e w5 ⟨rfl, hb0⟩
        have hb5 : Below wr.heap.size wr w5 := ⟨hb0.os, hb0.tape, hb0.output, hb0.size, hb0.block⟩
        clear hb0
        have hH5 := HS.out _ hb5
        refine ⟨hH5, ?_⟩
        clear hHeld HS
        obtain ⟨y, hy⟩ : ∃ y : Rg, y = blk r (fun j => wd bl (4 * j)) := ⟨_, rfl⟩
        rw [← hy]
        have HY : Hid (y = blk r (fun j => wd bl (4 * j))) := hy
        clear hy
        refine wpAnyE_one (i := 10) (by kernel_rfl) rfl rfl ?_
        go_simp
        refine wpAnyE_one (i := 11) (by kernel_rfl) rfl rfl ?_
        go_simp
        refine wpAnyE_one (i := 12) (by kernel_rfl) rfl rfl ?_
        refine wp_store_reg _ _ rfl g rfl y rfl true _ rw1 _ HR1.out (HLI.out.below hb5 HLI.out.lt) rfl ?_
        intro w6 hl6 hb6
        refine ⟨.inl rfl, wpAnyE_done (by kernel_rfl) ?_ _⟩
        have HL6 : Hid (Lies w6 g (hv true y rw1 (t ++ l).length) 46) := hl6
        have HB6 : Hid (But g w w6) := (HBU.out.trans (But.of_below hb5)).trans hb6
        have HT6 : Hid (Bts (some ⟨gb, o, none⟩) rem w6) := hb6.bts (HBT.out.below hb5) HNA.out
        clear hl6 hb6 hb5 hH5 har
        obtain ⟨A, hA⟩ : ∃ A : Option Addr, (if cp = 64 then some ⟨gb, o, none⟩ else some ⟨gb, o + 64, none⟩) = A := ⟨_, rfl⟩
        go_wp2
        go_roundw
        case rel =>
          have hRl := HR.out
          have hRe := HREM.out
          have hNl := HN64.out
          have hlen : rem.length = (t ++ l).length - 64 * n := by rw [hRe, List.length_drop]
          refine ⟨n + 1, rem.drop 64, A, cp - 64, rw1, by rw [List.length_drop, ← hRl], by rw [hRe, List.drop_drop]; congr 1, by omega, bts_drop HT6.out 64 (fun hk => ?_), fun ad e => ?_, by rw [List.length_drop]; omega, HR1.out, ?_, HB6.out⟩
          · rw [← hA, if_neg (by omega), Option.map_some, Addr.add_lit]
          · rw [← hA] at e
            split at e <;> (injection e with e; subst e; exact HNA.out ⟨gb, o, none⟩ rfl)
          · rw [eat_next (t ++ l) bl n (by rw [HBL.out, hRe]), ← HRR.out, ← HY.out]
            exact HL6.out
        case measure => simp [sliceLen]; omega
      · go_wp2_with (refine wpList_copy_row rfl _ _ rfl g 0 A _ _ rem rfl (by rw [← HR.out]; rfl) HBT.out true _ rw1 _ HR1.out (by omega) HLI.out (Nat.min rem.length (64 - 0)) rfl ?_; intro w6 hl6 hb6; have HL6 : Hid (Lies w6 g _ 46) := hl6; have HB6 : Hid (But g wr w6) := hb6; clear hl6 hb6)
        go_end0
        exact ⟨rfl, Going.done HREM.out HN64.out (by rw [← HR.out]; omega) HR1.out _ rfl HL6.out, HBU.out.trans HB6.out⟩
  · obtain ⟨wt, hwt⟩ : ∃ wt, wt = N % 64 := ⟨_, rfl⟩
    have hI : (N : Int) % 64 = (wt : Int) := by omega
    have hw64 : wt < 64 := by omega
    have hwp : 0 < wt := by omega
    have HWT : Hid (wt = N % 64) := hwt
    clear hwt hw0
    have hsl : ∀ w', (Instr.sliceAt 38 (.pointer (some ⟨g, 5, none⟩)) (some (.int .i64 (wt : Int))) none none).run Tryd.prog w' = .ok (.slice (some ⟨g, 5 + wt, none⟩) (64 - wt) (64 - wt)) w' := fun w' => run_row_l w' g 5 wt hw64
    obtain ⟨c, hc⟩ : ∃ c, c = Nat.min l.length (64 - wt) := ⟨_, rfl⟩
    have HC : Hid (c = Nat.min l.length (64 - wt)) := hc
    have hcM : c ≤ M := by rw [HM.out, hc]; exact Nat.min_le_left _ _
    have hcw : c ≤ 64 - wt := by rw [hc]; exact Nat.min_le_right _ _
    clear hc
    have HL1 : Hid (Lies (w.setCell ⟨g, 69, none⟩ (.int .i64 ((N : Int) + (M : Int)))) g (hv true (eat t (t.length / 64)) row (t ++ l).length) 46) := by
      have h := HLIE.out.set 69 (.int .i64 (((t ++ l).length : Nat) : Int))
      rw [hv_setLen _ _ _ _ _ HROW.out] at h
      rw [show (N : Int) + (M : Int) = (((t ++ l).length : Nat) : Int) by rw [List.length_append, ← HN.out, ← HM.out]; omega]
      exact h
    have HB1 : Hid (But g w (w.setCell ⟨g, 69, none⟩ (.int .i64 ((N : Int) + (M : Int))))) := (But.refl g w).set 69 _
    by_cases hfull : wt + c < 64
    · go_wp2_with (refine wpList_copy_row rfl _ _ rfl g wt a _ _ l rfl (by rw [← HM.out]; rfl) (HB1.out.bts HB.out HNE.out) true _ row _ HROW.out (by omega) HL1.out c HC.out ?_; intro w6 hl6 hb6; have HL6 : Hid (Lies w6 g _ 46) := hl6; have HB6 : Hid (But g _ w6) := hb6; clear hl6 hb6)
      refine bodyPost_ret (v := .tuple #[]) (results_none rfl _ _ _) rfl ?_
      exact ⟨rfl, HashAt.short HROW.out HWAIT.out (by rw [HWT.out, HN.out]) HC.out hfull HL6.out, HB1.out.trans HB6.out⟩
    · obtain ⟨gb, o, rfl, hgb, hcel⟩ := HB.out.cell 0 (by rw [← HM.out]; omega)
      clear hcel
      have hcs : wt + c = 64 := by omega
      obtain ⟨row1, hrow1⟩ : ∃ row1, row1 = splice row wt (l.take c) := ⟨_, rfl⟩
      have HROW1 : Hid (row1 = splice row wt (l.take c)) := hrow1
      have HFULL : Hid _ := row_full HROW.out HWAIT.out (show wt = t.length % 64 by rw [HWT.out, HN.out]) HC.out hcs
      have HR1 : Hid (row1.length = 64) := by
        show _ = _
        rw [hrow1, splice_length (by rw [List.length_take, HROW.out]; have := Nat.min_le_left c l.length; omega), HROW.out]
      clear hrow1
      obtain ⟨r, hr⟩ : ∃ r, r = eat t (t.length / 64) := ⟨_, rfl⟩
      have HRR : Hid (r = eat t (t.length / 64)) := hr
      clear hr
      go_wp2_with (refine wpList_copy_row rfl _ _ rfl g wt _ _ _ l rfl (by rw [← HM.out]; rfl) (HB1.out.bts HB.out HNE.out) true _ row _ HROW.out (by omega) HL1.out c HC.out ?_; intro w6 hl6 hb6; rw [← HROW1.out, ← HRR.out] at hl6; have HL6 : Hid (Lies w6 g (hv true r row1 (t ++ l).length) 46) := hl6; have HB6 : Hid (But g w w6) := HB1.out.trans hb6; clear hl6 hb6)
      have HS : Hid (∀ w', Below w6.heap.size w6 w' → w'.rangeAt g 1 (rgv r).toList ∧ w'.rangeAt g 5 (rowV row1).toList) := fun w' hb => ⟨hv_reg (HL6.out.below hb HL6.out.lt), by rw [rowV, List.toList_toArray]; exact hv_row (HL6.out.below hb HL6.out.lt)⟩
      refine wp_region_late (fun w' => w'.rangeAt g 1 (rgv r).toList ∧ w'.rangeAt g 5 (rowV row1).toList) 12 (by kernel_rfl) (HS.out _ (Below.refl _ w6).drew) (fun hHeld => ?_)
      refine wpAnyE_take (i := 0) (d := some 33) (v := ?_) rfl (by kernel_rfl) (by kernel_rfl) (by kernel_rfl) (by kernel_rfl) (fun _ _ _ h => h) rfl rfl ?hy (by assumption) ?_
      case hy => (intro w' hSw; (try dsimp only at hSw); go_simp <;> (try with_reducible rfl))
      simp only [Act.put, List.setIfInBounds_toArray, List.set_cons_zero, List.set_cons_succ]
      refine wpAnyE_take (i := 1) (d := some 34) (v := ?_) rfl (by kernel_rfl) (by kernel_rfl) (by kernel_rfl) (by kernel_rfl) (fun _ _ _ h => h) rfl rfl ?hy (by assumption) ?_
      case hy => (intro w' hSw; (try dsimp only at hSw); go_simp <;> (try with_reducible rfl))
      simp only [Act.put, List.setIfInBounds_toArray, List.set_cons_zero, List.set_cons_succ]
      refine wpAnyE_take (i := 2) (d := some 35) (v := ?_) rfl (by kernel_rfl) (by kernel_rfl) (by kernel_rfl) (by kernel_rfl) (fun _ _ _ h => h) rfl rfl ?hy (by assumption) ?_
      case hy => (intro w' hSw; (try dsimp only at hSw); go_simp <;> (try with_reducible rfl))
      simp only [Act.put, List.setIfInBounds_toArray, List.set_cons_zero, List.set_cons_succ]
      refine wpAnyE_take (i := 3) (d := some 36) (v := ?_) rfl (by kernel_rfl) (by kernel_rfl) (by kernel_rfl) (by kernel_rfl) (fun _ _ _ h => h) rfl rfl ?hy (by assumption) ?_
      case hy => (intro w' hSw; (try dsimp only at hSw); go_simp <;> (try with_reducible rfl))
      simp only [Act.put, List.setIfInBounds_toArray, List.set_cons_zero, List.set_cons_succ]
      refine wpAnyE_take (i := 4) (d := some 37) (v := .agg (rgv r)) rfl (by kernel_rfl) (by kernel_rfl) (by kernel_rfl) (by kernel_rfl) (fun _ _ _ h => h) rfl rfl ?hy (by assumption) ?_
      case hy => exact fun w' hSw => exec_load 43 _ rfl g 1 rfl (rgv r) _ hSw.1 Tryd.underlying43 rfl (infoRg _)
      simp only [Act.put, List.setIfInBounds_toArray, List.set_cons_zero, List.set_cons_succ]
      refine wpAnyE_take (i := 5) (d := some 38) (v := ?_) rfl (by kernel_rfl) (by kernel_rfl) (by kernel_rfl) (by kernel_rfl) (fun _ _ _ h => h) rfl rfl ?hy (by assumption) ?_
      case hy => (intro w' hSw; (try dsimp only at hSw); go_simp <;> (try with_reducible rfl))
      simp only [Act.put, List.setIfInBounds_toArray, List.set_cons_zero, List.set_cons_succ]
      refine wpAnyE_take (i := 6) (d := some 39) (v := ?_) rfl (by kernel_rfl) (by kernel_rfl) (by kernel_rfl) (by kernel_rfl) (fun _ _ _ h => h) rfl rfl ?hy (by assumption) ?_
      case hy => (intro w' hSw; (try dsimp only at hSw); go_simp <;> (try with_reducible rfl))
      simp only [Act.put, List.setIfInBounds_toArray, List.set_cons_zero, List.set_cons_succ]
      refine wpAnyE_take (i := 7) (d := some 40) (v := ?_) rfl (by kernel_rfl) (by kernel_rfl) (by kernel_rfl) (by kernel_rfl) (fun _ _ _ h => h) rfl rfl ?hy (by assumption) ?_
      case hy => (intro w' hSw; (try dsimp only at hSw); go_simp <;> (try with_reducible rfl))
      simp only [Act.put, List.setIfInBounds_toArray, List.set_cons_zero, List.set_cons_succ]
      refine wpAnyE_take (i := 8) (d := some 41) (v := .agg (rowV row1)) rfl (by kernel_rfl) (by kernel_rfl) (by kernel_rfl) (by kernel_rfl) (fun _ _ _ h => h) rfl rfl ?hy (by assumption) ?_
      case hy => exact fun w' hSw => exec_load 38 _ rfl g 5 rfl (rowV row1) _ hSw.2 Tryd.underlying38 rfl (infoRow _ HR1.out)
      simp only [Act.put, List.setIfInBounds_toArray, List.set_cons_zero, List.set_cons_succ]
      refine wpAnyE_one (i := 9) (by kernel_rfl) rfl rfl ?_
      go_simp
      refine (behind_any r row1 HR1.out _ ?_).mono ?_
      · exact (HB6.out.tabs HT.out hg).drew
      rintro e w7 ⟨rfl, hb0⟩
      have hb7 : Below w6.heap.size w6 w7 := ⟨hb0.os, hb0.tape, hb0.output, hb0.size, hb0.block⟩
      clear hb0
      have hH5 := HS.out _ hb7
      refine ⟨hH5, ?_⟩
      clear hHeld HS
      obtain ⟨y, hy⟩ : ∃ y : Rg, y = blk r (fun j => wd row1 (4 * j)) := ⟨_, rfl⟩
      rw [← hy]
      have HY : Hid (y = blk r (fun j => wd row1 (4 * j))) := hy
      clear hy
      refine wpAnyE_one (i := 10) (by kernel_rfl) rfl rfl ?_
      go_simp
      refine wpAnyE_one (i := 11) (by kernel_rfl) rfl rfl ?_
      go_simp
      refine wpAnyE_one (i := 12) (by kernel_rfl) rfl rfl ?_
      refine wp_store_reg _ _ rfl g rfl y rfl true _ row1 _ HR1.out (HL6.out.below hb7 HL6.out.lt) rfl ?_
      intro w8 hl8 hb8
      refine ⟨.inl rfl, wpAnyE_done (by kernel_rfl) ?_ _⟩
      obtain ⟨A, hA⟩ : ∃ A : Option Addr, (if cap = c then some ⟨gb, o, none⟩ else some ⟨gb, o + c, none⟩) = A := ⟨_, rfl⟩
      have HB8 : Hid (But g w w8) := (HB6.out.trans (But.of_below hb7)).trans hb8
      have HGO : Hid (Going w w8 g (t ++ l) (.slice A (M - c) (cap - c))) := by
        refine ⟨t.length / 64 + 1, l.drop c, A, cap - c, row1, by rw [List.length_drop, ← HM.out], HFULL.out.2.1, HFULL.out.2.2, bts_drop (HB8.out.bts HB.out HNE.out) c (fun hk => ?_), fun ad e => ?_, by rw [List.length_drop, ← HM.out]; omega, HR1.out, ?_, HB8.out⟩
        · rw [← hA, if_neg (by rw [← HM.out] at hk; omega), Option.map_some, Addr.add_lit]
        · rw [← hA] at e
          split at e <;> (injection e with e; subst e; exact HNE.out ⟨gb, o, none⟩ rfl)
        · rw [eat_next (t ++ l) row1 (t.length / 64) (by rw [HROW1.out]; exact HFULL.out.1), eat_append _ _ _ (by omega), ← HRR.out, ← HY.out]
          exact hl8
      have i1 : (c : Int) ≤ (M : Int) := by omega
      have i2 : (c : Int) ≤ (cap : Int) := by omega
      clear hl8 hb8 hb7 hH5 hsl
      go_wp2_with fail
      clear hA i1 i2 hI
      go_loopw [1] (fun b wr => Hid (Going w wr g (t ++ l) b)) (fun b _ => sliceLen b)
      case atStart => exact HGO
      case round =>
        obtain ⟨n, rem, A, cp, rw1, hbb, hrem, hn64, hbts, hnA, hcp, hr1, hlie, hbut⟩ := hrel.out.ex
        subst hbb
        clear hrel
        obtain ⟨R, hR⟩ : ∃ R, R = rem.length := ⟨_, rfl⟩
        rw [← hR] at hcp
        rw [← hR]
        have HR : Hid (R = rem.length) := hR
        have HREM : Hid (rem = (t ++ l).drop (64 * n)) := hrem
        have HN64 : Hid (64 * n ≤ (t ++ l).length) := hn64
        have HBT : Hid (Bts A rem wr) := hbts
        have HNA : Hid (∀ ad, A = some ad → ad.block ≠ g) := hnA
        have HR1 : Hid (rw1.length = 64) := hr1
        have HLI : Hid (Lies wr g (hv true (eat (t ++ l) n) rw1 (t ++ l).length) 46) := hlie
        have HBU : Hid (But g w wr) := hbut
        have hRb : R ≤ 1152921504606846976 := by rw [hR, hrem, List.length_drop, List.length_append, ← HN.out, ← HM.out]; omega
        clear hR hrem hn64 hbts hnA hr1 hlie hbut
        by_cases h64 : 64 ≤ R
        · obtain ⟨gb, o, rfl, hgb, _⟩ := HBT.out.cell 0 (by rw [← HR.out]; omega)
          obtain ⟨r, hr⟩ : ∃ r, r = eat (t ++ l) n := ⟨_, rfl⟩
          have HRR : Hid (r = eat (t ++ l) n) := hr
          obtain ⟨bl, hbl⟩ : ∃ bl, bl = rem.take 64 := ⟨_, rfl⟩
          have HBL : Hid (bl = rem.take 64) := hbl
          have HBL64 : Hid (bl.length = 64) := by show _ = _; rw [hbl, List.length_take, ← HR.out]; omega
          have HS : Hid (∀ w', Below wr.heap.size wr w' → w'.rangeAt g 1 (rgv r).toList ∧ w'.rangeAt gb o (rowV bl).toList) := fun w' hb => by
            refine ⟨by rw [hr]; exact hv_reg (HLI.out.below hb HLI.out.lt), fun j v hj => ?_⟩
            have hb2 := HBT.out.below hb
            have hj' : j < bl.length := by
              have := (List.getElem?_eq_some_iff.1 hj).1
              simpa [rowV, cellsB] using this
            have hjl : j < rem.length := by rw [← HR.out]; have := HBL64.out; omega
            obtain ⟨g2, o2, e2, _, hc⟩ := hb2.cell j hjl
            injection e2 with e2
            injection e2 with e3 e4
            subst e3 e4
            rw [hc, ← hj]
            have e5 : (rowV bl).toList = cellsB bl := by simp [rowV]
            have e6 : rem[j] = bl[j] := by subst hbl; rw [List.getElem_take]
            rw [e5, cellsB_at bl j hj', e6]
          clear hr hbl
          have i1 : (64 : Int) ≤ (R : Int) := by omega
          have i2 : (64 : Int) ≤ (cp : Int) := by omega
          have i3 : ¬ cp = 0 := by omega
          have har : ∀ w', (Instr.arrayAt 38 (.slice (some ⟨gb, o, none⟩) 64 cp)).run Tryd.prog w' = .ok (.pointer (some ⟨gb, o, none⟩)) w' := fun w' => run_arrayAt (P := Tryd.prog) (w := w') 38 5 64 (some ⟨gb, o, none⟩) 64 cp Tryd.underlying38 (by omega)
          go_wp2_with fail
          refine wp_region_late (fun w' => w'.rangeAt g 1 (rgv r).toList ∧ w'.rangeAt gb o (rowV bl).toList) 12 (by kernel_rfl) (HS.out _ (Below.refl _ wr).drew) (fun hHeld => ?_)
          refine wpAnyE_take (i := 0) (d := some 53) (v := ?_) rfl (by kernel_rfl) (by kernel_rfl) (by kernel_rfl) (by kernel_rfl) (fun _ _ _ h => h) rfl rfl ?hy (by assumption) ?_
          case hy => (intro w' hSw; (try dsimp only at hSw); go_simp <;> (try with_reducible rfl))
          simp only [Act.put, List.setIfInBounds_toArray, List.set_cons_zero, List.set_cons_succ]
          refine wpAnyE_take (i := 1) (d := some 54) (v := ?_) rfl (by kernel_rfl) (by kernel_rfl) (by kernel_rfl) (by kernel_rfl) (fun _ _ _ h => h) rfl rfl ?hy (by assumption) ?_
          case hy => (intro w' hSw; (try dsimp only at hSw); go_simp <;> (try with_reducible rfl))
          simp only [Act.put, List.setIfInBounds_toArray, List.set_cons_zero, List.set_cons_succ]
          refine wpAnyE_take (i := 2) (d := some 55) (v := ?_) rfl (by kernel_rfl) (by kernel_rfl) (by kernel_rfl) (by kernel_rfl) (fun _ _ _ h => h) rfl rfl ?hy (by assumption) ?_
          case hy => (intro w' hSw; (try dsimp only at hSw); go_simp <;> (try with_reducible rfl))
          simp only [Act.put, List.setIfInBounds_toArray, List.set_cons_zero, List.set_cons_succ]
          refine wpAnyE_take (i := 3) (d := some 56) (v := ?_) rfl (by kernel_rfl) (by kernel_rfl) (by kernel_rfl) (by kernel_rfl) (fun _ _ _ h => h) rfl rfl ?hy (by assumption) ?_
          case hy => (intro w' hSw; (try dsimp only at hSw); go_simp <;> (try with_reducible rfl))
          simp only [Act.put, List.setIfInBounds_toArray, List.set_cons_zero, List.set_cons_succ]
          refine wpAnyE_take (i := 4) (d := some 57) (v := .agg (rgv r)) rfl (by kernel_rfl) (by kernel_rfl) (by kernel_rfl) (by kernel_rfl) (fun _ _ _ h => h) rfl rfl ?hy (by assumption) ?_
          case hy => exact fun w' hSw => exec_load 43 _ rfl g 1 rfl (rgv r) _ hSw.1 Tryd.underlying43 rfl (infoRg _)
          simp only [Act.put, List.setIfInBounds_toArray, List.set_cons_zero, List.set_cons_succ]
          refine wpAnyE_take (i := 5) (d := some 58) (v := ?_) rfl (by kernel_rfl) (by kernel_rfl) (by kernel_rfl) (by kernel_rfl) (fun _ _ _ h => h) rfl rfl ?hy (by assumption) ?_
          case hy => (intro w' hSw; (try dsimp only at hSw); go_simp <;> (try with_reducible rfl))
          simp only [Act.put, List.setIfInBounds_toArray, List.set_cons_zero, List.set_cons_succ]
          refine wpAnyE_take (i := 6) (d := some 59) (v := ?_) rfl (by kernel_rfl) (by kernel_rfl) (by kernel_rfl) (by kernel_rfl) (fun _ _ _ h => h) rfl rfl ?hy (by assumption) ?_
          case hy => (intro w' hSw; (try dsimp only at hSw); go_simp <;> (try with_reducible rfl))
          simp only [Act.put, List.setIfInBounds_toArray, List.set_cons_zero, List.set_cons_succ]
          refine wpAnyE_take (i := 7) (d := some 60) (v := ?_) rfl (by kernel_rfl) (by kernel_rfl) (by kernel_rfl) (by kernel_rfl) (fun _ _ _ h => h) rfl rfl ?hy (by assumption) ?_
          case hy => (intro w' hSw; (try dsimp only at hSw); go_simp <;> (try with_reducible rfl))
          simp only [Act.put, List.setIfInBounds_toArray, List.set_cons_zero, List.set_cons_succ]
          refine wpAnyE_take (i := 8) (d := some 61) (v := .agg (rowV bl)) rfl (by kernel_rfl) (by kernel_rfl) (by kernel_rfl) (by kernel_rfl) (fun _ _ _ h => h) rfl rfl ?hy (by assumption) ?_
          case hy => exact fun w' hSw => exec_load 38 _ rfl gb o rfl (rowV bl) _ hSw.2 Tryd.underlying38 rfl (infoRow _ HBL64.out)
          simp only [Act.put, List.setIfInBounds_toArray, List.set_cons_zero, List.set_cons_succ]
          refine wpAnyE_one (i := 9) (by kernel_rfl) rfl rfl ?_
          go_simp
          refine (behind_any r bl HBL64.out _ ?_).mono ?_
          · exact (HBU.out.tabs HT.out hg).drew
          rintro e w5 ⟨rfl, hb0⟩
          have hb5 : Below wr.heap.size wr w5 := ⟨hb0.os, hb0.tape, hb0.output, hb0.size, hb0.block⟩
          clear hb0
          have hH5 := HS.out _ hb5
          refine ⟨hH5, ?_⟩
          clear hHeld HS
          obtain ⟨y, hy⟩ : ∃ y : Rg, y = blk r (fun j => wd bl (4 * j)) := ⟨_, rfl⟩
          rw [← hy]
          have HY : Hid (y = blk r (fun j => wd bl (4 * j))) := hy
          clear hy
          refine wpAnyE_one (i := 10) (by kernel_rfl) rfl rfl ?_
          go_simp
          refine wpAnyE_one (i := 11) (by kernel_rfl) rfl rfl ?_
          go_simp
          refine wpAnyE_one (i := 12) (by kernel_rfl) rfl rfl ?_
          refine wp_store_reg _ _ rfl g rfl y rfl true _ rw1 _ HR1.out (HLI.out.below hb5 HLI.out.lt) rfl ?_
          intro w6 hl6 hb6
          refine ⟨.inl rfl, wpAnyE_done (by kernel_rfl) ?_ _⟩
          have HL6 : Hid (Lies w6 g (hv true y rw1 (t ++ l).length) 46) := hl6
          have HB6 : Hid (But g w w6) := (HBU.out.trans (But.of_below hb5)).trans hb6
          have HT6 : Hid (Bts (some ⟨gb, o, none⟩) rem w6) := hb6.bts (HBT.out.below hb5) HNA.out
          clear hl6 hb6 hb5 hH5 har
          obtain ⟨A, hA⟩ : ∃ A : Option Addr, (if cp = 64 then some ⟨gb, o, none⟩ else some ⟨gb, o + 64, none⟩) = A := ⟨_, rfl⟩
          go_wp2
          go_roundw
          case rel =>
            have hRl := HR.out
            have hRe := HREM.out
            have hNl := HN64.out
            have hlen : rem.length = (t ++ l).length - 64 * n := by rw [hRe, List.length_drop]
            refine ⟨n + 1, rem.drop 64, A, cp - 64, rw1, by rw [List.length_drop, ← hRl], by rw [hRe, List.drop_drop]; congr 1, by omega, bts_drop HT6.out 64 (fun hk => ?_), fun ad e => ?_, by rw [List.length_drop]; omega, HR1.out, ?_, HB6.out⟩
            · rw [← hA, if_neg (by omega), Option.map_some, Addr.add_lit]
            · rw [← hA] at e
              split at e <;> (injection e with e; subst e; exact HNA.out ⟨gb, o, none⟩ rfl)
            · rw [eat_next (t ++ l) bl n (by rw [HBL.out, hRe]), ← HRR.out, ← HY.out]
              exact HL6.out
          case measure => simp [sliceLen]; omega
        · go_wp2_with (refine wpList_copy_row rfl _ _ rfl g 0 A _ _ rem rfl (by rw [← HR.out]; rfl) HBT.out true _ rw1 _ HR1.out (by omega) HLI.out (Nat.min rem.length (64 - 0)) rfl ?_; intro w6 hl6 hb6; have HL6 : Hid (Lies w6 g _ 46) := hl6; have HB6 : Hid (But g wr w6) := hb6; clear hl6 hb6)
          go_end0
          exact ⟨rfl, Going.done HREM.out HN64.out (by rw [← HR.out]; omega) HR1.out _ rfl HL6.out, HBU.out.trans HB6.out⟩
end Go.Proofs.YtlkflikhbkhpeabDoor
