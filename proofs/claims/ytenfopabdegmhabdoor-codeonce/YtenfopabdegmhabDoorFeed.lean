/-
  The program's Feed and Close.
-/
import Derived.Test.YtenfopabdegmhabDoorRdr
import Derived.Test.YtenfopabdegmhabDoorRdP2
namespace Go.Proofs.YtenfopabdegmhabDoor
open Go.RowKit

/-- copy into a part of a block, as one operation. -/
theorem wp_copy_at {o : Oper} {a : Act} {w : World} {K : Act → World → Prop} {Q : Exit → Act → World → Prop} (d s : Operand)
    (ho : o.op = .call { callee := .builtin .copy, args := #[d, s], argTypes := #[22, 22] })
    (dp sp : Option Addr) (dLen dCap sLen sCap : Nat) (hd : a.eval d = .slice dp dLen dCap) (hs : a.eval s = .slice sp sLen sCap)
    (g off : Nat) (cur : List Value) (t : TypeId) (hg : Lies w g cur.toArray t) (cs : List Value) (hn : cs.length = Nat.min sLen dLen)
    (hpos : 0 < cs.length → dp = some ⟨g, off, none⟩ ∧ ∃ ad, sp = some ad ∧ ∀ j v, cs[j]? = some v → w.cell? (ad.add j) = some v)
    (hfit : off + cs.length ≤ cur.length) (h1 : ∀ v ∈ cs, v.oneCell' = true)
    (h : ∀ w', Lies w' g (splice cur off cs).toArray t → But g w w' → K (a.put o.dst (goInt cs.length)) w') : o.wp Tryd.prog a w K Q := by
  have hu := Tryd.underlying22
  have hsz : (Tryd.prog.info? 5).map (·.size) = some 1 := by kernel_rfl
  by_cases h0 : cs.length = 0
  · obtain rfl : cs = [] := List.eq_nil_of_length_eq_zero h0
    have hrun := run_copy_none (P := Tryd.prog) w 22 22 o.type 5 dp sp dLen dCap sLen sCap hu hsz (by simpa using hn.symm)
    unfold Oper.wp
    simp [execOp, ho, resolve, invoke, builtin, hd, hs, hrun, Result.andThen]
    exact h w (by simpa [splice] using hg) (But.refl _ _)
  · obtain ⟨rfl, ad, rfl, hsrc⟩ := hpos (by omega)
    have hrun := run_copy_row (P := Tryd.prog) w 22 22 o.type 5 g off dLen dCap ad sLen sCap cur.toArray t cs hu hsz hg hn hsrc (by simpa using hfit) h1
    unfold Oper.wp
    simp [execOp, ho, resolve, invoke, builtin, hd, hs, hrun, Result.andThen]
    exact h _ (by simpa [splice] using hg.row (cur.take off ++ (cs ++ cur.drop (off + cs.length))).toArray) ((But.refl _ _).row _)

/-- A reader's cells as a list. -/
def rdL4 (e d : Nat) (x y z : UInt8) (c : Nat) : List Value := [.bool true, .int .i64 (e : Int), .int .i64 (d : Int), .int .u8 (x.toNat : Int), .int .u8 (y.toNat : Int), .int .u8 (z.toNat : Int), .int .i64 (c : Int)]
theorem splice_rd (e d : Nat) (x y z : UInt8) (c : Nat) (r : List UInt8) (h : r.length ≤ 3) : ∃ x' y' z', (splice (rdL4 e d x y z c) 3 (cellsB r)).toArray = rdC e d x' y' z' c ∧ [x', y', z'].take r.length = r := by
  match r, h with
  | [], _ => exact ⟨x, y, z, rfl, rfl⟩
  | [p], _ => exact ⟨p, y, z, rfl, rfl⟩
  | [p, q], _ => exact ⟨p, q, z, rfl, rfl⟩
  | [p, q, s], _ => exact ⟨p, q, s, rfl, rfl⟩
theorem Bts.drop' {g o : Nat} {l : List UInt8} {w : World} (h : Bts (some ⟨g, o, none⟩) l w) (k : Nat) : Bts (some ⟨g, o + k, none⟩) (l.drop k) w := by
  rcases h with rfl | ⟨g', o', e, hg, hr⟩
  · exact .inl (by simp)
  · injection e with e
    injection e with e1 e2
    subst e1 e2
    exact .inr ⟨g, o + k, rfl, hg, fun j hj => by
      rw [List.length_drop] at hj
      rw [Nat.add_assoc, hr (k + j) (by omega), List.getElem_drop]⟩

set_option maxHeartbeats 4000000 in
set_option maxRecDepth 100000 in
theorem feed_any (g : Nat) (t : List UInt8) (a : Option Addr) (b : List UInt8) (cap n : Nat) (w : World) (hr : RdAt w g t 0) (hn : n = b.length) (hb : Bts a b w) (hl : b.length ≤ 140737488355200) (hne : b ≠ [] → ∀ ad, a = some ad → ad.block ≠ g) :
    Calls Tryd.prog 18 #[.pointer (some ⟨g, 0, none⟩), .slice a n cap] w fun e w' => ∃ v, e = .returned (.tuple #[v, .int .i64 (rdE t b : Nat)]) ∧
      w'.ownsRow w.heap.size 5 1 v (rdL t b).length (cellsB (rdL t b)) ∧ RdAt w' g (rdT t b) (rdE t b) ∧ But g w w' := by
  have HT : Hid _ := take_any g t a b cap n w hr hn hb hl hne
  have hok := hr.1
  have HOK : Hid (okN 0 (rdT t b) = (rdT t b).length) := rdT_ok t b hok
  have HH : Hid (okN 0 (heldG t b) = (heldG t b).length) := held_ok t b hok
  have hhl := held_le t b
  obtain ⟨_, x, y, z, hlie, _⟩ := hr
  obtain ⟨c0, c1, c2, c6⟩ := rd_cells hlie
  have hgs : g < w.heap.size := hlie.lt
  rw [← hn] at hhl hl
  clear hok hb hne hn hlie
  go_enter Tryd.func18, Tryd.ntmps18
  go_wp2_with fail
  refine Calls.mono (there_yes g w c0) ?_
  rintro e w0 ⟨rfl, rfl⟩
  go_wp2_with fail
  refine Calls.mono HT.out ?_
  rintro e w1 ⟨v1, x1, y1, z1, rfl, ho1, hl1, hb1, hv1⟩
  obtain ⟨gv, k1, e1, hg1, hg2, hk1, hk2⟩ := own_there ho1 hv1
  have HO1 : Hid (w1.ownsRow w0.heap.size 5 1 (.slice (some ⟨gv, 0, none⟩) (heldG t b).length k1) (heldG t b).length (cellsB (heldG t b))) := by
    rw [e1] at ho1
    exact ho1
  rw [e1]
  have HL1 : Hid (Lies w1 g (rdC (rdE t b) (stD 0 (rdT t b)) x1 y1 z1 (t.length % 4)) 72) := hl1
  have HB1 : Hid (But g w0 w1) := hb1
  clear ho1 hl1 hb1 hv1 e1 HT c0 c1 c2 c6
  obtain ⟨m, hm⟩ : ∃ m, m = (heldG t b).length := ⟨_, rfl⟩
  have hm2 : (tailG t ++ (noCr b).take (okN (stD 0 t) (noCr b))).length = m := hm.symm
  rw [hm2] at hk1
  rw [hm2]
  rw [← hm] at hhl HO1
  have HM : Hid (m = (heldG t b).length) := hm
  obtain ⟨q, hq⟩ : ∃ q, q = m / 4 * 4 := ⟨_, rfl⟩
  have hq' : (m : Int) / 4 * 4 = (q : Int) := by omega
  have hqm : q ≤ m := by omega
  have hq3 : m - q ≤ 3 := by omega
  have HQ : Hid (q = m / 4 * 4) := hq
  have HBY : Hid (Calls Tryd.prog 20 #[.slice (some ⟨gv, 0, none⟩) q q] w1 fun e w' => ∃ v, e = .returned v ∧ w'.ownsRow w1.heap.size 5 1 v (decL (heldG t b)).length (cellsB (decL (heldG t b))) ∧ Below w1.heap.size w1 w') := by
    have hbt : Bts (some ⟨gv, 0, none⟩) (heldG t b) w1 := by
      obtain ⟨a', c', e, hb', _⟩ := own_bts HO1.out
      injection e with e
      rw [e]
      exact hb'
    have hlen : ((heldG t b).take q).length = q := by rw [List.length_take, ← HM.out]; omega
    have hrow : RowL ((heldG t b).take q) gv 0 w1 := by
      rcases hbt.take q with h | ⟨g', o', e, hg', hr'⟩
      · rw [h]
        intro j hj
        simp at hj
      · injection e with e
        injection e with e1 e2
        subst e1 e2
        exact hr'
    have hbo := bytesof_any gv 0 ((heldG t b).take q) q q w1 hrow hlen.symm (fun _ => hg2) (okN_pre 0 _ q (by rw [HH.out, ← HM.out]; exact hqm)) (by omega) (by omega) (by omega)
    have e : decL ((heldG t b).take q) = decL (heldG t b) := by rw [hq, hm]; exact decL_take _
    rw [e] at hbo
    exact hbo
  clear hm hq hm2
  go_wp2_with fail
  refine Calls.mono HBY.out ?_
  rintro e w2 ⟨v2, rfl, ho2, hb2⟩
  have HO2 : Hid (w2.ownsRow w0.heap.size 5 1 v2 (rdL t b).length (cellsB (rdL t b))) := base_le ho2 HB1.out.size
  have HV2 : Hid (∀ k, v2.ownBlock = some k → k ≠ g) := fun k hk e => by
    have h1 := (ho2.lt k hk).1
    have h2 := HL1.out.lt
    omega
  have HL2 : Hid (Lies w2 g (rdC (rdE t b) (stD 0 (rdT t b)) x1 y1 z1 (t.length % 4)) 72) := HL1.out.below hb2 HL1.out.lt
  have HB2 : Hid (But g w0 w2) := HB1.out.then_below (hb2.mono HB1.out.size)
  have HO12 : Hid (w2.ownsRow w0.heap.size 5 1 (.slice (some ⟨gv, 0, none⟩) m k1) m (cellsB (heldG t b))) := own_below HO1.out hb2
  clear ho2 hb2 HO1 HL1 HB1 HBY
  go_wp2_with fail
  have hdr : (q : Int) ≤ (m : Int) := by omega
  have hdk : (m : Int) ≤ (k1 : Int) := by omega
  refine wp_region_late (fun _ => True) 11 (by kernel_rfl) trivial (fun hHeld => ?_)
  refine wpAnyE_take (i := 0) (d := some 33) (v := ?_) rfl (by kernel_rfl) (by kernel_rfl) (by kernel_rfl) (by kernel_rfl) (fun _ _ _ h => h) rfl rfl ?hy (by assumption) ?_
  case hy => (intro w' hSw; clear hSw; go_simp <;> (try with_reducible rfl))
  simp only [Act.put, List.setIfInBounds_toArray, List.set_cons_zero, List.set_cons_succ]
  refine wpAnyE_take (i := 1) (d := some 34) (v := ?_) rfl (by kernel_rfl) (by kernel_rfl) (by kernel_rfl) (by kernel_rfl) (fun _ _ _ h => h) rfl rfl ?hy (by assumption) ?_
  case hy => (intro w' hSw; clear hSw; go_simp <;> (try with_reducible rfl))
  simp only [Act.put, List.setIfInBounds_toArray, List.set_cons_zero, List.set_cons_succ]
  refine wpAnyE_take (i := 2) (d := some 35) (v := ?_) rfl (by kernel_rfl) (by kernel_rfl) (by kernel_rfl) (by kernel_rfl) (fun _ _ _ h => h) rfl rfl ?hy (by assumption) ?_
  case hy => (intro w' hSw; clear hSw; go_simp <;> (try with_reducible rfl))
  simp only [Act.put, List.setIfInBounds_toArray, List.set_cons_zero, List.set_cons_succ]
  refine wpAnyE_take (i := 3) (d := some 36) (v := ?_) rfl (by kernel_rfl) (by kernel_rfl) (by kernel_rfl) (by kernel_rfl) (fun _ _ _ h => h) rfl rfl ?hy (by assumption) ?_
  case hy => (intro w' hSw; clear hSw; go_simp <;> (try with_reducible rfl))
  simp only [Act.put, List.setIfInBounds_toArray, List.set_cons_zero, List.set_cons_succ]
  refine wpAnyE_take (i := 4) (d := some 37) (v := ?_) rfl (by kernel_rfl) (by kernel_rfl) (by kernel_rfl) (by kernel_rfl) (fun _ _ _ h => h) rfl rfl ?hy (by assumption) ?_
  case hy => (intro w' hSw; clear hSw; go_simp <;> (try with_reducible rfl))
  simp only [Act.put, List.setIfInBounds_toArray, List.set_cons_zero, List.set_cons_succ]
  refine wpAnyE_take (i := 5) (d := some 38) (v := ?_) rfl (by kernel_rfl) (by kernel_rfl) (by kernel_rfl) (by kernel_rfl) (fun _ _ _ h => h) rfl rfl ?hy (by assumption) ?_
  case hy => (intro w' hSw; clear hSw; go_simp <;> (try with_reducible rfl))
  simp only [Act.put, List.setIfInBounds_toArray, List.set_cons_zero, List.set_cons_succ]
  refine wpAnyE_take (i := 6) (d := some 39) (v := ?_) rfl (by kernel_rfl) (by kernel_rfl) (by kernel_rfl) (by kernel_rfl) (fun _ _ _ h => h) rfl rfl ?hy (by assumption) ?_
  case hy => (intro w' hSw; clear hSw; go_simp <;> (try with_reducible rfl))
  simp only [Act.put, List.setIfInBounds_toArray, List.set_cons_zero, List.set_cons_succ]
  refine wpAnyE_take (i := 7) (d := some 40) (v := ?_) rfl (by kernel_rfl) (by kernel_rfl) (by kernel_rfl) (by kernel_rfl) (fun _ _ _ h => h) rfl rfl ?hy (by assumption) ?_
  case hy => (intro w' hSw; clear hSw; go_simp <;> (try with_reducible rfl))
  simp only [Act.put, List.setIfInBounds_toArray, List.set_cons_zero, List.set_cons_succ]
  have HRE : Hid ((heldG t b).drop q = tailG (rdT t b)) := by
    show _ = _
    rw [HQ.out, HM.out]
    exact held_tail t b
  have HRL : Hid ((tailG (rdT t b)).length = m - q) := by
    show _ = _
    rw [← HRE.out, List.length_drop, ← HM.out]
  have HRM : Hid (m - q = (rdT t b).length % 4) := by
    show _ = _
    rw [← HRL.out, tailG_len]
  obtain ⟨x2, y2, z2, hsp, hx2⟩ := splice_rd (rdE t b) (stD 0 (rdT t b)) x1 y1 z1 (t.length % 4) (tailG (rdT t b)) (by rw [HRL.out]; exact hq3)
  have HSP : Hid _ := hsp
  have HX2 : Hid _ := hx2
  clear hsp hx2
  refine wpAnyE_one (i := 8) (by kernel_rfl) rfl rfl ?_
  refine wp_copy_at _ _ rfl _ _ _ _ _ _ rfl rfl g 3 (rdL4 (rdE t b) (stD 0 (rdT t b)) x1 y1 z1 (t.length % 4)) 72 HL2.out.drew (cellsB (tailG (rdT t b))) ?n1 ?n2 ?n3 (cellsB_one _) ?_
  case n1 => rw [cellsB_length, HRL.out]; exact (Nat.min_eq_left hq3).symm
  case n2 =>
    intro hpos
    rw [cellsB_length, HRL.out] at hpos
    refine ⟨rfl, ⟨gv, q, none⟩, by rw [if_neg (by omega)], ?_⟩
    have hbt : Bts (some ⟨gv, 0, none⟩) (heldG t b) w2 := by
      obtain ⟨a', c', e, hb', _⟩ := own_bts HO12.out
      injection e with e
      rw [e]
      exact hb'
    have h2 := hbt.drop' q
    rw [HRE.out, Nat.zero_add] at h2
    exact bts_news h2
  case n3 => rw [cellsB_length, HRL.out]; show 3 + (m - q) ≤ 7; omega
  intro w3 hl3 hb3
  have HL3 : Hid (Lies w3 g (rdC (rdE t b) (stD 0 (rdT t b)) x2 y2 z2 (t.length % 4)) 72) := by
    rw [HSP.out] at hl3
    exact hl3
  have HB3 : Hid (But g w0 w3) := HB2.out.trans ⟨hb3.os, hb3.tape, hb3.output, hb3.size, hb3.block⟩
  have HO3 : Hid (w3.ownsRow w0.heap.size 5 1 v2 (rdL t b).length (cellsB (rdL t b))) := own_keep HO2.out (fun k hk => hb3.block k (HO2.out.lt k hk).2 (HV2.out k hk))
  clear hl3 hb3 HL2 HB2 HO2 HO12 hHeld
  rw [cellsB_length, HRL.out]
  refine ⟨.inr trivial, ?_⟩
  have c6 : w3.cell? ⟨g, 6, none⟩ = some (.int .i64 ((t.length % 4 : Nat) : Int)) := HL3.out.cell 6
  have f6 := HL3.out.frozen 6
  refine wpAnyE_one (i := 9) (by kernel_rfl) rfl rfl ?_
  go_simp
  refine wpAnyE_one (i := 10) (by kernel_rfl) rfl rfl ?_
  go_simp
  refine wpAnyE_one (i := 11) (by kernel_rfl) rfl rfl ?_
  go_simp
  refine wpAnyE_done (by kernel_rfl) ?_ _
  have HL4 : Hid (Lies (w3.setCell ⟨g, 6, none⟩ (.int .i64 ((m - q : Nat) : Int))) g (rdC (rdE t b) (stD 0 (rdT t b)) x2 y2 z2 (m - q)) 72) := HL3.out.set 6 _
  have HB4 : Hid (But g w0 (w3.setCell ⟨g, 6, none⟩ (.int .i64 ((m - q : Nat) : Int)))) := HB3.out.set 6 _
  have HO4 : Hid ((w3.setCell ⟨g, 6, none⟩ (.int .i64 ((m - q : Nat) : Int))).ownsRow w0.heap.size 5 1 v2 (rdL t b).length (cellsB (rdL t b))) := own_keep HO3.out (fun k hk => Below.heap_setCell _ _ _ _ (HV2.out k hk))
  clear c6 f6 HL3 HB3 HO3
  generalize w3.setCell ⟨g, 6, none⟩ (.int .i64 ((m - q : Nat) : Int)) = w4 at HL4 HB4 HO4 ⊢
  have hc1 : w4.cell? ⟨g, 1, none⟩ = some (.int .i64 ((rdE t b : Nat) : Int)) := HL4.out.cell 1
  generalize (if k1 = q then some (⟨gv, 0, none⟩ : Addr) else some ⟨gv, q, none⟩) = AD
  go_wp2_with fail
  go_quiet (fail)
  go_wp2
  go_ret2
  refine ⟨v2, rfl, HO4.out, ⟨HOK.out, x2, y2, z2, ?_, ?_⟩, ⟨HB4.out.os, HB4.out.tape, HB4.out.output, HB4.out.size, HB4.out.block⟩⟩
  · rw [← HRM.out]
    exact HL4.out
  · rw [← HRM.out, ← HRL.out]
    exact HX2.out

/-- Of a reader that is spoilt. -/
theorem feed_spoilt (g : Nat) (t : List UInt8) (e0 : Nat) (he : e0 ≠ 0) (v : Value) (w : World) (hr : RdAt w g t e0) :
    Calls Tryd.prog 18 #[.pointer (some ⟨g, 0, none⟩), v] w fun e w' => e = .returned (.tuple #[.slice none 0 0, .int .i64 (e0 : Nat)]) ∧ ∃ k, w' = w.drewN k := by
  obtain ⟨_, x, y, z, hlie, _⟩ := hr
  obtain ⟨c0, c1, c2, c6⟩ := rd_cells hlie
  have hne : (((e0 : Nat) : Int) != 0) = true := by simp; omega
  clear hlie c2 c6
  go_enter Tryd.func18, Tryd.ntmps18
  go_wp2_with fail
  refine Calls.mono (there_yes g w c0) ?_
  rintro e w0 ⟨rfl, rfl⟩
  go_wp2_with fail
  go_quiet (fail)
  go_wp2
  go_ret2
  exact ⟨rfl, _, rfl⟩
/-- Of none, and of one that New did not make. -/
theorem feed_nil (v : Value) (w : World) : Calls Tryd.prog 18 #[.pointer none, v] w fun e w' => e = .returned (.tuple #[.slice none 0 0, .int .i64 1]) ∧ w' = w := by
  go_enter Tryd.func18, Tryd.ntmps18
  go_wp2_with fail
  refine Calls.mono (there_nil w) ?_
  rintro e w0 ⟨rfl, rfl⟩
  go_wp2
  go_ret2
  exact ⟨rfl, rfl⟩
theorem feed_zero (g : Nat) (v : Value) (w : World) (h : w.cell? ⟨g, 0, none⟩ = some (.bool false)) : Calls Tryd.prog 18 #[.pointer (some ⟨g, 0, none⟩), v] w fun e w' => e = .returned (.tuple #[.slice none 0 0, .int .i64 1]) ∧ w' = w := by
  go_enter Tryd.func18, Tryd.ntmps18
  go_wp2_with fail
  refine Calls.mono (there_no g w h) ?_
  rintro e w0 ⟨rfl, rfl⟩
  go_wp2
  go_ret2
  exact ⟨rfl, rfl⟩
end Go.Proofs.YtenfopabdegmhabDoor
