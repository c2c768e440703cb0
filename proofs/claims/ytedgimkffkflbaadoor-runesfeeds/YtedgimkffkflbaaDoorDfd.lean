/-
  The document's checker: the checker with more bytes.
-/
import Derived.Test.YtedgimkffkflbaaDoorBgn
import Derived.Test.YtedgimkffkflbaaDoorROrd
import Derived.Test.YtedgimkffkflbaaDoorShf
namespace Go.Proofs.YtedgimkffkflbaaDoor
open Go.RowKit

/-- Bytes behind bytes, as one operation. -/
theorem wp_append_bytes {o : Oper} {a : Act} {w : World} {K : Act → World → Prop} {Q : Exit → Act → World → Prop} (s x : Operand)
    (ho : o.op = .call { callee := .builtin .append, args := #[s, x], argTypes := #[27, 27] }) (base : Nat) (v : Value) (n : Nat) (xs : List UInt8) (hs : a.eval s = v) (hown : w.ownsRow base 5 1 v n (cellsB xs))
    (sp : Option Addr) (l : List UInt8) (m c : Nat) (hx : a.eval x = .slice sp m c) (hm : m = l.length) (hb : Bts sp l w) (hnc : sp = none → c = 0) (hbytes : n + m ≤ 140737488355328) (hbase : base ≤ w.heap.size)
    (h : ∀ v' w', w'.ownsRow base 5 1 v' (n + m) (cellsB (xs ++ l)) → w.grownBy w' v.ownBlock → K (a.put o.dst v') w') : o.wp Tryd.prog a w K Q := by
  obtain ⟨i0, hi, hz0, hz1, hz2⟩ := info_parts info5
  subst hm
  cases sp with
  | none =>
    obtain rfl := bts_none hb
    obtain rfl := hnc rfl
    have hrun := run_append_owned_none (P := Tryd.prog) (w := w) base 27 o.type 5 i0 1 Tryd.underlying27 hi v n _ hown
    have hK := h v w (by simpa using hown) (World.grownBy.refl w _)
    rw [List.length_nil] at hx
    unfold Oper.wp
    simp [execOp, ho, resolve, invoke, builtin, hs, hx, hrun, Result.andThen]
    exact hK
  | some ad =>
    refine wp_append_own _ s x 27 ho base 5 i0 (.int .u8 0) 1 1 Tryd.underlying27 hi hz0 hz1 hz2 rfl (by decide) v n _ hs hown ad l.length c (cellsB l) hx (by rw [cellsB_length]; omega) (bts_news hb) (cellsB_one l) (by unfold maxLen; omega) (by omega) hbase ?_
    intro v' w' hown' hgrow _
    exact h v' w' (by rw [cellsB_append]; exact hown') hgrow

set_option maxHeartbeats 4000000 in
set_option maxRecDepth 100000 in
theorem dfeed_any (is : Bool) (a : Option Addr) (B : List UInt8) (n c : Nat) (a' : Option Addr) (P : List UInt8) (m c' : Nat) (w : World) (hn : n = B.length) (hB : Bts a B w) (hnc : a = none → c = 0) (hm : m = P.length) (hP : Bts a' P w) (hnc' : a' = none → c' = 0) (hs : n + m ≤ 140737488355328) :
    Calls Tryd.prog 23 #[.agg #[.bool is, .slice a n c], .slice a' m c'] w fun e w' => (∃ v, e = .returned (.agg #[.bool is, v]) ∧ w'.ownsRow w.heap.size 5 1 v (n + m) (cellsB (B ++ P))) ∧ Below w.heap.size w w' := by
  have HB : Hid (Bts a B w) := hB
  have HP : Hid (Bts a' P w) := hP
  have HN : Hid (n = B.length) := hn
  have HM : Hid (m = P.length) := hm
  have HC : Hid (a = none → c = 0) := hnc
  have HC' : Hid (a' = none → c' = 0) := hnc'
  have HX0 : Hid (Lies (((w.alloc (.cells #[.bool is, .slice a n c] 55)).alloc (.cells #[.bool false, .slice none 0 0] 55)).alloc (.cells #[] 5)) w.heap.size #[.bool is, .slice a n c] 55) := ((Lies.new w _ _).alloc _).alloc _
  have HX1 : Hid (Lies (((w.alloc (.cells #[.bool is, .slice a n c] 55)).alloc (.cells #[.bool false, .slice none 0 0] 55)).alloc (.cells #[] 5)) (w.heap.size + 1) #[.bool false, .slice none 0 0] 55) := by
    have h := (Lies.new (w.alloc (.cells #[.bool is, .slice a n c] 55)) #[.bool false, .slice none 0 0] 55).alloc (.cells #[] 5)
    rw [World.size_alloc] at h
    exact h
  have HW : Hid (Below w.heap.size w (((w.alloc (.cells #[.bool is, .slice a n c] 55)).alloc (.cells #[.bool false, .slice none 0 0] 55)).alloc (.cells #[] 5))) := (((Below.refl _ w).alloc (Nat.le_refl _) _).alloc (by simp) _).alloc (by simp; omega) _
  have HO : Hid ((((w.alloc (.cells #[.bool is, .slice a n c] 55)).alloc (.cells #[.bool false, .slice none 0 0] 55)).alloc (.cells #[] 5)).ownsRow (w.heap.size + 2) 5 1 (.slice (some ⟨w.heap.size + 1 + 1, 0, none⟩) 0 0) 0 (cellsB [])) := by
    have h : (((w.alloc (.cells #[.bool is, .slice a n c] 55)).alloc (.cells #[.bool false, .slice none 0 0] 55)).alloc (.cells #[] 5)).ownsRow ((w.alloc (.cells #[.bool is, .slice a n c] 55)).alloc (.cells #[.bool false, .slice none 0 0] 55)).heap.size 5 1 (.slice (some ⟨((w.alloc (.cells #[.bool is, .slice a n c] 55)).alloc (.cells #[.bool false, .slice none 0 0] 55)).heap.size, 0, none⟩) 0 0) 0 [] := World.ownsRow_made _ #[] 0 (Nat.le_refl _) (by unfold maxLen; omega) rfl
    simp only [World.size_alloc] at h
    exact h
  clear hB hP hn hm hnc hnc'
  go_enter Tryd.func23, Tryd.ntmps23
  go_wp2_with (at_builtin; refine wpList_append_keep rfl _ _ rfl (w.heap.size + 2) _ 0 [] rfl HO.out a B n c rfl HN.out (HB.out.below HW.out) HC.out (by omega) (by simp) ?_; intro v5 w5 ho5 hg5; apply Hid.out)
  unfold Hid
  have HO5 : Hid (w5.ownsRow (w.heap.size + 2) 5 1 v5 n (cellsB B)) := by
    show World.ownsRow _ _ _ _ _ _ _
    simpa using ho5
  have HW5 : Hid (Below w.heap.size w w5) := HW.out.grown hg5 HW.out.size (fun q hq => by have := (HO.out.lt q hq).1; omega)
  have HX5 : Hid (Lies w5 w.heap.size #[.bool is, .slice a n c] 55) := (hg5.block _ HX0.out.lt (fun e => by have := (HO.out.lt _ e.symm).1; omega)).trans HX0.out
  have HY5 : Hid (Lies w5 (w.heap.size + 1) #[.bool false, .slice none 0 0] 55) := (hg5.block _ HX1.out.lt (fun e => by have := (HO.out.lt _ e.symm).1; omega)).trans HX1.out
  clear ho5 hg5 HX0 HX1 HW HO
  go_wp2_with fail
  have hSS : w5.cell? ⟨w.heap.size, 0, none⟩ = some (.bool is) := HX5.out.cell 0
  refine wp_region_late (fun wx => wx.cell? ⟨w.heap.size, 0, none⟩ = some (.bool is)) 7 (by kernel_rfl) hSS (fun hHeld => ?_)
  refine wpAnyE_tk (i := 0) (d := some 10) (v := ?_) rfl (by kernel_rfl) (by kernel_rfl) (by kernel_rfl) rfl (fun _ _ _ h => h) rfl rfl ?hy (by assumption) ?_
  case hy => (intro w' hSw; (try dsimp only at hSw); go_simp <;> (try with_reducible rfl))
  simp only [Act.put, List.setIfInBounds_toArray, List.set_cons_zero, List.set_cons_succ]
  refine wpAnyE_tk (i := 1) (d := some 11) (v := .bool is) rfl (by kernel_rfl) (by kernel_rfl) (by kernel_rfl) rfl (fun _ _ _ h => h) rfl rfl ?hy (by assumption) ?_
  case hy => (intro w' hSw; (try dsimp only at hSw); go_simp <;> (try with_reducible rfl))
  simp only [Act.put, List.setIfInBounds_toArray, List.set_cons_zero, List.set_cons_succ]
  refine wpAnyE_tk (i := 2) (d := some 12) (v := ?_) rfl (by kernel_rfl) (by kernel_rfl) (by kernel_rfl) rfl (fun _ _ _ h => h) rfl rfl ?hy (by assumption) ?_
  case hy => (intro w' hSw; (try dsimp only at hSw); go_simp <;> (try with_reducible rfl))
  simp only [Act.put, List.setIfInBounds_toArray, List.set_cons_zero, List.set_cons_succ]
  refine wpAnyE_tk (i := 3) (d := some 13) (v := ?_) rfl (by kernel_rfl) (by kernel_rfl) (by kernel_rfl) rfl (fun _ _ _ h => h) rfl rfl ?hy (by assumption) ?_
  case hy => (intro w' hSw; (try dsimp only at hSw); go_simp <;> (try with_reducible rfl))
  simp only [Act.put, List.setIfInBounds_toArray, List.set_cons_zero, List.set_cons_succ]
  refine wpAnyE_on (i := 4) (by kernel_rfl) rfl rfl ?_
  refine wp_append_bytes _ _ rfl (w.heap.size + 2) v5 n B rfl (ownN_keep HO5.out (fun _ _ => rfl)) a' P m c' rfl HM.out (HP.out.below HW5.out.drew) HC'.out hs (by have := HY5.out.lt; show _ ≤ w5.heap.size; omega) ?_
  intro v6 w6 ho6 hg6
  obtain ⟨a6, c6, rfl⟩ := own_shape ho6
  have HO6 : Hid (w6.ownsRow (w.heap.size + 2) 5 1 (.slice a6 (n + m) c6) (n + m) (cellsB (B ++ P))) := ho6
  have HW6 : Hid (Below w.heap.size w w6) := HW5.out.drew.grown hg6 HW5.out.size (fun q hq => by have := (HO5.out.lt q hq).1; omega)
  have HX6 : Hid (Lies w6 w.heap.size #[.bool is, .slice a n c] 55) := (hg6.block _ HX5.out.lt (fun e => by have := (HO5.out.lt _ e.symm).1; omega)).trans HX5.out
  have HY6 : Hid (Lies w6 (w.heap.size + 1) #[.bool false, .slice none 0 0] 55) := (hg6.block _ HY5.out.lt (fun e => by have := (HO5.out.lt _ e.symm).1; omega)).trans HY5.out
  have hSS6 : w6.cell? ⟨w.heap.size, 0, none⟩ = some (.bool is) := HX6.out.cell 0
  clear ho6 hg6 HO5 HW5 HX5 HY5 hHeld hSS
  refine ⟨.inr hSS6, ?_⟩
  dsimp only [Act.put]
  simp only [List.setIfInBounds_toArray]
  refine wpAnyE_tk (i := 5) (d := some 15) (v := .agg #[.bool is, .slice a6 (n + m) c6]) rfl (by kernel_rfl) (by kernel_rfl) (by kernel_rfl) rfl (fun _ _ _ h => h) rfl rfl ?hy (by assumption) ?_
  case hy => (intro w' hSw; (try dsimp only at hSw); go_simp <;> (try with_reducible rfl))
  simp only [Act.put]
  have f0 := HY6.out.frozen 0
  have f1 := HY6.out.frozen 1
  have y0 := HY6.out.cell 0
  have y1 := HY6.out.cell 1
  simp only [List.getElem?_toArray, List.getElem?_cons_zero, List.getElem?_cons_succ] at y0 y1
  have hlt := HY6.out.lt
  refine wpAnyE_on (i := 6) (by kernel_rfl) rfl rfl ?_
  go_simp
  have HZ : Hid (Lies ((w6.setCell ⟨w.heap.size + 1, 0, none⟩ (.bool is)).setCell ⟨w.heap.size + 1, 1, none⟩ (.slice a6 (n + m) c6)) (w.heap.size + 1) #[.bool is, .slice a6 (n + m) c6] 55) := (HY6.out.set 0 _).set 1 _
  have HWZ : Hid (Below w.heap.size w ((w6.setCell ⟨w.heap.size + 1, 0, none⟩ (.bool is)).setCell ⟨w.heap.size + 1, 1, none⟩ (.slice a6 (n + m) c6))) := (HW6.out.setCell (p := ⟨w.heap.size + 1, 0, none⟩) (by show _ ≤ w.heap.size + 1; omega) _).setCell (p := ⟨w.heap.size + 1, 1, none⟩) (by show _ ≤ w.heap.size + 1; omega) _
  have HOZ : Hid (((w6.setCell ⟨w.heap.size + 1, 0, none⟩ (.bool is)).setCell ⟨w.heap.size + 1, 1, none⟩ (.slice a6 (n + m) c6)).ownsRow w.heap.size 5 1 (.slice a6 (n + m) c6) (n + m) (cellsB (B ++ P))) := base_le (ownN_keep (ownN_keep HO6.out (fun q hq => Below.heap_setCell _ _ _ q (by have := (HO6.out.lt q hq).1; show q ≠ w.heap.size + 1; omega))) (fun q hq => Below.heap_setCell _ _ _ q (by have := (HO6.out.lt q hq).1; show q ≠ w.heap.size + 1; omega))) (by omega)
  have hSZ : ((w6.setCell ⟨w.heap.size + 1, 0, none⟩ (.bool is)).setCell ⟨w.heap.size + 1, 1, none⟩ (.slice a6 (n + m) c6)).cell? ⟨w.heap.size, 0, none⟩ = some (.bool is) := ((HX6.out.set_other (a := ⟨w.heap.size + 1, 0, none⟩) (by show w.heap.size ≠ w.heap.size + 1; omega) _).set_other (a := ⟨w.heap.size + 1, 1, none⟩) (by show w.heap.size ≠ w.heap.size + 1; omega) _).cell 0
  have z0 := HZ.out.cell 0
  have z1 := HZ.out.cell 1
  simp only [List.getElem?_toArray, List.getElem?_cons_zero, List.getElem?_cons_succ] at z0 z1
  clear f0 f1 y0 y1 hlt HO6 HW6 HX6 HY6 hSS6
  clear hSZ
  refine ⟨by kernel_rfl, ?_⟩
  go_wp2
  (try simp only [Exit.inBlock, Exit.then])
  refine bodyPost_ret (v := .agg #[.bool is, .slice a6 (n + m) c6]) (by simp [results, Tryd.results23, go_sem, z0, z1]) rfl ⟨⟨_, rfl, HOZ.out⟩, HWZ.out⟩
end Go.Proofs.YtedgimkffkflbaaDoor
