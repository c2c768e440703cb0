/-
  The program's written.
-/
import Derived.Test.YthkoionigdnhgabGreatDoorXp9
import Derived.Test.YthkoionigdnhgabGreatDoorCk8
import Derived.Test.YthkoionigdnhgabGreatDoorLt8
import Derived.Test.YthkoionigdnhgabGreatDoorShr
import Derived.Test.YthkoionigdnhgabGreatDoorQi9
import Derived.Test.YthkoionigdnhgabGreatDoorPtN
import Derived.Test.YthkoionigdnhgabGreatDoorRowl
namespace Go.Proofs.YthkoionigdnhgabGreatDoor
open Go.RowKit

theorem Td.drew {w : World} (h : Td w) : Td w.drew := h.below (Below.refl _ w).drew
theorem wrL_len (l : List UInt8) : (wrL l).length ≤ 2 * l.length + 2 := by
  unfold wrL
  split
  · omega
  · have := escL_two l
    simp only [List.length_cons, List.length_append, List.length_nil]
    omega
theorem nms_len (r : List Ho) (h16 : r.length ≤ 1000) (hn : ∀ x ∈ r, x.n.length ≤ 1000) : (nmsR r).length ≤ 1002001 := by
  unfold nmsR
  split
  · simp
  · have := join_len 1001 (r.map atN) (fun x hx => by
      rw [List.mem_map] at hx
      obtain ⟨y, hy, rfl⟩ := hx
      have := hn y hy
      simp only [atN, List.length_cons]
      omega)
    rw [List.length_map] at this
    have h2 : 1002 * r.length ≤ 1002 * 1000 := Nat.mul_le_mul_left _ h16
    rw [List.length_append, List.length_singleton]
    omega
set_option maxHeartbeats 8000000 in
set_option maxRecDepth 100000 in
theorem written_any (k : Int) (sp : Option Addr) (c : Nat) (r : List Ho) (l : List UInt8) (h : Ho) (w : World) (hr : RtM w sp r) (h16 : r.length ≤ 1000) (okr : ∀ x ∈ r, x.a.length = 16 ∧ x.n.length ≤ 1000 ∧ wrH x = x.n) (ok : h.Ok) (hn : h.n.length ≤ 140737488355328) (hl : l.length ≤ 140737488355328) (hw : (wrH h).length ≤ 140737488355328) (hT : Td w) (hrep : RepOk (txt l) w) :
    Calls Tryz.prog 55 #[.agg (pthC k (.slice sp r.length c) l h)] w fun e w' => e = .returned (.string (txt (wrP ⟨k, r, l, h⟩))) ∧ Below w.heap.size w w' := by
  have hPz := pthC_size k (.slice sp r.length c) l h ok.len
  have hBz := boxC_size l h ok.len
  obtain ⟨B, hB⟩ : ∃ B, B = boxC l h := ⟨_, rfl⟩
  obtain ⟨P, hP⟩ : ∃ P, P = pthC k (.slice sp r.length c) l h := ⟨_, rfl⟩
  rw [← hP] at hPz ⊢
  rw [← hB] at hBz
  have p0 : Hid (P[0]? = some (.int .i64 k)) := by show _ = _; rw [hP]; unfold pthC; rw [Array.getElem?_append_left (by simp)]; rfl
  have p1 : Hid (P[1]? = some (.slice sp r.length c)) := by show _ = _; rw [hP]; unfold pthC; rw [Array.getElem?_append_left (by simp)]; rfl
  have p2 : Hid (∀ j v, B.toList[j]? = some v → P[2 + j]? = some v) := fun j v hv => by
    have e : P = #[.int .i64 k, .slice sp r.length c] ++ B := by
      rw [hP, hB]
      unfold pthC boxC
      rw [← Array.append_assoc]
      rfl
    rw [e, Array.getElem?_append_right (by simp)]
    simp only [List.size_toArray, List.length_cons, List.length_nil]
    rw [show 2 + j - (0 + 1 + 1) = j from by omega]
    simpa using hv
  have eB : B.toList.toArray = B := by simp
  have L1 : Hid (Lies (w.alloc (.cells P 32)) w.heap.size P 32) := Lies.new w _ _
  have KB : Hid (Below w.heap.size w (w.alloc (.cells P 32))) := (Below.refl _ _).alloc (Nat.le_refl _) _
  have HRR : Hid (∀ wx, Below w.heap.size w wx → Calls Tryz.prog 89 #[.slice sp r.length c] wx fun e w' => e = .returned (.string (txt (nmsR r))) ∧ Below wx.heap.size wx w') := fun wx hx => wroute_any sp c r wx (hr.below hx) h16 (fun x hxr => ⟨(okr x hxr).1, (okr x hxr).2.1⟩)
  have HBB : Hid (∀ wx, Below w.heap.size w wx → Calls Tryz.prog 90 #[.agg B] wx fun e w' => e = .returned (.string (txt (wrB l h))) ∧ Below wx.heap.size wx w') := fun wx hx => by
    rw [hB]
    exact wbox_any l h ok hn hl hw wx (hT.below hx) (hrep.later hx)
  have hz1 := nms_len r h16 (fun x hx => (okr x hx).2.1)
  have hnw := nms_wr r (fun x hx => (okr x hx).2.2)
  have hz2 : (wrB l h).length ≤ 422212465065987 := by
    unfold wrB
    have := wrL_len l
    rw [List.length_append, List.length_cons]
    omega
  obtain ⟨T1, hT1⟩ : ∃ T1, T1 = txt (nmsR r) := ⟨_, rfl⟩
  obtain ⟨T2, hT2⟩ : ∃ T2, T2 = txt (wrB l h) := ⟨_, rfl⟩
  have z1 : T1.size ≤ 1002001 := by rw [hT1, txt_size]; exact hz1
  have z2 : T2.size ≤ 422212465065987 := by rw [hT2, txt_size]; exact hz2
  have HTT : Hid (txt (60 :: (wrR r ++ wrB l h ++ [62])) = ⟨#[60]⟩ ++ T1 ++ T2 ++ ⟨#[62]⟩) := by
    show _ = _
    rw [hT1, hT2, hnw, show (⟨#[60]⟩ : ByteArray) = txt [60] from rfl, show (⟨#[62]⟩ : ByteArray) = txt [62] from rfl, txt_cat, txt_cat, txt_cat]
    rfl
  rw [← hT1] at HRR
  rw [← hT2] at HBB
  clear hP hB hr okr hT hrep hT1 hT2 hz1 hz2 hnw
  obtain ⟨X, hX⟩ : ∃ X, X = wrP ⟨k, r, l, h⟩ := ⟨_, rfl⟩
  rw [← hX]
  have HX : Hid (X = wrP ⟨k, r, l, h⟩) := hX
  clear hX
  go_enter Tryz.func55, Tryz.ntmps55
  go_upto_region 1 with fail
  generalize w.alloc (.cells P 32) = v0 at L1 KB ⊢
  have c0 : v0.cell? ⟨w.heap.size, 0, none⟩ = some (.int .i64 k) := (L1.out.cell 0).trans p0.out
  by_cases k1 : k = 1
  · have k1b : (k == 1) = true := by rw [k1]; rfl
    have HV : Hid (X = [60, 62]) := by show _ = _; rw [HX.out]; unfold wrP; rw [if_pos k1]
    clear k1 HX HRR HBB p0 p1 p2 HTT
    go_wp2_with fail
    go_ret
    exact ⟨by rw [HV.out]; rfl, KB.out⟩
  have k1b : (k == 1) = false := by rw [beq_eq_false_iff_ne]; exact k1
  by_cases k2 : k = 2
  · have k2b : (k == 2) = true := by rw [k2]; rfl
    have HV : Hid (X = 60 :: (pmL ++ [62])) := by show _ = _; rw [HX.out]; unfold wrP; rw [if_neg k1, if_pos k2]
    clear k1 k2 HX HRR HBB p0 p1 p2 HTT
    go_wp2_with fail
    go_ret
    exact ⟨by rw [HV.out]; rfl, KB.out⟩
  have k2b : (k == 2) = false := by rw [beq_eq_false_iff_ne]; exact k2
  have HV : Hid (txt X = ⟨#[60]⟩ ++ T1 ++ T2 ++ ⟨#[62]⟩) := by show _ = _; rw [HX.out, ← HTT.out]; unfold wrP; rw [if_neg k1, if_neg k2]
  have HWR : Hid (∀ wx, Below v0.heap.size v0 wx → Calls Tryz.prog 89 #[.slice sp r.length c] wx fun e w' => e = .returned (.string T1) ∧ Below wx.heap.size wx w') := fun wx hx => HRR.out wx (KB.out.trans (hx.mono KB.out.size))
  have HWB : Hid (∀ wx, Below v0.heap.size v0 wx → Calls Tryz.prog 90 #[.agg B] wx fun e w' => e = .returned (.string T2) ∧ Below wx.heap.size wx w') := fun wx hx => HBB.out wx (KB.out.trans (hx.mono KB.out.size))
  have ad1 : ∀ W, (Op.stringOp .add ⟨#[60]⟩ T1).run Tryz.prog W = .ok (.string (⟨#[60]⟩ ++ T1)) W := fun W => run_string_add_sum _ _ _ (by show 1 + T1.size ≤ _; omega)
  have ad2 : ∀ W, (Op.stringOp .add (⟨#[60]⟩ ++ T1) T2).run Tryz.prog W = .ok (.string (⟨#[60]⟩ ++ T1 ++ T2)) W := fun W => run_string_add_sum _ _ _ (by rw [ByteArray.size_append]; show 1 + T1.size + T2.size ≤ _; omega)
  have ad3 : ∀ W, (Op.stringOp .add (⟨#[60]⟩ ++ T1 ++ T2) ⟨#[62]⟩).run Tryz.prog W = .ok (.string (⟨#[60]⟩ ++ T1 ++ T2 ++ ⟨#[62]⟩)) W := fun W => run_string_add_sum _ _ _ (by rw [ByteArray.size_append, ByteArray.size_append]; show 1 + T1.size + T2.size + 1 ≤ _; omega)
  clear k1 k2 HX HTT HRR HBB
  go_upto_region 6 with fail
  refine wp_region_late (fun wx => Below v0.heap.size v0 wx) 10 (by kernel_rfl) (Below.refl _ v0).drew (fun hHeld => ?_)
  refine wpAnyE_tk (i := 0) (d := some 9) (v := .pointer (some ⟨w.heap.size, 1, none⟩)) rfl (by kernel_rfl) (by kernel_rfl) (by kernel_rfl) rfl (fun _ _ _ h => h) rfl rfl ?hy (by assumption) ?_
  case hy => (intro w' hSw; (try dsimp only at hSw); go_simp <;> (first | with_reducible rfl | omega | skip))
  simp only [Act.put, List.setIfInBounds_toArray, List.set_cons_zero, List.set_cons_succ]
  refine wpAnyE_tk (i := 1) (d := some 10) (v := .slice sp r.length c) rfl (by kernel_rfl) (by kernel_rfl) (by kernel_rfl) rfl (fun _ _ _ h => h) rfl rfl ?hy (by assumption) ?_
  case hy => (intro w' hSw; have hq1 := ((L1.out.below hSw L1.out.lt).cell 1).trans p1.out; go_simp <;> (first | with_reducible rfl | omega | skip))
  simp only [Act.put, List.setIfInBounds_toArray, List.set_cons_zero, List.set_cons_succ]
  refine wpAnyE_tk (i := 4) (d := some 13) (v := .pointer (some ⟨w.heap.size, 2, none⟩)) rfl (by kernel_rfl) (by kernel_rfl) (by kernel_rfl) rfl (fun _ _ _ h => h) rfl rfl ?hy (by assumption) ?_
  case hy => (intro w' hSw; (try dsimp only at hSw); go_simp <;> (first | with_reducible rfl | omega | skip))
  simp only [Act.put, List.setIfInBounds_toArray, List.set_cons_zero, List.set_cons_succ]
  refine wpAnyE_tk (i := 5) (d := some 14) (v := .agg B) rfl (by kernel_rfl) (by kernel_rfl) (by kernel_rfl) rfl (fun _ _ _ h => h) rfl rfl ?hy (by assumption) ?_
  case hy => (intro w' hSw; have := fun op a ho hx => exec_mid9 (P := Tryz.prog) (op := op) (a := a) 30 (.tmp 13) ho w.heap.size 2 hx B.toList _ (fun j v hv => ((L1.out.below hSw L1.out.lt).cell (2 + j)).trans (p2.out j v hv)) Tryz.underlying30 rfl (by rw [Array.length_toList, hBz]; exact infoBx); rw [eB] at this; exact this _ _ rfl rfl)
  simp only [Act.put, List.setIfInBounds_toArray, List.set_cons_zero, List.set_cons_succ]
  refine wpAnyE_on (i := 2) (by kernel_rfl) rfl rfl ?_
  refine oper_call (some 11) 89 #[.slice sp r.length c] (fun v w' => v = .string T1 ∧ Below v0.heap.size v0 w') rfl (by go_simp) ((HWR.out _ (Below.refl _ v0).drew).mono (fun e w' q => ⟨_, q.1, rfl, (Below.refl _ v0).drew.trans q.2⟩)) ?_
  rintro v y1 ⟨rfl, hy1⟩
  refine ⟨Or.inr hy1, ?_⟩
  simp only [Act.put, List.setIfInBounds_toArray, List.set_cons_zero, List.set_cons_succ]
  refine wpAnyE_tk (i := 3) (d := some 12) (v := .string (⟨#[60]⟩ ++ T1)) rfl (by kernel_rfl) (by kernel_rfl) (by kernel_rfl) rfl (fun _ _ _ h => h) rfl rfl ?hy (by assumption) ?_
  case hy => (intro w' hSw; (try dsimp only at hSw); go_simp <;> (first | with_reducible rfl | omega | skip))
  simp only [Act.put, List.setIfInBounds_toArray, List.set_cons_zero, List.set_cons_succ]
  refine wpAnyE_on (i := 6) (by kernel_rfl) rfl rfl ?_
  refine oper_call (some 15) 90 #[.agg B] (fun v w' => v = .string T2 ∧ Below v0.heap.size v0 w') rfl (by go_simp) ((HWB.out _ hy1).mono (fun e w' q => ⟨_, q.1, rfl, hy1.trans (q.2.mono hy1.size)⟩)) ?_
  rintro v y2 ⟨rfl, hy2⟩
  refine ⟨Or.inr hy2, ?_⟩
  simp only [Act.put, List.setIfInBounds_toArray, List.set_cons_zero, List.set_cons_succ]
  refine wpAnyE_tk (i := 7) (d := some 16) (v := .string (⟨#[60]⟩ ++ T1 ++ T2)) rfl (by kernel_rfl) (by kernel_rfl) (by kernel_rfl) rfl (fun _ _ _ h => h) rfl rfl ?hy (by assumption) ?_
  case hy => (intro w' hSw; (try dsimp only at hSw); go_simp <;> (first | with_reducible rfl | omega | skip))
  simp only [Act.put, List.setIfInBounds_toArray, List.set_cons_zero, List.set_cons_succ]
  refine wpAnyE_tk (i := 8) (d := some 17) (v := .string (⟨#[60]⟩ ++ T1 ++ T2 ++ ⟨#[62]⟩)) rfl (by kernel_rfl) (by kernel_rfl) (by kernel_rfl) rfl (fun _ _ _ h => h) rfl rfl ?hy (by assumption) ?_
  case hy => (intro w' hSw; (try dsimp only at hSw); go_simp <;> (first | with_reducible rfl | omega | skip))
  simp only [Act.put, List.setIfInBounds_toArray, List.set_cons_zero, List.set_cons_succ]
  refine wpAnyE_tk (i := 9) (d := some 2) (v := .string (⟨#[60]⟩ ++ T1 ++ T2 ++ ⟨#[62]⟩)) rfl (by kernel_rfl) (by kernel_rfl) (by kernel_rfl) rfl (fun _ _ _ h => h) rfl rfl ?hy (by assumption) ?_
  case hy => (intro w' hSw; (try dsimp only at hSw); go_simp <;> (first | with_reducible rfl | omega | skip))
  simp only [Act.put, List.setIfInBounds_toArray, List.set_cons_zero, List.set_cons_succ]
  refine wpAnyE_done (by kernel_rfl) ?_ _
  clear hHeld
  go_wp2_with fail
  go_ret
  exact ⟨by rw [HV.out]; rfl, KB.out.trans (hy2.mono KB.out.size)⟩
end Go.Proofs.YthkoionigdnhgabGreatDoor
/-
  Steps through a statement whose order is the text's, one operation at a time.
-/
namespace Go.Proofs.YthkoionigdnhgabGreatDoor
open Go.RowKit

theorem wpList_yieldG {P : Program} {ops : Array Oper} {rest : List Oper} {op : Oper} {a : Act} {w : World} {Q : Exit → Act → World → Prop} (v : Value) (hw : Region.wanted op (yielded ops a.tmps) = true)
    (hy : (execOp a.eval op).run P w = .ok (.value v) w) (h : wpList P ops Q rest (a.put op.dst v) w) : wpList P ops Q (op :: rest) a w := by
  unfold wpList
  rw [if_pos hw]
  left
  unfold Oper.wp
  rw [hy]
  exact h
end Go.Proofs.YthkoionigdnhgabGreatDoor
/-
  The program's route.
-/
namespace Go.Proofs.YthkoionigdnhgabGreatDoor
open Go.RowKit

theorem But.grown {g : Nat} {a b c : World} {row : Option Nat} (h : But g a b) (hg : b.grownBy c row) (hr : ∀ k, row = some k → a.heap.size ≤ k) : But g a c := by
  have h1 := (Below.refl b.heap.size b)
  refine ⟨?_, ?_, ?_, ?_, fun j hj hne => ?_⟩
  · exact (Below.grown (B := a.heap.size) (Below.refl _ _) hg h.size hr).os.trans h.os
  · exact (Below.grown (B := a.heap.size) (Below.refl _ _) hg h.size hr).tape.trans h.tape
  · exact (Below.grown (B := a.heap.size) (Below.refl _ _) hg h.size hr).output.trans h.output
  · exact Nat.le_trans h.size (Below.grown (B := a.heap.size) (Below.refl _ _) hg h.size hr).size
  · exact ((Below.grown (B := a.heap.size) (Below.refl _ _) hg h.size hr).block j hj).trans (h.block j hj hne)
/-- The place of a reader. -/
def plOf (w : World) (b : Nat) : Nat := match w.cell? ⟨b, 1, none⟩ with
  | some (.int _ n) => n.toNat
  | _ => 0
theorem RdAt.pl {w : World} {b : Nat} {s : ByteArray} {a : Nat} {wide : Bool} {er p : Nat} (h : RdAt w b s a wide er p) : plOf w b = a := by
  unfold plOf
  rw [h.cells.2.1]
  simp

end Go.Proofs.YthkoionigdnhgabGreatDoor
/-
  The program's path.
-/
namespace Go.Proofs.YthkoionigdnhgabGreatDoor
open Go.RowKit

theorem wpList_load_row9 {P : Program} {ops : Array Oper} {rest : List Oper} {op : Oper} {a : Act} {w : World} {Q : Exit → Act → World → Prop} (hw : Region.wanted op (yielded ops a.tmps) = true) (ty : TypeId) (x : Operand) (ho : op.op = .load ty x)
    (g : Nat) (hx : a.eval x = .pointer (some ⟨g, 0, none⟩)) (cs : Array Value) (t : TypeId) (d : TypeDesc) (hc : Lies w g cs t)
    (hu : P.underlying ty = some d) (hd : (match d with | .struct _ | .array _ _ => true | _ => false) = true) (hi : (P.info? ty).map (·.size) = some cs.size)
    (h : wpList P ops Q rest (a.put op.dst (.agg cs)) w) : wpList P ops Q (op :: rest) a w := by
  unfold wpList
  rw [if_pos hw]
  left
  unfold Oper.wp
  rw [exec_load_row ty x ho g hx cs t d hc hu hd hi]
  exact h
theorem gPow : Tryz.prog.globalNamed "internal/strconv.uint64pow10" = some 7 := by kernel_rfl
theorem pth_box (k : Int) (sl : Value) (l : List UInt8) (h : Ho) : pthC k sl l h = #[.int .i64 k, sl] ++ boxC l h := by
  unfold pthC boxC
  rw [← Array.append_assoc]
  rfl
end Go.Proofs.YthkoionigdnhgabGreatDoor
