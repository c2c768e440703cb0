/-
  The document's Parse: addresses of the fourth kind.
-/
import Derived.Test.YtnlgbopdbihnjaaGreatDoorRpa8
import Derived.Test.YtnlgbopdbihnjaaGreatDoorRpb8
import Derived.Test.YtnlgbopdbihnjaaGreatDoorRa8
import Derived.Test.YtnlgbopdbihnjaaGreatDoorRt8
namespace Go.Proofs.YtnlgbopdbihnjaaGreatDoor
open Go.RowKit

set_option maxHeartbeats 8000000 in
set_option maxRecDepth 100000 in
theorem rpa_four_no (s t : ByteArray) (wide : Bool) (w : World) (hem : s.toList.isEmpty = false) (h0n : 0 < s.size) (n91 : ((s[0].toNat : Int) != 91) = false) (h255' : ¬ (255 : Int) < (s.size : Int)) (hln : s.size - 1 < s.size) (hn1 : (s.size : Int) - 1 < (s.size : Int)) (n93 : ((s[s.size - 1].toNat : Int) != 93) = false) (hn2 : (1 : Int) ≤ (s.size : Int) - 1) (htx : s.extract 1 (s.size - 1) = t) (V : Array Value) (er p : Nat) (hVz : V.size = 4) (hVo : V.all (·.oneCell') = true) (h1 : ((er : Int) != 0) = true) (hp : p ≤ 1000) (HS : Hid (∀ wx, Below w.heap.size w wx → Calls Tryz.prog 52 #[.string t] wx fun e w' => e = .returned (.bool false) ∧ Below wx.heap.size wx w')) (HC : Hid (∀ wx, Below w.heap.size w wx → Calls Tryz.prog 53 #[.string t, .string ⟨#[58]⟩] wx fun e w' => e = .returned (.bool false) ∧ Below wx.heap.size wx w')) (HV : Hid (∀ wx, Below w.heap.size w wx → Calls Tryz.prog 24 #[.string t] wx fun e w' => e = .returned (.tuple #[.agg V, .agg #[.int .i64 (er : Int), .int .i64 (p : Int)]]) ∧ Below wx.heap.size wx w')) :
    Calls Tryz.prog 17 #[.string s, .bool wide] w fun e w' => e = .returned (.tuple #[hostV ho0, .agg (spotV (er, p + 1))]) ∧ Below w.heap.size w w' := by
  have L1 : Hid (Lies ((w.alloc (.cells #[.int .i64 0, .string ⟨#[]⟩, .int .u8 0, .int .u8 0, .int .u8 0, .int .u8 0, .int .u8 0, .int .u8 0, .int .u8 0, .int .u8 0, .int .u8 0, .int .u8 0, .int .u8 0, .int .u8 0, .int .u8 0, .int .u8 0, .int .u8 0, .int .u8 0] 28)).alloc (.cells #[.int .i64 0, .int .i64 0] 30)) w.heap.size #[.int .i64 0, .string ⟨#[]⟩, .int .u8 0, .int .u8 0, .int .u8 0, .int .u8 0, .int .u8 0, .int .u8 0, .int .u8 0, .int .u8 0, .int .u8 0, .int .u8 0, .int .u8 0, .int .u8 0, .int .u8 0, .int .u8 0, .int .u8 0, .int .u8 0] 28) := (Lies.new w _ _).alloc _
  have L2 : Hid (Lies ((w.alloc (.cells #[.int .i64 0, .string ⟨#[]⟩, .int .u8 0, .int .u8 0, .int .u8 0, .int .u8 0, .int .u8 0, .int .u8 0, .int .u8 0, .int .u8 0, .int .u8 0, .int .u8 0, .int .u8 0, .int .u8 0, .int .u8 0, .int .u8 0, .int .u8 0, .int .u8 0] 28)).alloc (.cells #[.int .i64 0, .int .i64 0] 30)) (w.heap.size + 1) #[.int .i64 0, .int .i64 0] 30) := new_one w _ _ _
  have KB : Hid (Below w.heap.size w ((w.alloc (.cells #[.int .i64 0, .string ⟨#[]⟩, .int .u8 0, .int .u8 0, .int .u8 0, .int .u8 0, .int .u8 0, .int .u8 0, .int .u8 0, .int .u8 0, .int .u8 0, .int .u8 0, .int .u8 0, .int .u8 0, .int .u8 0, .int .u8 0, .int .u8 0, .int .u8 0] 28)).alloc (.cells #[.int .i64 0, .int .i64 0] 30))) := ((Below.refl _ _).alloc (Nat.le_refl _) _).alloc (by simp) _
  go_enter Tryz.func17, Tryz.ntmps17
  go_upto_region 1 with fail
  generalize (w.alloc (.cells #[.int .i64 0, .string ⟨#[]⟩, .int .u8 0, .int .u8 0, .int .u8 0, .int .u8 0, .int .u8 0, .int .u8 0, .int .u8 0, .int .u8 0, .int .u8 0, .int .u8 0, .int .u8 0, .int .u8 0, .int .u8 0, .int .u8 0, .int .u8 0, .int .u8 0] 28)).alloc (.cells #[.int .i64 0, .int .i64 0] 30) = wA at L1 L2 KB ⊢
  have hzA := L2.out.lt
  go_upto_region 11 with fail
  clear hem n91 h255' n93 hn2 htx
  go_wp2_with fail
  refine Calls.mono (HS.out _ KB.out) ?_
  rintro e y1 ⟨rfl, hc⟩
  have KB1 : Hid (Below w.heap.size w y1) := KB.out.trans ((hc).mono KB.out.size)
  have L1n : Hid (Lies y1 w.heap.size #[.int .i64 0, .string ⟨#[]⟩, .int .u8 0, .int .u8 0, .int .u8 0, .int .u8 0, .int .u8 0, .int .u8 0, .int .u8 0, .int .u8 0, .int .u8 0, .int .u8 0, .int .u8 0, .int .u8 0, .int .u8 0, .int .u8 0, .int .u8 0, .int .u8 0] 28) := L1.out.below (hc) L1.out.lt
  clear L1
  have L1 := L1n
  clear L1n
  have L2n : Hid (Lies y1 (w.heap.size + 1) #[.int .i64 0, .int .i64 0] 30) := L2.out.below (hc) L2.out.lt
  clear L2
  have L2 := L2n
  clear L2n
  clear KB
  clear hc
  go_wp2_with fail
  refine Calls.mono (HC.out _ KB1.out) ?_
  rintro e y2 ⟨rfl, hc⟩
  have KB2 : Hid (Below w.heap.size w y2) := KB1.out.trans ((hc).mono KB1.out.size)
  have L1n : Hid (Lies y2 w.heap.size #[.int .i64 0, .string ⟨#[]⟩, .int .u8 0, .int .u8 0, .int .u8 0, .int .u8 0, .int .u8 0, .int .u8 0, .int .u8 0, .int .u8 0, .int .u8 0, .int .u8 0, .int .u8 0, .int .u8 0, .int .u8 0, .int .u8 0, .int .u8 0, .int .u8 0] 28) := L1.out.below (hc) L1.out.lt
  clear L1
  have L1 := L1n
  clear L1n
  have L2n : Hid (Lies y2 (w.heap.size + 1) #[.int .i64 0, .int .i64 0] 30) := L2.out.below (hc) L2.out.lt
  clear L2
  have L2 := L2n
  clear L2n
  clear KB1
  clear hc
  go_wp2_with fail
  refine Calls.mono (HV.out _ KB2.out) ?_
  rintro e y3 ⟨rfl, hc⟩
  have KB3 : Hid (Below w.heap.size w y3) := KB2.out.trans ((hc).mono KB2.out.size)
  have L1n : Hid (Lies y3 w.heap.size #[.int .i64 0, .string ⟨#[]⟩, .int .u8 0, .int .u8 0, .int .u8 0, .int .u8 0, .int .u8 0, .int .u8 0, .int .u8 0, .int .u8 0, .int .u8 0, .int .u8 0, .int .u8 0, .int .u8 0, .int .u8 0, .int .u8 0, .int .u8 0, .int .u8 0] 28) := L1.out.below (hc) L1.out.lt
  clear L1
  have L1 := L1n
  clear L1n
  have L2n : Hid (Lies y3 (w.heap.size + 1) #[.int .i64 0, .int .i64 0] 30) := L2.out.below (hc) L2.out.lt
  clear L2
  have L2 := L2n
  clear L2n
  clear KB2
  clear hc
  have hgt : w.heap.size + 1 < y3.heap.size := L2.out.lt
  have A : Hid (Lies ((y3.alloc (.cells #[.int .u8 0, .int .u8 0, .int .u8 0, .int .u8 0] 46)).alloc (.cells #[.int .i64 0, .int .i64 0] 30)) y3.heap.size #[.int .u8 0, .int .u8 0, .int .u8 0, .int .u8 0] 46) := (Lies.new y3 _ _).alloc _
  have B : Hid (Lies ((y3.alloc (.cells #[.int .u8 0, .int .u8 0, .int .u8 0, .int .u8 0] 46)).alloc (.cells #[.int .i64 0, .int .i64 0] 30)) (y3.heap.size + 1) #[.int .i64 0, .int .i64 0] 30) := new_one y3 _ _ _
  have M1 : Hid (Lies ((((y3.alloc (.cells #[.int .u8 0, .int .u8 0, .int .u8 0, .int .u8 0] 46)).alloc (.cells #[.int .i64 0, .int .i64 0] 30)).setRow y3.heap.size V).setRow (y3.heap.size + 1) #[.int .i64 (er : Int), .int .i64 (p : Int)]) y3.heap.size V 46) := (A.out.row _).row_other (by omega) _
  have N1 : Hid (Lies ((((y3.alloc (.cells #[.int .u8 0, .int .u8 0, .int .u8 0, .int .u8 0] 46)).alloc (.cells #[.int .i64 0, .int .i64 0] 30)).setRow y3.heap.size V).setRow (y3.heap.size + 1) #[.int .i64 (er : Int), .int .i64 (p : Int)]) (y3.heap.size + 1) #[.int .i64 (er : Int), .int .i64 (p : Int)] 30) := (B.out.row_other (by omega) _).row _
  have BB : Hid (Below y3.heap.size y3 ((((y3.alloc (.cells #[.int .u8 0, .int .u8 0, .int .u8 0, .int .u8 0] 46)).alloc (.cells #[.int .i64 0, .int .i64 0] 30)).setRow y3.heap.size V).setRow (y3.heap.size + 1) #[.int .i64 (er : Int), .int .i64 (p : Int)])) := below_row (below_row (((Below.refl _ _).alloc (Nat.le_refl _) _).alloc (by simp) _) (Nat.le_refl _) _) (by omega) _
  have KB4 : Hid (Below w.heap.size w ((((y3.alloc (.cells #[.int .u8 0, .int .u8 0, .int .u8 0, .int .u8 0] 46)).alloc (.cells #[.int .i64 0, .int .i64 0] 30)).setRow y3.heap.size V).setRow (y3.heap.size + 1) #[.int .i64 (er : Int), .int .i64 (p : Int)])) := KB3.out.trans ((BB.out).mono KB3.out.size)
  have L1n : Hid (Lies ((((y3.alloc (.cells #[.int .u8 0, .int .u8 0, .int .u8 0, .int .u8 0] 46)).alloc (.cells #[.int .i64 0, .int .i64 0] 30)).setRow y3.heap.size V).setRow (y3.heap.size + 1) #[.int .i64 (er : Int), .int .i64 (p : Int)]) w.heap.size #[.int .i64 0, .string ⟨#[]⟩, .int .u8 0, .int .u8 0, .int .u8 0, .int .u8 0, .int .u8 0, .int .u8 0, .int .u8 0, .int .u8 0, .int .u8 0, .int .u8 0, .int .u8 0, .int .u8 0, .int .u8 0, .int .u8 0, .int .u8 0, .int .u8 0] 28) := L1.out.below (BB.out) L1.out.lt
  clear L1
  have L1 := L1n
  clear L1n
  have L2n : Hid (Lies ((((y3.alloc (.cells #[.int .u8 0, .int .u8 0, .int .u8 0, .int .u8 0] 46)).alloc (.cells #[.int .i64 0, .int .i64 0] 30)).setRow y3.heap.size V).setRow (y3.heap.size + 1) #[.int .i64 (er : Int), .int .i64 (p : Int)]) (w.heap.size + 1) #[.int .i64 0, .int .i64 0] 30) := L2.out.below (BB.out) L2.out.lt
  clear L2
  have L2 := L2n
  clear L2n
  clear KB3
  go_upto_region 22 with (first | (refine wpList_store_row rfl 46 _ _ rfl y3.heap.size rfl _ V rfl 46 A.out (by rw [hVz]; exact info4) (by rw [hVz]; rfl) hVo rfl ?_) | (refine wpList_store_row rfl 30 _ _ rfl (y3.heap.size + 1) rfl _ #[.int .i64 (er : Int), .int .i64 (p : Int)] rfl 30 (B.out.row_other (by omega) _) infoSp rfl (by simp [Value.oneCell']) rfl ?_))
  generalize hv : (((y3.alloc (.cells #[.int .u8 0, .int .u8 0, .int .u8 0, .int .u8 0] 46)).alloc (.cells #[.int .i64 0, .int .i64 0] 30)).setRow y3.heap.size V).setRow (y3.heap.size + 1) #[.int .i64 (er : Int), .int .i64 (p : Int)] = v1 at M1 N1 KB4 L1 L2 ⊢
  clear hv A B BB
  generalize y3.heap.size = g at hgt M1 N1 ⊢
  have c0 := N1.out.cell 0
  simp at c0
  have c1 := N1.out.cell 1
  simp at c1
  clear HS HV HC
  go_upto_region 23 with fail
  have hS0 : v1.drew.cell? ⟨g + 1, 0, none⟩ = some (.int .i64 (er : Int)) ∧ v1.drew.cell? ⟨g + 1, 1, none⟩ = some (.int .i64 (p : Int)) := ⟨c0, c1⟩
  refine wp_region_late (fun wx => wx.cell? ⟨g + 1, 0, none⟩ = some (.int .i64 (er : Int)) ∧ wx.cell? ⟨g + 1, 1, none⟩ = some (.int .i64 (p : Int))) 9 (by kernel_rfl) hS0 (fun hHeld => ?_)
  refine wpAnyE_tk (i := 0) (d := some 93) (v := .agg #[.int .i64 0, .string ⟨#[]⟩, .int .u8 0, .int .u8 0, .int .u8 0, .int .u8 0, .int .u8 0, .int .u8 0, .int .u8 0, .int .u8 0, .int .u8 0, .int .u8 0, .int .u8 0, .int .u8 0, .int .u8 0, .int .u8 0, .int .u8 0, .int .u8 0]) rfl (by kernel_rfl) (by kernel_rfl) (by kernel_rfl) rfl (fun _ _ _ h => h) rfl rfl ?hy (by assumption) ?_
  case hy => (intro w' hSw; (try dsimp only at hSw); go_simp <;> (first | with_reducible rfl | omega | skip))
  simp only [Act.put, List.setIfInBounds_toArray, List.set_cons_zero, List.set_cons_succ]
  refine wpAnyE_tk (i := 1) (d := some 94) (v := .pointer (some ⟨g + 1, 0, none⟩)) rfl (by kernel_rfl) (by kernel_rfl) (by kernel_rfl) rfl (fun _ _ _ h => h) rfl rfl ?hy (by assumption) ?_
  case hy => (intro w' hSw; (try dsimp only at hSw); go_simp <;> (first | with_reducible rfl | omega | skip))
  simp only [Act.put, List.setIfInBounds_toArray, List.set_cons_zero, List.set_cons_succ]
  refine wpAnyE_tk (i := 2) (d := some 95) (v := .int .i64 (er : Int)) rfl (by kernel_rfl) (by kernel_rfl) (by kernel_rfl) rfl (fun _ _ _ h => h) rfl rfl ?hy (by assumption) ?_
  case hy => (intro w' hSw; (try dsimp only at hSw); go_simp <;> (first | with_reducible rfl | omega | skip))
  simp only [Act.put, List.setIfInBounds_toArray, List.set_cons_zero, List.set_cons_succ]
  refine wpAnyE_tk (i := 3) (d := some 96) (v := .pointer (some ⟨g + 1, 1, none⟩)) rfl (by kernel_rfl) (by kernel_rfl) (by kernel_rfl) rfl (fun _ _ _ h => h) rfl rfl ?hy (by assumption) ?_
  case hy => (intro w' hSw; (try dsimp only at hSw); go_simp <;> (first | with_reducible rfl | omega | skip))
  simp only [Act.put, List.setIfInBounds_toArray, List.set_cons_zero, List.set_cons_succ]
  refine wpAnyE_tk (i := 4) (d := some 97) (v := .int .i64 (p : Int)) rfl (by kernel_rfl) (by kernel_rfl) (by kernel_rfl) rfl (fun _ _ _ h => h) rfl rfl ?hy (by assumption) ?_
  case hy => (intro w' hSw; (try dsimp only at hSw); go_simp <;> (first | with_reducible rfl | omega | skip))
  simp only [Act.put, List.setIfInBounds_toArray, List.set_cons_zero, List.set_cons_succ]
  refine wpAnyE_tk (i := 5) (d := some 98) (v := .int .i64 (p + 1 : Nat)) rfl (by kernel_rfl) (by kernel_rfl) (by kernel_rfl) rfl (fun _ _ _ h => h) rfl rfl ?hy (by assumption) ?_
  case hy => (intro w' hSw; (try dsimp only at hSw); go_simp <;> (first | with_reducible rfl | omega | (rw [IntKind.wrap_i64]; omega) | skip))
  simp only [Act.put, List.setIfInBounds_toArray, List.set_cons_zero, List.set_cons_succ]
  refine wpAnyE_tk (i := 6) (d := some 99) (v := .agg #[.int .i64 (er : Int), .int .i64 (p + 1 : Nat)]) rfl (by kernel_rfl) (by kernel_rfl) (by kernel_rfl) rfl (fun _ _ _ h => h) rfl rfl ?hy (by assumption) ?_
  case hy => (intro w' hSw; (try dsimp only at hSw); go_simp <;> (first | with_reducible rfl | omega | skip))
  simp only [Act.put, List.setIfInBounds_toArray, List.set_cons_zero, List.set_cons_succ]
  have J1 : Lies v1.drew w.heap.size #[.int .i64 0, .string ⟨#[]⟩, .int .u8 0, .int .u8 0, .int .u8 0, .int .u8 0, .int .u8 0, .int .u8 0, .int .u8 0, .int .u8 0, .int .u8 0, .int .u8 0, .int .u8 0, .int .u8 0, .int .u8 0, .int .u8 0, .int .u8 0, .int .u8 0] 28 := L1.out.drew
  have J2 : Lies v1.drew (w.heap.size + 1) #[.int .i64 0, .int .i64 0] 30 := L2.out.drew
  refine wpAnyE_on (i := 7) (by kernel_rfl) rfl rfl ?_
  refine oper_store_row 28 _ _ rfl w.heap.size rfl #[.int .i64 0, .string ⟨#[]⟩, .int .u8 0, .int .u8 0, .int .u8 0, .int .u8 0, .int .u8 0, .int .u8 0, .int .u8 0, .int .u8 0, .int .u8 0, .int .u8 0, .int .u8 0, .int .u8 0, .int .u8 0, .int .u8 0, .int .u8 0, .int .u8 0] #[.int .i64 0, .string ⟨#[]⟩, .int .u8 0, .int .u8 0, .int .u8 0, .int .u8 0, .int .u8 0, .int .u8 0, .int .u8 0, .int .u8 0, .int .u8 0, .int .u8 0, .int .u8 0, .int .u8 0, .int .u8 0, .int .u8 0, .int .u8 0, .int .u8 0] rfl 28 J1 infoHo rfl (by simp [Value.oneCell']) rfl ?_
  refine ⟨Or.inr ⟨(N1.out.drew.row_other (show g + 1 ≠ w.heap.size by omega) _).cell 0, (N1.out.drew.row_other (show g + 1 ≠ w.heap.size by omega) _).cell 1⟩, ?_⟩
  refine wpAnyE_on (i := 8) (by kernel_rfl) rfl rfl ?_
  refine oper_store_row 30 _ _ rfl (w.heap.size + 1) rfl #[.int .i64 0, .int .i64 0] #[.int .i64 (er : Int), .int .i64 (p + 1 : Nat)] rfl 30 (J2.row_other (by omega) _) infoSp rfl (by simp [Value.oneCell']) rfl ?_
  refine ⟨Or.inr ⟨((N1.out.drew.row_other (show g + 1 ≠ w.heap.size by omega) _).row_other (show g + 1 ≠ w.heap.size + 1 by omega) _).cell 0, ((N1.out.drew.row_other (show g + 1 ≠ w.heap.size by omega) _).row_other (show g + 1 ≠ w.heap.size + 1 by omega) _).cell 1⟩, ?_⟩
  refine wpAnyE_done (by kernel_rfl) ?_ _
  clear hHeld hS0
  go_wp2
  exact re_ret ho0 rfl (er, p + 1) _ _ J1 J2 rfl rfl ⟨rfl, below_row (below_row KB4.out.drew (Nat.le_refl _) _) (by omega) _⟩

set_option maxHeartbeats 8000000 in
set_option maxRecDepth 100000 in
theorem rpa_four_ok (s t : ByteArray) (wide : Bool) (w : World) (hem : s.toList.isEmpty = false) (h0n : 0 < s.size) (n91 : ((s[0].toNat : Int) != 91) = false) (h255' : ¬ (255 : Int) < (s.size : Int)) (hln : s.size - 1 < s.size) (hn1 : (s.size : Int) - 1 < (s.size : Int)) (n93 : ((s[s.size - 1].toNat : Int) != 93) = false) (hn2 : (1 : Int) ≤ (s.size : Int) - 1) (htx : s.extract 1 (s.size - 1) = t) (V : Array Value) (q0 q1 q2 q3 : Nat) (HVV : Hid (V = #[.int .u8 (q0 : Nat), .int .u8 (q1 : Nat), .int .u8 (q2 : Nat), .int .u8 (q3 : Nat)])) (HS : Hid (∀ wx, Below w.heap.size w wx → Calls Tryz.prog 52 #[.string t] wx fun e w' => e = .returned (.bool false) ∧ Below wx.heap.size wx w')) (HC : Hid (∀ wx, Below w.heap.size w wx → Calls Tryz.prog 53 #[.string t, .string ⟨#[58]⟩] wx fun e w' => e = .returned (.bool false) ∧ Below wx.heap.size wx w')) (HV : Hid (∀ wx, Below w.heap.size w wx → Calls Tryz.prog 24 #[.string t] wx fun e w' => e = .returned (.tuple #[.agg V, .agg #[.int .i64 0, .int .i64 0]]) ∧ Below wx.heap.size wx w')) :
    Calls Tryz.prog 17 #[.string s, .bool wide] w fun e w' => e = .returned (.tuple #[hostV (fourH [q0, q1, q2, q3]), .agg (spotV (0, 0))]) ∧ Below w.heap.size w w' := by
  have L1 : Hid (Lies ((w.alloc (.cells #[.int .i64 0, .string ⟨#[]⟩, .int .u8 0, .int .u8 0, .int .u8 0, .int .u8 0, .int .u8 0, .int .u8 0, .int .u8 0, .int .u8 0, .int .u8 0, .int .u8 0, .int .u8 0, .int .u8 0, .int .u8 0, .int .u8 0, .int .u8 0, .int .u8 0] 28)).alloc (.cells #[.int .i64 0, .int .i64 0] 30)) w.heap.size #[.int .i64 0, .string ⟨#[]⟩, .int .u8 0, .int .u8 0, .int .u8 0, .int .u8 0, .int .u8 0, .int .u8 0, .int .u8 0, .int .u8 0, .int .u8 0, .int .u8 0, .int .u8 0, .int .u8 0, .int .u8 0, .int .u8 0, .int .u8 0, .int .u8 0] 28) := (Lies.new w _ _).alloc _
  have L2 : Hid (Lies ((w.alloc (.cells #[.int .i64 0, .string ⟨#[]⟩, .int .u8 0, .int .u8 0, .int .u8 0, .int .u8 0, .int .u8 0, .int .u8 0, .int .u8 0, .int .u8 0, .int .u8 0, .int .u8 0, .int .u8 0, .int .u8 0, .int .u8 0, .int .u8 0, .int .u8 0, .int .u8 0] 28)).alloc (.cells #[.int .i64 0, .int .i64 0] 30)) (w.heap.size + 1) #[.int .i64 0, .int .i64 0] 30) := new_one w _ _ _
  have KB : Hid (Below w.heap.size w ((w.alloc (.cells #[.int .i64 0, .string ⟨#[]⟩, .int .u8 0, .int .u8 0, .int .u8 0, .int .u8 0, .int .u8 0, .int .u8 0, .int .u8 0, .int .u8 0, .int .u8 0, .int .u8 0, .int .u8 0, .int .u8 0, .int .u8 0, .int .u8 0, .int .u8 0, .int .u8 0] 28)).alloc (.cells #[.int .i64 0, .int .i64 0] 30))) := ((Below.refl _ _).alloc (Nat.le_refl _) _).alloc (by simp) _
  go_enter Tryz.func17, Tryz.ntmps17
  go_upto_region 1 with fail
  generalize (w.alloc (.cells #[.int .i64 0, .string ⟨#[]⟩, .int .u8 0, .int .u8 0, .int .u8 0, .int .u8 0, .int .u8 0, .int .u8 0, .int .u8 0, .int .u8 0, .int .u8 0, .int .u8 0, .int .u8 0, .int .u8 0, .int .u8 0, .int .u8 0, .int .u8 0, .int .u8 0] 28)).alloc (.cells #[.int .i64 0, .int .i64 0] 30) = wA at L1 L2 KB ⊢
  have hzA := L2.out.lt
  go_upto_region 11 with fail
  clear hem n91 h255' n93 hn2 htx
  have hVz : V.size = 4 := by rw [HVV.out]; rfl
  have hVo : V.all (·.oneCell') = true := by rw [HVV.out]; simp [Value.oneCell']
  go_wp2_with fail
  refine Calls.mono (HS.out _ KB.out) ?_
  rintro e y1 ⟨rfl, hc⟩
  have KB1 : Hid (Below w.heap.size w y1) := KB.out.trans ((hc).mono KB.out.size)
  have L1n : Hid (Lies y1 w.heap.size #[.int .i64 0, .string ⟨#[]⟩, .int .u8 0, .int .u8 0, .int .u8 0, .int .u8 0, .int .u8 0, .int .u8 0, .int .u8 0, .int .u8 0, .int .u8 0, .int .u8 0, .int .u8 0, .int .u8 0, .int .u8 0, .int .u8 0, .int .u8 0, .int .u8 0] 28) := L1.out.below (hc) L1.out.lt
  clear L1
  have L1 := L1n
  clear L1n
  have L2n : Hid (Lies y1 (w.heap.size + 1) #[.int .i64 0, .int .i64 0] 30) := L2.out.below (hc) L2.out.lt
  clear L2
  have L2 := L2n
  clear L2n
  clear KB
  clear hc
  go_wp2_with fail
  refine Calls.mono (HC.out _ KB1.out) ?_
  rintro e y2 ⟨rfl, hc⟩
  have KB2 : Hid (Below w.heap.size w y2) := KB1.out.trans ((hc).mono KB1.out.size)
  have L1n : Hid (Lies y2 w.heap.size #[.int .i64 0, .string ⟨#[]⟩, .int .u8 0, .int .u8 0, .int .u8 0, .int .u8 0, .int .u8 0, .int .u8 0, .int .u8 0, .int .u8 0, .int .u8 0, .int .u8 0, .int .u8 0, .int .u8 0, .int .u8 0, .int .u8 0, .int .u8 0, .int .u8 0] 28) := L1.out.below (hc) L1.out.lt
  clear L1
  have L1 := L1n
  clear L1n
  have L2n : Hid (Lies y2 (w.heap.size + 1) #[.int .i64 0, .int .i64 0] 30) := L2.out.below (hc) L2.out.lt
  clear L2
  have L2 := L2n
  clear L2n
  clear KB1
  clear hc
  go_wp2_with fail
  refine Calls.mono (HV.out _ KB2.out) ?_
  rintro e y3 ⟨rfl, hc⟩
  have KB3 : Hid (Below w.heap.size w y3) := KB2.out.trans ((hc).mono KB2.out.size)
  have L1n : Hid (Lies y3 w.heap.size #[.int .i64 0, .string ⟨#[]⟩, .int .u8 0, .int .u8 0, .int .u8 0, .int .u8 0, .int .u8 0, .int .u8 0, .int .u8 0, .int .u8 0, .int .u8 0, .int .u8 0, .int .u8 0, .int .u8 0, .int .u8 0, .int .u8 0, .int .u8 0, .int .u8 0] 28) := L1.out.below (hc) L1.out.lt
  clear L1
  have L1 := L1n
  clear L1n
  have L2n : Hid (Lies y3 (w.heap.size + 1) #[.int .i64 0, .int .i64 0] 30) := L2.out.below (hc) L2.out.lt
  clear L2
  have L2 := L2n
  clear L2n
  clear KB2
  clear hc
  have hgt : w.heap.size + 1 < y3.heap.size := L2.out.lt
  have A : Hid (Lies ((y3.alloc (.cells #[.int .u8 0, .int .u8 0, .int .u8 0, .int .u8 0] 46)).alloc (.cells #[.int .i64 0, .int .i64 0] 30)) y3.heap.size #[.int .u8 0, .int .u8 0, .int .u8 0, .int .u8 0] 46) := (Lies.new y3 _ _).alloc _
  have B : Hid (Lies ((y3.alloc (.cells #[.int .u8 0, .int .u8 0, .int .u8 0, .int .u8 0] 46)).alloc (.cells #[.int .i64 0, .int .i64 0] 30)) (y3.heap.size + 1) #[.int .i64 0, .int .i64 0] 30) := new_one y3 _ _ _
  have M1 : Hid (Lies ((((y3.alloc (.cells #[.int .u8 0, .int .u8 0, .int .u8 0, .int .u8 0] 46)).alloc (.cells #[.int .i64 0, .int .i64 0] 30)).setRow y3.heap.size V).setRow (y3.heap.size + 1) #[.int .i64 0, .int .i64 0]) y3.heap.size V 46) := (A.out.row _).row_other (by omega) _
  have N1 : Hid (Lies ((((y3.alloc (.cells #[.int .u8 0, .int .u8 0, .int .u8 0, .int .u8 0] 46)).alloc (.cells #[.int .i64 0, .int .i64 0] 30)).setRow y3.heap.size V).setRow (y3.heap.size + 1) #[.int .i64 0, .int .i64 0]) (y3.heap.size + 1) #[.int .i64 0, .int .i64 0] 30) := (B.out.row_other (by omega) _).row _
  have BB : Hid (Below y3.heap.size y3 ((((y3.alloc (.cells #[.int .u8 0, .int .u8 0, .int .u8 0, .int .u8 0] 46)).alloc (.cells #[.int .i64 0, .int .i64 0] 30)).setRow y3.heap.size V).setRow (y3.heap.size + 1) #[.int .i64 0, .int .i64 0])) := below_row (below_row (((Below.refl _ _).alloc (Nat.le_refl _) _).alloc (by simp) _) (Nat.le_refl _) _) (by omega) _
  have KB4 : Hid (Below w.heap.size w ((((y3.alloc (.cells #[.int .u8 0, .int .u8 0, .int .u8 0, .int .u8 0] 46)).alloc (.cells #[.int .i64 0, .int .i64 0] 30)).setRow y3.heap.size V).setRow (y3.heap.size + 1) #[.int .i64 0, .int .i64 0])) := KB3.out.trans ((BB.out).mono KB3.out.size)
  have L1n : Hid (Lies ((((y3.alloc (.cells #[.int .u8 0, .int .u8 0, .int .u8 0, .int .u8 0] 46)).alloc (.cells #[.int .i64 0, .int .i64 0] 30)).setRow y3.heap.size V).setRow (y3.heap.size + 1) #[.int .i64 0, .int .i64 0]) w.heap.size #[.int .i64 0, .string ⟨#[]⟩, .int .u8 0, .int .u8 0, .int .u8 0, .int .u8 0, .int .u8 0, .int .u8 0, .int .u8 0, .int .u8 0, .int .u8 0, .int .u8 0, .int .u8 0, .int .u8 0, .int .u8 0, .int .u8 0, .int .u8 0, .int .u8 0] 28) := L1.out.below (BB.out) L1.out.lt
  clear L1
  have L1 := L1n
  clear L1n
  have L2n : Hid (Lies ((((y3.alloc (.cells #[.int .u8 0, .int .u8 0, .int .u8 0, .int .u8 0] 46)).alloc (.cells #[.int .i64 0, .int .i64 0] 30)).setRow y3.heap.size V).setRow (y3.heap.size + 1) #[.int .i64 0, .int .i64 0]) (w.heap.size + 1) #[.int .i64 0, .int .i64 0] 30) := L2.out.below (BB.out) L2.out.lt
  clear L2
  have L2 := L2n
  clear L2n
  clear KB3
  go_upto_region 22 with (first | (refine wpList_store_row rfl 46 _ _ rfl y3.heap.size rfl _ V rfl 46 A.out (by rw [hVz]; exact info4) (by rw [hVz]; rfl) hVo rfl ?_) | (refine wpList_store_row rfl 30 _ _ rfl (y3.heap.size + 1) rfl _ #[.int .i64 0, .int .i64 0] rfl 30 (B.out.row_other (by omega) _) infoSp rfl (by simp [Value.oneCell']) rfl ?_))
  generalize hv : (((y3.alloc (.cells #[.int .u8 0, .int .u8 0, .int .u8 0, .int .u8 0] 46)).alloc (.cells #[.int .i64 0, .int .i64 0] 30)).setRow y3.heap.size V).setRow (y3.heap.size + 1) #[.int .i64 0, .int .i64 0] = v1 at M1 N1 KB4 L1 L2 ⊢
  clear hv A B BB
  generalize y3.heap.size = g at hgt M1 N1 ⊢
  have c0 := N1.out.cell 0
  simp at c0
  clear HS HV HC
  go_upto_region 24 with fail
  have hS0 : Lies v1.drew g V 46 ∧ Lies v1.drew (g + 1) #[.int .i64 0, .int .i64 0] 30 := ⟨M1.out.drew, N1.out.drew⟩
  refine wp_region_late (fun wx => Lies wx g V 46 ∧ Lies wx (g + 1) #[.int .i64 0, .int .i64 0] 30) 13 (by kernel_rfl) hS0 (fun hHeld => ?_)
  refine wpAnyE_tk (i := 0) (d := some 100) (v := .pointer (some ⟨g, 0, none⟩)) rfl (by kernel_rfl) (by kernel_rfl) (by kernel_rfl) rfl (fun _ _ _ h => h) rfl rfl ?hy (by assumption) ?_
  case hy => (intro w' hSw; (try dsimp only at hSw); go_simp <;> (first | with_reducible rfl | omega | skip))
  simp only [Act.put, List.setIfInBounds_toArray, List.set_cons_zero, List.set_cons_succ]
  refine wpAnyE_tk (i := 1) (d := some 101) (v := .int .u8 (q0 : Nat)) rfl (by kernel_rfl) (by kernel_rfl) (by kernel_rfl) rfl (fun _ _ _ h => h) rfl rfl ?hy (by assumption) ?_
  case hy => (intro w' hSw; have ck := (hSw.1.cell 0).trans (show V[0]? = some (.int .u8 (q0 : Nat)) by rw [HVV.out]; rfl); clear hSw; go_simp <;> (first | with_reducible rfl | omega | skip))
  simp only [Act.put, List.setIfInBounds_toArray, List.set_cons_zero, List.set_cons_succ]
  refine wpAnyE_tk (i := 2) (d := some 102) (v := .pointer (some ⟨g, 1, none⟩)) rfl (by kernel_rfl) (by kernel_rfl) (by kernel_rfl) rfl (fun _ _ _ h => h) rfl rfl ?hy (by assumption) ?_
  case hy => (intro w' hSw; (try dsimp only at hSw); go_simp <;> (first | with_reducible rfl | omega | skip))
  simp only [Act.put, List.setIfInBounds_toArray, List.set_cons_zero, List.set_cons_succ]
  refine wpAnyE_tk (i := 3) (d := some 103) (v := .int .u8 (q1 : Nat)) rfl (by kernel_rfl) (by kernel_rfl) (by kernel_rfl) rfl (fun _ _ _ h => h) rfl rfl ?hy (by assumption) ?_
  case hy => (intro w' hSw; have ck := (hSw.1.cell 1).trans (show V[1]? = some (.int .u8 (q1 : Nat)) by rw [HVV.out]; rfl); clear hSw; go_simp <;> (first | with_reducible rfl | omega | skip))
  simp only [Act.put, List.setIfInBounds_toArray, List.set_cons_zero, List.set_cons_succ]
  refine wpAnyE_tk (i := 4) (d := some 104) (v := .pointer (some ⟨g, 2, none⟩)) rfl (by kernel_rfl) (by kernel_rfl) (by kernel_rfl) rfl (fun _ _ _ h => h) rfl rfl ?hy (by assumption) ?_
  case hy => (intro w' hSw; (try dsimp only at hSw); go_simp <;> (first | with_reducible rfl | omega | skip))
  simp only [Act.put, List.setIfInBounds_toArray, List.set_cons_zero, List.set_cons_succ]
  refine wpAnyE_tk (i := 5) (d := some 105) (v := .int .u8 (q2 : Nat)) rfl (by kernel_rfl) (by kernel_rfl) (by kernel_rfl) rfl (fun _ _ _ h => h) rfl rfl ?hy (by assumption) ?_
  case hy => (intro w' hSw; have ck := (hSw.1.cell 2).trans (show V[2]? = some (.int .u8 (q2 : Nat)) by rw [HVV.out]; rfl); clear hSw; go_simp <;> (first | with_reducible rfl | omega | skip))
  simp only [Act.put, List.setIfInBounds_toArray, List.set_cons_zero, List.set_cons_succ]
  refine wpAnyE_tk (i := 6) (d := some 106) (v := .pointer (some ⟨g, 3, none⟩)) rfl (by kernel_rfl) (by kernel_rfl) (by kernel_rfl) rfl (fun _ _ _ h => h) rfl rfl ?hy (by assumption) ?_
  case hy => (intro w' hSw; (try dsimp only at hSw); go_simp <;> (first | with_reducible rfl | omega | skip))
  simp only [Act.put, List.setIfInBounds_toArray, List.set_cons_zero, List.set_cons_succ]
  refine wpAnyE_tk (i := 7) (d := some 107) (v := .int .u8 (q3 : Nat)) rfl (by kernel_rfl) (by kernel_rfl) (by kernel_rfl) rfl (fun _ _ _ h => h) rfl rfl ?hy (by assumption) ?_
  case hy => (intro w' hSw; have ck := (hSw.1.cell 3).trans (show V[3]? = some (.int .u8 (q3 : Nat)) by rw [HVV.out]; rfl); clear hSw; go_simp <;> (first | with_reducible rfl | omega | skip))
  simp only [Act.put, List.setIfInBounds_toArray, List.set_cons_zero, List.set_cons_succ]
  refine wpAnyE_tk (i := 8) (d := some 108) (v := .agg #[.int .u8 (q0 : Nat), .int .u8 (q1 : Nat), .int .u8 (q2 : Nat), .int .u8 (q3 : Nat), .int .u8 0, .int .u8 0, .int .u8 0, .int .u8 0, .int .u8 0, .int .u8 0, .int .u8 0, .int .u8 0, .int .u8 0, .int .u8 0, .int .u8 0, .int .u8 0]) rfl (by kernel_rfl) (by kernel_rfl) (by kernel_rfl) rfl (fun _ _ _ h => h) rfl rfl ?hy (by assumption) ?_
  case hy => (intro w' hSw; (try dsimp only at hSw); go_simp <;> (first | with_reducible rfl | omega | skip))
  simp only [Act.put, List.setIfInBounds_toArray, List.set_cons_zero, List.set_cons_succ]
  refine wpAnyE_tk (i := 9) (d := some 109) (v := .agg #[.int .i64 2, .string ⟨#[]⟩, .int .u8 (q0 : Nat), .int .u8 (q1 : Nat), .int .u8 (q2 : Nat), .int .u8 (q3 : Nat), .int .u8 0, .int .u8 0, .int .u8 0, .int .u8 0, .int .u8 0, .int .u8 0, .int .u8 0, .int .u8 0, .int .u8 0, .int .u8 0, .int .u8 0, .int .u8 0]) rfl (by kernel_rfl) (by kernel_rfl) (by kernel_rfl) rfl (fun _ _ _ h => h) rfl rfl ?hy (by assumption) ?_
  case hy => (intro w' hSw; (try dsimp only at hSw); go_simp <;> (first | with_reducible rfl | omega | skip))
  simp only [Act.put, List.setIfInBounds_toArray, List.set_cons_zero, List.set_cons_succ]
  refine wpAnyE_tk (i := 10) (d := some 110) (v := .agg #[.int .i64 0, .int .i64 0]) rfl (by kernel_rfl) (by kernel_rfl) (by kernel_rfl) rfl (fun _ _ _ h => h) rfl rfl ?hy (by assumption) ?_
  case hy => exact fun w' hSw => exec_load_row 30 _ rfl (g + 1) rfl #[.int .i64 0, .int .i64 0] 30 _ hSw.2 Tryz.underlying30 rfl infoSp
  simp only [Act.put, List.setIfInBounds_toArray, List.set_cons_zero, List.set_cons_succ]
  have J1 : Lies v1.drew w.heap.size #[.int .i64 0, .string ⟨#[]⟩, .int .u8 0, .int .u8 0, .int .u8 0, .int .u8 0, .int .u8 0, .int .u8 0, .int .u8 0, .int .u8 0, .int .u8 0, .int .u8 0, .int .u8 0, .int .u8 0, .int .u8 0, .int .u8 0, .int .u8 0, .int .u8 0] 28 := L1.out.drew
  have J2 : Lies v1.drew (w.heap.size + 1) #[.int .i64 0, .int .i64 0] 30 := L2.out.drew
  refine wpAnyE_on (i := 11) (by kernel_rfl) rfl rfl ?_
  refine oper_store_row 28 _ _ rfl w.heap.size rfl #[.int .i64 0, .string ⟨#[]⟩, .int .u8 0, .int .u8 0, .int .u8 0, .int .u8 0, .int .u8 0, .int .u8 0, .int .u8 0, .int .u8 0, .int .u8 0, .int .u8 0, .int .u8 0, .int .u8 0, .int .u8 0, .int .u8 0, .int .u8 0, .int .u8 0] #[.int .i64 2, .string ⟨#[]⟩, .int .u8 (q0 : Nat), .int .u8 (q1 : Nat), .int .u8 (q2 : Nat), .int .u8 (q3 : Nat), .int .u8 0, .int .u8 0, .int .u8 0, .int .u8 0, .int .u8 0, .int .u8 0, .int .u8 0, .int .u8 0, .int .u8 0, .int .u8 0, .int .u8 0, .int .u8 0] rfl 28 J1 infoHo rfl (by simp [Value.oneCell']) rfl ?_
  refine ⟨Or.inr ⟨(M1.out.drew.row_other (show g ≠ w.heap.size by omega) _), (N1.out.drew.row_other (show g + 1 ≠ w.heap.size by omega) _)⟩, ?_⟩
  refine wpAnyE_on (i := 12) (by kernel_rfl) rfl rfl ?_
  refine oper_store_row 30 _ _ rfl (w.heap.size + 1) rfl #[.int .i64 0, .int .i64 0] #[.int .i64 0, .int .i64 0] rfl 30 (J2.row_other (by omega) _) infoSp rfl (by simp [Value.oneCell']) rfl ?_
  refine ⟨Or.inr ⟨((M1.out.drew.row_other (show g ≠ w.heap.size by omega) _).row_other (show g ≠ w.heap.size + 1 by omega) _), ((N1.out.drew.row_other (show g + 1 ≠ w.heap.size by omega) _).row_other (show g + 1 ≠ w.heap.size + 1 by omega) _)⟩, ?_⟩
  refine wpAnyE_done (by kernel_rfl) ?_ _
  clear hHeld hS0
  go_wp2
  exact re_ret (fourH [q0, q1, q2, q3]) rfl (0, 0) _ _ J1 J2 rfl rfl ⟨rfl, below_row (below_row KB4.out.drew (Nat.le_refl _) _) (by omega) _⟩

end Go.Proofs.YtnlgbopdbihnjaaGreatDoor
/-
  The document's Parse of any text.
-/
namespace Go.Proofs.YtnlgbopdbihnjaaGreatDoor
open Go.RowKit

theorem wd_zero (wide : Bool) (s : List UInt8) (h : (wd wide s).1 = 0) : wd wide s = (0, 0) := by
  unfold wd at h ⊢
  split
  · next hl => rw [if_pos hl] at h; cases h
  · next hl =>
    rw [if_neg hl] at h
    revert h
    split
    · intro _; rfl
    · intro h; cases h
theorem wd_nil (wide : Bool) : wd wide [] = (80, 0) := by
  unfold wd
  rw [if_neg (by decide), wdGo, if_neg (by simp)]
theorem told_no (p k : Nat) (h : Ho) (e : Nat) (he : e ≠ 0) : told k h (e, p) = (ho0, (e, p + k)) := by
  unfold told
  rw [if_neg he, Nat.add_comm]
theorem last_at (s : ByteArray) (h : s.size - 1 < s.size) : s.data.toList.getLast? = some s[s.size - 1] := by
  rw [List.getLast?_eq_getElem?, len_list, list_at s _ h]
theorem emp_not (s : ByteArray) (h : 0 < s.size) : s.toList.isEmpty = false := by
  rw [ByteArray.toList_eq]
  cases hq : s.data.toList with
  | nil =>
    have := len_list s
    rw [hq] at this
    simp at this
    omega
  | cons c r => rfl
theorem head_at (s : ByteArray) (h : 0 < s.size) : s.data.toList.head? = some s[0] := by
  rw [List.head?_eq_getElem?, list_at s 0 h]

set_option maxHeartbeats 2000000 in
theorem rparse_any (s : ByteArray) (wide : Bool) (w : World) (hT : ∃ m, w.cell? ⟨1, 0, none⟩ = some (.int .i64 m)) :
    Calls Tryz.prog 17 #[.string s, .bool wide] w fun e w' => e = .returned (.tuple #[hostV (parse s.data.toList wide).1, .agg (spotV (parse s.data.toList wide).2)]) ∧ Below w.heap.size w w' := by
  have HT : ∀ wx, Below w.heap.size w wx → ∃ m, wx.cell? ⟨1, 0, none⟩ = some (.int .i64 m) := fun wx hx => by
    obtain ⟨m, hm⟩ := hT
    exact ⟨m, (hx.cell (p := ⟨1, 0, none⟩) (World.block_lt_of_cell? w _ hm)).trans hm⟩
  by_cases h91 : s.data.toList.head? = some 91
  case neg =>
    have hV : parse s.data.toList wide = if (wd wide s.data.toList).1 = 0 then (⟨1, s.data.toList, z16⟩, (0, 0)) else (ho0, wd wide s.data.toList) := by
      unfold parse
      rw [if_neg h91]
    have HN : ∀ er p : Nat, wd wide s.data.toList = (er, p) → Hid (∀ wx, Below w.heap.size w wx → Calls Tryz.prog 51 #[.string s, .bool wide] wx fun e w' => e = .returned (.agg #[.int .i64 (er : Nat), .int .i64 (p : Nat)]) ∧ Below wx.heap.size wx w') := fun er p he wx _ => by
      have := name_any s wide wx
      rw [he] at this
      exact this
    rcases Nat.eq_zero_or_pos s.size with h0 | h0
    · have he : s.data.toList = [] := List.eq_nil_of_length_eq_zero (by rw [len_list]; exact h0)
      have hem : s.toList.isEmpty = true := by rw [ByteArray.toList_eq, he]; rfl
      have hwd : wd wide s.data.toList = (80, 0) := by rw [he]; exact wd_nil wide
      rw [hV, hwd]
      exact rpa_nil_no s wide 80 0 w hem rfl (HN 80 0 hwd)
    · have hne : s[0] ≠ 91 := fun h => h91 (by rw [head_at s h0, h])
      obtain ⟨_, n91⟩ := b_eq s[0] 91 91 rfl
      rw [decide_eq_false hne] at n91
      obtain ⟨er, p, hwd⟩ : ∃ er p, wd wide s.data.toList = (er, p) := ⟨_, _, rfl⟩
      by_cases hz : er = 0
      · have h2 : wd wide s.data.toList = (0, 0) := wd_zero wide _ (by rw [hwd]; exact hz)
        rw [hV, h2]
        exact rpa_name_ok s wide 0 0 w (emp_not s h0) h0 n91 rfl ⟨rfl, rfl⟩ (HN 0 0 h2)
      · rw [hV, hwd, if_neg (by exact hz)]
        exact rpa_name_no s wide er p w (emp_not s h0) h0 n91 (by rw [bne_iff_ne]; omega) (HN er p hwd)
  case pos =>
  have hV : parse s.data.toList wide = lit s.data.toList := by
    unfold parse
    rw [if_pos h91]
  have HLEN := len_list s
  have h0 : 0 < s.size := by
    rcases Nat.eq_zero_or_pos s.size with h | h
    · rw [← HLEN] at h
      rw [List.eq_nil_of_length_eq_zero h] at h91
      cases h91
    · exact h
  have he : s[0] = 91 := by
    rw [head_at s h0] at h91
    injection h91
  obtain ⟨_, n91⟩ := b_eq s[0] 91 91 rfl
  rw [decide_eq_true he] at n91
  have hem := emp_not s h0
  rw [hV]
  by_cases h255 : 255 < s.size
  · have hL : lit s.data.toList = (ho0, (82, 255)) := by
      unfold lit
      rw [if_pos (by rw [HLEN]; exact h255)]
    rw [hL]
    exact rpa_long s wide w hem h0 n91 (by omega)
  have hln : s.size - 1 < s.size := by omega
  obtain ⟨_, n93⟩ := b_eq s[s.size - 1] 93 93 rfl
  by_cases h93 : s.data.toList.getLast? = some 93
  case neg =>
    have hne : s[s.size - 1] ≠ 93 := fun h => h93 (by rw [last_at s hln, h])
    rw [decide_eq_false hne] at n93
    have hL : lit s.data.toList = (ho0, (82, s.size)) := by
      unfold lit
      rw [if_neg (by rw [HLEN]; exact h255), if_pos h93, HLEN]
    rw [hL]
    exact rpa_open s wide w hem h0 n91 (by omega) hln (by omega) n93
  have hl93 : s[s.size - 1] = 93 := by
    have h := h93
    rw [last_at s hln] at h
    injection h
  rw [decide_eq_true hl93] at n93
  have hs2 : 2 ≤ s.size := by
    rcases Nat.lt_or_ge s.size 2 with h | h
    · have h1 : s.data.toList.length = 1 := by omega
      match hl : s.data.toList, h1 with
      | [c], _ =>
        rw [hl] at h93 h91
        simp at h93 h91
        rw [h93] at h91
        exact absurd h91 (by decide)
    · exact h
  obtain ⟨t, htd⟩ : ∃ t : ByteArray, t = s.extract 1 (s.size - 1) := ⟨_, rfl⟩
  have htl : t.data.toList = (s.data.toList.drop 1).take (s.size - 2) := by rw [htd]; exact inner_ext s
  have hts : t.size ≤ 253 := by
    rw [← len_list t, htl, List.length_take, List.length_drop, HLEN]
    omega
  have hL : lit s.data.toList = if sixB t.data.toList = true then told 6 ⟨3, [], addrOf 16 (v6 (t.data.toList.drop 5))⟩ (spotOf (v6 (t.data.toList.drop 5)))
      else match colonAt t.data.toList with
        | some k => told 1 ⟨4, t.data.toList, z16⟩ (tagged t.data.toList k)
        | none => told 1 (fourH (addrOf 4 (v4 t.data.toList))) (spotOf (v4 t.data.toList)) := by
    unfold lit
    rw [HLEN, if_neg h255, if_neg (by simpa using h93), ← htl]
    rfl
  have HS : ∀ b, sixB t.data.toList = b → Hid (∀ wx, Below w.heap.size w wx → Calls Tryz.prog 52 #[.string t] wx fun e w' => e = .returned (.bool b) ∧ Below wx.heap.size wx w') := fun b hb wx _ => by
    have := sixth_any t wx
    rw [hb] at this
    exact this
  have htx : s.extract 1 (s.size - 1) = t := htd.symm
  have a2 : ¬ (255 : Int) < (s.size : Int) := by omega
  have a4 : (s.size : Int) - 1 < (s.size : Int) := by omega
  have a5 : (1 : Int) ≤ (s.size : Int) - 1 := by omega
  have n82 : (((82 : Nat) : Int) != 0) = true := by decide
  rw [hL]
  by_cases h6 : sixB t.data.toList = true
  · have h5 : 5 ≤ t.size := by
      have := h6
      unfold sixB at this
      rw [len_list] at this
      simp at this
      exact this.1
    have HV : Hid (∀ wx, Below w.heap.size w wx → Calls Tryz.prog 25 #[.string (t.extract 5 t.size)] wx fun e w' => e = .returned (v6V (v6 (t.data.toList.drop 5))) ∧ Below wx.heap.size wx w') := fun wx hx => by
      have := rv6_any (t.extract 5 t.size) wx (HT wx hx) (by rw [ByteArray.size_extract]; omega)
      rw [ext_drop] at this
      exact this
    rw [if_pos h6]
    cases hv : v6 (t.data.toList.drop 5) with
    | ok l =>
      rw [hv] at HV
      exact rpa_six_ok s t wide w hem h0 n91 a2 hln a4 n93 a5 htx l (v6_ok _ l hv).1 (by omega) (HS true h6) HV
    | error p =>
      rw [hv] at HV
      have hp := v6_le _ p hv
      rw [List.length_drop, len_list] at hp
      have e1 : (told 6 ⟨3, [], addrOf 16 (Except.error p)⟩ (spotOf (Except.error p : Except Nat (List Nat)))) = (ho0, (82, p + 6)) := told_no p 6 _ 82 (by decide)
      rw [e1]
      exact rpa_six_no s t wide w hem h0 n91 a2 hln a4 n93 a5 htx (bytesV (addrOf 16 (Except.error p))) 82 p (by rw [bytesV_size]; rfl) (bytesV_one _) n82 (by omega) (by omega) (HS true h6) HV
  rw [if_neg h6]
  have h6f : sixB t.data.toList = false := by simpa using h6
  cases hcol : colonAt t.data.toList with
  | some k =>
    dsimp only
    have HC : Hid (∀ wx, Below w.heap.size w wx → Calls Tryz.prog 53 #[.string t, .string ⟨#[58]⟩] wx fun e w' => e = .returned (.bool true) ∧ Below wx.heap.size wx w') := fun wx _ => (Tryz.strings_Contains_one t 58 wx).mono fun e w' h => by
      obtain ⟨rfl, rfl⟩ := h
      refine ⟨?_, Below.refl _ _⟩
      rw [index_colon, hcol]
      dsimp only
      rw [decide_eq_true (Int.natCast_nonneg k)]
    have hk : k < t.data.toList.length := (colon_some hcol).1
    have htg := tagged_le t.data.toList k hk
    rw [tgD_some hcol] at htg ⊢
    have HG : Hid (∀ wx, Below w.heap.size w wx → Calls Tryz.prog 54 #[.string t] wx fun e w' => e = .returned (.int .i64 (optI (tgD t.data.toList))) ∧ Below wx.heap.size wx w') := fun wx _ => tagged_any t wx (by unfold maxLen; omega)
    cases hg : tgD t.data.toList with
    | none =>
      rw [hg] at HG
      exact rpa_tag_ok s t wide w hem h0 n91 a2 hln a4 n93 a5 htx (HS false h6f) HC HG
    | some p =>
      rw [hg] at HG htg
      dsimp only at htg
      rw [len_list] at htg
      have e1 : told 1 ⟨4, t.data.toList, z16⟩ (83, p) = (ho0, (83, p + 1)) := told_no p 1 _ 83 (by decide)
      dsimp only
      rw [e1]
      exact rpa_tag_no s t wide w hem h0 n91 a2 hln a4 n93 a5 htx p (by omega) (by omega) (HS false h6f) HC HG
  | none =>
    dsimp only
    have HC : Hid (∀ wx, Below w.heap.size w wx → Calls Tryz.prog 53 #[.string t, .string ⟨#[58]⟩] wx fun e w' => e = .returned (.bool false) ∧ Below wx.heap.size wx w') := fun wx _ => (Tryz.strings_Contains_one t 58 wx).mono fun e w' h => by
      obtain ⟨rfl, rfl⟩ := h
      refine ⟨?_, Below.refl _ _⟩
      rw [index_colon, hcol]
      rfl
    have HV : Hid (∀ wx, Below w.heap.size w wx → Calls Tryz.prog 24 #[.string t] wx fun e w' => e = .returned (v4V (v4 t.data.toList)) ∧ Below wx.heap.size wx w') := fun wx hx => rv4_any t wx (HT wx hx) (by omega)
    cases hv : v4 t.data.toList with
    | ok l =>
      rw [hv] at HV
      obtain ⟨q0, q1, q2, q3, rfl, _⟩ := v4_four' _ l hv
      exact rpa_four_ok s t wide w hem h0 n91 a2 hln a4 n93 a5 htx #[.int .u8 (q0 : Nat), .int .u8 (q1 : Nat), .int .u8 (q2 : Nat), .int .u8 (q3 : Nat)] q0 q1 q2 q3 rfl (HS false h6f) HC HV
    | error p =>
      rw [hv] at HV
      have hp := v4_le' _ p hv
      rw [len_list] at hp
      have e1 : told 1 (fourH (addrOf 4 (Except.error p))) (spotOf (Except.error p : Except Nat (List Nat))) = (ho0, (82, p + 1)) := told_no p 1 _ 82 (by decide)
      rw [e1]
      exact rpa_four_no s t wide w hem h0 n91 a2 hln a4 n93 a5 htx (bytesV (addrOf 4 (Except.error p))) 82 p (by rw [bytesV_size]; rfl) (bytesV_one _) n82 (by omega) (HS false h6f) HC HV
end Go.Proofs.YtnlgbopdbihnjaaGreatDoor
