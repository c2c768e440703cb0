/-
  For every text, every width and every host the statement DomainBack returns true.
-/
import Derived.Test.YtnlgbopdbihnjaaGreatDoorRcP
import Derived.Test.YtnlgbopdbihnjaaGreatDoorRc8
import Derived.ProofKit
import Derived.ChangeMaps5
import Derived.OpenShut
import Derived.ShutString
import Derived.ChangeOld
import Derived.SizedLaws
namespace Go.Proofs.YtnlgbopdbihnjaaGreatDoor.domainBack
open Go.ChangeShapes Go.WideShapes Go.ChangeAt Go.RowKit
open Go.ChangeMaps (open_string shut_string)

theorem check_len {h : Ho} {wide : Bool} (hc : check h wide = 0) : h.n.length ≤ 255 := by
  unfold check at hc
  split at hc
  · split at hc
    · unfold wd at hc
      split at hc
      · cases hc
      · omega
    · cases hc
  · split at hc
    · split at hc
      · rename_i h2
        rw [show h.n = [] from congrArg Ho.n h2]
        simp
      · cases hc
    · split at hc
      · split at hc
        · rename_i h2
          rw [h2]
          simp
        · cases hc
      · split at hc
        · split at hc
          · unfold chTag at hc
            split at hc
            · cases hc
            · omega
          · cases hc
        · cases hc
set_option maxHeartbeats 16000000 in
set_option maxRecDepth 100000 in
theorem walkW (s T U : ByteArray) (wide : Bool) (VP VH : Array Value) (p h : Ho) (hVP : VP = hostC p) (hVH : VH = hostC h) (hlp : p.a.length = 16) (hlh : h.a.length = 16) (kp : Int) (HP0 : Hid (VP[0]? = some (.int .i64 kp))) (er at' m : Nat) (w : World)
    (HPS : Hid (∀ wx, Below w.heap.size w wx → Calls Tryz.prog 10 #[.string s, .bool wide] wx fun e w' => e = .returned (.tuple #[.agg VP, .agg #[.int .i64 (er : Nat), .int .i64 (at' : Nat)]]) ∧ Below wx.heap.size wx w'))
    (HOK : Hid (er = 0 → at' = 0 ∧ s.size ≤ 255 ∧ (kp ≠ 3 → T = s) ∧ (∀ wx, Below w.heap.size w wx → Calls Tryz.prog 20 #[.agg VP] wx fun e w' => e = .returned (.tuple #[.string T, .int .i64 0]) ∧ Below wx.heap.size wx w') ∧ (∀ wx, Below w.heap.size w wx → Calls Tryz.prog 10 #[.string T, .bool wide] wx fun e w' => e = .returned (.tuple #[.agg VP, .agg #[.int .i64 0, .int .i64 0]]) ∧ Below wx.heap.size wx w') ∧ (∀ wx, Below w.heap.size w wx → Calls Tryz.prog 21 #[.agg VP, .bool wide] wx fun e w' => e = .returned (.int .i64 0) ∧ Below wx.heap.size wx w')))
    (HNO : Hid (er ≠ 0 → p = ho0 ∧ at' ≤ s.size))
    (HCR : Hid (∀ wx, Below w.heap.size w wx → Calls Tryz.prog 22 #[.agg VH, .bool wide] wx fun e w' => e = .returned (.int .i64 (m : Nat)) ∧ Below wx.heap.size wx w')) (HCX : Hid (∀ wx, Below w.heap.size w wx → Calls Tryz.prog 21 #[.agg VH, .bool wide] wx fun e w' => e = .returned (.int .i64 (m : Nat)) ∧ Below wx.heap.size wx w'))
    (HM : Hid (m = 0 → U.size ≤ 255 ∧ (∀ wx, Below w.heap.size w wx → Calls Tryz.prog 20 #[.agg VH] wx fun e w' => e = .returned (.tuple #[.string U, .int .i64 0]) ∧ Below wx.heap.size wx w') ∧ (∀ wx, Below w.heap.size w wx → Calls Tryz.prog 10 #[.string U, .bool wide] wx fun e w' => e = .returned (.tuple #[.agg VH, .agg #[.int .i64 0, .int .i64 0]]) ∧ Below wx.heap.size wx w')))
    (HW : Hid (∀ wx, Below w.heap.size w wx → Calls Tryz.prog 9 #[] wx fun e w' => e = .returned (.bool true) ∧ Below wx.heap.size wx w')) :
    Calls Tryz.prog 8 #[.string s, .bool wide, .agg VH] w fun e w' => e = .returned (.bool true) ∧ Below w.heap.size w w' := by
  have zh : VH.size = 18 := by rw [hVH]; exact hostC_size h hlh
  have zp : VP.size = 18 := by rw [hVP]; exact hostC_size p hlp
  have oh : Hid (VH.all (·.oneCell') = true ∧ (#[.int .i64 0, .string ⟨#[]⟩, .int .u8 0, .int .u8 0, .int .u8 0, .int .u8 0, .int .u8 0, .int .u8 0, .int .u8 0, .int .u8 0, .int .u8 0, .int .u8 0, .int .u8 0, .int .u8 0, .int .u8 0, .int .u8 0, .int .u8 0, .int .u8 0] : Array Value).size = VH.size) := ⟨by rw [hVH]; exact hostC_one h, by rw [zh]; rfl⟩
  have op : Hid (VP.all (·.oneCell') = true ∧ (#[.int .i64 0, .string ⟨#[]⟩, .int .u8 0, .int .u8 0, .int .u8 0, .int .u8 0, .int .u8 0, .int .u8 0, .int .u8 0, .int .u8 0, .int .u8 0, .int .u8 0, .int .u8 0, .int .u8 0, .int .u8 0, .int .u8 0, .int .u8 0, .int .u8 0] : Array Value).size = VP.size) := ⟨by rw [hVP]; exact hostC_one p, by rw [zp]; rfl⟩
  have EH : Hid (VH = hostC h) := hVH
  have EP : Hid (VP = hostC p) := hVP
  have L1 : Hid (Lies (w.alloc (.cells VH 28)) w.heap.size VH 28) := Lies.new w _ _
  have KB : Hid (Below w.heap.size w (w.alloc (.cells VH 28))) := (Below.refl _ _).alloc (Nat.le_refl _) _
  clear hVH hVP
  go_enter Tryz.func8, Tryz.ntmps8
  go_upto_region 1 with fail
  generalize w.alloc (.cells VH 28) = v0 at L1 KB ⊢
  go_wp2_with fail
  refine Calls.mono (HPS.out _ KB.out) ?_
  rintro e y1 ⟨rfl, hc⟩
  have KB1 : Hid (Below w.heap.size w y1) := KB.out.trans ((hc).mono KB.out.size)
  have L1n : Hid (Lies y1 (w.heap.size) VH 28) := L1.out.below (hc) L1.out.lt
  clear L1
  have L1 := L1n
  clear L1n
  clear KB
  clear hc
  have A : Hid (Lies ((y1.alloc (.cells #[.int .i64 0, .string ⟨#[]⟩, .int .u8 0, .int .u8 0, .int .u8 0, .int .u8 0, .int .u8 0, .int .u8 0, .int .u8 0, .int .u8 0, .int .u8 0, .int .u8 0, .int .u8 0, .int .u8 0, .int .u8 0, .int .u8 0, .int .u8 0, .int .u8 0] 28)).alloc (.cells #[.int .i64 0, .int .i64 0] 30)) y1.heap.size #[.int .i64 0, .string ⟨#[]⟩, .int .u8 0, .int .u8 0, .int .u8 0, .int .u8 0, .int .u8 0, .int .u8 0, .int .u8 0, .int .u8 0, .int .u8 0, .int .u8 0, .int .u8 0, .int .u8 0, .int .u8 0, .int .u8 0, .int .u8 0, .int .u8 0] 28) := (Lies.new y1 _ _).alloc _
  have B : Hid (Lies ((y1.alloc (.cells #[.int .i64 0, .string ⟨#[]⟩, .int .u8 0, .int .u8 0, .int .u8 0, .int .u8 0, .int .u8 0, .int .u8 0, .int .u8 0, .int .u8 0, .int .u8 0, .int .u8 0, .int .u8 0, .int .u8 0, .int .u8 0, .int .u8 0, .int .u8 0, .int .u8 0] 28)).alloc (.cells #[.int .i64 0, .int .i64 0] 30)) (y1.heap.size + 1) #[.int .i64 0, .int .i64 0] 30) := new_one y1 _ _ _
  have M1 : Hid (Lies ((((y1.alloc (.cells #[.int .i64 0, .string ⟨#[]⟩, .int .u8 0, .int .u8 0, .int .u8 0, .int .u8 0, .int .u8 0, .int .u8 0, .int .u8 0, .int .u8 0, .int .u8 0, .int .u8 0, .int .u8 0, .int .u8 0, .int .u8 0, .int .u8 0, .int .u8 0, .int .u8 0] 28)).alloc (.cells #[.int .i64 0, .int .i64 0] 30)).setRow y1.heap.size VP).setRow (y1.heap.size + 1) #[.int .i64 (er : Int), .int .i64 (at' : Int)]) y1.heap.size VP 28) := (A.out.row _).row_other (by omega) _
  have N1 : Hid (Lies ((((y1.alloc (.cells #[.int .i64 0, .string ⟨#[]⟩, .int .u8 0, .int .u8 0, .int .u8 0, .int .u8 0, .int .u8 0, .int .u8 0, .int .u8 0, .int .u8 0, .int .u8 0, .int .u8 0, .int .u8 0, .int .u8 0, .int .u8 0, .int .u8 0, .int .u8 0, .int .u8 0] 28)).alloc (.cells #[.int .i64 0, .int .i64 0] 30)).setRow y1.heap.size VP).setRow (y1.heap.size + 1) #[.int .i64 (er : Int), .int .i64 (at' : Int)]) (y1.heap.size + 1) #[.int .i64 (er : Int), .int .i64 (at' : Int)] 30) := (B.out.row_other (by omega) _).row _
  have BB : Hid (Below y1.heap.size y1 ((((y1.alloc (.cells #[.int .i64 0, .string ⟨#[]⟩, .int .u8 0, .int .u8 0, .int .u8 0, .int .u8 0, .int .u8 0, .int .u8 0, .int .u8 0, .int .u8 0, .int .u8 0, .int .u8 0, .int .u8 0, .int .u8 0, .int .u8 0, .int .u8 0, .int .u8 0, .int .u8 0] 28)).alloc (.cells #[.int .i64 0, .int .i64 0] 30)).setRow y1.heap.size VP).setRow (y1.heap.size + 1) #[.int .i64 (er : Int), .int .i64 (at' : Int)])) := below_row (below_row (((Below.refl _ _).alloc (Nat.le_refl _) _).alloc (by simp) _) (Nat.le_refl _) _) (by omega) _
  have KB2 : Hid (Below w.heap.size w ((((y1.alloc (.cells #[.int .i64 0, .string ⟨#[]⟩, .int .u8 0, .int .u8 0, .int .u8 0, .int .u8 0, .int .u8 0, .int .u8 0, .int .u8 0, .int .u8 0, .int .u8 0, .int .u8 0, .int .u8 0, .int .u8 0, .int .u8 0, .int .u8 0, .int .u8 0, .int .u8 0] 28)).alloc (.cells #[.int .i64 0, .int .i64 0] 30)).setRow y1.heap.size VP).setRow (y1.heap.size + 1) #[.int .i64 (er : Int), .int .i64 (at' : Int)])) := KB1.out.trans ((BB.out).mono KB1.out.size)
  have L1n : Hid (Lies ((((y1.alloc (.cells #[.int .i64 0, .string ⟨#[]⟩, .int .u8 0, .int .u8 0, .int .u8 0, .int .u8 0, .int .u8 0, .int .u8 0, .int .u8 0, .int .u8 0, .int .u8 0, .int .u8 0, .int .u8 0, .int .u8 0, .int .u8 0, .int .u8 0, .int .u8 0, .int .u8 0] 28)).alloc (.cells #[.int .i64 0, .int .i64 0] 30)).setRow y1.heap.size VP).setRow (y1.heap.size + 1) #[.int .i64 (er : Int), .int .i64 (at' : Int)]) (w.heap.size) VH 28) := L1.out.below (BB.out) L1.out.lt
  clear L1
  have L1 := L1n
  clear L1n
  clear KB1
  go_upto_region 2 with (first | (refine wpList_store_row rfl 28 _ _ rfl y1.heap.size rfl _ VP rfl 28 A.out (by rw [zp]; exact infoHo) op.out.2 op.out.1 rfl ?_) | (refine wpList_store_row rfl 30 _ _ rfl (y1.heap.size + 1) rfl _ #[.int .i64 (er : Int), .int .i64 (at' : Int)] rfl 30 (B.out.row_other (by omega) _) infoSp rfl (by simp [Value.oneCell']) rfl ?_))
  generalize hv1 : (((y1.alloc (.cells #[.int .i64 0, .string ⟨#[]⟩, .int .u8 0, .int .u8 0, .int .u8 0, .int .u8 0, .int .u8 0, .int .u8 0, .int .u8 0, .int .u8 0, .int .u8 0, .int .u8 0, .int .u8 0, .int .u8 0, .int .u8 0, .int .u8 0, .int .u8 0, .int .u8 0] 28)).alloc (.cells #[.int .i64 0, .int .i64 0] 30)).setRow y1.heap.size VP).setRow (y1.heap.size + 1) #[.int .i64 (er : Int), .int .i64 (at' : Int)] = v1 at M1 N1 KB2 L1 ⊢
  clear hv1 A B BB
  have c0 : v1.cell? ⟨y1.heap.size + 1, 0, none⟩ = some (.int .i64 (er : Int)) := N1.out.cell 0
  go_upto_if 26 with fail
  go_cut [] (fun wx => Hid (Below w.heap.size w wx) ∧ Hid (Lies wx w.heap.size VH 28))
  case first =>
    by_cases he : er = 0
    case pos =>
      obtain ⟨_, hs, hT, hpr, hpa, hck⟩ := HOK.out he
      have heb : ((er : Int) == 0) = true := by rw [he]; rfl
      have HPR : Hid (∀ wx, Below w.heap.size w wx → Calls Tryz.prog 20 #[.agg VP] wx fun e w' => e = .returned (.tuple #[.string T, .int .i64 0]) ∧ Below wx.heap.size wx w') := hpr
      have HPA : Hid (∀ wx, Below w.heap.size w wx → Calls Tryz.prog 10 #[.string T, .bool wide] wx fun e w' => e = .returned (.tuple #[.agg VP, .agg #[.int .i64 0, .int .i64 0]]) ∧ Below wx.heap.size wx w') := hpa
      have HCK : Hid (∀ wx, Below w.heap.size w wx → Calls Tryz.prog 21 #[.agg VP, .bool wide] wx fun e w' => e = .returned (.int .i64 0) ∧ Below wx.heap.size wx w') := hck
      have HTT : Hid (kp ≠ 3 → T = s) := hT
      clear hpr hpa hck hT he HOK HNO HCR HCX HM
      go_upto_region 3 with fail
      clear c0
      go_wp2_with (first | (refine wpList_load_rowG (by rfl) 28 _ rfl (y1.heap.size) rfl VP 28 _ M1.out Tryz.underlying28 rfl (by rw [zp]; exact infoHo) ?_))
      refine Calls.mono (HPR.out _ KB2.out) ?_
      rintro e y2 ⟨rfl, hc⟩
      have KB3 : Hid (Below w.heap.size w y2) := KB2.out.trans ((hc).mono KB2.out.size)
      have L1n : Hid (Lies y2 (w.heap.size) VH 28) := L1.out.below (hc) L1.out.lt
      clear L1
      have L1 := L1n
      clear L1n
      have M1n : Hid (Lies y2 (y1.heap.size) VP 28) := M1.out.below (hc) M1.out.lt
      clear M1
      have M1 := M1n
      clear M1n
      have N1n : Hid (Lies y2 (y1.heap.size + 1) #[.int .i64 (er : Int), .int .i64 (at' : Int)] 30) := N1.out.below (hc) N1.out.lt
      clear N1
      have N1 := N1n
      clear N1n
      clear KB2
      clear hc
      go_upto_region 4 with fail
      go_wp2_with fail
      refine Calls.mono (HPA.out _ KB3.out) ?_
      rintro e y3 ⟨rfl, hc⟩
      have KB4 : Hid (Below w.heap.size w y3) := KB3.out.trans ((hc).mono KB3.out.size)
      have L1n : Hid (Lies y3 (w.heap.size) VH 28) := L1.out.below (hc) L1.out.lt
      clear L1
      have L1 := L1n
      clear L1n
      have M1n : Hid (Lies y3 (y1.heap.size) VP 28) := M1.out.below (hc) M1.out.lt
      clear M1
      have M1 := M1n
      clear M1n
      have N1n : Hid (Lies y3 (y1.heap.size + 1) #[.int .i64 (er : Int), .int .i64 (at' : Int)] 30) := N1.out.below (hc) N1.out.lt
      clear N1
      have N1 := N1n
      clear N1n
      clear KB3
      clear hc
      have A : Hid (Lies ((y3.alloc (.cells #[.int .i64 0, .string ⟨#[]⟩, .int .u8 0, .int .u8 0, .int .u8 0, .int .u8 0, .int .u8 0, .int .u8 0, .int .u8 0, .int .u8 0, .int .u8 0, .int .u8 0, .int .u8 0, .int .u8 0, .int .u8 0, .int .u8 0, .int .u8 0, .int .u8 0] 28)).alloc (.cells #[.int .i64 0, .int .i64 0] 30)) y3.heap.size #[.int .i64 0, .string ⟨#[]⟩, .int .u8 0, .int .u8 0, .int .u8 0, .int .u8 0, .int .u8 0, .int .u8 0, .int .u8 0, .int .u8 0, .int .u8 0, .int .u8 0, .int .u8 0, .int .u8 0, .int .u8 0, .int .u8 0, .int .u8 0, .int .u8 0] 28) := (Lies.new y3 _ _).alloc _
      have B : Hid (Lies ((y3.alloc (.cells #[.int .i64 0, .string ⟨#[]⟩, .int .u8 0, .int .u8 0, .int .u8 0, .int .u8 0, .int .u8 0, .int .u8 0, .int .u8 0, .int .u8 0, .int .u8 0, .int .u8 0, .int .u8 0, .int .u8 0, .int .u8 0, .int .u8 0, .int .u8 0, .int .u8 0] 28)).alloc (.cells #[.int .i64 0, .int .i64 0] 30)) (y3.heap.size + 1) #[.int .i64 0, .int .i64 0] 30) := new_one y3 _ _ _
      have M2 : Hid (Lies ((((y3.alloc (.cells #[.int .i64 0, .string ⟨#[]⟩, .int .u8 0, .int .u8 0, .int .u8 0, .int .u8 0, .int .u8 0, .int .u8 0, .int .u8 0, .int .u8 0, .int .u8 0, .int .u8 0, .int .u8 0, .int .u8 0, .int .u8 0, .int .u8 0, .int .u8 0, .int .u8 0] 28)).alloc (.cells #[.int .i64 0, .int .i64 0] 30)).setRow y3.heap.size VP).setRow (y3.heap.size + 1) #[.int .i64 0, .int .i64 0]) y3.heap.size VP 28) := (A.out.row _).row_other (by omega) _
      have N2 : Hid (Lies ((((y3.alloc (.cells #[.int .i64 0, .string ⟨#[]⟩, .int .u8 0, .int .u8 0, .int .u8 0, .int .u8 0, .int .u8 0, .int .u8 0, .int .u8 0, .int .u8 0, .int .u8 0, .int .u8 0, .int .u8 0, .int .u8 0, .int .u8 0, .int .u8 0, .int .u8 0, .int .u8 0] 28)).alloc (.cells #[.int .i64 0, .int .i64 0] 30)).setRow y3.heap.size VP).setRow (y3.heap.size + 1) #[.int .i64 0, .int .i64 0]) (y3.heap.size + 1) #[.int .i64 0, .int .i64 0] 30) := (B.out.row_other (by omega) _).row _
      have BB : Hid (Below y3.heap.size y3 ((((y3.alloc (.cells #[.int .i64 0, .string ⟨#[]⟩, .int .u8 0, .int .u8 0, .int .u8 0, .int .u8 0, .int .u8 0, .int .u8 0, .int .u8 0, .int .u8 0, .int .u8 0, .int .u8 0, .int .u8 0, .int .u8 0, .int .u8 0, .int .u8 0, .int .u8 0, .int .u8 0] 28)).alloc (.cells #[.int .i64 0, .int .i64 0] 30)).setRow y3.heap.size VP).setRow (y3.heap.size + 1) #[.int .i64 0, .int .i64 0])) := below_row (below_row (((Below.refl _ _).alloc (Nat.le_refl _) _).alloc (by simp) _) (Nat.le_refl _) _) (by omega) _
      have KB5 : Hid (Below w.heap.size w ((((y3.alloc (.cells #[.int .i64 0, .string ⟨#[]⟩, .int .u8 0, .int .u8 0, .int .u8 0, .int .u8 0, .int .u8 0, .int .u8 0, .int .u8 0, .int .u8 0, .int .u8 0, .int .u8 0, .int .u8 0, .int .u8 0, .int .u8 0, .int .u8 0, .int .u8 0, .int .u8 0] 28)).alloc (.cells #[.int .i64 0, .int .i64 0] 30)).setRow y3.heap.size VP).setRow (y3.heap.size + 1) #[.int .i64 0, .int .i64 0])) := KB4.out.trans ((BB.out).mono KB4.out.size)
      have L1n : Hid (Lies ((((y3.alloc (.cells #[.int .i64 0, .string ⟨#[]⟩, .int .u8 0, .int .u8 0, .int .u8 0, .int .u8 0, .int .u8 0, .int .u8 0, .int .u8 0, .int .u8 0, .int .u8 0, .int .u8 0, .int .u8 0, .int .u8 0, .int .u8 0, .int .u8 0, .int .u8 0, .int .u8 0] 28)).alloc (.cells #[.int .i64 0, .int .i64 0] 30)).setRow y3.heap.size VP).setRow (y3.heap.size + 1) #[.int .i64 0, .int .i64 0]) (w.heap.size) VH 28) := L1.out.below (BB.out) L1.out.lt
      clear L1
      have L1 := L1n
      clear L1n
      have M1n : Hid (Lies ((((y3.alloc (.cells #[.int .i64 0, .string ⟨#[]⟩, .int .u8 0, .int .u8 0, .int .u8 0, .int .u8 0, .int .u8 0, .int .u8 0, .int .u8 0, .int .u8 0, .int .u8 0, .int .u8 0, .int .u8 0, .int .u8 0, .int .u8 0, .int .u8 0, .int .u8 0, .int .u8 0] 28)).alloc (.cells #[.int .i64 0, .int .i64 0] 30)).setRow y3.heap.size VP).setRow (y3.heap.size + 1) #[.int .i64 0, .int .i64 0]) (y1.heap.size) VP 28) := M1.out.below (BB.out) M1.out.lt
      clear M1
      have M1 := M1n
      clear M1n
      have N1n : Hid (Lies ((((y3.alloc (.cells #[.int .i64 0, .string ⟨#[]⟩, .int .u8 0, .int .u8 0, .int .u8 0, .int .u8 0, .int .u8 0, .int .u8 0, .int .u8 0, .int .u8 0, .int .u8 0, .int .u8 0, .int .u8 0, .int .u8 0, .int .u8 0, .int .u8 0, .int .u8 0, .int .u8 0] 28)).alloc (.cells #[.int .i64 0, .int .i64 0] 30)).setRow y3.heap.size VP).setRow (y3.heap.size + 1) #[.int .i64 0, .int .i64 0]) (y1.heap.size + 1) #[.int .i64 (er : Int), .int .i64 (at' : Int)] 30) := N1.out.below (BB.out) N1.out.lt
      clear N1
      have N1 := N1n
      clear N1n
      clear KB4
      go_upto_region 5 with (first | (refine wpList_store_row rfl 28 _ _ rfl y3.heap.size rfl _ VP rfl 28 A.out (by rw [zp]; exact infoHo) op.out.2 op.out.1 rfl ?_) | (refine wpList_store_row rfl 30 _ _ rfl (y3.heap.size + 1) rfl _ #[.int .i64 0, .int .i64 0] rfl 30 (B.out.row_other (by omega) _) infoSp rfl (by simp [Value.oneCell']) rfl ?_))
      generalize hv2 : (((y3.alloc (.cells #[.int .i64 0, .string ⟨#[]⟩, .int .u8 0, .int .u8 0, .int .u8 0, .int .u8 0, .int .u8 0, .int .u8 0, .int .u8 0, .int .u8 0, .int .u8 0, .int .u8 0, .int .u8 0, .int .u8 0, .int .u8 0, .int .u8 0, .int .u8 0, .int .u8 0] 28)).alloc (.cells #[.int .i64 0, .int .i64 0] 30)).setRow y3.heap.size VP).setRow (y3.heap.size + 1) #[.int .i64 0, .int .i64 0] = v2 at M2 N2 KB5 L1 M1 N1 ⊢
      clear hv2 A B BB
      by_cases hk3 : kp = 3
      case pos =>
        have hkb : (kp == 3) = true := by rw [beq_iff_eq]; exact hk3
        have hkc : (kp != 3) = false := by rw [bne, hkb]; rfl
        clear hk3 HTT
        refine wp_region_lit ?_
        refine wpList_yieldG ?_ (by rfl) ?hy ?_
        case hy => (go_simp <;> (first | with_reducible rfl | omega | skip))
        simp only [Act.put, List.setIfInBounds_toArray, List.set_cons_zero, List.set_cons_succ]
        refine wpList_yieldG (.bool false) (by rfl) ?hy ?_
        case hy => (go_simp <;> (first | with_reducible rfl | omega | skip))
        simp only [Act.put, List.setIfInBounds_toArray, List.set_cons_zero, List.set_cons_succ]
        refine wpList_yieldG (.bool false) (by rfl) ?hy ?_
        case hy => (go_simp <;> (first | with_reducible rfl | omega | skip))
        simp only [Act.put, List.setIfInBounds_toArray, List.set_cons_zero, List.set_cons_succ]
        refine wpList_load_rowG (by rfl) 30 _ rfl (y3.heap.size + 1) rfl #[.int .i64 0, .int .i64 0] 30 _ N2.out Tryz.underlying30 rfl infoSp ?_
        simp only [Act.put, List.setIfInBounds_toArray, List.set_cons_zero, List.set_cons_succ]
        refine wpList_yieldG (.agg #[.int .i64 0, .int .i64 0]) (by rfl) ?hy ?_
        case hy => (go_simp <;> (first | with_reducible rfl | omega | skip))
        simp only [Act.put, List.setIfInBounds_toArray, List.set_cons_zero, List.set_cons_succ]
        refine wpList_yieldG (.bool false) (by rfl) ?hy ?_
        case hy => (go_simp <;> (first | with_reducible rfl | omega | skip))
        simp only [Act.put, List.setIfInBounds_toArray, List.set_cons_zero, List.set_cons_succ]
        refine wpList_yieldG (.bool false) (by rfl) ?hy ?_
        case hy => (go_simp <;> (first | with_reducible rfl | omega | skip))
        simp only [Act.put, List.setIfInBounds_toArray, List.set_cons_zero, List.set_cons_succ]
        refine wpList_yieldG (.bool false) (by rfl) ?hy ?_
        case hy => (go_simp <;> (first | with_reducible rfl | omega | skip))
        simp only [Act.put, List.setIfInBounds_toArray, List.set_cons_zero, List.set_cons_succ]
        refine wpList_load_rowG (by rfl) 28 _ rfl (y3.heap.size) rfl VP 28 _ M2.out Tryz.underlying28 rfl (by rw [zp]; exact infoHo) ?_
        simp only [Act.put, List.setIfInBounds_toArray, List.set_cons_zero, List.set_cons_succ]
        refine wpList_load_rowG (by rfl) 28 _ rfl (y1.heap.size) rfl VP 28 _ M1.out Tryz.underlying28 rfl (by rw [zp]; exact infoHo) ?_
        simp only [Act.put, List.setIfInBounds_toArray, List.set_cons_zero, List.set_cons_succ]
        refine wpList_yieldG (.bool false) (by rfl) ?hy ?_
        case hy => 
          refine Eq.trans (exec_neq_host _ _ _ rfl p p ?_ ?_ hlp hlp) (by rw [decide_eq_true rfl]; rfl)
          · (show Value.agg VP = _; rw [EP.out]; rfl)
          · (show Value.agg VP = _; rw [EP.out]; rfl)
        simp only [Act.put, List.setIfInBounds_toArray, List.set_cons_zero, List.set_cons_succ]
        refine wpList_yieldG (.bool false) (by rfl) ?hy ?_
        case hy => (go_simp <;> (first | with_reducible rfl | omega | skip))
        simp only [Act.put, List.setIfInBounds_toArray, List.set_cons_zero, List.set_cons_succ]
        refine wpList_yieldG (.bool false) (by rfl) ?hy ?_
        case hy => (go_simp <;> (first | with_reducible rfl | omega | skip))
        simp only [Act.put, List.setIfInBounds_toArray, List.set_cons_zero, List.set_cons_succ]
        refine wpList_load_rowG (by rfl) 28 _ rfl (y1.heap.size) rfl VP 28 _ M1.out Tryz.underlying28 rfl (by rw [zp]; exact infoHo) ?_
        simp only [Act.put, List.setIfInBounds_toArray, List.set_cons_zero, List.set_cons_succ]
        refine wpList_yieldG ?_ (by rfl) ?hy ?_
        case hy => (go_simp <;> (first | with_reducible rfl | omega | skip))
        simp only [Act.put, List.setIfInBounds_toArray, List.set_cons_zero, List.set_cons_succ]
        refine wpList_onG (by rfl) ?_
        go_simp
        refine Calls.mono (HCK.out _ KB5.out) ?_
        rintro e y101 ⟨rfl, hc101⟩
        have hb101 : Hid (Below v2.heap.size v2 y101) := hc101
        have KB101 : Hid (Below w.heap.size w y101) := KB5.out.trans ((hc101).mono KB5.out.size)
        have L1n : Hid (Lies y101 (w.heap.size) VH 28) := L1.out.below (hc101) L1.out.lt
        clear L1
        have L1 := L1n
        clear L1n
        have M1n : Hid (Lies y101 (y1.heap.size) VP 28) := M1.out.below (hc101) M1.out.lt
        clear M1
        have M1 := M1n
        clear M1n
        have M2n : Hid (Lies y101 (y3.heap.size) VP 28) := M2.out.below (hc101) M2.out.lt
        clear M2
        have M2 := M2n
        clear M2n
        have N2n : Hid (Lies y101 (y3.heap.size + 1) #[.int .i64 0, .int .i64 0] 30) := N2.out.below (hc101) N2.out.lt
        clear N2
        have N2 := N2n
        clear N2n
        clear KB5
        clear hc101
        refine wpList_yieldG (.bool false) (by rfl) ?hy ?_
        case hy => (go_simp <;> (first | with_reducible rfl | omega | skip))
        simp only [Act.put, List.setIfInBounds_toArray, List.set_cons_zero, List.set_cons_succ]
        refine wpList_yieldG (.bool false) (by rfl) ?hy ?_
        case hy => (go_simp <;> (first | with_reducible rfl | omega | skip))
        simp only [Act.put, List.setIfInBounds_toArray, List.set_cons_zero, List.set_cons_succ]
        refine wpList_yieldG (.bool false) (by rfl) ?hy ?_
        case hy => (go_simp <;> (first | with_reducible rfl | omega | skip))
        simp only [Act.put, List.setIfInBounds_toArray, List.set_cons_zero, List.set_cons_succ]
        refine wpList_yieldG ?_ (by rfl) ?hy ?_
        case hy => (go_simp <;> (first | with_reducible rfl | omega | skip))
        simp only [Act.put, List.setIfInBounds_toArray, List.set_cons_zero, List.set_cons_succ]
        refine wpList_yieldG ?_ (by rfl) ?hy ?_
        case hy => (go_simp <;> (first | with_reducible rfl | omega | skip))
        simp only [Act.put, List.setIfInBounds_toArray, List.set_cons_zero, List.set_cons_succ]
        refine wpList_yieldG (.bool false) (by rfl) ?hy ?_
        case hy => (go_simp <;> (first | with_reducible rfl | omega | skip))
        simp only [Act.put, List.setIfInBounds_toArray, List.set_cons_zero, List.set_cons_succ]
        refine wpList_yieldG (.bool false) (by rfl) ?hy ?_
        case hy => (go_simp <;> (first | with_reducible rfl | omega | skip))
        simp only [Act.put, List.setIfInBounds_toArray, List.set_cons_zero, List.set_cons_succ]
        refine wpList_yieldG (.bool false) (by rfl) ?hy ?_
        case hy => (go_simp <;> (first | with_reducible rfl | omega | skip))
        simp only [Act.put, List.setIfInBounds_toArray, List.set_cons_zero, List.set_cons_succ]
        refine wpList_yieldG ?_ (by rfl) ?hy ?_
        case hy => (go_simp <;> (first | with_reducible rfl | omega | skip))
        simp only [Act.put, List.setIfInBounds_toArray, List.set_cons_zero, List.set_cons_succ]
        have c0 : y101.cell? ⟨y1.heap.size, 0, none⟩ = some (.int .i64 kp) := by rw [M1.out.cell 0, HP0.out]
        refine wpList_yieldG (.int .i64 kp) (by rfl) ?hy ?_
        case hy => (go_simp <;> (first | with_reducible rfl | omega | skip))
        clear c0
        simp only [Act.put, List.setIfInBounds_toArray, List.set_cons_zero, List.set_cons_succ]
        refine wpList_yieldG (.bool false) (by rfl) ?hy ?_
        case hy => (go_simp <;> (first | with_reducible rfl | omega | skip))
        simp only [Act.put, List.setIfInBounds_toArray, List.set_cons_zero, List.set_cons_succ]
        refine wpList_yieldG (.bool false) (by rfl) ?hy ?_
        case hy => (go_simp <;> (first | with_reducible rfl | omega | skip))
        simp only [Act.put, List.setIfInBounds_toArray, List.set_cons_zero, List.set_cons_succ]
        refine wpList_skipG (by rfl) ?_
        simp only [Act.put, List.setIfInBounds_toArray, List.set_cons_zero, List.set_cons_succ]
        refine wpList_skipG (by rfl) ?_
        simp only [Act.put, List.setIfInBounds_toArray, List.set_cons_zero, List.set_cons_succ]
        refine wpList_skipG (by rfl) ?_
        simp only [Act.put, List.setIfInBounds_toArray, List.set_cons_zero, List.set_cons_succ]
        refine wpList_yieldG (.bool false) (by rfl) ?hy ?_
        case hy => (go_simp <;> (first | with_reducible rfl | omega | skip))
        simp only [Act.put, List.setIfInBounds_toArray, List.set_cons_zero, List.set_cons_succ]
        refine wpList_yieldG (.bool false) (by rfl) ?hy ?_
        case hy => (go_simp <;> (first | with_reducible rfl | omega | skip))
        simp only [Act.put, List.setIfInBounds_toArray, List.set_cons_zero, List.set_cons_succ]
        refine wpList_nil ?_
        go_wp2_with fail
        go_meet
        exact ⟨KB101, L1⟩
      case neg =>
        have hkb : (kp == 3) = false := by rw [beq_eq_false_iff_ne]; exact hk3
        have hkc : (kp != 3) = true := by rw [bne, hkb]; rfl
        obtain rfl := HTT.out hk3
        clear hk3 HTT
        refine wp_region_lit ?_
        refine wpList_yieldG ?_ (by rfl) ?hy ?_
        case hy => (go_simp <;> (first | with_reducible rfl | omega | skip))
        simp only [Act.put, List.setIfInBounds_toArray, List.set_cons_zero, List.set_cons_succ]
        refine wpList_yieldG (.bool false) (by rfl) ?hy ?_
        case hy => (go_simp <;> (first | with_reducible rfl | omega | skip))
        simp only [Act.put, List.setIfInBounds_toArray, List.set_cons_zero, List.set_cons_succ]
        refine wpList_yieldG (.bool false) (by rfl) ?hy ?_
        case hy => (go_simp <;> (first | with_reducible rfl | omega | skip))
        simp only [Act.put, List.setIfInBounds_toArray, List.set_cons_zero, List.set_cons_succ]
        refine wpList_load_rowG (by rfl) 30 _ rfl (y3.heap.size + 1) rfl #[.int .i64 0, .int .i64 0] 30 _ N2.out Tryz.underlying30 rfl infoSp ?_
        simp only [Act.put, List.setIfInBounds_toArray, List.set_cons_zero, List.set_cons_succ]
        refine wpList_yieldG (.agg #[.int .i64 0, .int .i64 0]) (by rfl) ?hy ?_
        case hy => (go_simp <;> (first | with_reducible rfl | omega | skip))
        simp only [Act.put, List.setIfInBounds_toArray, List.set_cons_zero, List.set_cons_succ]
        refine wpList_yieldG (.bool false) (by rfl) ?hy ?_
        case hy => (go_simp <;> (first | with_reducible rfl | omega | skip))
        simp only [Act.put, List.setIfInBounds_toArray, List.set_cons_zero, List.set_cons_succ]
        refine wpList_yieldG (.bool false) (by rfl) ?hy ?_
        case hy => (go_simp <;> (first | with_reducible rfl | omega | skip))
        simp only [Act.put, List.setIfInBounds_toArray, List.set_cons_zero, List.set_cons_succ]
        refine wpList_yieldG (.bool false) (by rfl) ?hy ?_
        case hy => (go_simp <;> (first | with_reducible rfl | omega | skip))
        simp only [Act.put, List.setIfInBounds_toArray, List.set_cons_zero, List.set_cons_succ]
        refine wpList_load_rowG (by rfl) 28 _ rfl (y3.heap.size) rfl VP 28 _ M2.out Tryz.underlying28 rfl (by rw [zp]; exact infoHo) ?_
        simp only [Act.put, List.setIfInBounds_toArray, List.set_cons_zero, List.set_cons_succ]
        refine wpList_load_rowG (by rfl) 28 _ rfl (y1.heap.size) rfl VP 28 _ M1.out Tryz.underlying28 rfl (by rw [zp]; exact infoHo) ?_
        simp only [Act.put, List.setIfInBounds_toArray, List.set_cons_zero, List.set_cons_succ]
        refine wpList_yieldG (.bool false) (by rfl) ?hy ?_
        case hy => 
          refine Eq.trans (exec_neq_host _ _ _ rfl p p ?_ ?_ hlp hlp) (by rw [decide_eq_true rfl]; rfl)
          · (show Value.agg VP = _; rw [EP.out]; rfl)
          · (show Value.agg VP = _; rw [EP.out]; rfl)
        simp only [Act.put, List.setIfInBounds_toArray, List.set_cons_zero, List.set_cons_succ]
        refine wpList_yieldG (.bool false) (by rfl) ?hy ?_
        case hy => (go_simp <;> (first | with_reducible rfl | omega | skip))
        simp only [Act.put, List.setIfInBounds_toArray, List.set_cons_zero, List.set_cons_succ]
        refine wpList_yieldG (.bool false) (by rfl) ?hy ?_
        case hy => (go_simp <;> (first | with_reducible rfl | omega | skip))
        simp only [Act.put, List.setIfInBounds_toArray, List.set_cons_zero, List.set_cons_succ]
        refine wpList_load_rowG (by rfl) 28 _ rfl (y1.heap.size) rfl VP 28 _ M1.out Tryz.underlying28 rfl (by rw [zp]; exact infoHo) ?_
        simp only [Act.put, List.setIfInBounds_toArray, List.set_cons_zero, List.set_cons_succ]
        refine wpList_yieldG ?_ (by rfl) ?hy ?_
        case hy => (go_simp <;> (first | with_reducible rfl | omega | skip))
        simp only [Act.put, List.setIfInBounds_toArray, List.set_cons_zero, List.set_cons_succ]
        refine wpList_onG (by rfl) ?_
        go_simp
        refine Calls.mono (HCK.out _ KB5.out) ?_
        rintro e y101 ⟨rfl, hc101⟩
        have hb101 : Hid (Below v2.heap.size v2 y101) := hc101
        have KB101 : Hid (Below w.heap.size w y101) := KB5.out.trans ((hc101).mono KB5.out.size)
        have L1n : Hid (Lies y101 (w.heap.size) VH 28) := L1.out.below (hc101) L1.out.lt
        clear L1
        have L1 := L1n
        clear L1n
        have M1n : Hid (Lies y101 (y1.heap.size) VP 28) := M1.out.below (hc101) M1.out.lt
        clear M1
        have M1 := M1n
        clear M1n
        have M2n : Hid (Lies y101 (y3.heap.size) VP 28) := M2.out.below (hc101) M2.out.lt
        clear M2
        have M2 := M2n
        clear M2n
        have N2n : Hid (Lies y101 (y3.heap.size + 1) #[.int .i64 0, .int .i64 0] 30) := N2.out.below (hc101) N2.out.lt
        clear N2
        have N2 := N2n
        clear N2n
        clear KB5
        clear hc101
        refine wpList_yieldG (.bool false) (by rfl) ?hy ?_
        case hy => (go_simp <;> (first | with_reducible rfl | omega | skip))
        simp only [Act.put, List.setIfInBounds_toArray, List.set_cons_zero, List.set_cons_succ]
        refine wpList_yieldG (.bool false) (by rfl) ?hy ?_
        case hy => (go_simp <;> (first | with_reducible rfl | omega | skip))
        simp only [Act.put, List.setIfInBounds_toArray, List.set_cons_zero, List.set_cons_succ]
        refine wpList_yieldG (.bool false) (by rfl) ?hy ?_
        case hy => (go_simp <;> (first | with_reducible rfl | omega | skip))
        simp only [Act.put, List.setIfInBounds_toArray, List.set_cons_zero, List.set_cons_succ]
        refine wpList_yieldG ?_ (by rfl) ?hy ?_
        case hy => (go_simp <;> (first | with_reducible rfl | omega | skip))
        simp only [Act.put, List.setIfInBounds_toArray, List.set_cons_zero, List.set_cons_succ]
        refine wpList_yieldG ?_ (by rfl) ?hy ?_
        case hy => (go_simp <;> (first | with_reducible rfl | omega | skip))
        simp only [Act.put, List.setIfInBounds_toArray, List.set_cons_zero, List.set_cons_succ]
        refine wpList_yieldG (.bool false) (by rfl) ?hy ?_
        case hy => (go_simp <;> (first | with_reducible rfl | omega | skip))
        simp only [Act.put, List.setIfInBounds_toArray, List.set_cons_zero, List.set_cons_succ]
        refine wpList_yieldG (.bool false) (by rfl) ?hy ?_
        case hy => (go_simp <;> (first | with_reducible rfl | omega | skip))
        simp only [Act.put, List.setIfInBounds_toArray, List.set_cons_zero, List.set_cons_succ]
        refine wpList_yieldG (.bool false) (by rfl) ?hy ?_
        case hy => (go_simp <;> (first | with_reducible rfl | omega | skip))
        simp only [Act.put, List.setIfInBounds_toArray, List.set_cons_zero, List.set_cons_succ]
        refine wpList_yieldG ?_ (by rfl) ?hy ?_
        case hy => (go_simp <;> (first | with_reducible rfl | omega | skip))
        simp only [Act.put, List.setIfInBounds_toArray, List.set_cons_zero, List.set_cons_succ]
        have c0 : y101.cell? ⟨y1.heap.size, 0, none⟩ = some (.int .i64 kp) := by rw [M1.out.cell 0, HP0.out]
        refine wpList_yieldG (.int .i64 kp) (by rfl) ?hy ?_
        case hy => (go_simp <;> (first | with_reducible rfl | omega | skip))
        clear c0
        simp only [Act.put, List.setIfInBounds_toArray, List.set_cons_zero, List.set_cons_succ]
        refine wpList_yieldG (.bool true) (by rfl) ?hy ?_
        case hy => (go_simp <;> (first | with_reducible rfl | omega | skip))
        simp only [Act.put, List.setIfInBounds_toArray, List.set_cons_zero, List.set_cons_succ]
        refine wpList_yieldG (.bool true) (by rfl) ?hy ?_
        case hy => (go_simp <;> (first | with_reducible rfl | omega | skip))
        simp only [Act.put, List.setIfInBounds_toArray, List.set_cons_zero, List.set_cons_succ]
        refine wpList_yieldG ?_ (by rfl) ?hy ?_
        case hy => (go_simp <;> (first | with_reducible rfl | omega | skip))
        simp only [Act.put, List.setIfInBounds_toArray, List.set_cons_zero, List.set_cons_succ]
        refine wpList_yieldG ?_ (by rfl) ?hy ?_
        case hy => (go_simp <;> (first | with_reducible rfl | omega | skip))
        simp only [Act.put, List.setIfInBounds_toArray, List.set_cons_zero, List.set_cons_succ]
        refine wpList_yieldG (.bool false) (by rfl) ?hy ?_
        case hy => (go_simp <;> (first | with_reducible rfl | omega | skip))
        simp only [Act.put, List.setIfInBounds_toArray, List.set_cons_zero, List.set_cons_succ]
        refine wpList_yieldG (.bool false) (by rfl) ?hy ?_
        case hy => (go_simp <;> (first | with_reducible rfl | omega | skip))
        simp only [Act.put, List.setIfInBounds_toArray, List.set_cons_zero, List.set_cons_succ]
        refine wpList_yieldG (.bool false) (by rfl) ?hy ?_
        case hy => (go_simp <;> (first | with_reducible rfl | omega | skip))
        simp only [Act.put, List.setIfInBounds_toArray, List.set_cons_zero, List.set_cons_succ]
        refine wpList_nil ?_
        go_wp2_with fail
        go_meet
        exact ⟨KB101, L1⟩
    case neg =>
      obtain ⟨hp0, hat⟩ := HNO.out he
      have heb : ((er : Int) == 0) = false := by rw [beq_eq_false_iff_ne]; omega
      have c1 : v1.cell? ⟨y1.heap.size + 1, 1, none⟩ = some (.int .i64 (at' : Int)) := N1.out.cell 1
      have HP : Hid (p = ho0) := hp0
      have hat' : ¬ (s.size : Int) < (at' : Int) := by omega
      clear hp0 he HOK HNO HCR HCX HM
      go_upto_region 7 with fail
      clear c0
      refine wp_region_lit ?_
      refine wpList_load_rowG (by rfl) 28 _ rfl (y1.heap.size) rfl VP 28 _ M1.out Tryz.underlying28 rfl (by rw [zp]; exact infoHo) ?_
      simp only [Act.put, List.setIfInBounds_toArray, List.set_cons_zero, List.set_cons_succ]
      refine wpList_yieldG (hostV ho0) (by rfl) ?hy ?_
      case hy => (go_simp; rfl)
      simp only [Act.put, List.setIfInBounds_toArray, List.set_cons_zero, List.set_cons_succ]
      refine wpList_yieldG (.bool false) (by rfl) ?hy ?_
      case hy => 
        refine Eq.trans (exec_neq_host _ _ _ rfl p ho0 ?_ ?_ hlp rfl) (by rw [decide_eq_true HP.out]; rfl)
        · (show Value.agg VP = _; rw [EP.out]; rfl)
        · rfl
      simp only [Act.put, List.setIfInBounds_toArray, List.set_cons_zero, List.set_cons_succ]
      refine wpList_yieldG (.bool false) (by rfl) ?hy ?_
      case hy => (go_simp <;> (first | with_reducible rfl | omega | skip))
      simp only [Act.put, List.setIfInBounds_toArray, List.set_cons_zero, List.set_cons_succ]
      refine wpList_yieldG ?_ (by rfl) ?hy ?_
      case hy => (go_simp <;> (first | with_reducible rfl | omega | skip))
      simp only [Act.put, List.setIfInBounds_toArray, List.set_cons_zero, List.set_cons_succ]
      refine wpList_yieldG (.int .i64 (at' : Int)) (by rfl) ?hy ?_
      case hy => (go_simp <;> (first | with_reducible rfl | omega | skip))
      simp only [Act.put, List.setIfInBounds_toArray, List.set_cons_zero, List.set_cons_succ]
      refine wpList_yieldG (.bool false) (by rfl) ?hy ?_
      case hy => (go_simp <;> (first | with_reducible rfl | omega | skip))
      simp only [Act.put, List.setIfInBounds_toArray, List.set_cons_zero, List.set_cons_succ]
      refine wpList_yieldG (.bool false) (by rfl) ?hy ?_
      case hy => (go_simp <;> (first | with_reducible rfl | omega | skip))
      simp only [Act.put, List.setIfInBounds_toArray, List.set_cons_zero, List.set_cons_succ]
      refine wpList_yieldG (.bool false) (by rfl) ?hy ?_
      case hy => (go_simp <;> (first | with_reducible rfl | omega | skip))
      simp only [Act.put, List.setIfInBounds_toArray, List.set_cons_zero, List.set_cons_succ]
      refine wpList_yieldG ?_ (by rfl) ?hy ?_
      case hy => (go_simp <;> (first | with_reducible rfl | omega | skip))
      simp only [Act.put, List.setIfInBounds_toArray, List.set_cons_zero, List.set_cons_succ]
      refine wpList_yieldG (.int .i64 (at' : Int)) (by rfl) ?hy ?_
      case hy => (go_simp <;> (first | with_reducible rfl | omega | skip))
      simp only [Act.put, List.setIfInBounds_toArray, List.set_cons_zero, List.set_cons_succ]
      refine wpList_yieldG ?_ (by rfl) ?hy ?_
      case hy => (go_simp <;> (first | with_reducible rfl | omega | skip))
      simp only [Act.put, List.setIfInBounds_toArray, List.set_cons_zero, List.set_cons_succ]
      refine wpList_yieldG ?_ (by rfl) ?hy ?_
      case hy => (go_simp <;> (first | with_reducible rfl | omega | skip))
      simp only [Act.put, List.setIfInBounds_toArray, List.set_cons_zero, List.set_cons_succ]
      refine wpList_yieldG (.bool false) (by rfl) ?hy ?_
      case hy => (go_simp <;> (first | with_reducible rfl | omega | skip))
      simp only [Act.put, List.setIfInBounds_toArray, List.set_cons_zero, List.set_cons_succ]
      refine wpList_yieldG (.bool false) (by rfl) ?hy ?_
      case hy => (go_simp <;> (first | with_reducible rfl | omega | skip))
      simp only [Act.put, List.setIfInBounds_toArray, List.set_cons_zero, List.set_cons_succ]
      refine wpList_nil ?_
      go_wp2_with fail
      go_meet
      exact ⟨KB2, L1⟩
  rename_i wq
  clear c0 HOK HNO HPS HP0 L1 M1 N1 KB2
  obtain ⟨KX, L1⟩ := hcut
  go_wp2_with (first | (refine wpList_load_rowG (by rfl) 28 _ rfl (w.heap.size) rfl VH 28 _ L1.out Tryz.underlying28 rfl (by rw [zh]; exact infoHo) ?_))
  refine Calls.mono (HCR.out _ KX.out) ?_
  rintro e y5 ⟨rfl, hc⟩
  have KB201 : Hid (Below w.heap.size w y5) := KX.out.trans ((hc).mono KX.out.size)
  have L1n : Hid (Lies y5 (w.heap.size) VH 28) := L1.out.below (hc) L1.out.lt
  clear L1
  have L1 := L1n
  clear L1n
  clear KX
  clear hc
  go_upto_region 10 with fail
  go_wp2_with (first | (refine wpList_load_rowG (by rfl) 28 _ rfl (w.heap.size) rfl VH 28 _ L1.out Tryz.underlying28 rfl (by rw [zh]; exact infoHo) ?_))
  refine Calls.mono (HCX.out _ KB201.out) ?_
  rintro e y6 ⟨rfl, hc⟩
  have KB202 : Hid (Below w.heap.size w y6) := KB201.out.trans ((hc).mono KB201.out.size)
  have L1n : Hid (Lies y6 (w.heap.size) VH 28) := L1.out.below (hc) L1.out.lt
  clear L1
  have L1 := L1n
  clear L1n
  clear KB201
  clear hc
  have hmm : ((m : Int) != (m : Int)) = false := by simp
  go_upto_region 12 with fail
  by_cases hm : m = 0
  case pos =>
    obtain ⟨hu, hpr, hpa⟩ := HM.out hm
    have hmb : ((m : Int) != 0) = false := by rw [hm]; rfl
    have hmc : ((m : Int) == 0) = true := by rw [hm]; rfl
    have HPR : Hid (∀ wx, Below w.heap.size w wx → Calls Tryz.prog 20 #[.agg VH] wx fun e w' => e = .returned (.tuple #[.string U, .int .i64 0]) ∧ Below wx.heap.size wx w') := hpr
    have HPA : Hid (∀ wx, Below w.heap.size w wx → Calls Tryz.prog 10 #[.string U, .bool wide] wx fun e w' => e = .returned (.tuple #[.agg VH, .agg #[.int .i64 0, .int .i64 0]]) ∧ Below wx.heap.size wx w') := hpa
    have hu' : (U.size : Int) ≤ 255 := by omega
    clear hpr hpa hm HM
    go_upto_region 14 with fail
    go_wp2_with (first | (refine wpList_load_rowG (by rfl) 28 _ rfl (w.heap.size) rfl VH 28 _ L1.out Tryz.underlying28 rfl (by rw [zh]; exact infoHo) ?_))
    refine Calls.mono (HPR.out _ KB202.out) ?_
    rintro e y7 ⟨rfl, hc⟩
    have KB203 : Hid (Below w.heap.size w y7) := KB202.out.trans ((hc).mono KB202.out.size)
    have L1n : Hid (Lies y7 (w.heap.size) VH 28) := L1.out.below (hc) L1.out.lt
    clear L1
    have L1 := L1n
    clear L1n
    clear KB202
    clear hc
    go_upto_region 15 with fail
    go_wp2_with fail
    refine Calls.mono (HPA.out _ KB203.out) ?_
    rintro e y8 ⟨rfl, hc⟩
    have KB204 : Hid (Below w.heap.size w y8) := KB203.out.trans ((hc).mono KB203.out.size)
    have L1n : Hid (Lies y8 (w.heap.size) VH 28) := L1.out.below (hc) L1.out.lt
    clear L1
    have L1 := L1n
    clear L1n
    clear KB203
    clear hc
    have A : Hid (Lies ((y8.alloc (.cells #[.int .i64 0, .string ⟨#[]⟩, .int .u8 0, .int .u8 0, .int .u8 0, .int .u8 0, .int .u8 0, .int .u8 0, .int .u8 0, .int .u8 0, .int .u8 0, .int .u8 0, .int .u8 0, .int .u8 0, .int .u8 0, .int .u8 0, .int .u8 0, .int .u8 0] 28)).alloc (.cells #[.int .i64 0, .int .i64 0] 30)) y8.heap.size #[.int .i64 0, .string ⟨#[]⟩, .int .u8 0, .int .u8 0, .int .u8 0, .int .u8 0, .int .u8 0, .int .u8 0, .int .u8 0, .int .u8 0, .int .u8 0, .int .u8 0, .int .u8 0, .int .u8 0, .int .u8 0, .int .u8 0, .int .u8 0, .int .u8 0] 28) := (Lies.new y8 _ _).alloc _
    have B : Hid (Lies ((y8.alloc (.cells #[.int .i64 0, .string ⟨#[]⟩, .int .u8 0, .int .u8 0, .int .u8 0, .int .u8 0, .int .u8 0, .int .u8 0, .int .u8 0, .int .u8 0, .int .u8 0, .int .u8 0, .int .u8 0, .int .u8 0, .int .u8 0, .int .u8 0, .int .u8 0, .int .u8 0] 28)).alloc (.cells #[.int .i64 0, .int .i64 0] 30)) (y8.heap.size + 1) #[.int .i64 0, .int .i64 0] 30) := new_one y8 _ _ _
    have M3 : Hid (Lies ((((y8.alloc (.cells #[.int .i64 0, .string ⟨#[]⟩, .int .u8 0, .int .u8 0, .int .u8 0, .int .u8 0, .int .u8 0, .int .u8 0, .int .u8 0, .int .u8 0, .int .u8 0, .int .u8 0, .int .u8 0, .int .u8 0, .int .u8 0, .int .u8 0, .int .u8 0, .int .u8 0] 28)).alloc (.cells #[.int .i64 0, .int .i64 0] 30)).setRow y8.heap.size VH).setRow (y8.heap.size + 1) #[.int .i64 0, .int .i64 0]) y8.heap.size VH 28) := (A.out.row _).row_other (by omega) _
    have N3 : Hid (Lies ((((y8.alloc (.cells #[.int .i64 0, .string ⟨#[]⟩, .int .u8 0, .int .u8 0, .int .u8 0, .int .u8 0, .int .u8 0, .int .u8 0, .int .u8 0, .int .u8 0, .int .u8 0, .int .u8 0, .int .u8 0, .int .u8 0, .int .u8 0, .int .u8 0, .int .u8 0, .int .u8 0] 28)).alloc (.cells #[.int .i64 0, .int .i64 0] 30)).setRow y8.heap.size VH).setRow (y8.heap.size + 1) #[.int .i64 0, .int .i64 0]) (y8.heap.size + 1) #[.int .i64 0, .int .i64 0] 30) := (B.out.row_other (by omega) _).row _
    have BB : Hid (Below y8.heap.size y8 ((((y8.alloc (.cells #[.int .i64 0, .string ⟨#[]⟩, .int .u8 0, .int .u8 0, .int .u8 0, .int .u8 0, .int .u8 0, .int .u8 0, .int .u8 0, .int .u8 0, .int .u8 0, .int .u8 0, .int .u8 0, .int .u8 0, .int .u8 0, .int .u8 0, .int .u8 0, .int .u8 0] 28)).alloc (.cells #[.int .i64 0, .int .i64 0] 30)).setRow y8.heap.size VH).setRow (y8.heap.size + 1) #[.int .i64 0, .int .i64 0])) := below_row (below_row (((Below.refl _ _).alloc (Nat.le_refl _) _).alloc (by simp) _) (Nat.le_refl _) _) (by omega) _
    have KB205 : Hid (Below w.heap.size w ((((y8.alloc (.cells #[.int .i64 0, .string ⟨#[]⟩, .int .u8 0, .int .u8 0, .int .u8 0, .int .u8 0, .int .u8 0, .int .u8 0, .int .u8 0, .int .u8 0, .int .u8 0, .int .u8 0, .int .u8 0, .int .u8 0, .int .u8 0, .int .u8 0, .int .u8 0, .int .u8 0] 28)).alloc (.cells #[.int .i64 0, .int .i64 0] 30)).setRow y8.heap.size VH).setRow (y8.heap.size + 1) #[.int .i64 0, .int .i64 0])) := KB204.out.trans ((BB.out).mono KB204.out.size)
    have L1n : Hid (Lies ((((y8.alloc (.cells #[.int .i64 0, .string ⟨#[]⟩, .int .u8 0, .int .u8 0, .int .u8 0, .int .u8 0, .int .u8 0, .int .u8 0, .int .u8 0, .int .u8 0, .int .u8 0, .int .u8 0, .int .u8 0, .int .u8 0, .int .u8 0, .int .u8 0, .int .u8 0, .int .u8 0] 28)).alloc (.cells #[.int .i64 0, .int .i64 0] 30)).setRow y8.heap.size VH).setRow (y8.heap.size + 1) #[.int .i64 0, .int .i64 0]) (w.heap.size) VH 28) := L1.out.below (BB.out) L1.out.lt
    clear L1
    have L1 := L1n
    clear L1n
    clear KB204
    go_upto_region 16 with (first | (refine wpList_store_row rfl 28 _ _ rfl y8.heap.size rfl _ VH rfl 28 A.out (by rw [zh]; exact infoHo) oh.out.2 oh.out.1 rfl ?_) | (refine wpList_store_row rfl 30 _ _ rfl (y8.heap.size + 1) rfl _ #[.int .i64 0, .int .i64 0] rfl 30 (B.out.row_other (by omega) _) infoSp rfl (by simp [Value.oneCell']) rfl ?_))
    generalize hv3 : (((y8.alloc (.cells #[.int .i64 0, .string ⟨#[]⟩, .int .u8 0, .int .u8 0, .int .u8 0, .int .u8 0, .int .u8 0, .int .u8 0, .int .u8 0, .int .u8 0, .int .u8 0, .int .u8 0, .int .u8 0, .int .u8 0, .int .u8 0, .int .u8 0, .int .u8 0, .int .u8 0] 28)).alloc (.cells #[.int .i64 0, .int .i64 0] 30)).setRow y8.heap.size VH).setRow (y8.heap.size + 1) #[.int .i64 0, .int .i64 0] = v3 at M3 N3 KB205 L1 ⊢
    clear hv3 A B BB
    refine wp_region_lit ?_
    refine wpList_yieldG ?_ (by rfl) ?hy ?_
    case hy => (go_simp <;> (first | with_reducible rfl | omega | skip))
    simp only [Act.put, List.setIfInBounds_toArray, List.set_cons_zero, List.set_cons_succ]
    refine wpList_yieldG (.bool true) (by rfl) ?hy ?_
    case hy => (go_simp <;> (first | with_reducible rfl | omega | skip))
    simp only [Act.put, List.setIfInBounds_toArray, List.set_cons_zero, List.set_cons_succ]
    refine wpList_yieldG (.bool true) (by rfl) ?hy ?_
    case hy => (go_simp <;> (first | with_reducible rfl | omega | skip))
    simp only [Act.put, List.setIfInBounds_toArray, List.set_cons_zero, List.set_cons_succ]
    refine wpList_load_rowG (by rfl) 30 _ rfl (y8.heap.size + 1) rfl #[.int .i64 0, .int .i64 0] 30 _ N3.out Tryz.underlying30 rfl infoSp ?_
    simp only [Act.put, List.setIfInBounds_toArray, List.set_cons_zero, List.set_cons_succ]
    refine wpList_yieldG (.agg #[.int .i64 0, .int .i64 0]) (by rfl) ?hy ?_
    case hy => (go_simp <;> (first | with_reducible rfl | omega | skip))
    simp only [Act.put, List.setIfInBounds_toArray, List.set_cons_zero, List.set_cons_succ]
    refine wpList_yieldG (.bool true) (by rfl) ?hy ?_
    case hy => (go_simp <;> (first | with_reducible rfl | omega | skip))
    simp only [Act.put, List.setIfInBounds_toArray, List.set_cons_zero, List.set_cons_succ]
    refine wpList_yieldG (.bool true) (by rfl) ?hy ?_
    case hy => (go_simp <;> (first | with_reducible rfl | omega | skip))
    simp only [Act.put, List.setIfInBounds_toArray, List.set_cons_zero, List.set_cons_succ]
    refine wpList_yieldG (.bool true) (by rfl) ?hy ?_
    case hy => (go_simp <;> (first | with_reducible rfl | omega | skip))
    simp only [Act.put, List.setIfInBounds_toArray, List.set_cons_zero, List.set_cons_succ]
    refine wpList_load_rowG (by rfl) 28 _ rfl (y8.heap.size) rfl VH 28 _ M3.out Tryz.underlying28 rfl (by rw [zh]; exact infoHo) ?_
    simp only [Act.put, List.setIfInBounds_toArray, List.set_cons_zero, List.set_cons_succ]
    refine wpList_load_rowG (by rfl) 28 _ rfl (w.heap.size) rfl VH 28 _ L1.out Tryz.underlying28 rfl (by rw [zh]; exact infoHo) ?_
    simp only [Act.put, List.setIfInBounds_toArray, List.set_cons_zero, List.set_cons_succ]
    refine wpList_yieldG (.bool true) (by rfl) ?hy ?_
    case hy => 
      refine Eq.trans (exec_eql_host _ _ _ rfl h h ?_ ?_ hlh hlh) (by rw [decide_eq_true rfl])
      · (show Value.agg VH = _; rw [EH.out]; rfl)
      · (show Value.agg VH = _; rw [EH.out]; rfl)
    simp only [Act.put, List.setIfInBounds_toArray, List.set_cons_zero, List.set_cons_succ]
    refine wpList_yieldG (.bool true) (by rfl) ?hy ?_
    case hy => (go_simp <;> (first | with_reducible rfl | omega | skip))
    simp only [Act.put, List.setIfInBounds_toArray, List.set_cons_zero, List.set_cons_succ]
    refine wpList_yieldG (.bool true) (by rfl) ?hy ?_
    case hy => (go_simp <;> (first | with_reducible rfl | omega | skip))
    simp only [Act.put, List.setIfInBounds_toArray, List.set_cons_zero, List.set_cons_succ]
    refine wpList_yieldG ?_ (by rfl) ?hy ?_
    case hy => (go_simp <;> (first | with_reducible rfl | omega | skip))
    simp only [Act.put, List.setIfInBounds_toArray, List.set_cons_zero, List.set_cons_succ]
    refine wpList_yieldG ?_ (by rfl) ?hy ?_
    case hy => (go_simp <;> (first | with_reducible rfl | omega | skip))
    simp only [Act.put, List.setIfInBounds_toArray, List.set_cons_zero, List.set_cons_succ]
    refine wpList_yieldG (.bool true) (by rfl) ?hy ?_
    case hy => (go_simp <;> (first | with_reducible rfl | omega | skip))
    simp only [Act.put, List.setIfInBounds_toArray, List.set_cons_zero, List.set_cons_succ]
    refine wpList_yieldG (.bool true) (by rfl) ?hy ?_
    case hy => (go_simp <;> (first | with_reducible rfl | omega | skip))
    simp only [Act.put, List.setIfInBounds_toArray, List.set_cons_zero, List.set_cons_succ]
    refine wpList_yieldG (.bool true) (by rfl) ?hy ?_
    case hy => (go_simp <;> (first | with_reducible rfl | omega | skip))
    simp only [Act.put, List.setIfInBounds_toArray, List.set_cons_zero, List.set_cons_succ]
    refine wpList_onG (by rfl) ?_
    go_simp
    refine Calls.mono (HW.out _ KB205.out) ?_
    rintro e y301 ⟨rfl, hc301⟩
    have hb301 : Hid (Below v3.heap.size v3 y301) := hc301
    have KB301 : Hid (Below w.heap.size w y301) := KB205.out.trans ((hc301).mono KB205.out.size)
    have L1n : Hid (Lies y301 (w.heap.size) VH 28) := L1.out.below (hc301) L1.out.lt
    clear L1
    have L1 := L1n
    clear L1n
    have M3n : Hid (Lies y301 (y8.heap.size) VH 28) := M3.out.below (hc301) M3.out.lt
    clear M3
    have M3 := M3n
    clear M3n
    have N3n : Hid (Lies y301 (y8.heap.size + 1) #[.int .i64 0, .int .i64 0] 30) := N3.out.below (hc301) N3.out.lt
    clear N3
    have N3 := N3n
    clear N3n
    clear KB205
    clear hc301
    refine wpList_yieldG (.bool true) (by rfl) ?hy ?_
    case hy => (go_simp <;> (first | with_reducible rfl | omega | skip))
    simp only [Act.put, List.setIfInBounds_toArray, List.set_cons_zero, List.set_cons_succ]
    refine wpList_yieldG (.bool true) (by rfl) ?hy ?_
    case hy => (go_simp <;> (first | with_reducible rfl | omega | skip))
    simp only [Act.put, List.setIfInBounds_toArray, List.set_cons_zero, List.set_cons_succ]
    refine wpList_nil ?_
    go_wp2
    go_ret
    exact ⟨rfl, KB301.out⟩
  case neg =>
    have hmb : ((m : Int) != 0) = true := by rw [bne_iff_ne]; omega
    have hmc : ((m : Int) == 0) = false := by rw [beq_eq_false_iff_ne]; omega
    clear hm HM
    go_wp2_with fail
    refine Calls.mono (HW.out _ KB202.out) ?_
    rintro e y7 ⟨rfl, hc⟩
    have KB203 : Hid (Below w.heap.size w y7) := KB202.out.trans ((hc).mono KB202.out.size)
    have L1n : Hid (Lies y7 (w.heap.size) VH 28) := L1.out.below (hc) L1.out.lt
    clear L1
    have L1 := L1n
    clear L1n
    clear KB202
    clear hc
    go_wp2
    go_ret
    exact ⟨rfl, KB203.out⟩

theorem walk (s : ByteArray) (ss : s.size ≤ 140737488351232) (wide : Bool) (h : Ho) (okh : h.Ok) (_ : -9223372036854775808 ≤ h.k ∧ h.k ≤ 9223372036854775807) (sh : h.n.length ≤ 140737488351232) (w : World) (ht : Tc w) :
    Calls Tryz.prog 8 #[.string s, .bool wide, hostV h] w fun e w' => e = .returned (.bool true) ∧ Below w.heap.size w w' := by
  have HT : Hid (∀ wx, Below w.heap.size w wx → Tc wx) := fun wx hb => ht.below hb
  have HPA : ∀ (t : ByteArray) (st : t.size ≤ 140737488351232) (wx : World), Below w.heap.size w wx → Calls Tryz.prog 10 #[.string t, .bool wide] wx fun e w' => e = .returned (.tuple #[hostV (parse t.data.toList wide).1, .agg (spotV (parse t.data.toList wide).2)]) ∧ Below wx.heap.size wx w' := fun t st wx hx => parse_any t wide wx (HT.out wx hx).tb st
  have HPR : ∀ (x : Ho) (okx : x.Ok) (hx : x.n.length ≤ 140737488351232), Hid (∀ wx, Below w.heap.size w wx → Calls Tryz.prog 20 #[.agg (hostC x)] wx fun e w' => e = .returned (printV (print x)) ∧ Below wx.heap.size wx w') := fun x okx hx wx hb => print_any x okx wx (HT.out wx hb).tb (HT.out wx hb).pow hx
  have HCK : ∀ (x : Ho) (okx : x.Ok) (hx : x.n.length ≤ 140737488351232), Hid (∀ wx, Below w.heap.size w wx → Calls Tryz.prog 21 #[.agg (hostC x), .bool wide] wx fun e w' => e = .returned (.int .i64 (check x wide : Nat)) ∧ Below wx.heap.size wx w') := fun x okx hx wx hb => chk_any x okx.len wide wx (HT.out wx hb).tb hx
  have HW : Hid (∀ wx, Below w.heap.size w wx → Calls Tryz.prog 9 #[] wx fun e w' => e = .returned (.bool true) ∧ Below wx.heap.size wx w') := fun wx hx => wakes_any wx (HT.out wx hx)
  have HCR : Hid (∀ wx, Below w.heap.size w wx → Calls Tryz.prog 22 #[.agg (hostC h), .bool wide] wx fun e w' => e = .returned (.int .i64 (check h wide : Nat)) ∧ Below wx.heap.size wx w') := fun wx _ => rcheck_any h okh.len wide wx sh
  have BK : ∀ (x : Ho) (okx : x.Ok), check x wide = 0 → (print x).2 = 0 ∧ (print x).1.length ≤ 255 ∧ (∀ wx, Below w.heap.size w wx → Calls Tryz.prog 10 #[.string ⟨(print x).1.toArray⟩, .bool wide] wx fun e w' => e = .returned (.tuple #[.agg (hostC x), .agg #[.int .i64 0, .int .i64 0]]) ∧ Below wx.heap.size wx w') := fun x okx hc => by
    obtain ⟨t, h1, h2, h3, _⟩ := back_host x wide okx hc
    rw [h1]
    refine ⟨rfl, h3, fun wx hx => ?_⟩
    have := HPA ⟨t.toArray⟩ (by show t.toArray.size ≤ _; rw [List.size_toArray]; omega) wx hx
    rw [str_list, h2] at this
    exact this
  obtain ⟨b1, b2⟩ := back_text s.data.toList wide
  have HPS := HPA s ss
  generalize hq : parse s.data.toList wide = q at b1 b2 HPS
  obtain ⟨p, e, at'⟩ := q
  dsimp only at b1 b2 HPS
  have hlp : p.a.length = 16 := by
    by_cases he : e = 0
    · exact (b1 he).2.2.2.1.len
    · rw [(b2 he).1]; rfl
  refine walkW s ⟨(print p).1.toArray⟩ ⟨(print h).1.toArray⟩ wide _ _ p h rfl rfl hlp okh.len p.k rfl e at' (check h wide) w HPS (fun he => ?_) (fun he => ⟨(b2 he).1, by have := (b2 he).2; rw [len_list] at this; exact this⟩) HCR (HCK h okh sh) (fun hm => ?_) HW
  · obtain ⟨h1, h2, h3, h4, h5⟩ := b1 he
    have hn := check_len h3
    obtain ⟨q1, q2, q3⟩ := BK p h4 h3
    refine ⟨congrArg Prod.snd h1, by rw [len_list] at h2; exact h2, fun hk => ?_, fun wx hx => ?_, q3, fun wx hx => ?_⟩
    · rw [h5 hk]
    · have := (HPR p h4 (by omega)).out wx hx
      unfold printV at this
      rw [q1] at this
      exact this
    · have := (HCK p h4 (by omega)).out wx hx
      rw [h3] at this
      exact this
  · obtain ⟨q1, q2, q3⟩ := BK h okh hm
    refine ⟨by show (print h).1.toArray.size ≤ _; rw [List.size_toArray]; exact q2, fun wx hx => ?_, q3⟩
    have := (HPR h okh sh).out wx hx
    unfold printV at this
    rw [q1] at this
    exact this

set_option maxRecDepth 100000 in
theorem contract (H : Type) (enc : TypeId × Value → H) (W : World) (base : Nat) (args : Array Value) (ds gs : List (DataW H)) (before : List MemPlace)
    (hval : ∀ (j : Nat) t v, Tryz.f8.params[j]? = some t → args[j]? = some v → Value.okWide Tryz.prog W .any base t v)
    (hW : DataW.Whole enc Tryz.prog Tryz.f8.params.toList Rows.domainBackSpec.vars false W args.toList ds gs before)
    (hsz : (DataW.weightsEach Tryz.prog (Tryz.f8.params.toList ++ (OpenSpec.ofChange Rows.domainBackSpec).bare.plain.varTypes Tryz.prog) (ds ++ gs)).all (· ≤ reachBytes) = true)
    (hL : laidMetH Tryz.prog Rows.domainBackRow.laid W) (hsh : W.ShapedOpen Tryz.prog) :
    Calls Tryz.prog 8 args W fun e W' => ∃ v, e = .returned v ∧ Rows.domainBackSpec.post enc Tryz.prog Tryz.f8 false true false false W args v W' := by
  have hW' := hW
  obtain ⟨p, q, hA0, hV, rfl, hfz, hnd⟩ := hW
  have hA : DataW.TrodAll enc Tryz.prog W 0 (fun _ => true) true Tryz.f8.params.toList args.toList ds p := hA0
  rw [Tryz.params8] at hA hval hsz
  obtain ⟨v0, vs0, d0, ds0, p0, q0, hargs, rfl, rfl, h0, r0⟩ := trodAll_cons hA
  obtain ⟨v1, vs1, d1, ds1, p1, q1, rfl, rfl, rfl, h1, r1⟩ := trodAll_cons r0
  obtain ⟨v2, vs2, d2, ds2, p2, q2, rfl, rfl, rfl, h2, r2⟩ := trodAll_cons r1
  obtain ⟨rfl, rfl, rfl⟩ := trodAll_nil r2
  obtain rfl : args = #[v0, v1, v2] := by cases args; simp_all
  obtain ⟨rfl, rfl⟩ := trodVars_none hV
  obtain ⟨a0, rfl, rfl, rfl, w0⟩ := open_string Tryz.underlying9 (hval 0 9 v0 rfl rfl) h0
  obtain ⟨a1, rfl, rfl, rfl⟩ := open_bool Tryz.underlying4 (hval 1 4 v1 rfl rfl) h1
  have k2 := h2
  have lt2 : ∀ x ∈ p2, x.block < W.heap.size := by obtain ⟨m, hm⟩ := k2; exact DataW.trod_lt m _ _ _ hm
  obtain ⟨a2, rfl, b2, e2⟩ := open_host (hval 2 28 v2 rfl rfl) h2
  clear hA0
  have s0 := sized_string hsz (j := 0) (t := 9) rfl rfl
  simp only [reachBytes, Array.length_toList] at s0
  have s2 := host_size (j := 2) hsz rfl rfl e2
  refine (walk a0 s0 a1 a2 b2.1 b2.2 s2 W (tabs8_of hL hsh)).mono fun e W' ⟨he, bel⟩ => ?_
  subst he
  exact ⟨_, rfl, _, _, _, [], _, [], hW', trodAll_mk1 (shut_bool Tryz.underlying4 _), trodAll_cons_mk (shut_string Tryz.underlying9 w0) (trodAll_cons_mk (shut_bool Tryz.underlying4 _) (trodAll_cons_mk (Below.trod laidOut (by kernel_rfl) (of_decide_eq_true (by kernel_rfl)) k2 bel lt2) trodAll_mk0)), rfl, bel.frame _, fun h => by cases h⟩

set_option maxRecDepth 100000 in
theorem laid_met (os : Os) : laidMet Tryz.prog Rows.domainBackRow.laid ((laidWorld8 os).forCall (fun _ _ => 0) ⟨#[], #[.string ByteArray.empty, .bool false, .agg #[.int .i64 0, .string ByteArray.empty, .int .u8 0, .int .u8 0, .int .u8 0, .int .u8 0, .int .u8 0, .int .u8 0, .int .u8 0, .int .u8 0, .int .u8 0, .int .u8 0, .int .u8 0, .int .u8 0, .int .u8 0, .int .u8 0, .int .u8 0, .int .u8 0]], []⟩).memory :=
  laidMet_of_run' 8 (by kernel_rfl) (by kernel_rfl)
set_option maxRecDepth 100000 in
theorem reads (os : Os) {H : Type} (enc : TypeId × Value → H) : ∃ places, DataW.whole enc Tryz.prog ((laidWorld8 os).forCall (fun _ _ => 0) ⟨#[], #[.string ByteArray.empty, .bool false, .agg #[.int .i64 0, .string ByteArray.empty, .int .u8 0, .int .u8 0, .int .u8 0, .int .u8 0, .int .u8 0, .int .u8 0, .int .u8 0, .int .u8 0, .int .u8 0, .int .u8 0, .int .u8 0, .int .u8 0, .int .u8 0, .int .u8 0, .int .u8 0, .int .u8 0]], []⟩).memory Tryz.f8.params.toList Rows.domainBackSpec.vars false #[Value.string ByteArray.empty, Value.bool false, Value.agg #[.int .i64 0, .string ByteArray.empty, .int .u8 0, .int .u8 0, .int .u8 0, .int .u8 0, .int .u8 0, .int .u8 0, .int .u8 0, .int .u8 0, .int .u8 0, .int .u8 0, .int .u8 0, .int .u8 0, .int .u8 0, .int .u8 0, .int .u8 0, .int .u8 0]].toList 8 = some ([.lit (.string []), .lit (.bool false), .agg [.lit (.int .i64 0), .lit (.string []), .agg [.lit (.int .u8 0), .lit (.int .u8 0), .lit (.int .u8 0), .lit (.int .u8 0), .lit (.int .u8 0), .lit (.int .u8 0), .lit (.int .u8 0), .lit (.int .u8 0), .lit (.int .u8 0), .lit (.int .u8 0), .lit (.int .u8 0), .lit (.int .u8 0), .lit (.int .u8 0), .lit (.int .u8 0), .lit (.int .u8 0), .lit (.int .u8 0)]]], [], places) :=
  ⟨[], by kernel_rfl⟩

set_option maxRecDepth 100000 in
theorem lifted (os : Os) (started : os.Started) (H : Type) (enc : TypeId × Value → H) (F : Stop.Interp) :
    ReturnsInHanded {} Tryz.checked os 8 .any ((OpenSpec.ofChange Rows.domainBackSpec).preRow enc Tryz.prog Tryz.f8 Rows.domainBackRow.domain false Rows.domainBackRow.laid) (((OpenSpec.ofChange Rows.domainBackSpec).at F).post enc Tryz.prog Tryz.f8 false true false false) := by
  obtain ⟨places, hx⟩ := reads os enc
  refine returnsInHanded_of_row (C := Tryz.checked) (s := OpenSpec.ofChange Rows.domainBackSpec) own started (by kernel_rfl) Tryz.func8
    (witness_row_at (enc := enc) (C := Tryz.checked) false (laidWorld8 os) #[.string ByteArray.empty, .bool false, .agg #[.int .i64 0, .string ByteArray.empty, .int .u8 0, .int .u8 0, .int .u8 0, .int .u8 0, .int .u8 0, .int .u8 0, .int .u8 0, .int .u8 0, .int .u8 0, .int .u8 0, .int .u8 0, .int .u8 0, .int .u8 0, .int .u8 0, .int .u8 0, .int .u8 0]] rfl (by kernel_rfl) (by kernel_rfl) (by kernel_rfl)
      (OpenSpec.preRow_of_cond 8 hx (by kernel_rfl) (fun k hk => by cases hk) (by kernel_rfl) (laid_met os))) ?_
  intro W base args ds gs before hval hW _ _ hsz hL hsh _
  exact contract H enc W base args ds gs before hval hW hsz hL hsh

theorem said : Rows.DomainBackSaid :=
  OpenClaim.holds_of_cond 8 Tryz.f8 rfl rfl rfl rfl rfl rfl rfl ⟨rfl, rfl, rfl, rfl, rfl⟩ rfl rfl rfl rfl rfl (by kernel_rfl) Tryz.func8 (by kernel_rfl)
    (of_decide_eq_true (by kernel_rfl)) (by unfold Func.isWrapper; first | (rw [if_pos (by decide +kernel)]; kernel_rfl) | (rw [if_neg (by decide +kernel)]; exact ⟨rfl, rfl⟩))
    (fun os started H enc _ F => by rw [OpenClaim.pre_eq_preRow]; exact lifted os started H enc F)

/-- No parameter wants a stand-in; the program's own looks are off. -/
theorem plain (f : FuncId) (fn : Func) (hf : Tryz.pinned.checked.prog.funcNamed "posthorn/posthornlaw08.DomainBack" = some f) (hfn : Tryz.pinned.checked.prog.funcs[f]? = some fn) :
    true = Tryz.pinned.checked.prog.looks [] ∧ ∀ (j : Nat) t, fn.params[j]? = some t → Tryz.pinned.checked.prog.wantsStandIn t = false := by
  obtain rfl : f = 8 := Option.some.inj ((show Tryz.prog.funcNamed "posthorn/posthornlaw08.DomainBack" = some 8 by kernel_rfl).symm.trans hf) |>.symm
  obtain rfl : fn = Tryz.f8 := (Option.some.inj (Tryz.func8.symm.trans hfn)).symm
  refine ⟨by kernel_rfl, fun j t ht => ?_⟩
  rw [Tryz.params8] at ht
  have hm : t ∈ [9, 4, 28] := by simpa using Array.mem_of_getElem? ht
  have hall : ([9, 4, 28].all fun u => !Tryz.prog.wantsStandIn u) = true := by kernel_rfl
  exact (show Tryz.prog.wantsStandIn t = false by simpa using List.all_eq_true.1 hall t hm)

/-- The card. -/
theorem card : Rows.DomainBackCardSaid :=
  Claim7.holds_tied_plain_at .later [] _ _ _ _ said (fun _ h => by cases h) (by kernel_rfl) (fun _ h => by cases h) domainBack_row_tie rfl ⟨rfl, rfl⟩ (by kernel_rfl) rfl plain (by kernel_rfl)
end Go.Proofs.YtnlgbopdbihnjaaGreatDoor.domainBack
namespace Go.Proofs.YtnlgbopdbihnjaaGreatDoor
theorem domainBack_card : Rows.DomainBackCardSaid := domainBack.card
#print axioms domainBack_card
end Go.Proofs.YtnlgbopdbihnjaaGreatDoor
