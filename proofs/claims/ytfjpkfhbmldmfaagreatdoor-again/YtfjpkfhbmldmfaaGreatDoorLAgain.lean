/-
  For every text and every width the statement PathAgain returns true.
-/
import Derived.Test.YtfjpkfhbmldmfaaGreatDoorUtfE
import Derived.Test.YtfjpkfhbmldmfaaGreatDoorXx9
import Derived.Test.YtfjpkfhbmldmfaaGreatDoorCard9
import Derived.ProofKit
import Derived.ChangeMaps5
import Derived.OpenShut
import Derived.ShutString
import Derived.ChangeOld
import Derived.SizedLaws
namespace Go.Proofs.YtfjpkfhbmldmfaaGreatDoor.pathAgain
open Go.ChangeShapes Go.WideShapes Go.ChangeAt Go.RowKit
open Go.ChangeMaps (open_string shut_string)

/-- What a path that was read is good for. -/
structure Half (F : FuncId) (w : World) (wide : Bool) (p : Pt) (n : Nat) (T : ByteArray) : Prop where
  pr : ∀ wx V, Below w.heap.size w wx → PA p V wx → Calls Tryz.prog 23 #[.agg V] wx fun e w' => e = .returned (.tuple #[.string T, .int .i64 0]) ∧ Below wx.heap.size wx w'
  rd : ∀ wx, Below w.heap.size w wx → Calls Tryz.prog F #[.string T, .bool wide] wx fun e w' => ∃ V, e = .returned (.tuple #[.agg V, .int .i64 (T.size : Int), .agg #[.int .i64 0, .int .i64 0]]) ∧ PA p V w' ∧ Below wx.heap.size wx w'
  ck : ∀ wx V, Below w.heap.size w wx → PA p V wx → Calls Tryz.prog 22 #[.agg V, .bool wide] wx fun e w' => e = .returned (.int .i64 0) ∧ Below wx.heap.size wx w'
  lg : ∀ wx V, PA p V wx → Calls Tryz.prog 33 #[.agg V] wx fun e w' => e = .returned (.int .i64 (lgN p.h : Int)) ∧ Below wx.heap.size wx w'
  sm : ∀ wx V V1, PA p V wx → PA p V1 wx → Calls Tryz.prog 32 #[.agg V, .agg V1] wx fun e w' => e = .returned (.bool true) ∧ Below wx.heap.size wx w'
  le : T.size ≤ n + lgN p.h
  s1 : n ≤ 140737488351232
  s2 : lgN p.h ≤ 1
theorem half_of (back : Bool) (F : FuncId) (s : ByteArray) (wide : Bool) (p : Pt) (n : Nat) (h : pth wide back s.data.toList = .ok (p, n)) (w : World) (ht : ∀ wx, Below w.heap.size w wx → Td wx ∧ 10 ≤ wx.heap.size)
    (hF : ∀ (t : ByteArray) (wx : World), t.size ≤ 140737488351232 → Below w.heap.size w wx → Calls Tryz.prog F #[.string t, .bool wide] wx (PvV wx (pv (pth wide back t.data.toList)))) : Half F w wide p n (txt (wrP p)) := by
  obtain ⟨ok, hc⟩ := pth_ck h
  have hin := ckP_in ok hc
  have hl := pth_short h
  obtain ⟨_, hnl, h256⟩ := pth_len h
  rw [Array.length_toList] at hnl
  have hnl : n ≤ s.size := hnl
  have hc1 : ckP p true = 0 := by
    cases wide
    · exact (pth_ck (pth_nar.1 h).1).2
    · exact hc
  have hlg : lgN p.h ≤ 1 := by unfold lgN; split <;> omega
  refine ⟨fun wx V hb hV => ?_, fun wx hb => ?_, fun wx V hb hV => ?_, fun wx V hV => ?_, fun wx V V1 hV hV1 => same_pa hin hV hV1, by rw [txt_size]; exact hl, by omega, hlg⟩
  · have := print_pa hin hV (ht wx hb).1
    rw [printP_ok hc1] at this
    exact this
  · have hz : (txt (wrP p)).size ≤ 140737488351232 := by
      rw [txt_size]
      have : (if p.h.k = 3 then 1 else 0) ≤ 1 := by split <;> omega
      omega
    refine (hF (txt (wrP p)) wx hz hb).mono ?_
    rintro e w' ⟨V, he, hA, hb'⟩
    rw [txt_list, pth_all h] at he hA
    refine ⟨V, ?_, hA, hb'⟩
    rw [he, txt_size]
    rfl
  · have := check_pa hin hV (ht wx hb).1 wide
    rw [hc] at this
    exact this
  · obtain ⟨sp, c, rfl, _⟩ := hV
    exact longer_any _ _ _ _ wx
set_option maxHeartbeats 16000000 in
set_option maxRecDepth 100000 in
theorem walkW (s : ByteArray) (wide : Bool) (p q : Pt) (hp : p.In) (hq : q.In) (n er at' m fr fat : Nat) (T U : ByteArray) (w : World)
    (HH : Hid (∀ wx, Below w.heap.size w wx → Calls Tryz.prog 11 #[] wx fun e w' => e = .returned (.bool true) ∧ Below wx.heap.size wx w'))
    (HR : Hid (∀ wx, Below w.heap.size w wx → Calls Tryz.prog 14 #[.string s, .bool wide] wx fun e w' => ∃ V, e = .returned (.tuple #[.agg V, .int .i64 (n : Int), .agg #[.int .i64 (er : Int), .int .i64 (at' : Int)]]) ∧ PA p V w' ∧ Below wx.heap.size wx w'))
    (HF : Hid (∀ wx, Below w.heap.size w wx → Calls Tryz.prog 16 #[.string s, .bool wide] wx fun e w' => ∃ V, e = .returned (.tuple #[.agg V, .int .i64 (m : Int), .agg #[.int .i64 (fr : Int), .int .i64 (fat : Int)]]) ∧ PA q V w' ∧ Below wx.heap.size wx w'))
    (HP : Hid (er = 0 → Half 14 w wide p n T)) (HQ : Hid (fr = 0 → Half 16 w wide q m U)) :
    Calls Tryz.prog 8 #[.string s, .bool wide] w fun e w' => e = .returned (.bool true) ∧ Below w.heap.size w w' := by
  have KB : Hid (Below w.heap.size w w) := Below.refl _ _
  go_enter Tryz.func8, Tryz.ntmps8
  go_upto_region 1 with fail
  go_wp2_with fail
  refine Calls.mono (HH.out _ KB.out) ?_
  rintro e y0 ⟨rfl, hc⟩
  have KB1 : Hid (Below w.heap.size w y0) := KB.out.trans ((hc).mono KB.out.size)
  clear KB
  clear hc
  go_wp2_with fail
  refine Calls.mono (HR.out _ KB1.out) ?_
  rintro e y1 ⟨V1, rfl, hA, hc⟩
  have KB2 : Hid (Below w.heap.size w y1) := KB1.out.trans ((hc).mono KB1.out.size)
  clear KB1
  have P1 : Hid (PA p V1 y1) := hA
  have z1 : Hid (V1.size = 21) := hA.size hp.ok.2.len
  have o1 : Hid (V1.all (·.oneCell') = true) := hA.one
  clear hA hc
  have A : Hid (Lies ((y1.alloc (.cells #[.int .i64 0, .slice none 0 0, .string ⟨#[]⟩, .int .i64 0, .string ⟨#[]⟩, .int .u8 0, .int .u8 0, .int .u8 0, .int .u8 0, .int .u8 0, .int .u8 0, .int .u8 0, .int .u8 0, .int .u8 0, .int .u8 0, .int .u8 0, .int .u8 0, .int .u8 0, .int .u8 0, .int .u8 0, .int .u8 0] 29)).alloc (.cells #[.int .i64 0, .int .i64 0] 32)) y1.heap.size #[.int .i64 0, .slice none 0 0, .string ⟨#[]⟩, .int .i64 0, .string ⟨#[]⟩, .int .u8 0, .int .u8 0, .int .u8 0, .int .u8 0, .int .u8 0, .int .u8 0, .int .u8 0, .int .u8 0, .int .u8 0, .int .u8 0, .int .u8 0, .int .u8 0, .int .u8 0, .int .u8 0, .int .u8 0, .int .u8 0] 29) := (Lies.new y1 _ _).alloc _
  have B : Hid (Lies ((y1.alloc (.cells #[.int .i64 0, .slice none 0 0, .string ⟨#[]⟩, .int .i64 0, .string ⟨#[]⟩, .int .u8 0, .int .u8 0, .int .u8 0, .int .u8 0, .int .u8 0, .int .u8 0, .int .u8 0, .int .u8 0, .int .u8 0, .int .u8 0, .int .u8 0, .int .u8 0, .int .u8 0, .int .u8 0, .int .u8 0, .int .u8 0] 29)).alloc (.cells #[.int .i64 0, .int .i64 0] 32)) (y1.heap.size + 1) #[.int .i64 0, .int .i64 0] 32) := new_one y1 _ _ _
  have M1 : Hid (Lies ((((y1.alloc (.cells #[.int .i64 0, .slice none 0 0, .string ⟨#[]⟩, .int .i64 0, .string ⟨#[]⟩, .int .u8 0, .int .u8 0, .int .u8 0, .int .u8 0, .int .u8 0, .int .u8 0, .int .u8 0, .int .u8 0, .int .u8 0, .int .u8 0, .int .u8 0, .int .u8 0, .int .u8 0, .int .u8 0, .int .u8 0, .int .u8 0] 29)).alloc (.cells #[.int .i64 0, .int .i64 0] 32)).setRow y1.heap.size V1).setRow (y1.heap.size + 1) #[.int .i64 (er : Int), .int .i64 (at' : Int)]) y1.heap.size V1 29) := (A.out.row _).row_other (by omega) _
  have N1 : Hid (Lies ((((y1.alloc (.cells #[.int .i64 0, .slice none 0 0, .string ⟨#[]⟩, .int .i64 0, .string ⟨#[]⟩, .int .u8 0, .int .u8 0, .int .u8 0, .int .u8 0, .int .u8 0, .int .u8 0, .int .u8 0, .int .u8 0, .int .u8 0, .int .u8 0, .int .u8 0, .int .u8 0, .int .u8 0, .int .u8 0, .int .u8 0, .int .u8 0] 29)).alloc (.cells #[.int .i64 0, .int .i64 0] 32)).setRow y1.heap.size V1).setRow (y1.heap.size + 1) #[.int .i64 (er : Int), .int .i64 (at' : Int)]) (y1.heap.size + 1) #[.int .i64 (er : Int), .int .i64 (at' : Int)] 32) := (B.out.row_other (by omega) _).row _
  have BB : Hid (Below y1.heap.size y1 ((((y1.alloc (.cells #[.int .i64 0, .slice none 0 0, .string ⟨#[]⟩, .int .i64 0, .string ⟨#[]⟩, .int .u8 0, .int .u8 0, .int .u8 0, .int .u8 0, .int .u8 0, .int .u8 0, .int .u8 0, .int .u8 0, .int .u8 0, .int .u8 0, .int .u8 0, .int .u8 0, .int .u8 0, .int .u8 0, .int .u8 0, .int .u8 0] 29)).alloc (.cells #[.int .i64 0, .int .i64 0] 32)).setRow y1.heap.size V1).setRow (y1.heap.size + 1) #[.int .i64 (er : Int), .int .i64 (at' : Int)])) := below_row (below_row (((Below.refl _ _).alloc (Nat.le_refl _) _).alloc (by simp) _) (Nat.le_refl _) _) (by omega) _
  have KB3 : Hid (Below w.heap.size w ((((y1.alloc (.cells #[.int .i64 0, .slice none 0 0, .string ⟨#[]⟩, .int .i64 0, .string ⟨#[]⟩, .int .u8 0, .int .u8 0, .int .u8 0, .int .u8 0, .int .u8 0, .int .u8 0, .int .u8 0, .int .u8 0, .int .u8 0, .int .u8 0, .int .u8 0, .int .u8 0, .int .u8 0, .int .u8 0, .int .u8 0, .int .u8 0] 29)).alloc (.cells #[.int .i64 0, .int .i64 0] 32)).setRow y1.heap.size V1).setRow (y1.heap.size + 1) #[.int .i64 (er : Int), .int .i64 (at' : Int)])) := KB2.out.trans ((BB.out).mono KB2.out.size)
  have P1n : Hid (PA p V1 ((((y1.alloc (.cells #[.int .i64 0, .slice none 0 0, .string ⟨#[]⟩, .int .i64 0, .string ⟨#[]⟩, .int .u8 0, .int .u8 0, .int .u8 0, .int .u8 0, .int .u8 0, .int .u8 0, .int .u8 0, .int .u8 0, .int .u8 0, .int .u8 0, .int .u8 0, .int .u8 0, .int .u8 0, .int .u8 0, .int .u8 0, .int .u8 0] 29)).alloc (.cells #[.int .i64 0, .int .i64 0] 32)).setRow y1.heap.size V1).setRow (y1.heap.size + 1) #[.int .i64 (er : Int), .int .i64 (at' : Int)])) := P1.out.below (BB.out)
  clear P1
  have P1 := P1n
  clear P1n
  clear KB2
  go_upto_region 4 with (first | (refine wpList_store_row rfl 29 _ _ rfl y1.heap.size rfl #[.int .i64 0, .slice none 0 0, .string ⟨#[]⟩, .int .i64 0, .string ⟨#[]⟩, .int .u8 0, .int .u8 0, .int .u8 0, .int .u8 0, .int .u8 0, .int .u8 0, .int .u8 0, .int .u8 0, .int .u8 0, .int .u8 0, .int .u8 0, .int .u8 0, .int .u8 0, .int .u8 0, .int .u8 0, .int .u8 0] V1 rfl 29 A.out (by rw [z1.out]; exact infoPt) (by rw [z1.out]; rfl) o1.out rfl ?_) | (refine wpList_store_row rfl 32 _ _ rfl (y1.heap.size + 1) rfl #[.int .i64 0, .int .i64 0] #[.int .i64 (er : Int), .int .i64 (at' : Int)] rfl 32 (B.out.row_other (by omega) _) infoSp rfl (by simp [Value.oneCell']) rfl ?_))
  generalize hv1 : (((y1.alloc (.cells #[.int .i64 0, .slice none 0 0, .string ⟨#[]⟩, .int .i64 0, .string ⟨#[]⟩, .int .u8 0, .int .u8 0, .int .u8 0, .int .u8 0, .int .u8 0, .int .u8 0, .int .u8 0, .int .u8 0, .int .u8 0, .int .u8 0, .int .u8 0, .int .u8 0, .int .u8 0, .int .u8 0, .int .u8 0, .int .u8 0] 29)).alloc (.cells #[.int .i64 0, .int .i64 0] 32)).setRow y1.heap.size V1).setRow (y1.heap.size + 1) #[.int .i64 (er : Int), .int .i64 (at' : Int)] = v1 at M1 N1 KB3 P1 ⊢
  clear hv1 A B BB
  go_wp2_with (first | (refine wpList_load_row9 (by rfl) 29 _ rfl (y1.heap.size) rfl V1 29 _ M1.out Tryz.underlying29 rfl (by rw [z1.out]; exact infoPt) ?_) | (refine wpList_load_row9 (by rfl) 32 _ rfl (y1.heap.size + 1) rfl #[.int .i64 (er : Int), .int .i64 (at' : Int)] 32 _ N1.out Tryz.underlying32 rfl infoSp ?_))
  refine Calls.mono (HF.out _ KB3.out) ?_
  rintro e y2 ⟨V2, rfl, hA, hc⟩
  have KB4 : Hid (Below w.heap.size w y2) := KB3.out.trans ((hc).mono KB3.out.size)
  have M1n : Hid (Lies y2 (y1.heap.size) V1 29) := M1.out.below (hc) M1.out.lt
  clear M1
  have M1 := M1n
  clear M1n
  have N1n : Hid (Lies y2 (y1.heap.size + 1) #[.int .i64 (er : Int), .int .i64 (at' : Int)] 32) := N1.out.below (hc) N1.out.lt
  clear N1
  have N1 := N1n
  clear N1n
  have P1n : Hid (PA p V1 y2) := P1.out.below (hc)
  clear P1
  have P1 := P1n
  clear P1n
  clear KB3
  have P2 : Hid (PA q V2 y2) := hA
  have z2 : Hid (V2.size = 21) := hA.size hq.ok.2.len
  have o2 : Hid (V2.all (·.oneCell') = true) := hA.one
  clear hA hc
  have A : Hid (Lies ((y2.alloc (.cells #[.int .i64 0, .slice none 0 0, .string ⟨#[]⟩, .int .i64 0, .string ⟨#[]⟩, .int .u8 0, .int .u8 0, .int .u8 0, .int .u8 0, .int .u8 0, .int .u8 0, .int .u8 0, .int .u8 0, .int .u8 0, .int .u8 0, .int .u8 0, .int .u8 0, .int .u8 0, .int .u8 0, .int .u8 0, .int .u8 0] 29)).alloc (.cells #[.int .i64 0, .int .i64 0] 32)) y2.heap.size #[.int .i64 0, .slice none 0 0, .string ⟨#[]⟩, .int .i64 0, .string ⟨#[]⟩, .int .u8 0, .int .u8 0, .int .u8 0, .int .u8 0, .int .u8 0, .int .u8 0, .int .u8 0, .int .u8 0, .int .u8 0, .int .u8 0, .int .u8 0, .int .u8 0, .int .u8 0, .int .u8 0, .int .u8 0, .int .u8 0] 29) := (Lies.new y2 _ _).alloc _
  have B : Hid (Lies ((y2.alloc (.cells #[.int .i64 0, .slice none 0 0, .string ⟨#[]⟩, .int .i64 0, .string ⟨#[]⟩, .int .u8 0, .int .u8 0, .int .u8 0, .int .u8 0, .int .u8 0, .int .u8 0, .int .u8 0, .int .u8 0, .int .u8 0, .int .u8 0, .int .u8 0, .int .u8 0, .int .u8 0, .int .u8 0, .int .u8 0, .int .u8 0] 29)).alloc (.cells #[.int .i64 0, .int .i64 0] 32)) (y2.heap.size + 1) #[.int .i64 0, .int .i64 0] 32) := new_one y2 _ _ _
  have M2 : Hid (Lies ((((y2.alloc (.cells #[.int .i64 0, .slice none 0 0, .string ⟨#[]⟩, .int .i64 0, .string ⟨#[]⟩, .int .u8 0, .int .u8 0, .int .u8 0, .int .u8 0, .int .u8 0, .int .u8 0, .int .u8 0, .int .u8 0, .int .u8 0, .int .u8 0, .int .u8 0, .int .u8 0, .int .u8 0, .int .u8 0, .int .u8 0, .int .u8 0] 29)).alloc (.cells #[.int .i64 0, .int .i64 0] 32)).setRow y2.heap.size V2).setRow (y2.heap.size + 1) #[.int .i64 (fr : Int), .int .i64 (fat : Int)]) y2.heap.size V2 29) := (A.out.row _).row_other (by omega) _
  have N2 : Hid (Lies ((((y2.alloc (.cells #[.int .i64 0, .slice none 0 0, .string ⟨#[]⟩, .int .i64 0, .string ⟨#[]⟩, .int .u8 0, .int .u8 0, .int .u8 0, .int .u8 0, .int .u8 0, .int .u8 0, .int .u8 0, .int .u8 0, .int .u8 0, .int .u8 0, .int .u8 0, .int .u8 0, .int .u8 0, .int .u8 0, .int .u8 0, .int .u8 0] 29)).alloc (.cells #[.int .i64 0, .int .i64 0] 32)).setRow y2.heap.size V2).setRow (y2.heap.size + 1) #[.int .i64 (fr : Int), .int .i64 (fat : Int)]) (y2.heap.size + 1) #[.int .i64 (fr : Int), .int .i64 (fat : Int)] 32) := (B.out.row_other (by omega) _).row _
  have BB : Hid (Below y2.heap.size y2 ((((y2.alloc (.cells #[.int .i64 0, .slice none 0 0, .string ⟨#[]⟩, .int .i64 0, .string ⟨#[]⟩, .int .u8 0, .int .u8 0, .int .u8 0, .int .u8 0, .int .u8 0, .int .u8 0, .int .u8 0, .int .u8 0, .int .u8 0, .int .u8 0, .int .u8 0, .int .u8 0, .int .u8 0, .int .u8 0, .int .u8 0, .int .u8 0] 29)).alloc (.cells #[.int .i64 0, .int .i64 0] 32)).setRow y2.heap.size V2).setRow (y2.heap.size + 1) #[.int .i64 (fr : Int), .int .i64 (fat : Int)])) := below_row (below_row (((Below.refl _ _).alloc (Nat.le_refl _) _).alloc (by simp) _) (Nat.le_refl _) _) (by omega) _
  have KB5 : Hid (Below w.heap.size w ((((y2.alloc (.cells #[.int .i64 0, .slice none 0 0, .string ⟨#[]⟩, .int .i64 0, .string ⟨#[]⟩, .int .u8 0, .int .u8 0, .int .u8 0, .int .u8 0, .int .u8 0, .int .u8 0, .int .u8 0, .int .u8 0, .int .u8 0, .int .u8 0, .int .u8 0, .int .u8 0, .int .u8 0, .int .u8 0, .int .u8 0, .int .u8 0] 29)).alloc (.cells #[.int .i64 0, .int .i64 0] 32)).setRow y2.heap.size V2).setRow (y2.heap.size + 1) #[.int .i64 (fr : Int), .int .i64 (fat : Int)])) := KB4.out.trans ((BB.out).mono KB4.out.size)
  have M1n : Hid (Lies ((((y2.alloc (.cells #[.int .i64 0, .slice none 0 0, .string ⟨#[]⟩, .int .i64 0, .string ⟨#[]⟩, .int .u8 0, .int .u8 0, .int .u8 0, .int .u8 0, .int .u8 0, .int .u8 0, .int .u8 0, .int .u8 0, .int .u8 0, .int .u8 0, .int .u8 0, .int .u8 0, .int .u8 0, .int .u8 0, .int .u8 0, .int .u8 0] 29)).alloc (.cells #[.int .i64 0, .int .i64 0] 32)).setRow y2.heap.size V2).setRow (y2.heap.size + 1) #[.int .i64 (fr : Int), .int .i64 (fat : Int)]) (y1.heap.size) V1 29) := M1.out.below (BB.out) M1.out.lt
  clear M1
  have M1 := M1n
  clear M1n
  have N1n : Hid (Lies ((((y2.alloc (.cells #[.int .i64 0, .slice none 0 0, .string ⟨#[]⟩, .int .i64 0, .string ⟨#[]⟩, .int .u8 0, .int .u8 0, .int .u8 0, .int .u8 0, .int .u8 0, .int .u8 0, .int .u8 0, .int .u8 0, .int .u8 0, .int .u8 0, .int .u8 0, .int .u8 0, .int .u8 0, .int .u8 0, .int .u8 0, .int .u8 0] 29)).alloc (.cells #[.int .i64 0, .int .i64 0] 32)).setRow y2.heap.size V2).setRow (y2.heap.size + 1) #[.int .i64 (fr : Int), .int .i64 (fat : Int)]) (y1.heap.size + 1) #[.int .i64 (er : Int), .int .i64 (at' : Int)] 32) := N1.out.below (BB.out) N1.out.lt
  clear N1
  have N1 := N1n
  clear N1n
  have P1n : Hid (PA p V1 ((((y2.alloc (.cells #[.int .i64 0, .slice none 0 0, .string ⟨#[]⟩, .int .i64 0, .string ⟨#[]⟩, .int .u8 0, .int .u8 0, .int .u8 0, .int .u8 0, .int .u8 0, .int .u8 0, .int .u8 0, .int .u8 0, .int .u8 0, .int .u8 0, .int .u8 0, .int .u8 0, .int .u8 0, .int .u8 0, .int .u8 0, .int .u8 0] 29)).alloc (.cells #[.int .i64 0, .int .i64 0] 32)).setRow y2.heap.size V2).setRow (y2.heap.size + 1) #[.int .i64 (fr : Int), .int .i64 (fat : Int)])) := P1.out.below (BB.out)
  clear P1
  have P1 := P1n
  clear P1n
  have P2n : Hid (PA q V2 ((((y2.alloc (.cells #[.int .i64 0, .slice none 0 0, .string ⟨#[]⟩, .int .i64 0, .string ⟨#[]⟩, .int .u8 0, .int .u8 0, .int .u8 0, .int .u8 0, .int .u8 0, .int .u8 0, .int .u8 0, .int .u8 0, .int .u8 0, .int .u8 0, .int .u8 0, .int .u8 0, .int .u8 0, .int .u8 0, .int .u8 0, .int .u8 0] 29)).alloc (.cells #[.int .i64 0, .int .i64 0] 32)).setRow y2.heap.size V2).setRow (y2.heap.size + 1) #[.int .i64 (fr : Int), .int .i64 (fat : Int)])) := P2.out.below (BB.out)
  clear P2
  have P2 := P2n
  clear P2n
  clear KB4
  go_upto_region 5 with (first | (refine wpList_store_row rfl 29 _ _ rfl y2.heap.size rfl #[.int .i64 0, .slice none 0 0, .string ⟨#[]⟩, .int .i64 0, .string ⟨#[]⟩, .int .u8 0, .int .u8 0, .int .u8 0, .int .u8 0, .int .u8 0, .int .u8 0, .int .u8 0, .int .u8 0, .int .u8 0, .int .u8 0, .int .u8 0, .int .u8 0, .int .u8 0, .int .u8 0, .int .u8 0, .int .u8 0] V2 rfl 29 A.out (by rw [z2.out]; exact infoPt) (by rw [z2.out]; rfl) o2.out rfl ?_) | (refine wpList_store_row rfl 32 _ _ rfl (y2.heap.size + 1) rfl #[.int .i64 0, .int .i64 0] #[.int .i64 (fr : Int), .int .i64 (fat : Int)] rfl 32 (B.out.row_other (by omega) _) infoSp rfl (by simp [Value.oneCell']) rfl ?_))
  generalize hv2 : (((y2.alloc (.cells #[.int .i64 0, .slice none 0 0, .string ⟨#[]⟩, .int .i64 0, .string ⟨#[]⟩, .int .u8 0, .int .u8 0, .int .u8 0, .int .u8 0, .int .u8 0, .int .u8 0, .int .u8 0, .int .u8 0, .int .u8 0, .int .u8 0, .int .u8 0, .int .u8 0, .int .u8 0, .int .u8 0, .int .u8 0, .int .u8 0] 29)).alloc (.cells #[.int .i64 0, .int .i64 0] 32)).setRow y2.heap.size V2).setRow (y2.heap.size + 1) #[.int .i64 (fr : Int), .int .i64 (fat : Int)] = v2 at M2 N2 KB5 M1 N1 P1 P2 ⊢
  clear hv2 A B BB
  clear HH HR HF
  by_cases her : er = 0
  · have HX := HP.out her
    have l1 := HX.le
    have l2 := HX.s1
    have l3 := HX.s2
    clear HP
    have her' : ((er : Int) == 0) = true := by rw [her]; rfl
    have f1 : v2.cell? ⟨y1.heap.size + 1, 0, none⟩ = some (.int .i64 (er : Int)) := N1.out.cell 0
    have lp : ¬ ((n : Int) + (lgN p.h : Int) < (T.size : Int)) := by omega
    have lp2 : ¬ (n + lgN p.h < T.size) := by omega
    go_wp2_with (first | (refine wpList_load_row9 (by rfl) 29 _ rfl (y1.heap.size) rfl V1 29 _ M1.out Tryz.underlying29 rfl (by rw [z1.out]; exact infoPt) ?_) | (refine wpList_load_row9 (by rfl) 32 _ rfl (y1.heap.size + 1) rfl #[.int .i64 (er : Int), .int .i64 (at' : Int)] 32 _ N1.out Tryz.underlying32 rfl infoSp ?_) | (refine wpList_load_row9 (by rfl) 29 _ rfl (y2.heap.size) rfl V2 29 _ M2.out Tryz.underlying29 rfl (by rw [z2.out]; exact infoPt) ?_) | (refine wpList_load_row9 (by rfl) 32 _ rfl (y2.heap.size + 1) rfl #[.int .i64 (fr : Int), .int .i64 (fat : Int)] 32 _ N2.out Tryz.underlying32 rfl infoSp ?_))
    refine Calls.mono (HX.pr _ _ KB5.out P1.out) ?_
    rintro e c11 ⟨rfl, hc⟩
    have KB6 : Hid (Below w.heap.size w c11) := KB5.out.trans ((hc).mono KB5.out.size)
    have M1n : Hid (Lies c11 (y1.heap.size) V1 29) := M1.out.below (hc) M1.out.lt
    clear M1
    have M1 := M1n
    clear M1n
    have N1n : Hid (Lies c11 (y1.heap.size + 1) #[.int .i64 (er : Int), .int .i64 (at' : Int)] 32) := N1.out.below (hc) N1.out.lt
    clear N1
    have N1 := N1n
    clear N1n
    have M2n : Hid (Lies c11 (y2.heap.size) V2 29) := M2.out.below (hc) M2.out.lt
    clear M2
    have M2 := M2n
    clear M2n
    have N2n : Hid (Lies c11 (y2.heap.size + 1) #[.int .i64 (fr : Int), .int .i64 (fat : Int)] 32) := N2.out.below (hc) N2.out.lt
    clear N2
    have N2 := N2n
    clear N2n
    have P1n : Hid (PA p V1 c11) := P1.out.below (hc)
    clear P1
    have P1 := P1n
    clear P1n
    have P2n : Hid (PA q V2 c11) := P2.out.below (hc)
    clear P2
    have P2 := P2n
    clear P2n
    clear KB5
    clear hc
    go_wp2_with (first | (refine wpList_load_row9 (by rfl) 29 _ rfl (y1.heap.size) rfl V1 29 _ M1.out Tryz.underlying29 rfl (by rw [z1.out]; exact infoPt) ?_) | (refine wpList_load_row9 (by rfl) 32 _ rfl (y1.heap.size + 1) rfl #[.int .i64 (er : Int), .int .i64 (at' : Int)] 32 _ N1.out Tryz.underlying32 rfl infoSp ?_) | (refine wpList_load_row9 (by rfl) 29 _ rfl (y2.heap.size) rfl V2 29 _ M2.out Tryz.underlying29 rfl (by rw [z2.out]; exact infoPt) ?_) | (refine wpList_load_row9 (by rfl) 32 _ rfl (y2.heap.size + 1) rfl #[.int .i64 (fr : Int), .int .i64 (fat : Int)] 32 _ N2.out Tryz.underlying32 rfl infoSp ?_))
    refine Calls.mono (HX.rd _ KB6.out) ?_
    rintro e c12 ⟨V10, rfl, hA, hc⟩
    have KB7 : Hid (Below w.heap.size w c12) := KB6.out.trans ((hc).mono KB6.out.size)
    have M1n : Hid (Lies c12 (y1.heap.size) V1 29) := M1.out.below (hc) M1.out.lt
    clear M1
    have M1 := M1n
    clear M1n
    have N1n : Hid (Lies c12 (y1.heap.size + 1) #[.int .i64 (er : Int), .int .i64 (at' : Int)] 32) := N1.out.below (hc) N1.out.lt
    clear N1
    have N1 := N1n
    clear N1n
    have M2n : Hid (Lies c12 (y2.heap.size) V2 29) := M2.out.below (hc) M2.out.lt
    clear M2
    have M2 := M2n
    clear M2n
    have N2n : Hid (Lies c12 (y2.heap.size + 1) #[.int .i64 (fr : Int), .int .i64 (fat : Int)] 32) := N2.out.below (hc) N2.out.lt
    clear N2
    have N2 := N2n
    clear N2n
    have P1n : Hid (PA p V1 c12) := P1.out.below (hc)
    clear P1
    have P1 := P1n
    clear P1n
    have P2n : Hid (PA q V2 c12) := P2.out.below (hc)
    clear P2
    have P2 := P2n
    clear P2n
    clear KB6
    have P10 : Hid (PA p V10 c12) := hA
    have z10 : Hid (V10.size = 21) := hA.size hp.ok.2.len
    have o10 : Hid (V10.all (·.oneCell') = true) := hA.one
    clear hA hc
    have A : Hid (Lies ((c12.alloc (.cells #[.int .i64 0, .slice none 0 0, .string ⟨#[]⟩, .int .i64 0, .string ⟨#[]⟩, .int .u8 0, .int .u8 0, .int .u8 0, .int .u8 0, .int .u8 0, .int .u8 0, .int .u8 0, .int .u8 0, .int .u8 0, .int .u8 0, .int .u8 0, .int .u8 0, .int .u8 0, .int .u8 0, .int .u8 0, .int .u8 0] 29)).alloc (.cells #[.int .i64 0, .int .i64 0] 32)) c12.heap.size #[.int .i64 0, .slice none 0 0, .string ⟨#[]⟩, .int .i64 0, .string ⟨#[]⟩, .int .u8 0, .int .u8 0, .int .u8 0, .int .u8 0, .int .u8 0, .int .u8 0, .int .u8 0, .int .u8 0, .int .u8 0, .int .u8 0, .int .u8 0, .int .u8 0, .int .u8 0, .int .u8 0, .int .u8 0, .int .u8 0] 29) := (Lies.new c12 _ _).alloc _
    have B : Hid (Lies ((c12.alloc (.cells #[.int .i64 0, .slice none 0 0, .string ⟨#[]⟩, .int .i64 0, .string ⟨#[]⟩, .int .u8 0, .int .u8 0, .int .u8 0, .int .u8 0, .int .u8 0, .int .u8 0, .int .u8 0, .int .u8 0, .int .u8 0, .int .u8 0, .int .u8 0, .int .u8 0, .int .u8 0, .int .u8 0, .int .u8 0, .int .u8 0] 29)).alloc (.cells #[.int .i64 0, .int .i64 0] 32)) (c12.heap.size + 1) #[.int .i64 0, .int .i64 0] 32) := new_one c12 _ _ _
    have M10 : Hid (Lies ((((c12.alloc (.cells #[.int .i64 0, .slice none 0 0, .string ⟨#[]⟩, .int .i64 0, .string ⟨#[]⟩, .int .u8 0, .int .u8 0, .int .u8 0, .int .u8 0, .int .u8 0, .int .u8 0, .int .u8 0, .int .u8 0, .int .u8 0, .int .u8 0, .int .u8 0, .int .u8 0, .int .u8 0, .int .u8 0, .int .u8 0, .int .u8 0] 29)).alloc (.cells #[.int .i64 0, .int .i64 0] 32)).setRow c12.heap.size V10).setRow (c12.heap.size + 1) #[.int .i64 0, .int .i64 0]) c12.heap.size V10 29) := (A.out.row _).row_other (by omega) _
    have N10 : Hid (Lies ((((c12.alloc (.cells #[.int .i64 0, .slice none 0 0, .string ⟨#[]⟩, .int .i64 0, .string ⟨#[]⟩, .int .u8 0, .int .u8 0, .int .u8 0, .int .u8 0, .int .u8 0, .int .u8 0, .int .u8 0, .int .u8 0, .int .u8 0, .int .u8 0, .int .u8 0, .int .u8 0, .int .u8 0, .int .u8 0, .int .u8 0, .int .u8 0] 29)).alloc (.cells #[.int .i64 0, .int .i64 0] 32)).setRow c12.heap.size V10).setRow (c12.heap.size + 1) #[.int .i64 0, .int .i64 0]) (c12.heap.size + 1) #[.int .i64 0, .int .i64 0] 32) := (B.out.row_other (by omega) _).row _
    have BB : Hid (Below c12.heap.size c12 ((((c12.alloc (.cells #[.int .i64 0, .slice none 0 0, .string ⟨#[]⟩, .int .i64 0, .string ⟨#[]⟩, .int .u8 0, .int .u8 0, .int .u8 0, .int .u8 0, .int .u8 0, .int .u8 0, .int .u8 0, .int .u8 0, .int .u8 0, .int .u8 0, .int .u8 0, .int .u8 0, .int .u8 0, .int .u8 0, .int .u8 0, .int .u8 0] 29)).alloc (.cells #[.int .i64 0, .int .i64 0] 32)).setRow c12.heap.size V10).setRow (c12.heap.size + 1) #[.int .i64 0, .int .i64 0])) := below_row (below_row (((Below.refl _ _).alloc (Nat.le_refl _) _).alloc (by simp) _) (Nat.le_refl _) _) (by omega) _
    have KB8 : Hid (Below w.heap.size w ((((c12.alloc (.cells #[.int .i64 0, .slice none 0 0, .string ⟨#[]⟩, .int .i64 0, .string ⟨#[]⟩, .int .u8 0, .int .u8 0, .int .u8 0, .int .u8 0, .int .u8 0, .int .u8 0, .int .u8 0, .int .u8 0, .int .u8 0, .int .u8 0, .int .u8 0, .int .u8 0, .int .u8 0, .int .u8 0, .int .u8 0, .int .u8 0] 29)).alloc (.cells #[.int .i64 0, .int .i64 0] 32)).setRow c12.heap.size V10).setRow (c12.heap.size + 1) #[.int .i64 0, .int .i64 0])) := KB7.out.trans ((BB.out).mono KB7.out.size)
    have M1n : Hid (Lies ((((c12.alloc (.cells #[.int .i64 0, .slice none 0 0, .string ⟨#[]⟩, .int .i64 0, .string ⟨#[]⟩, .int .u8 0, .int .u8 0, .int .u8 0, .int .u8 0, .int .u8 0, .int .u8 0, .int .u8 0, .int .u8 0, .int .u8 0, .int .u8 0, .int .u8 0, .int .u8 0, .int .u8 0, .int .u8 0, .int .u8 0, .int .u8 0] 29)).alloc (.cells #[.int .i64 0, .int .i64 0] 32)).setRow c12.heap.size V10).setRow (c12.heap.size + 1) #[.int .i64 0, .int .i64 0]) (y1.heap.size) V1 29) := M1.out.below (BB.out) M1.out.lt
    clear M1
    have M1 := M1n
    clear M1n
    have N1n : Hid (Lies ((((c12.alloc (.cells #[.int .i64 0, .slice none 0 0, .string ⟨#[]⟩, .int .i64 0, .string ⟨#[]⟩, .int .u8 0, .int .u8 0, .int .u8 0, .int .u8 0, .int .u8 0, .int .u8 0, .int .u8 0, .int .u8 0, .int .u8 0, .int .u8 0, .int .u8 0, .int .u8 0, .int .u8 0, .int .u8 0, .int .u8 0, .int .u8 0] 29)).alloc (.cells #[.int .i64 0, .int .i64 0] 32)).setRow c12.heap.size V10).setRow (c12.heap.size + 1) #[.int .i64 0, .int .i64 0]) (y1.heap.size + 1) #[.int .i64 (er : Int), .int .i64 (at' : Int)] 32) := N1.out.below (BB.out) N1.out.lt
    clear N1
    have N1 := N1n
    clear N1n
    have M2n : Hid (Lies ((((c12.alloc (.cells #[.int .i64 0, .slice none 0 0, .string ⟨#[]⟩, .int .i64 0, .string ⟨#[]⟩, .int .u8 0, .int .u8 0, .int .u8 0, .int .u8 0, .int .u8 0, .int .u8 0, .int .u8 0, .int .u8 0, .int .u8 0, .int .u8 0, .int .u8 0, .int .u8 0, .int .u8 0, .int .u8 0, .int .u8 0, .int .u8 0] 29)).alloc (.cells #[.int .i64 0, .int .i64 0] 32)).setRow c12.heap.size V10).setRow (c12.heap.size + 1) #[.int .i64 0, .int .i64 0]) (y2.heap.size) V2 29) := M2.out.below (BB.out) M2.out.lt
    clear M2
    have M2 := M2n
    clear M2n
    have N2n : Hid (Lies ((((c12.alloc (.cells #[.int .i64 0, .slice none 0 0, .string ⟨#[]⟩, .int .i64 0, .string ⟨#[]⟩, .int .u8 0, .int .u8 0, .int .u8 0, .int .u8 0, .int .u8 0, .int .u8 0, .int .u8 0, .int .u8 0, .int .u8 0, .int .u8 0, .int .u8 0, .int .u8 0, .int .u8 0, .int .u8 0, .int .u8 0, .int .u8 0] 29)).alloc (.cells #[.int .i64 0, .int .i64 0] 32)).setRow c12.heap.size V10).setRow (c12.heap.size + 1) #[.int .i64 0, .int .i64 0]) (y2.heap.size + 1) #[.int .i64 (fr : Int), .int .i64 (fat : Int)] 32) := N2.out.below (BB.out) N2.out.lt
    clear N2
    have N2 := N2n
    clear N2n
    have P1n : Hid (PA p V1 ((((c12.alloc (.cells #[.int .i64 0, .slice none 0 0, .string ⟨#[]⟩, .int .i64 0, .string ⟨#[]⟩, .int .u8 0, .int .u8 0, .int .u8 0, .int .u8 0, .int .u8 0, .int .u8 0, .int .u8 0, .int .u8 0, .int .u8 0, .int .u8 0, .int .u8 0, .int .u8 0, .int .u8 0, .int .u8 0, .int .u8 0, .int .u8 0] 29)).alloc (.cells #[.int .i64 0, .int .i64 0] 32)).setRow c12.heap.size V10).setRow (c12.heap.size + 1) #[.int .i64 0, .int .i64 0])) := P1.out.below (BB.out)
    clear P1
    have P1 := P1n
    clear P1n
    have P2n : Hid (PA q V2 ((((c12.alloc (.cells #[.int .i64 0, .slice none 0 0, .string ⟨#[]⟩, .int .i64 0, .string ⟨#[]⟩, .int .u8 0, .int .u8 0, .int .u8 0, .int .u8 0, .int .u8 0, .int .u8 0, .int .u8 0, .int .u8 0, .int .u8 0, .int .u8 0, .int .u8 0, .int .u8 0, .int .u8 0, .int .u8 0, .int .u8 0, .int .u8 0] 29)).alloc (.cells #[.int .i64 0, .int .i64 0] 32)).setRow c12.heap.size V10).setRow (c12.heap.size + 1) #[.int .i64 0, .int .i64 0])) := P2.out.below (BB.out)
    clear P2
    have P2 := P2n
    clear P2n
    have P10n : Hid (PA p V10 ((((c12.alloc (.cells #[.int .i64 0, .slice none 0 0, .string ⟨#[]⟩, .int .i64 0, .string ⟨#[]⟩, .int .u8 0, .int .u8 0, .int .u8 0, .int .u8 0, .int .u8 0, .int .u8 0, .int .u8 0, .int .u8 0, .int .u8 0, .int .u8 0, .int .u8 0, .int .u8 0, .int .u8 0, .int .u8 0, .int .u8 0, .int .u8 0] 29)).alloc (.cells #[.int .i64 0, .int .i64 0] 32)).setRow c12.heap.size V10).setRow (c12.heap.size + 1) #[.int .i64 0, .int .i64 0])) := P10.out.below (BB.out)
    clear P10
    have P10 := P10n
    clear P10n
    clear KB7
    go_upto_region 8 with (first | (refine wpList_store_row rfl 29 _ _ rfl c12.heap.size rfl #[.int .i64 0, .slice none 0 0, .string ⟨#[]⟩, .int .i64 0, .string ⟨#[]⟩, .int .u8 0, .int .u8 0, .int .u8 0, .int .u8 0, .int .u8 0, .int .u8 0, .int .u8 0, .int .u8 0, .int .u8 0, .int .u8 0, .int .u8 0, .int .u8 0, .int .u8 0, .int .u8 0, .int .u8 0, .int .u8 0] V10 rfl 29 A.out (by rw [z10.out]; exact infoPt) (by rw [z10.out]; rfl) o10.out rfl ?_) | (refine wpList_store_row rfl 32 _ _ rfl (c12.heap.size + 1) rfl #[.int .i64 0, .int .i64 0] #[.int .i64 0, .int .i64 0] rfl 32 (B.out.row_other (by omega) _) infoSp rfl (by simp [Value.oneCell']) rfl ?_))
    generalize hv10 : (((c12.alloc (.cells #[.int .i64 0, .slice none 0 0, .string ⟨#[]⟩, .int .i64 0, .string ⟨#[]⟩, .int .u8 0, .int .u8 0, .int .u8 0, .int .u8 0, .int .u8 0, .int .u8 0, .int .u8 0, .int .u8 0, .int .u8 0, .int .u8 0, .int .u8 0, .int .u8 0, .int .u8 0, .int .u8 0, .int .u8 0, .int .u8 0] 29)).alloc (.cells #[.int .i64 0, .int .i64 0] 32)).setRow c12.heap.size V10).setRow (c12.heap.size + 1) #[.int .i64 0, .int .i64 0] = v10 at M10 N10 KB8 M1 N1 M2 N2 P1 P2 P10 ⊢
    clear hv10 A B BB
    refine wp_region_lit ?_
    refine wpList_load_row9 (by rfl) 29 _ rfl (y1.heap.size) rfl V1 29 _ M1.out Tryz.underlying29 rfl (by rw [z1.out]; exact infoPt) ?_
    simp only [Act.put, List.setIfInBounds_toArray, List.set_cons_zero, List.set_cons_succ]
    refine wpList_yieldG (.bool wide) (by rfl) ?hy ?_
    case hy => (go_simp <;> (first | with_reducible rfl | omega | skip))
    simp only [Act.put, List.setIfInBounds_toArray, List.set_cons_zero, List.set_cons_succ]
    refine wpList_onG (by rfl) ?_
    go_simp
    refine Calls.mono (HX.ck _ _ KB8.out P1.out) ?_
    rintro e c13 ⟨rfl, hc⟩
    have KB9 : Hid (Below w.heap.size w c13) := KB8.out.trans ((hc).mono KB8.out.size)
    have M1n : Hid (Lies c13 (y1.heap.size) V1 29) := M1.out.below (hc) M1.out.lt
    clear M1
    have M1 := M1n
    clear M1n
    have N1n : Hid (Lies c13 (y1.heap.size + 1) #[.int .i64 (er : Int), .int .i64 (at' : Int)] 32) := N1.out.below (hc) N1.out.lt
    clear N1
    have N1 := N1n
    clear N1n
    have M2n : Hid (Lies c13 (y2.heap.size) V2 29) := M2.out.below (hc) M2.out.lt
    clear M2
    have M2 := M2n
    clear M2n
    have N2n : Hid (Lies c13 (y2.heap.size + 1) #[.int .i64 (fr : Int), .int .i64 (fat : Int)] 32) := N2.out.below (hc) N2.out.lt
    clear N2
    have N2 := N2n
    clear N2n
    have M10n : Hid (Lies c13 (c12.heap.size) V10 29) := M10.out.below (hc) M10.out.lt
    clear M10
    have M10 := M10n
    clear M10n
    have N10n : Hid (Lies c13 (c12.heap.size + 1) #[.int .i64 0, .int .i64 0] 32) := N10.out.below (hc) N10.out.lt
    clear N10
    have N10 := N10n
    clear N10n
    have P1n : Hid (PA p V1 c13) := P1.out.below (hc)
    clear P1
    have P1 := P1n
    clear P1n
    have P2n : Hid (PA q V2 c13) := P2.out.below (hc)
    clear P2
    have P2 := P2n
    clear P2n
    have P10n : Hid (PA p V10 c13) := P10.out.below (hc)
    clear P10
    have P10 := P10n
    clear P10n
    clear KB8
    clear hc
    refine wpList_yieldG (.bool false) (by rfl) ?hy ?_
    case hy => (go_simp <;> (first | with_reducible rfl | omega | skip))
    simp only [Act.put, List.setIfInBounds_toArray, List.set_cons_zero, List.set_cons_succ]
    refine wpList_yieldG (.bool false) (by rfl) ?hy ?_
    case hy => (go_simp <;> (first | with_reducible rfl | omega | skip))
    simp only [Act.put, List.setIfInBounds_toArray, List.set_cons_zero, List.set_cons_succ]
    refine wpList_yieldG (.int .i64 0) (by rfl) ?hy ?_
    case hy => (go_simp <;> (first | with_reducible rfl | omega | skip))
    simp only [Act.put, List.setIfInBounds_toArray, List.set_cons_zero, List.set_cons_succ]
    refine wpList_yieldG (.bool false) (by rfl) ?hy ?_
    case hy => (go_simp <;> (first | with_reducible rfl | omega | skip))
    simp only [Act.put, List.setIfInBounds_toArray, List.set_cons_zero, List.set_cons_succ]
    refine wpList_yieldG (.bool false) (by rfl) ?hy ?_
    case hy => (go_simp <;> (first | with_reducible rfl | omega | skip))
    simp only [Act.put, List.setIfInBounds_toArray, List.set_cons_zero, List.set_cons_succ]
    refine wpList_yieldG (.bool false) (by rfl) ?hy ?_
    case hy => (go_simp <;> (first | with_reducible rfl | omega | skip))
    simp only [Act.put, List.setIfInBounds_toArray, List.set_cons_zero, List.set_cons_succ]
    refine wpList_yieldG (.string T) (by rfl) ?hy ?_
    case hy => (go_simp <;> (first | with_reducible rfl | omega | skip))
    simp only [Act.put, List.setIfInBounds_toArray, List.set_cons_zero, List.set_cons_succ]
    refine wpList_yieldG (.int .i64 (T.size : Int)) (by rfl) ?hy ?_
    case hy => (go_simp <;> (first | with_reducible rfl | omega | skip))
    simp only [Act.put, List.setIfInBounds_toArray, List.set_cons_zero, List.set_cons_succ]
    refine wpList_yieldG (.int .i64 (n : Int)) (by rfl) ?hy ?_
    case hy => (go_simp <;> (first | with_reducible rfl | omega | skip))
    simp only [Act.put, List.setIfInBounds_toArray, List.set_cons_zero, List.set_cons_succ]
    refine wpList_load_row9 (by rfl) 29 _ rfl (y1.heap.size) rfl V1 29 _ M1.out Tryz.underlying29 rfl (by rw [z1.out]; exact infoPt) ?_
    simp only [Act.put, List.setIfInBounds_toArray, List.set_cons_zero, List.set_cons_succ]
    refine wpList_onG (by rfl) ?_
    go_simp
    refine Calls.mono (HX.lg _ _ P1.out) ?_
    rintro e c14 ⟨rfl, hc⟩
    have KB10 : Hid (Below w.heap.size w c14) := KB9.out.trans ((hc).mono KB9.out.size)
    have M1n : Hid (Lies c14 (y1.heap.size) V1 29) := M1.out.below (hc) M1.out.lt
    clear M1
    have M1 := M1n
    clear M1n
    have N1n : Hid (Lies c14 (y1.heap.size + 1) #[.int .i64 (er : Int), .int .i64 (at' : Int)] 32) := N1.out.below (hc) N1.out.lt
    clear N1
    have N1 := N1n
    clear N1n
    have M2n : Hid (Lies c14 (y2.heap.size) V2 29) := M2.out.below (hc) M2.out.lt
    clear M2
    have M2 := M2n
    clear M2n
    have N2n : Hid (Lies c14 (y2.heap.size + 1) #[.int .i64 (fr : Int), .int .i64 (fat : Int)] 32) := N2.out.below (hc) N2.out.lt
    clear N2
    have N2 := N2n
    clear N2n
    have M10n : Hid (Lies c14 (c12.heap.size) V10 29) := M10.out.below (hc) M10.out.lt
    clear M10
    have M10 := M10n
    clear M10n
    have N10n : Hid (Lies c14 (c12.heap.size + 1) #[.int .i64 0, .int .i64 0] 32) := N10.out.below (hc) N10.out.lt
    clear N10
    have N10 := N10n
    clear N10n
    have P1n : Hid (PA p V1 c14) := P1.out.below (hc)
    clear P1
    have P1 := P1n
    clear P1n
    have P2n : Hid (PA q V2 c14) := P2.out.below (hc)
    clear P2
    have P2 := P2n
    clear P2n
    have P10n : Hid (PA p V10 c14) := P10.out.below (hc)
    clear P10
    have P10 := P10n
    clear P10n
    clear KB9
    clear hc
    refine wpList_yieldG (.int .i64 ((n : Int) + (lgN p.h : Int))) (by rfl) ?hy ?_
    case hy => (go_simp; exact wrap_add _ _ (by omega) (by omega) (by omega))
    simp only [Act.put, List.setIfInBounds_toArray, List.set_cons_zero, List.set_cons_succ]
    refine wpList_yieldG (.bool false) (by rfl) ?hy ?_
    case hy => (go_simp <;> (first | with_reducible rfl | omega | skip))
    simp only [Act.put, List.setIfInBounds_toArray, List.set_cons_zero, List.set_cons_succ]
    refine wpList_yieldG (.bool false) (by rfl) ?hy ?_
    case hy => (go_simp <;> (first | with_reducible rfl | omega | skip))
    simp only [Act.put, List.setIfInBounds_toArray, List.set_cons_zero, List.set_cons_succ]
    refine wpList_yieldG (.bool false) (by rfl) ?hy ?_
    case hy => (go_simp <;> (first | with_reducible rfl | omega | skip))
    simp only [Act.put, List.setIfInBounds_toArray, List.set_cons_zero, List.set_cons_succ]
    refine wpList_load_row9 (by rfl) 29 _ rfl (c12.heap.size) rfl V10 29 _ M10.out Tryz.underlying29 rfl (by rw [z10.out]; exact infoPt) ?_
    simp only [Act.put, List.setIfInBounds_toArray, List.set_cons_zero, List.set_cons_succ]
    refine wpList_load_row9 (by rfl) 29 _ rfl (y1.heap.size) rfl V1 29 _ M1.out Tryz.underlying29 rfl (by rw [z1.out]; exact infoPt) ?_
    simp only [Act.put, List.setIfInBounds_toArray, List.set_cons_zero, List.set_cons_succ]
    refine wpList_onG (by rfl) ?_
    go_simp
    refine Calls.mono (HX.sm _ _ _ P10.out P1.out) ?_
    rintro e c15 ⟨rfl, hc⟩
    have KB11 : Hid (Below w.heap.size w c15) := KB10.out.trans ((hc).mono KB10.out.size)
    have M1n : Hid (Lies c15 (y1.heap.size) V1 29) := M1.out.below (hc) M1.out.lt
    clear M1
    have M1 := M1n
    clear M1n
    have N1n : Hid (Lies c15 (y1.heap.size + 1) #[.int .i64 (er : Int), .int .i64 (at' : Int)] 32) := N1.out.below (hc) N1.out.lt
    clear N1
    have N1 := N1n
    clear N1n
    have M2n : Hid (Lies c15 (y2.heap.size) V2 29) := M2.out.below (hc) M2.out.lt
    clear M2
    have M2 := M2n
    clear M2n
    have N2n : Hid (Lies c15 (y2.heap.size + 1) #[.int .i64 (fr : Int), .int .i64 (fat : Int)] 32) := N2.out.below (hc) N2.out.lt
    clear N2
    have N2 := N2n
    clear N2n
    have M10n : Hid (Lies c15 (c12.heap.size) V10 29) := M10.out.below (hc) M10.out.lt
    clear M10
    have M10 := M10n
    clear M10n
    have N10n : Hid (Lies c15 (c12.heap.size + 1) #[.int .i64 0, .int .i64 0] 32) := N10.out.below (hc) N10.out.lt
    clear N10
    have N10 := N10n
    clear N10n
    have P1n : Hid (PA p V1 c15) := P1.out.below (hc)
    clear P1
    have P1 := P1n
    clear P1n
    have P2n : Hid (PA q V2 c15) := P2.out.below (hc)
    clear P2
    have P2 := P2n
    clear P2n
    have P10n : Hid (PA p V10 c15) := P10.out.below (hc)
    clear P10
    have P10 := P10n
    clear P10n
    clear KB10
    clear hc
    refine wpList_yieldG (.bool false) (by rfl) ?hy ?_
    case hy => (go_simp <;> (first | with_reducible rfl | omega | skip))
    simp only [Act.put, List.setIfInBounds_toArray, List.set_cons_zero, List.set_cons_succ]
    refine wpList_yieldG (.bool false) (by rfl) ?hy ?_
    case hy => (go_simp <;> (first | with_reducible rfl | omega | skip))
    simp only [Act.put, List.setIfInBounds_toArray, List.set_cons_zero, List.set_cons_succ]
    refine wpList_yieldG (.bool false) (by rfl) ?hy ?_
    case hy => (go_simp <;> (first | with_reducible rfl | omega | skip))
    simp only [Act.put, List.setIfInBounds_toArray, List.set_cons_zero, List.set_cons_succ]
    refine wpList_yieldG (.int .i64 (T.size : Int)) (by rfl) ?hy ?_
    case hy => (go_simp <;> (first | with_reducible rfl | omega | skip))
    simp only [Act.put, List.setIfInBounds_toArray, List.set_cons_zero, List.set_cons_succ]
    refine wpList_yieldG (.string T) (by rfl) ?hy ?_
    case hy => (go_simp <;> (first | with_reducible rfl | omega | skip))
    simp only [Act.put, List.setIfInBounds_toArray, List.set_cons_zero, List.set_cons_succ]
    refine wpList_yieldG (.int .i64 (T.size : Int)) (by rfl) ?hy ?_
    case hy => (go_simp <;> (first | with_reducible rfl | omega | skip))
    simp only [Act.put, List.setIfInBounds_toArray, List.set_cons_zero, List.set_cons_succ]
    refine wpList_yieldG (.bool false) (by rfl) ?hy ?_
    case hy => (go_simp <;> (first | with_reducible rfl | omega | skip))
    simp only [Act.put, List.setIfInBounds_toArray, List.set_cons_zero, List.set_cons_succ]
    refine wpList_yieldG (.bool false) (by rfl) ?hy ?_
    case hy => (go_simp <;> (first | with_reducible rfl | omega | skip))
    simp only [Act.put, List.setIfInBounds_toArray, List.set_cons_zero, List.set_cons_succ]
    refine wpList_yieldG (.bool false) (by rfl) ?hy ?_
    case hy => (go_simp <;> (first | with_reducible rfl | omega | skip))
    simp only [Act.put, List.setIfInBounds_toArray, List.set_cons_zero, List.set_cons_succ]
    refine wpList_load_row9 (by rfl) 32 _ rfl (c12.heap.size + 1) rfl #[.int .i64 0, .int .i64 0] 32 _ N10.out Tryz.underlying32 rfl infoSp ?_
    simp only [Act.put, List.setIfInBounds_toArray, List.set_cons_zero, List.set_cons_succ]
    refine wpList_yieldG (.agg #[.int .i64 0, .int .i64 0]) (by rfl) ?hy ?_
    case hy => (go_simp <;> (first | with_reducible rfl | omega | skip))
    simp only [Act.put, List.setIfInBounds_toArray, List.set_cons_zero, List.set_cons_succ]
    refine wpList_yieldG (.bool false) (by rfl) ?hy ?_
    case hy => (go_simp <;> (first | with_reducible rfl | omega | skip))
    simp only [Act.put, List.setIfInBounds_toArray, List.set_cons_zero, List.set_cons_succ]
    refine wpList_yieldG (.bool false) (by rfl) ?hy ?_
    case hy => (go_simp <;> (first | with_reducible rfl | omega | skip))
    simp only [Act.put, List.setIfInBounds_toArray, List.set_cons_zero, List.set_cons_succ]
    refine wpList_nil ?_
    go_upto_region 10 with (first | (refine wpList_load_row9 (by rfl) 29 _ rfl (y1.heap.size) rfl V1 29 _ M1.out Tryz.underlying29 rfl (by rw [z1.out]; exact infoPt) ?_) | (refine wpList_load_row9 (by rfl) 32 _ rfl (y1.heap.size + 1) rfl #[.int .i64 (er : Int), .int .i64 (at' : Int)] 32 _ N1.out Tryz.underlying32 rfl infoSp ?_) | (refine wpList_load_row9 (by rfl) 29 _ rfl (y2.heap.size) rfl V2 29 _ M2.out Tryz.underlying29 rfl (by rw [z2.out]; exact infoPt) ?_) | (refine wpList_load_row9 (by rfl) 32 _ rfl (y2.heap.size + 1) rfl #[.int .i64 (fr : Int), .int .i64 (fat : Int)] 32 _ N2.out Tryz.underlying32 rfl infoSp ?_) | (refine wpList_load_row9 (by rfl) 29 _ rfl (c12.heap.size) rfl V10 29 _ M10.out Tryz.underlying29 rfl (by rw [z10.out]; exact infoPt) ?_) | (refine wpList_load_row9 (by rfl) 32 _ rfl (c12.heap.size + 1) rfl #[.int .i64 0, .int .i64 0] 32 _ N10.out Tryz.underlying32 rfl infoSp ?_))
    clear HX f1 l1 l2 l3 lp lp2 her her'
    by_cases hfr : fr = 0
    · have HX := HQ.out hfr
      have l1 := HX.le
      have l2 := HX.s1
      have l3 := HX.s2
      clear HQ
      have hfr' : ((fr : Int) == 0) = true := by rw [hfr]; rfl
      have f2 : c15.cell? ⟨y2.heap.size + 1, 0, none⟩ = some (.int .i64 (fr : Int)) := N2.out.cell 0
      have lq : ¬ ((m : Int) + (lgN q.h : Int) < (U.size : Int)) := by omega
      have lq2 : ¬ (m + lgN q.h < U.size) := by omega
      go_wp2_with (first | (refine wpList_load_row9 (by rfl) 29 _ rfl (y1.heap.size) rfl V1 29 _ M1.out Tryz.underlying29 rfl (by rw [z1.out]; exact infoPt) ?_) | (refine wpList_load_row9 (by rfl) 32 _ rfl (y1.heap.size + 1) rfl #[.int .i64 (er : Int), .int .i64 (at' : Int)] 32 _ N1.out Tryz.underlying32 rfl infoSp ?_) | (refine wpList_load_row9 (by rfl) 29 _ rfl (y2.heap.size) rfl V2 29 _ M2.out Tryz.underlying29 rfl (by rw [z2.out]; exact infoPt) ?_) | (refine wpList_load_row9 (by rfl) 32 _ rfl (y2.heap.size + 1) rfl #[.int .i64 (fr : Int), .int .i64 (fat : Int)] 32 _ N2.out Tryz.underlying32 rfl infoSp ?_) | (refine wpList_load_row9 (by rfl) 29 _ rfl (c12.heap.size) rfl V10 29 _ M10.out Tryz.underlying29 rfl (by rw [z10.out]; exact infoPt) ?_) | (refine wpList_load_row9 (by rfl) 32 _ rfl (c12.heap.size + 1) rfl #[.int .i64 0, .int .i64 0] 32 _ N10.out Tryz.underlying32 rfl infoSp ?_))
      refine Calls.mono (HX.pr _ _ KB11.out P2.out) ?_
      rintro e c21 ⟨rfl, hc⟩
      have KB12 : Hid (Below w.heap.size w c21) := KB11.out.trans ((hc).mono KB11.out.size)
      have M1n : Hid (Lies c21 (y1.heap.size) V1 29) := M1.out.below (hc) M1.out.lt
      clear M1
      have M1 := M1n
      clear M1n
      have N1n : Hid (Lies c21 (y1.heap.size + 1) #[.int .i64 (er : Int), .int .i64 (at' : Int)] 32) := N1.out.below (hc) N1.out.lt
      clear N1
      have N1 := N1n
      clear N1n
      have M2n : Hid (Lies c21 (y2.heap.size) V2 29) := M2.out.below (hc) M2.out.lt
      clear M2
      have M2 := M2n
      clear M2n
      have N2n : Hid (Lies c21 (y2.heap.size + 1) #[.int .i64 (fr : Int), .int .i64 (fat : Int)] 32) := N2.out.below (hc) N2.out.lt
      clear N2
      have N2 := N2n
      clear N2n
      have M10n : Hid (Lies c21 (c12.heap.size) V10 29) := M10.out.below (hc) M10.out.lt
      clear M10
      have M10 := M10n
      clear M10n
      have N10n : Hid (Lies c21 (c12.heap.size + 1) #[.int .i64 0, .int .i64 0] 32) := N10.out.below (hc) N10.out.lt
      clear N10
      have N10 := N10n
      clear N10n
      have P1n : Hid (PA p V1 c21) := P1.out.below (hc)
      clear P1
      have P1 := P1n
      clear P1n
      have P2n : Hid (PA q V2 c21) := P2.out.below (hc)
      clear P2
      have P2 := P2n
      clear P2n
      have P10n : Hid (PA p V10 c21) := P10.out.below (hc)
      clear P10
      have P10 := P10n
      clear P10n
      clear KB11
      clear hc
      go_wp2_with (first | (refine wpList_load_row9 (by rfl) 29 _ rfl (y1.heap.size) rfl V1 29 _ M1.out Tryz.underlying29 rfl (by rw [z1.out]; exact infoPt) ?_) | (refine wpList_load_row9 (by rfl) 32 _ rfl (y1.heap.size + 1) rfl #[.int .i64 (er : Int), .int .i64 (at' : Int)] 32 _ N1.out Tryz.underlying32 rfl infoSp ?_) | (refine wpList_load_row9 (by rfl) 29 _ rfl (y2.heap.size) rfl V2 29 _ M2.out Tryz.underlying29 rfl (by rw [z2.out]; exact infoPt) ?_) | (refine wpList_load_row9 (by rfl) 32 _ rfl (y2.heap.size + 1) rfl #[.int .i64 (fr : Int), .int .i64 (fat : Int)] 32 _ N2.out Tryz.underlying32 rfl infoSp ?_) | (refine wpList_load_row9 (by rfl) 29 _ rfl (c12.heap.size) rfl V10 29 _ M10.out Tryz.underlying29 rfl (by rw [z10.out]; exact infoPt) ?_) | (refine wpList_load_row9 (by rfl) 32 _ rfl (c12.heap.size + 1) rfl #[.int .i64 0, .int .i64 0] 32 _ N10.out Tryz.underlying32 rfl infoSp ?_))
      refine Calls.mono (HX.rd _ KB12.out) ?_
      rintro e c22 ⟨V20, rfl, hA, hc⟩
      have KB13 : Hid (Below w.heap.size w c22) := KB12.out.trans ((hc).mono KB12.out.size)
      have M1n : Hid (Lies c22 (y1.heap.size) V1 29) := M1.out.below (hc) M1.out.lt
      clear M1
      have M1 := M1n
      clear M1n
      have N1n : Hid (Lies c22 (y1.heap.size + 1) #[.int .i64 (er : Int), .int .i64 (at' : Int)] 32) := N1.out.below (hc) N1.out.lt
      clear N1
      have N1 := N1n
      clear N1n
      have M2n : Hid (Lies c22 (y2.heap.size) V2 29) := M2.out.below (hc) M2.out.lt
      clear M2
      have M2 := M2n
      clear M2n
      have N2n : Hid (Lies c22 (y2.heap.size + 1) #[.int .i64 (fr : Int), .int .i64 (fat : Int)] 32) := N2.out.below (hc) N2.out.lt
      clear N2
      have N2 := N2n
      clear N2n
      have M10n : Hid (Lies c22 (c12.heap.size) V10 29) := M10.out.below (hc) M10.out.lt
      clear M10
      have M10 := M10n
      clear M10n
      have N10n : Hid (Lies c22 (c12.heap.size + 1) #[.int .i64 0, .int .i64 0] 32) := N10.out.below (hc) N10.out.lt
      clear N10
      have N10 := N10n
      clear N10n
      have P1n : Hid (PA p V1 c22) := P1.out.below (hc)
      clear P1
      have P1 := P1n
      clear P1n
      have P2n : Hid (PA q V2 c22) := P2.out.below (hc)
      clear P2
      have P2 := P2n
      clear P2n
      have P10n : Hid (PA p V10 c22) := P10.out.below (hc)
      clear P10
      have P10 := P10n
      clear P10n
      clear KB12
      have P20 : Hid (PA q V20 c22) := hA
      have z20 : Hid (V20.size = 21) := hA.size hq.ok.2.len
      have o20 : Hid (V20.all (·.oneCell') = true) := hA.one
      clear hA hc
      have A : Hid (Lies ((c22.alloc (.cells #[.int .i64 0, .slice none 0 0, .string ⟨#[]⟩, .int .i64 0, .string ⟨#[]⟩, .int .u8 0, .int .u8 0, .int .u8 0, .int .u8 0, .int .u8 0, .int .u8 0, .int .u8 0, .int .u8 0, .int .u8 0, .int .u8 0, .int .u8 0, .int .u8 0, .int .u8 0, .int .u8 0, .int .u8 0, .int .u8 0] 29)).alloc (.cells #[.int .i64 0, .int .i64 0] 32)) c22.heap.size #[.int .i64 0, .slice none 0 0, .string ⟨#[]⟩, .int .i64 0, .string ⟨#[]⟩, .int .u8 0, .int .u8 0, .int .u8 0, .int .u8 0, .int .u8 0, .int .u8 0, .int .u8 0, .int .u8 0, .int .u8 0, .int .u8 0, .int .u8 0, .int .u8 0, .int .u8 0, .int .u8 0, .int .u8 0, .int .u8 0] 29) := (Lies.new c22 _ _).alloc _
      have B : Hid (Lies ((c22.alloc (.cells #[.int .i64 0, .slice none 0 0, .string ⟨#[]⟩, .int .i64 0, .string ⟨#[]⟩, .int .u8 0, .int .u8 0, .int .u8 0, .int .u8 0, .int .u8 0, .int .u8 0, .int .u8 0, .int .u8 0, .int .u8 0, .int .u8 0, .int .u8 0, .int .u8 0, .int .u8 0, .int .u8 0, .int .u8 0, .int .u8 0] 29)).alloc (.cells #[.int .i64 0, .int .i64 0] 32)) (c22.heap.size + 1) #[.int .i64 0, .int .i64 0] 32) := new_one c22 _ _ _
      have M20 : Hid (Lies ((((c22.alloc (.cells #[.int .i64 0, .slice none 0 0, .string ⟨#[]⟩, .int .i64 0, .string ⟨#[]⟩, .int .u8 0, .int .u8 0, .int .u8 0, .int .u8 0, .int .u8 0, .int .u8 0, .int .u8 0, .int .u8 0, .int .u8 0, .int .u8 0, .int .u8 0, .int .u8 0, .int .u8 0, .int .u8 0, .int .u8 0, .int .u8 0] 29)).alloc (.cells #[.int .i64 0, .int .i64 0] 32)).setRow c22.heap.size V20).setRow (c22.heap.size + 1) #[.int .i64 0, .int .i64 0]) c22.heap.size V20 29) := (A.out.row _).row_other (by omega) _
      have N20 : Hid (Lies ((((c22.alloc (.cells #[.int .i64 0, .slice none 0 0, .string ⟨#[]⟩, .int .i64 0, .string ⟨#[]⟩, .int .u8 0, .int .u8 0, .int .u8 0, .int .u8 0, .int .u8 0, .int .u8 0, .int .u8 0, .int .u8 0, .int .u8 0, .int .u8 0, .int .u8 0, .int .u8 0, .int .u8 0, .int .u8 0, .int .u8 0, .int .u8 0] 29)).alloc (.cells #[.int .i64 0, .int .i64 0] 32)).setRow c22.heap.size V20).setRow (c22.heap.size + 1) #[.int .i64 0, .int .i64 0]) (c22.heap.size + 1) #[.int .i64 0, .int .i64 0] 32) := (B.out.row_other (by omega) _).row _
      have BB : Hid (Below c22.heap.size c22 ((((c22.alloc (.cells #[.int .i64 0, .slice none 0 0, .string ⟨#[]⟩, .int .i64 0, .string ⟨#[]⟩, .int .u8 0, .int .u8 0, .int .u8 0, .int .u8 0, .int .u8 0, .int .u8 0, .int .u8 0, .int .u8 0, .int .u8 0, .int .u8 0, .int .u8 0, .int .u8 0, .int .u8 0, .int .u8 0, .int .u8 0, .int .u8 0] 29)).alloc (.cells #[.int .i64 0, .int .i64 0] 32)).setRow c22.heap.size V20).setRow (c22.heap.size + 1) #[.int .i64 0, .int .i64 0])) := below_row (below_row (((Below.refl _ _).alloc (Nat.le_refl _) _).alloc (by simp) _) (Nat.le_refl _) _) (by omega) _
      have KB14 : Hid (Below w.heap.size w ((((c22.alloc (.cells #[.int .i64 0, .slice none 0 0, .string ⟨#[]⟩, .int .i64 0, .string ⟨#[]⟩, .int .u8 0, .int .u8 0, .int .u8 0, .int .u8 0, .int .u8 0, .int .u8 0, .int .u8 0, .int .u8 0, .int .u8 0, .int .u8 0, .int .u8 0, .int .u8 0, .int .u8 0, .int .u8 0, .int .u8 0, .int .u8 0] 29)).alloc (.cells #[.int .i64 0, .int .i64 0] 32)).setRow c22.heap.size V20).setRow (c22.heap.size + 1) #[.int .i64 0, .int .i64 0])) := KB13.out.trans ((BB.out).mono KB13.out.size)
      have M1n : Hid (Lies ((((c22.alloc (.cells #[.int .i64 0, .slice none 0 0, .string ⟨#[]⟩, .int .i64 0, .string ⟨#[]⟩, .int .u8 0, .int .u8 0, .int .u8 0, .int .u8 0, .int .u8 0, .int .u8 0, .int .u8 0, .int .u8 0, .int .u8 0, .int .u8 0, .int .u8 0, .int .u8 0, .int .u8 0, .int .u8 0, .int .u8 0, .int .u8 0] 29)).alloc (.cells #[.int .i64 0, .int .i64 0] 32)).setRow c22.heap.size V20).setRow (c22.heap.size + 1) #[.int .i64 0, .int .i64 0]) (y1.heap.size) V1 29) := M1.out.below (BB.out) M1.out.lt
      clear M1
      have M1 := M1n
      clear M1n
      have N1n : Hid (Lies ((((c22.alloc (.cells #[.int .i64 0, .slice none 0 0, .string ⟨#[]⟩, .int .i64 0, .string ⟨#[]⟩, .int .u8 0, .int .u8 0, .int .u8 0, .int .u8 0, .int .u8 0, .int .u8 0, .int .u8 0, .int .u8 0, .int .u8 0, .int .u8 0, .int .u8 0, .int .u8 0, .int .u8 0, .int .u8 0, .int .u8 0, .int .u8 0] 29)).alloc (.cells #[.int .i64 0, .int .i64 0] 32)).setRow c22.heap.size V20).setRow (c22.heap.size + 1) #[.int .i64 0, .int .i64 0]) (y1.heap.size + 1) #[.int .i64 (er : Int), .int .i64 (at' : Int)] 32) := N1.out.below (BB.out) N1.out.lt
      clear N1
      have N1 := N1n
      clear N1n
      have M2n : Hid (Lies ((((c22.alloc (.cells #[.int .i64 0, .slice none 0 0, .string ⟨#[]⟩, .int .i64 0, .string ⟨#[]⟩, .int .u8 0, .int .u8 0, .int .u8 0, .int .u8 0, .int .u8 0, .int .u8 0, .int .u8 0, .int .u8 0, .int .u8 0, .int .u8 0, .int .u8 0, .int .u8 0, .int .u8 0, .int .u8 0, .int .u8 0, .int .u8 0] 29)).alloc (.cells #[.int .i64 0, .int .i64 0] 32)).setRow c22.heap.size V20).setRow (c22.heap.size + 1) #[.int .i64 0, .int .i64 0]) (y2.heap.size) V2 29) := M2.out.below (BB.out) M2.out.lt
      clear M2
      have M2 := M2n
      clear M2n
      have N2n : Hid (Lies ((((c22.alloc (.cells #[.int .i64 0, .slice none 0 0, .string ⟨#[]⟩, .int .i64 0, .string ⟨#[]⟩, .int .u8 0, .int .u8 0, .int .u8 0, .int .u8 0, .int .u8 0, .int .u8 0, .int .u8 0, .int .u8 0, .int .u8 0, .int .u8 0, .int .u8 0, .int .u8 0, .int .u8 0, .int .u8 0, .int .u8 0, .int .u8 0] 29)).alloc (.cells #[.int .i64 0, .int .i64 0] 32)).setRow c22.heap.size V20).setRow (c22.heap.size + 1) #[.int .i64 0, .int .i64 0]) (y2.heap.size + 1) #[.int .i64 (fr : Int), .int .i64 (fat : Int)] 32) := N2.out.below (BB.out) N2.out.lt
      clear N2
      have N2 := N2n
      clear N2n
      have M10n : Hid (Lies ((((c22.alloc (.cells #[.int .i64 0, .slice none 0 0, .string ⟨#[]⟩, .int .i64 0, .string ⟨#[]⟩, .int .u8 0, .int .u8 0, .int .u8 0, .int .u8 0, .int .u8 0, .int .u8 0, .int .u8 0, .int .u8 0, .int .u8 0, .int .u8 0, .int .u8 0, .int .u8 0, .int .u8 0, .int .u8 0, .int .u8 0, .int .u8 0] 29)).alloc (.cells #[.int .i64 0, .int .i64 0] 32)).setRow c22.heap.size V20).setRow (c22.heap.size + 1) #[.int .i64 0, .int .i64 0]) (c12.heap.size) V10 29) := M10.out.below (BB.out) M10.out.lt
      clear M10
      have M10 := M10n
      clear M10n
      have N10n : Hid (Lies ((((c22.alloc (.cells #[.int .i64 0, .slice none 0 0, .string ⟨#[]⟩, .int .i64 0, .string ⟨#[]⟩, .int .u8 0, .int .u8 0, .int .u8 0, .int .u8 0, .int .u8 0, .int .u8 0, .int .u8 0, .int .u8 0, .int .u8 0, .int .u8 0, .int .u8 0, .int .u8 0, .int .u8 0, .int .u8 0, .int .u8 0, .int .u8 0] 29)).alloc (.cells #[.int .i64 0, .int .i64 0] 32)).setRow c22.heap.size V20).setRow (c22.heap.size + 1) #[.int .i64 0, .int .i64 0]) (c12.heap.size + 1) #[.int .i64 0, .int .i64 0] 32) := N10.out.below (BB.out) N10.out.lt
      clear N10
      have N10 := N10n
      clear N10n
      have P1n : Hid (PA p V1 ((((c22.alloc (.cells #[.int .i64 0, .slice none 0 0, .string ⟨#[]⟩, .int .i64 0, .string ⟨#[]⟩, .int .u8 0, .int .u8 0, .int .u8 0, .int .u8 0, .int .u8 0, .int .u8 0, .int .u8 0, .int .u8 0, .int .u8 0, .int .u8 0, .int .u8 0, .int .u8 0, .int .u8 0, .int .u8 0, .int .u8 0, .int .u8 0] 29)).alloc (.cells #[.int .i64 0, .int .i64 0] 32)).setRow c22.heap.size V20).setRow (c22.heap.size + 1) #[.int .i64 0, .int .i64 0])) := P1.out.below (BB.out)
      clear P1
      have P1 := P1n
      clear P1n
      have P2n : Hid (PA q V2 ((((c22.alloc (.cells #[.int .i64 0, .slice none 0 0, .string ⟨#[]⟩, .int .i64 0, .string ⟨#[]⟩, .int .u8 0, .int .u8 0, .int .u8 0, .int .u8 0, .int .u8 0, .int .u8 0, .int .u8 0, .int .u8 0, .int .u8 0, .int .u8 0, .int .u8 0, .int .u8 0, .int .u8 0, .int .u8 0, .int .u8 0, .int .u8 0] 29)).alloc (.cells #[.int .i64 0, .int .i64 0] 32)).setRow c22.heap.size V20).setRow (c22.heap.size + 1) #[.int .i64 0, .int .i64 0])) := P2.out.below (BB.out)
      clear P2
      have P2 := P2n
      clear P2n
      have P10n : Hid (PA p V10 ((((c22.alloc (.cells #[.int .i64 0, .slice none 0 0, .string ⟨#[]⟩, .int .i64 0, .string ⟨#[]⟩, .int .u8 0, .int .u8 0, .int .u8 0, .int .u8 0, .int .u8 0, .int .u8 0, .int .u8 0, .int .u8 0, .int .u8 0, .int .u8 0, .int .u8 0, .int .u8 0, .int .u8 0, .int .u8 0, .int .u8 0, .int .u8 0] 29)).alloc (.cells #[.int .i64 0, .int .i64 0] 32)).setRow c22.heap.size V20).setRow (c22.heap.size + 1) #[.int .i64 0, .int .i64 0])) := P10.out.below (BB.out)
      clear P10
      have P10 := P10n
      clear P10n
      have P20n : Hid (PA q V20 ((((c22.alloc (.cells #[.int .i64 0, .slice none 0 0, .string ⟨#[]⟩, .int .i64 0, .string ⟨#[]⟩, .int .u8 0, .int .u8 0, .int .u8 0, .int .u8 0, .int .u8 0, .int .u8 0, .int .u8 0, .int .u8 0, .int .u8 0, .int .u8 0, .int .u8 0, .int .u8 0, .int .u8 0, .int .u8 0, .int .u8 0, .int .u8 0] 29)).alloc (.cells #[.int .i64 0, .int .i64 0] 32)).setRow c22.heap.size V20).setRow (c22.heap.size + 1) #[.int .i64 0, .int .i64 0])) := P20.out.below (BB.out)
      clear P20
      have P20 := P20n
      clear P20n
      clear KB13
      go_upto_region 13 with (first | (refine wpList_store_row rfl 29 _ _ rfl c22.heap.size rfl #[.int .i64 0, .slice none 0 0, .string ⟨#[]⟩, .int .i64 0, .string ⟨#[]⟩, .int .u8 0, .int .u8 0, .int .u8 0, .int .u8 0, .int .u8 0, .int .u8 0, .int .u8 0, .int .u8 0, .int .u8 0, .int .u8 0, .int .u8 0, .int .u8 0, .int .u8 0, .int .u8 0, .int .u8 0, .int .u8 0] V20 rfl 29 A.out (by rw [z20.out]; exact infoPt) (by rw [z20.out]; rfl) o20.out rfl ?_) | (refine wpList_store_row rfl 32 _ _ rfl (c22.heap.size + 1) rfl #[.int .i64 0, .int .i64 0] #[.int .i64 0, .int .i64 0] rfl 32 (B.out.row_other (by omega) _) infoSp rfl (by simp [Value.oneCell']) rfl ?_))
      generalize hv20 : (((c22.alloc (.cells #[.int .i64 0, .slice none 0 0, .string ⟨#[]⟩, .int .i64 0, .string ⟨#[]⟩, .int .u8 0, .int .u8 0, .int .u8 0, .int .u8 0, .int .u8 0, .int .u8 0, .int .u8 0, .int .u8 0, .int .u8 0, .int .u8 0, .int .u8 0, .int .u8 0, .int .u8 0, .int .u8 0, .int .u8 0, .int .u8 0] 29)).alloc (.cells #[.int .i64 0, .int .i64 0] 32)).setRow c22.heap.size V20).setRow (c22.heap.size + 1) #[.int .i64 0, .int .i64 0] = v20 at M20 N20 KB14 M1 N1 M2 N2 M10 N10 P1 P2 P10 P20 ⊢
      clear hv20 A B BB
      refine wp_region_lit ?_
      refine wpList_load_row9 (by rfl) 29 _ rfl (y2.heap.size) rfl V2 29 _ M2.out Tryz.underlying29 rfl (by rw [z2.out]; exact infoPt) ?_
      simp only [Act.put, List.setIfInBounds_toArray, List.set_cons_zero, List.set_cons_succ]
      refine wpList_yieldG (.bool wide) (by rfl) ?hy ?_
      case hy => (go_simp <;> (first | with_reducible rfl | omega | skip))
      simp only [Act.put, List.setIfInBounds_toArray, List.set_cons_zero, List.set_cons_succ]
      refine wpList_onG (by rfl) ?_
      go_simp
      refine Calls.mono (HX.ck _ _ KB14.out P2.out) ?_
      rintro e c23 ⟨rfl, hc⟩
      have KB15 : Hid (Below w.heap.size w c23) := KB14.out.trans ((hc).mono KB14.out.size)
      have M1n : Hid (Lies c23 (y1.heap.size) V1 29) := M1.out.below (hc) M1.out.lt
      clear M1
      have M1 := M1n
      clear M1n
      have N1n : Hid (Lies c23 (y1.heap.size + 1) #[.int .i64 (er : Int), .int .i64 (at' : Int)] 32) := N1.out.below (hc) N1.out.lt
      clear N1
      have N1 := N1n
      clear N1n
      have M2n : Hid (Lies c23 (y2.heap.size) V2 29) := M2.out.below (hc) M2.out.lt
      clear M2
      have M2 := M2n
      clear M2n
      have N2n : Hid (Lies c23 (y2.heap.size + 1) #[.int .i64 (fr : Int), .int .i64 (fat : Int)] 32) := N2.out.below (hc) N2.out.lt
      clear N2
      have N2 := N2n
      clear N2n
      have M10n : Hid (Lies c23 (c12.heap.size) V10 29) := M10.out.below (hc) M10.out.lt
      clear M10
      have M10 := M10n
      clear M10n
      have N10n : Hid (Lies c23 (c12.heap.size + 1) #[.int .i64 0, .int .i64 0] 32) := N10.out.below (hc) N10.out.lt
      clear N10
      have N10 := N10n
      clear N10n
      have M20n : Hid (Lies c23 (c22.heap.size) V20 29) := M20.out.below (hc) M20.out.lt
      clear M20
      have M20 := M20n
      clear M20n
      have N20n : Hid (Lies c23 (c22.heap.size + 1) #[.int .i64 0, .int .i64 0] 32) := N20.out.below (hc) N20.out.lt
      clear N20
      have N20 := N20n
      clear N20n
      have P1n : Hid (PA p V1 c23) := P1.out.below (hc)
      clear P1
      have P1 := P1n
      clear P1n
      have P2n : Hid (PA q V2 c23) := P2.out.below (hc)
      clear P2
      have P2 := P2n
      clear P2n
      have P10n : Hid (PA p V10 c23) := P10.out.below (hc)
      clear P10
      have P10 := P10n
      clear P10n
      have P20n : Hid (PA q V20 c23) := P20.out.below (hc)
      clear P20
      have P20 := P20n
      clear P20n
      clear KB14
      clear hc
      refine wpList_yieldG (.bool false) (by rfl) ?hy ?_
      case hy => (go_simp <;> (first | with_reducible rfl | omega | skip))
      simp only [Act.put, List.setIfInBounds_toArray, List.set_cons_zero, List.set_cons_succ]
      refine wpList_yieldG (.bool false) (by rfl) ?hy ?_
      case hy => (go_simp <;> (first | with_reducible rfl | omega | skip))
      simp only [Act.put, List.setIfInBounds_toArray, List.set_cons_zero, List.set_cons_succ]
      refine wpList_yieldG (.int .i64 0) (by rfl) ?hy ?_
      case hy => (go_simp <;> (first | with_reducible rfl | omega | skip))
      simp only [Act.put, List.setIfInBounds_toArray, List.set_cons_zero, List.set_cons_succ]
      refine wpList_yieldG (.bool false) (by rfl) ?hy ?_
      case hy => (go_simp <;> (first | with_reducible rfl | omega | skip))
      simp only [Act.put, List.setIfInBounds_toArray, List.set_cons_zero, List.set_cons_succ]
      refine wpList_yieldG (.bool false) (by rfl) ?hy ?_
      case hy => (go_simp <;> (first | with_reducible rfl | omega | skip))
      simp only [Act.put, List.setIfInBounds_toArray, List.set_cons_zero, List.set_cons_succ]
      refine wpList_yieldG (.bool false) (by rfl) ?hy ?_
      case hy => (go_simp <;> (first | with_reducible rfl | omega | skip))
      simp only [Act.put, List.setIfInBounds_toArray, List.set_cons_zero, List.set_cons_succ]
      refine wpList_yieldG (.string U) (by rfl) ?hy ?_
      case hy => (go_simp <;> (first | with_reducible rfl | omega | skip))
      simp only [Act.put, List.setIfInBounds_toArray, List.set_cons_zero, List.set_cons_succ]
      refine wpList_yieldG (.int .i64 (U.size : Int)) (by rfl) ?hy ?_
      case hy => (go_simp <;> (first | with_reducible rfl | omega | skip))
      simp only [Act.put, List.setIfInBounds_toArray, List.set_cons_zero, List.set_cons_succ]
      refine wpList_yieldG (.int .i64 (m : Int)) (by rfl) ?hy ?_
      case hy => (go_simp <;> (first | with_reducible rfl | omega | skip))
      simp only [Act.put, List.setIfInBounds_toArray, List.set_cons_zero, List.set_cons_succ]
      refine wpList_load_row9 (by rfl) 29 _ rfl (y2.heap.size) rfl V2 29 _ M2.out Tryz.underlying29 rfl (by rw [z2.out]; exact infoPt) ?_
      simp only [Act.put, List.setIfInBounds_toArray, List.set_cons_zero, List.set_cons_succ]
      refine wpList_onG (by rfl) ?_
      go_simp
      refine Calls.mono (HX.lg _ _ P2.out) ?_
      rintro e c24 ⟨rfl, hc⟩
      have KB16 : Hid (Below w.heap.size w c24) := KB15.out.trans ((hc).mono KB15.out.size)
      have M1n : Hid (Lies c24 (y1.heap.size) V1 29) := M1.out.below (hc) M1.out.lt
      clear M1
      have M1 := M1n
      clear M1n
      have N1n : Hid (Lies c24 (y1.heap.size + 1) #[.int .i64 (er : Int), .int .i64 (at' : Int)] 32) := N1.out.below (hc) N1.out.lt
      clear N1
      have N1 := N1n
      clear N1n
      have M2n : Hid (Lies c24 (y2.heap.size) V2 29) := M2.out.below (hc) M2.out.lt
      clear M2
      have M2 := M2n
      clear M2n
      have N2n : Hid (Lies c24 (y2.heap.size + 1) #[.int .i64 (fr : Int), .int .i64 (fat : Int)] 32) := N2.out.below (hc) N2.out.lt
      clear N2
      have N2 := N2n
      clear N2n
      have M10n : Hid (Lies c24 (c12.heap.size) V10 29) := M10.out.below (hc) M10.out.lt
      clear M10
      have M10 := M10n
      clear M10n
      have N10n : Hid (Lies c24 (c12.heap.size + 1) #[.int .i64 0, .int .i64 0] 32) := N10.out.below (hc) N10.out.lt
      clear N10
      have N10 := N10n
      clear N10n
      have M20n : Hid (Lies c24 (c22.heap.size) V20 29) := M20.out.below (hc) M20.out.lt
      clear M20
      have M20 := M20n
      clear M20n
      have N20n : Hid (Lies c24 (c22.heap.size + 1) #[.int .i64 0, .int .i64 0] 32) := N20.out.below (hc) N20.out.lt
      clear N20
      have N20 := N20n
      clear N20n
      have P1n : Hid (PA p V1 c24) := P1.out.below (hc)
      clear P1
      have P1 := P1n
      clear P1n
      have P2n : Hid (PA q V2 c24) := P2.out.below (hc)
      clear P2
      have P2 := P2n
      clear P2n
      have P10n : Hid (PA p V10 c24) := P10.out.below (hc)
      clear P10
      have P10 := P10n
      clear P10n
      have P20n : Hid (PA q V20 c24) := P20.out.below (hc)
      clear P20
      have P20 := P20n
      clear P20n
      clear KB15
      clear hc
      refine wpList_yieldG (.int .i64 ((m : Int) + (lgN q.h : Int))) (by rfl) ?hy ?_
      case hy => (go_simp; exact wrap_add _ _ (by omega) (by omega) (by omega))
      simp only [Act.put, List.setIfInBounds_toArray, List.set_cons_zero, List.set_cons_succ]
      refine wpList_yieldG (.bool false) (by rfl) ?hy ?_
      case hy => (go_simp <;> (first | with_reducible rfl | omega | skip))
      simp only [Act.put, List.setIfInBounds_toArray, List.set_cons_zero, List.set_cons_succ]
      refine wpList_yieldG (.bool false) (by rfl) ?hy ?_
      case hy => (go_simp <;> (first | with_reducible rfl | omega | skip))
      simp only [Act.put, List.setIfInBounds_toArray, List.set_cons_zero, List.set_cons_succ]
      refine wpList_yieldG (.bool false) (by rfl) ?hy ?_
      case hy => (go_simp <;> (first | with_reducible rfl | omega | skip))
      simp only [Act.put, List.setIfInBounds_toArray, List.set_cons_zero, List.set_cons_succ]
      refine wpList_load_row9 (by rfl) 29 _ rfl (c22.heap.size) rfl V20 29 _ M20.out Tryz.underlying29 rfl (by rw [z20.out]; exact infoPt) ?_
      simp only [Act.put, List.setIfInBounds_toArray, List.set_cons_zero, List.set_cons_succ]
      refine wpList_load_row9 (by rfl) 29 _ rfl (y2.heap.size) rfl V2 29 _ M2.out Tryz.underlying29 rfl (by rw [z2.out]; exact infoPt) ?_
      simp only [Act.put, List.setIfInBounds_toArray, List.set_cons_zero, List.set_cons_succ]
      refine wpList_onG (by rfl) ?_
      go_simp
      refine Calls.mono (HX.sm _ _ _ P20.out P2.out) ?_
      rintro e c25 ⟨rfl, hc⟩
      have KB17 : Hid (Below w.heap.size w c25) := KB16.out.trans ((hc).mono KB16.out.size)
      have M1n : Hid (Lies c25 (y1.heap.size) V1 29) := M1.out.below (hc) M1.out.lt
      clear M1
      have M1 := M1n
      clear M1n
      have N1n : Hid (Lies c25 (y1.heap.size + 1) #[.int .i64 (er : Int), .int .i64 (at' : Int)] 32) := N1.out.below (hc) N1.out.lt
      clear N1
      have N1 := N1n
      clear N1n
      have M2n : Hid (Lies c25 (y2.heap.size) V2 29) := M2.out.below (hc) M2.out.lt
      clear M2
      have M2 := M2n
      clear M2n
      have N2n : Hid (Lies c25 (y2.heap.size + 1) #[.int .i64 (fr : Int), .int .i64 (fat : Int)] 32) := N2.out.below (hc) N2.out.lt
      clear N2
      have N2 := N2n
      clear N2n
      have M10n : Hid (Lies c25 (c12.heap.size) V10 29) := M10.out.below (hc) M10.out.lt
      clear M10
      have M10 := M10n
      clear M10n
      have N10n : Hid (Lies c25 (c12.heap.size + 1) #[.int .i64 0, .int .i64 0] 32) := N10.out.below (hc) N10.out.lt
      clear N10
      have N10 := N10n
      clear N10n
      have M20n : Hid (Lies c25 (c22.heap.size) V20 29) := M20.out.below (hc) M20.out.lt
      clear M20
      have M20 := M20n
      clear M20n
      have N20n : Hid (Lies c25 (c22.heap.size + 1) #[.int .i64 0, .int .i64 0] 32) := N20.out.below (hc) N20.out.lt
      clear N20
      have N20 := N20n
      clear N20n
      have P1n : Hid (PA p V1 c25) := P1.out.below (hc)
      clear P1
      have P1 := P1n
      clear P1n
      have P2n : Hid (PA q V2 c25) := P2.out.below (hc)
      clear P2
      have P2 := P2n
      clear P2n
      have P10n : Hid (PA p V10 c25) := P10.out.below (hc)
      clear P10
      have P10 := P10n
      clear P10n
      have P20n : Hid (PA q V20 c25) := P20.out.below (hc)
      clear P20
      have P20 := P20n
      clear P20n
      clear KB16
      clear hc
      refine wpList_yieldG (.bool false) (by rfl) ?hy ?_
      case hy => (go_simp <;> (first | with_reducible rfl | omega | skip))
      simp only [Act.put, List.setIfInBounds_toArray, List.set_cons_zero, List.set_cons_succ]
      refine wpList_yieldG (.bool false) (by rfl) ?hy ?_
      case hy => (go_simp <;> (first | with_reducible rfl | omega | skip))
      simp only [Act.put, List.setIfInBounds_toArray, List.set_cons_zero, List.set_cons_succ]
      refine wpList_yieldG (.bool false) (by rfl) ?hy ?_
      case hy => (go_simp <;> (first | with_reducible rfl | omega | skip))
      simp only [Act.put, List.setIfInBounds_toArray, List.set_cons_zero, List.set_cons_succ]
      refine wpList_yieldG (.int .i64 (U.size : Int)) (by rfl) ?hy ?_
      case hy => (go_simp <;> (first | with_reducible rfl | omega | skip))
      simp only [Act.put, List.setIfInBounds_toArray, List.set_cons_zero, List.set_cons_succ]
      refine wpList_yieldG (.string U) (by rfl) ?hy ?_
      case hy => (go_simp <;> (first | with_reducible rfl | omega | skip))
      simp only [Act.put, List.setIfInBounds_toArray, List.set_cons_zero, List.set_cons_succ]
      refine wpList_yieldG (.int .i64 (U.size : Int)) (by rfl) ?hy ?_
      case hy => (go_simp <;> (first | with_reducible rfl | omega | skip))
      simp only [Act.put, List.setIfInBounds_toArray, List.set_cons_zero, List.set_cons_succ]
      refine wpList_yieldG (.bool false) (by rfl) ?hy ?_
      case hy => (go_simp <;> (first | with_reducible rfl | omega | skip))
      simp only [Act.put, List.setIfInBounds_toArray, List.set_cons_zero, List.set_cons_succ]
      refine wpList_yieldG (.bool false) (by rfl) ?hy ?_
      case hy => (go_simp <;> (first | with_reducible rfl | omega | skip))
      simp only [Act.put, List.setIfInBounds_toArray, List.set_cons_zero, List.set_cons_succ]
      refine wpList_yieldG (.bool false) (by rfl) ?hy ?_
      case hy => (go_simp <;> (first | with_reducible rfl | omega | skip))
      simp only [Act.put, List.setIfInBounds_toArray, List.set_cons_zero, List.set_cons_succ]
      refine wpList_load_row9 (by rfl) 32 _ rfl (c22.heap.size + 1) rfl #[.int .i64 0, .int .i64 0] 32 _ N20.out Tryz.underlying32 rfl infoSp ?_
      simp only [Act.put, List.setIfInBounds_toArray, List.set_cons_zero, List.set_cons_succ]
      refine wpList_yieldG (.agg #[.int .i64 0, .int .i64 0]) (by rfl) ?hy ?_
      case hy => (go_simp <;> (first | with_reducible rfl | omega | skip))
      simp only [Act.put, List.setIfInBounds_toArray, List.set_cons_zero, List.set_cons_succ]
      refine wpList_yieldG (.bool false) (by rfl) ?hy ?_
      case hy => (go_simp <;> (first | with_reducible rfl | omega | skip))
      simp only [Act.put, List.setIfInBounds_toArray, List.set_cons_zero, List.set_cons_succ]
      refine wpList_yieldG (.bool false) (by rfl) ?hy ?_
      case hy => (go_simp <;> (first | with_reducible rfl | omega | skip))
      simp only [Act.put, List.setIfInBounds_toArray, List.set_cons_zero, List.set_cons_succ]
      refine wpList_nil ?_
      go_wp2_with (first | (refine wpList_load_row9 (by rfl) 29 _ rfl (y1.heap.size) rfl V1 29 _ M1.out Tryz.underlying29 rfl (by rw [z1.out]; exact infoPt) ?_) | (refine wpList_load_row9 (by rfl) 32 _ rfl (y1.heap.size + 1) rfl #[.int .i64 (er : Int), .int .i64 (at' : Int)] 32 _ N1.out Tryz.underlying32 rfl infoSp ?_) | (refine wpList_load_row9 (by rfl) 29 _ rfl (y2.heap.size) rfl V2 29 _ M2.out Tryz.underlying29 rfl (by rw [z2.out]; exact infoPt) ?_) | (refine wpList_load_row9 (by rfl) 32 _ rfl (y2.heap.size + 1) rfl #[.int .i64 (fr : Int), .int .i64 (fat : Int)] 32 _ N2.out Tryz.underlying32 rfl infoSp ?_) | (refine wpList_load_row9 (by rfl) 29 _ rfl (c12.heap.size) rfl V10 29 _ M10.out Tryz.underlying29 rfl (by rw [z10.out]; exact infoPt) ?_) | (refine wpList_load_row9 (by rfl) 32 _ rfl (c12.heap.size + 1) rfl #[.int .i64 0, .int .i64 0] 32 _ N10.out Tryz.underlying32 rfl infoSp ?_) | (refine wpList_load_row9 (by rfl) 29 _ rfl (c22.heap.size) rfl V20 29 _ M20.out Tryz.underlying29 rfl (by rw [z20.out]; exact infoPt) ?_) | (refine wpList_load_row9 (by rfl) 32 _ rfl (c22.heap.size + 1) rfl #[.int .i64 0, .int .i64 0] 32 _ N20.out Tryz.underlying32 rfl infoSp ?_))
      go_ret
      exact ⟨rfl, KB17.out⟩
    · have hfr' : ((fr : Int) == 0) = false := by rw [beq_eq_false_iff_ne]; omega
      clear HQ
      have f2 : c15.cell? ⟨y2.heap.size + 1, 0, none⟩ = some (.int .i64 (fr : Int)) := N2.out.cell 0
      go_wp2_with (first | (refine wpList_load_row9 (by rfl) 29 _ rfl (y1.heap.size) rfl V1 29 _ M1.out Tryz.underlying29 rfl (by rw [z1.out]; exact infoPt) ?_) | (refine wpList_load_row9 (by rfl) 32 _ rfl (y1.heap.size + 1) rfl #[.int .i64 (er : Int), .int .i64 (at' : Int)] 32 _ N1.out Tryz.underlying32 rfl infoSp ?_) | (refine wpList_load_row9 (by rfl) 29 _ rfl (y2.heap.size) rfl V2 29 _ M2.out Tryz.underlying29 rfl (by rw [z2.out]; exact infoPt) ?_) | (refine wpList_load_row9 (by rfl) 32 _ rfl (y2.heap.size + 1) rfl #[.int .i64 (fr : Int), .int .i64 (fat : Int)] 32 _ N2.out Tryz.underlying32 rfl infoSp ?_) | (refine wpList_load_row9 (by rfl) 29 _ rfl (c12.heap.size) rfl V10 29 _ M10.out Tryz.underlying29 rfl (by rw [z10.out]; exact infoPt) ?_) | (refine wpList_load_row9 (by rfl) 32 _ rfl (c12.heap.size + 1) rfl #[.int .i64 0, .int .i64 0] 32 _ N10.out Tryz.underlying32 rfl infoSp ?_))
      go_ret
      exact ⟨rfl, KB11.out⟩
  · have her' : ((er : Int) == 0) = false := by rw [beq_eq_false_iff_ne]; omega
    clear HP
    have f1 : v2.cell? ⟨y1.heap.size + 1, 0, none⟩ = some (.int .i64 (er : Int)) := N1.out.cell 0
    go_upto_region 10 with (first | (refine wpList_load_row9 (by rfl) 29 _ rfl (y1.heap.size) rfl V1 29 _ M1.out Tryz.underlying29 rfl (by rw [z1.out]; exact infoPt) ?_) | (refine wpList_load_row9 (by rfl) 32 _ rfl (y1.heap.size + 1) rfl #[.int .i64 (er : Int), .int .i64 (at' : Int)] 32 _ N1.out Tryz.underlying32 rfl infoSp ?_) | (refine wpList_load_row9 (by rfl) 29 _ rfl (y2.heap.size) rfl V2 29 _ M2.out Tryz.underlying29 rfl (by rw [z2.out]; exact infoPt) ?_) | (refine wpList_load_row9 (by rfl) 32 _ rfl (y2.heap.size + 1) rfl #[.int .i64 (fr : Int), .int .i64 (fat : Int)] 32 _ N2.out Tryz.underlying32 rfl infoSp ?_))
    clear f1 her her'
    by_cases hfr : fr = 0
    · have HX := HQ.out hfr
      have l1 := HX.le
      have l2 := HX.s1
      have l3 := HX.s2
      clear HQ
      have hfr' : ((fr : Int) == 0) = true := by rw [hfr]; rfl
      have f2 : v2.cell? ⟨y2.heap.size + 1, 0, none⟩ = some (.int .i64 (fr : Int)) := N2.out.cell 0
      have lq : ¬ ((m : Int) + (lgN q.h : Int) < (U.size : Int)) := by omega
      have lq2 : ¬ (m + lgN q.h < U.size) := by omega
      go_wp2_with (first | (refine wpList_load_row9 (by rfl) 29 _ rfl (y1.heap.size) rfl V1 29 _ M1.out Tryz.underlying29 rfl (by rw [z1.out]; exact infoPt) ?_) | (refine wpList_load_row9 (by rfl) 32 _ rfl (y1.heap.size + 1) rfl #[.int .i64 (er : Int), .int .i64 (at' : Int)] 32 _ N1.out Tryz.underlying32 rfl infoSp ?_) | (refine wpList_load_row9 (by rfl) 29 _ rfl (y2.heap.size) rfl V2 29 _ M2.out Tryz.underlying29 rfl (by rw [z2.out]; exact infoPt) ?_) | (refine wpList_load_row9 (by rfl) 32 _ rfl (y2.heap.size + 1) rfl #[.int .i64 (fr : Int), .int .i64 (fat : Int)] 32 _ N2.out Tryz.underlying32 rfl infoSp ?_))
      refine Calls.mono (HX.pr _ _ KB5.out P2.out) ?_
      rintro e c21 ⟨rfl, hc⟩
      have KB6 : Hid (Below w.heap.size w c21) := KB5.out.trans ((hc).mono KB5.out.size)
      have M1n : Hid (Lies c21 (y1.heap.size) V1 29) := M1.out.below (hc) M1.out.lt
      clear M1
      have M1 := M1n
      clear M1n
      have N1n : Hid (Lies c21 (y1.heap.size + 1) #[.int .i64 (er : Int), .int .i64 (at' : Int)] 32) := N1.out.below (hc) N1.out.lt
      clear N1
      have N1 := N1n
      clear N1n
      have M2n : Hid (Lies c21 (y2.heap.size) V2 29) := M2.out.below (hc) M2.out.lt
      clear M2
      have M2 := M2n
      clear M2n
      have N2n : Hid (Lies c21 (y2.heap.size + 1) #[.int .i64 (fr : Int), .int .i64 (fat : Int)] 32) := N2.out.below (hc) N2.out.lt
      clear N2
      have N2 := N2n
      clear N2n
      have P1n : Hid (PA p V1 c21) := P1.out.below (hc)
      clear P1
      have P1 := P1n
      clear P1n
      have P2n : Hid (PA q V2 c21) := P2.out.below (hc)
      clear P2
      have P2 := P2n
      clear P2n
      clear KB5
      clear hc
      go_wp2_with (first | (refine wpList_load_row9 (by rfl) 29 _ rfl (y1.heap.size) rfl V1 29 _ M1.out Tryz.underlying29 rfl (by rw [z1.out]; exact infoPt) ?_) | (refine wpList_load_row9 (by rfl) 32 _ rfl (y1.heap.size + 1) rfl #[.int .i64 (er : Int), .int .i64 (at' : Int)] 32 _ N1.out Tryz.underlying32 rfl infoSp ?_) | (refine wpList_load_row9 (by rfl) 29 _ rfl (y2.heap.size) rfl V2 29 _ M2.out Tryz.underlying29 rfl (by rw [z2.out]; exact infoPt) ?_) | (refine wpList_load_row9 (by rfl) 32 _ rfl (y2.heap.size + 1) rfl #[.int .i64 (fr : Int), .int .i64 (fat : Int)] 32 _ N2.out Tryz.underlying32 rfl infoSp ?_))
      refine Calls.mono (HX.rd _ KB6.out) ?_
      rintro e c22 ⟨V20, rfl, hA, hc⟩
      have KB7 : Hid (Below w.heap.size w c22) := KB6.out.trans ((hc).mono KB6.out.size)
      have M1n : Hid (Lies c22 (y1.heap.size) V1 29) := M1.out.below (hc) M1.out.lt
      clear M1
      have M1 := M1n
      clear M1n
      have N1n : Hid (Lies c22 (y1.heap.size + 1) #[.int .i64 (er : Int), .int .i64 (at' : Int)] 32) := N1.out.below (hc) N1.out.lt
      clear N1
      have N1 := N1n
      clear N1n
      have M2n : Hid (Lies c22 (y2.heap.size) V2 29) := M2.out.below (hc) M2.out.lt
      clear M2
      have M2 := M2n
      clear M2n
      have N2n : Hid (Lies c22 (y2.heap.size + 1) #[.int .i64 (fr : Int), .int .i64 (fat : Int)] 32) := N2.out.below (hc) N2.out.lt
      clear N2
      have N2 := N2n
      clear N2n
      have P1n : Hid (PA p V1 c22) := P1.out.below (hc)
      clear P1
      have P1 := P1n
      clear P1n
      have P2n : Hid (PA q V2 c22) := P2.out.below (hc)
      clear P2
      have P2 := P2n
      clear P2n
      clear KB6
      have P20 : Hid (PA q V20 c22) := hA
      have z20 : Hid (V20.size = 21) := hA.size hq.ok.2.len
      have o20 : Hid (V20.all (·.oneCell') = true) := hA.one
      clear hA hc
      have A : Hid (Lies ((c22.alloc (.cells #[.int .i64 0, .slice none 0 0, .string ⟨#[]⟩, .int .i64 0, .string ⟨#[]⟩, .int .u8 0, .int .u8 0, .int .u8 0, .int .u8 0, .int .u8 0, .int .u8 0, .int .u8 0, .int .u8 0, .int .u8 0, .int .u8 0, .int .u8 0, .int .u8 0, .int .u8 0, .int .u8 0, .int .u8 0, .int .u8 0] 29)).alloc (.cells #[.int .i64 0, .int .i64 0] 32)) c22.heap.size #[.int .i64 0, .slice none 0 0, .string ⟨#[]⟩, .int .i64 0, .string ⟨#[]⟩, .int .u8 0, .int .u8 0, .int .u8 0, .int .u8 0, .int .u8 0, .int .u8 0, .int .u8 0, .int .u8 0, .int .u8 0, .int .u8 0, .int .u8 0, .int .u8 0, .int .u8 0, .int .u8 0, .int .u8 0, .int .u8 0] 29) := (Lies.new c22 _ _).alloc _
      have B : Hid (Lies ((c22.alloc (.cells #[.int .i64 0, .slice none 0 0, .string ⟨#[]⟩, .int .i64 0, .string ⟨#[]⟩, .int .u8 0, .int .u8 0, .int .u8 0, .int .u8 0, .int .u8 0, .int .u8 0, .int .u8 0, .int .u8 0, .int .u8 0, .int .u8 0, .int .u8 0, .int .u8 0, .int .u8 0, .int .u8 0, .int .u8 0, .int .u8 0] 29)).alloc (.cells #[.int .i64 0, .int .i64 0] 32)) (c22.heap.size + 1) #[.int .i64 0, .int .i64 0] 32) := new_one c22 _ _ _
      have M20 : Hid (Lies ((((c22.alloc (.cells #[.int .i64 0, .slice none 0 0, .string ⟨#[]⟩, .int .i64 0, .string ⟨#[]⟩, .int .u8 0, .int .u8 0, .int .u8 0, .int .u8 0, .int .u8 0, .int .u8 0, .int .u8 0, .int .u8 0, .int .u8 0, .int .u8 0, .int .u8 0, .int .u8 0, .int .u8 0, .int .u8 0, .int .u8 0, .int .u8 0] 29)).alloc (.cells #[.int .i64 0, .int .i64 0] 32)).setRow c22.heap.size V20).setRow (c22.heap.size + 1) #[.int .i64 0, .int .i64 0]) c22.heap.size V20 29) := (A.out.row _).row_other (by omega) _
      have N20 : Hid (Lies ((((c22.alloc (.cells #[.int .i64 0, .slice none 0 0, .string ⟨#[]⟩, .int .i64 0, .string ⟨#[]⟩, .int .u8 0, .int .u8 0, .int .u8 0, .int .u8 0, .int .u8 0, .int .u8 0, .int .u8 0, .int .u8 0, .int .u8 0, .int .u8 0, .int .u8 0, .int .u8 0, .int .u8 0, .int .u8 0, .int .u8 0, .int .u8 0] 29)).alloc (.cells #[.int .i64 0, .int .i64 0] 32)).setRow c22.heap.size V20).setRow (c22.heap.size + 1) #[.int .i64 0, .int .i64 0]) (c22.heap.size + 1) #[.int .i64 0, .int .i64 0] 32) := (B.out.row_other (by omega) _).row _
      have BB : Hid (Below c22.heap.size c22 ((((c22.alloc (.cells #[.int .i64 0, .slice none 0 0, .string ⟨#[]⟩, .int .i64 0, .string ⟨#[]⟩, .int .u8 0, .int .u8 0, .int .u8 0, .int .u8 0, .int .u8 0, .int .u8 0, .int .u8 0, .int .u8 0, .int .u8 0, .int .u8 0, .int .u8 0, .int .u8 0, .int .u8 0, .int .u8 0, .int .u8 0, .int .u8 0] 29)).alloc (.cells #[.int .i64 0, .int .i64 0] 32)).setRow c22.heap.size V20).setRow (c22.heap.size + 1) #[.int .i64 0, .int .i64 0])) := below_row (below_row (((Below.refl _ _).alloc (Nat.le_refl _) _).alloc (by simp) _) (Nat.le_refl _) _) (by omega) _
      have KB8 : Hid (Below w.heap.size w ((((c22.alloc (.cells #[.int .i64 0, .slice none 0 0, .string ⟨#[]⟩, .int .i64 0, .string ⟨#[]⟩, .int .u8 0, .int .u8 0, .int .u8 0, .int .u8 0, .int .u8 0, .int .u8 0, .int .u8 0, .int .u8 0, .int .u8 0, .int .u8 0, .int .u8 0, .int .u8 0, .int .u8 0, .int .u8 0, .int .u8 0, .int .u8 0] 29)).alloc (.cells #[.int .i64 0, .int .i64 0] 32)).setRow c22.heap.size V20).setRow (c22.heap.size + 1) #[.int .i64 0, .int .i64 0])) := KB7.out.trans ((BB.out).mono KB7.out.size)
      have M1n : Hid (Lies ((((c22.alloc (.cells #[.int .i64 0, .slice none 0 0, .string ⟨#[]⟩, .int .i64 0, .string ⟨#[]⟩, .int .u8 0, .int .u8 0, .int .u8 0, .int .u8 0, .int .u8 0, .int .u8 0, .int .u8 0, .int .u8 0, .int .u8 0, .int .u8 0, .int .u8 0, .int .u8 0, .int .u8 0, .int .u8 0, .int .u8 0, .int .u8 0] 29)).alloc (.cells #[.int .i64 0, .int .i64 0] 32)).setRow c22.heap.size V20).setRow (c22.heap.size + 1) #[.int .i64 0, .int .i64 0]) (y1.heap.size) V1 29) := M1.out.below (BB.out) M1.out.lt
      clear M1
      have M1 := M1n
      clear M1n
      have N1n : Hid (Lies ((((c22.alloc (.cells #[.int .i64 0, .slice none 0 0, .string ⟨#[]⟩, .int .i64 0, .string ⟨#[]⟩, .int .u8 0, .int .u8 0, .int .u8 0, .int .u8 0, .int .u8 0, .int .u8 0, .int .u8 0, .int .u8 0, .int .u8 0, .int .u8 0, .int .u8 0, .int .u8 0, .int .u8 0, .int .u8 0, .int .u8 0, .int .u8 0] 29)).alloc (.cells #[.int .i64 0, .int .i64 0] 32)).setRow c22.heap.size V20).setRow (c22.heap.size + 1) #[.int .i64 0, .int .i64 0]) (y1.heap.size + 1) #[.int .i64 (er : Int), .int .i64 (at' : Int)] 32) := N1.out.below (BB.out) N1.out.lt
      clear N1
      have N1 := N1n
      clear N1n
      have M2n : Hid (Lies ((((c22.alloc (.cells #[.int .i64 0, .slice none 0 0, .string ⟨#[]⟩, .int .i64 0, .string ⟨#[]⟩, .int .u8 0, .int .u8 0, .int .u8 0, .int .u8 0, .int .u8 0, .int .u8 0, .int .u8 0, .int .u8 0, .int .u8 0, .int .u8 0, .int .u8 0, .int .u8 0, .int .u8 0, .int .u8 0, .int .u8 0, .int .u8 0] 29)).alloc (.cells #[.int .i64 0, .int .i64 0] 32)).setRow c22.heap.size V20).setRow (c22.heap.size + 1) #[.int .i64 0, .int .i64 0]) (y2.heap.size) V2 29) := M2.out.below (BB.out) M2.out.lt
      clear M2
      have M2 := M2n
      clear M2n
      have N2n : Hid (Lies ((((c22.alloc (.cells #[.int .i64 0, .slice none 0 0, .string ⟨#[]⟩, .int .i64 0, .string ⟨#[]⟩, .int .u8 0, .int .u8 0, .int .u8 0, .int .u8 0, .int .u8 0, .int .u8 0, .int .u8 0, .int .u8 0, .int .u8 0, .int .u8 0, .int .u8 0, .int .u8 0, .int .u8 0, .int .u8 0, .int .u8 0, .int .u8 0] 29)).alloc (.cells #[.int .i64 0, .int .i64 0] 32)).setRow c22.heap.size V20).setRow (c22.heap.size + 1) #[.int .i64 0, .int .i64 0]) (y2.heap.size + 1) #[.int .i64 (fr : Int), .int .i64 (fat : Int)] 32) := N2.out.below (BB.out) N2.out.lt
      clear N2
      have N2 := N2n
      clear N2n
      have P1n : Hid (PA p V1 ((((c22.alloc (.cells #[.int .i64 0, .slice none 0 0, .string ⟨#[]⟩, .int .i64 0, .string ⟨#[]⟩, .int .u8 0, .int .u8 0, .int .u8 0, .int .u8 0, .int .u8 0, .int .u8 0, .int .u8 0, .int .u8 0, .int .u8 0, .int .u8 0, .int .u8 0, .int .u8 0, .int .u8 0, .int .u8 0, .int .u8 0, .int .u8 0] 29)).alloc (.cells #[.int .i64 0, .int .i64 0] 32)).setRow c22.heap.size V20).setRow (c22.heap.size + 1) #[.int .i64 0, .int .i64 0])) := P1.out.below (BB.out)
      clear P1
      have P1 := P1n
      clear P1n
      have P2n : Hid (PA q V2 ((((c22.alloc (.cells #[.int .i64 0, .slice none 0 0, .string ⟨#[]⟩, .int .i64 0, .string ⟨#[]⟩, .int .u8 0, .int .u8 0, .int .u8 0, .int .u8 0, .int .u8 0, .int .u8 0, .int .u8 0, .int .u8 0, .int .u8 0, .int .u8 0, .int .u8 0, .int .u8 0, .int .u8 0, .int .u8 0, .int .u8 0, .int .u8 0] 29)).alloc (.cells #[.int .i64 0, .int .i64 0] 32)).setRow c22.heap.size V20).setRow (c22.heap.size + 1) #[.int .i64 0, .int .i64 0])) := P2.out.below (BB.out)
      clear P2
      have P2 := P2n
      clear P2n
      have P20n : Hid (PA q V20 ((((c22.alloc (.cells #[.int .i64 0, .slice none 0 0, .string ⟨#[]⟩, .int .i64 0, .string ⟨#[]⟩, .int .u8 0, .int .u8 0, .int .u8 0, .int .u8 0, .int .u8 0, .int .u8 0, .int .u8 0, .int .u8 0, .int .u8 0, .int .u8 0, .int .u8 0, .int .u8 0, .int .u8 0, .int .u8 0, .int .u8 0, .int .u8 0] 29)).alloc (.cells #[.int .i64 0, .int .i64 0] 32)).setRow c22.heap.size V20).setRow (c22.heap.size + 1) #[.int .i64 0, .int .i64 0])) := P20.out.below (BB.out)
      clear P20
      have P20 := P20n
      clear P20n
      clear KB7
      go_upto_region 13 with (first | (refine wpList_store_row rfl 29 _ _ rfl c22.heap.size rfl #[.int .i64 0, .slice none 0 0, .string ⟨#[]⟩, .int .i64 0, .string ⟨#[]⟩, .int .u8 0, .int .u8 0, .int .u8 0, .int .u8 0, .int .u8 0, .int .u8 0, .int .u8 0, .int .u8 0, .int .u8 0, .int .u8 0, .int .u8 0, .int .u8 0, .int .u8 0, .int .u8 0, .int .u8 0, .int .u8 0] V20 rfl 29 A.out (by rw [z20.out]; exact infoPt) (by rw [z20.out]; rfl) o20.out rfl ?_) | (refine wpList_store_row rfl 32 _ _ rfl (c22.heap.size + 1) rfl #[.int .i64 0, .int .i64 0] #[.int .i64 0, .int .i64 0] rfl 32 (B.out.row_other (by omega) _) infoSp rfl (by simp [Value.oneCell']) rfl ?_))
      generalize hv20 : (((c22.alloc (.cells #[.int .i64 0, .slice none 0 0, .string ⟨#[]⟩, .int .i64 0, .string ⟨#[]⟩, .int .u8 0, .int .u8 0, .int .u8 0, .int .u8 0, .int .u8 0, .int .u8 0, .int .u8 0, .int .u8 0, .int .u8 0, .int .u8 0, .int .u8 0, .int .u8 0, .int .u8 0, .int .u8 0, .int .u8 0, .int .u8 0] 29)).alloc (.cells #[.int .i64 0, .int .i64 0] 32)).setRow c22.heap.size V20).setRow (c22.heap.size + 1) #[.int .i64 0, .int .i64 0] = v20 at M20 N20 KB8 M1 N1 M2 N2 P1 P2 P20 ⊢
      clear hv20 A B BB
      refine wp_region_lit ?_
      refine wpList_load_row9 (by rfl) 29 _ rfl (y2.heap.size) rfl V2 29 _ M2.out Tryz.underlying29 rfl (by rw [z2.out]; exact infoPt) ?_
      simp only [Act.put, List.setIfInBounds_toArray, List.set_cons_zero, List.set_cons_succ]
      refine wpList_yieldG (.bool wide) (by rfl) ?hy ?_
      case hy => (go_simp <;> (first | with_reducible rfl | omega | skip))
      simp only [Act.put, List.setIfInBounds_toArray, List.set_cons_zero, List.set_cons_succ]
      refine wpList_onG (by rfl) ?_
      go_simp
      refine Calls.mono (HX.ck _ _ KB8.out P2.out) ?_
      rintro e c23 ⟨rfl, hc⟩
      have KB9 : Hid (Below w.heap.size w c23) := KB8.out.trans ((hc).mono KB8.out.size)
      have M1n : Hid (Lies c23 (y1.heap.size) V1 29) := M1.out.below (hc) M1.out.lt
      clear M1
      have M1 := M1n
      clear M1n
      have N1n : Hid (Lies c23 (y1.heap.size + 1) #[.int .i64 (er : Int), .int .i64 (at' : Int)] 32) := N1.out.below (hc) N1.out.lt
      clear N1
      have N1 := N1n
      clear N1n
      have M2n : Hid (Lies c23 (y2.heap.size) V2 29) := M2.out.below (hc) M2.out.lt
      clear M2
      have M2 := M2n
      clear M2n
      have N2n : Hid (Lies c23 (y2.heap.size + 1) #[.int .i64 (fr : Int), .int .i64 (fat : Int)] 32) := N2.out.below (hc) N2.out.lt
      clear N2
      have N2 := N2n
      clear N2n
      have M20n : Hid (Lies c23 (c22.heap.size) V20 29) := M20.out.below (hc) M20.out.lt
      clear M20
      have M20 := M20n
      clear M20n
      have N20n : Hid (Lies c23 (c22.heap.size + 1) #[.int .i64 0, .int .i64 0] 32) := N20.out.below (hc) N20.out.lt
      clear N20
      have N20 := N20n
      clear N20n
      have P1n : Hid (PA p V1 c23) := P1.out.below (hc)
      clear P1
      have P1 := P1n
      clear P1n
      have P2n : Hid (PA q V2 c23) := P2.out.below (hc)
      clear P2
      have P2 := P2n
      clear P2n
      have P20n : Hid (PA q V20 c23) := P20.out.below (hc)
      clear P20
      have P20 := P20n
      clear P20n
      clear KB8
      clear hc
      refine wpList_yieldG (.bool false) (by rfl) ?hy ?_
      case hy => (go_simp <;> (first | with_reducible rfl | omega | skip))
      simp only [Act.put, List.setIfInBounds_toArray, List.set_cons_zero, List.set_cons_succ]
      refine wpList_yieldG (.bool false) (by rfl) ?hy ?_
      case hy => (go_simp <;> (first | with_reducible rfl | omega | skip))
      simp only [Act.put, List.setIfInBounds_toArray, List.set_cons_zero, List.set_cons_succ]
      refine wpList_yieldG (.int .i64 0) (by rfl) ?hy ?_
      case hy => (go_simp <;> (first | with_reducible rfl | omega | skip))
      simp only [Act.put, List.setIfInBounds_toArray, List.set_cons_zero, List.set_cons_succ]
      refine wpList_yieldG (.bool false) (by rfl) ?hy ?_
      case hy => (go_simp <;> (first | with_reducible rfl | omega | skip))
      simp only [Act.put, List.setIfInBounds_toArray, List.set_cons_zero, List.set_cons_succ]
      refine wpList_yieldG (.bool false) (by rfl) ?hy ?_
      case hy => (go_simp <;> (first | with_reducible rfl | omega | skip))
      simp only [Act.put, List.setIfInBounds_toArray, List.set_cons_zero, List.set_cons_succ]
      refine wpList_yieldG (.bool false) (by rfl) ?hy ?_
      case hy => (go_simp <;> (first | with_reducible rfl | omega | skip))
      simp only [Act.put, List.setIfInBounds_toArray, List.set_cons_zero, List.set_cons_succ]
      refine wpList_yieldG (.string U) (by rfl) ?hy ?_
      case hy => (go_simp <;> (first | with_reducible rfl | omega | skip))
      simp only [Act.put, List.setIfInBounds_toArray, List.set_cons_zero, List.set_cons_succ]
      refine wpList_yieldG (.int .i64 (U.size : Int)) (by rfl) ?hy ?_
      case hy => (go_simp <;> (first | with_reducible rfl | omega | skip))
      simp only [Act.put, List.setIfInBounds_toArray, List.set_cons_zero, List.set_cons_succ]
      refine wpList_yieldG (.int .i64 (m : Int)) (by rfl) ?hy ?_
      case hy => (go_simp <;> (first | with_reducible rfl | omega | skip))
      simp only [Act.put, List.setIfInBounds_toArray, List.set_cons_zero, List.set_cons_succ]
      refine wpList_load_row9 (by rfl) 29 _ rfl (y2.heap.size) rfl V2 29 _ M2.out Tryz.underlying29 rfl (by rw [z2.out]; exact infoPt) ?_
      simp only [Act.put, List.setIfInBounds_toArray, List.set_cons_zero, List.set_cons_succ]
      refine wpList_onG (by rfl) ?_
      go_simp
      refine Calls.mono (HX.lg _ _ P2.out) ?_
      rintro e c24 ⟨rfl, hc⟩
      have KB10 : Hid (Below w.heap.size w c24) := KB9.out.trans ((hc).mono KB9.out.size)
      have M1n : Hid (Lies c24 (y1.heap.size) V1 29) := M1.out.below (hc) M1.out.lt
      clear M1
      have M1 := M1n
      clear M1n
      have N1n : Hid (Lies c24 (y1.heap.size + 1) #[.int .i64 (er : Int), .int .i64 (at' : Int)] 32) := N1.out.below (hc) N1.out.lt
      clear N1
      have N1 := N1n
      clear N1n
      have M2n : Hid (Lies c24 (y2.heap.size) V2 29) := M2.out.below (hc) M2.out.lt
      clear M2
      have M2 := M2n
      clear M2n
      have N2n : Hid (Lies c24 (y2.heap.size + 1) #[.int .i64 (fr : Int), .int .i64 (fat : Int)] 32) := N2.out.below (hc) N2.out.lt
      clear N2
      have N2 := N2n
      clear N2n
      have M20n : Hid (Lies c24 (c22.heap.size) V20 29) := M20.out.below (hc) M20.out.lt
      clear M20
      have M20 := M20n
      clear M20n
      have N20n : Hid (Lies c24 (c22.heap.size + 1) #[.int .i64 0, .int .i64 0] 32) := N20.out.below (hc) N20.out.lt
      clear N20
      have N20 := N20n
      clear N20n
      have P1n : Hid (PA p V1 c24) := P1.out.below (hc)
      clear P1
      have P1 := P1n
      clear P1n
      have P2n : Hid (PA q V2 c24) := P2.out.below (hc)
      clear P2
      have P2 := P2n
      clear P2n
      have P20n : Hid (PA q V20 c24) := P20.out.below (hc)
      clear P20
      have P20 := P20n
      clear P20n
      clear KB9
      clear hc
      refine wpList_yieldG (.int .i64 ((m : Int) + (lgN q.h : Int))) (by rfl) ?hy ?_
      case hy => (go_simp; exact wrap_add _ _ (by omega) (by omega) (by omega))
      simp only [Act.put, List.setIfInBounds_toArray, List.set_cons_zero, List.set_cons_succ]
      refine wpList_yieldG (.bool false) (by rfl) ?hy ?_
      case hy => (go_simp <;> (first | with_reducible rfl | omega | skip))
      simp only [Act.put, List.setIfInBounds_toArray, List.set_cons_zero, List.set_cons_succ]
      refine wpList_yieldG (.bool false) (by rfl) ?hy ?_
      case hy => (go_simp <;> (first | with_reducible rfl | omega | skip))
      simp only [Act.put, List.setIfInBounds_toArray, List.set_cons_zero, List.set_cons_succ]
      refine wpList_yieldG (.bool false) (by rfl) ?hy ?_
      case hy => (go_simp <;> (first | with_reducible rfl | omega | skip))
      simp only [Act.put, List.setIfInBounds_toArray, List.set_cons_zero, List.set_cons_succ]
      refine wpList_load_row9 (by rfl) 29 _ rfl (c22.heap.size) rfl V20 29 _ M20.out Tryz.underlying29 rfl (by rw [z20.out]; exact infoPt) ?_
      simp only [Act.put, List.setIfInBounds_toArray, List.set_cons_zero, List.set_cons_succ]
      refine wpList_load_row9 (by rfl) 29 _ rfl (y2.heap.size) rfl V2 29 _ M2.out Tryz.underlying29 rfl (by rw [z2.out]; exact infoPt) ?_
      simp only [Act.put, List.setIfInBounds_toArray, List.set_cons_zero, List.set_cons_succ]
      refine wpList_onG (by rfl) ?_
      go_simp
      refine Calls.mono (HX.sm _ _ _ P20.out P2.out) ?_
      rintro e c25 ⟨rfl, hc⟩
      have KB11 : Hid (Below w.heap.size w c25) := KB10.out.trans ((hc).mono KB10.out.size)
      have M1n : Hid (Lies c25 (y1.heap.size) V1 29) := M1.out.below (hc) M1.out.lt
      clear M1
      have M1 := M1n
      clear M1n
      have N1n : Hid (Lies c25 (y1.heap.size + 1) #[.int .i64 (er : Int), .int .i64 (at' : Int)] 32) := N1.out.below (hc) N1.out.lt
      clear N1
      have N1 := N1n
      clear N1n
      have M2n : Hid (Lies c25 (y2.heap.size) V2 29) := M2.out.below (hc) M2.out.lt
      clear M2
      have M2 := M2n
      clear M2n
      have N2n : Hid (Lies c25 (y2.heap.size + 1) #[.int .i64 (fr : Int), .int .i64 (fat : Int)] 32) := N2.out.below (hc) N2.out.lt
      clear N2
      have N2 := N2n
      clear N2n
      have M20n : Hid (Lies c25 (c22.heap.size) V20 29) := M20.out.below (hc) M20.out.lt
      clear M20
      have M20 := M20n
      clear M20n
      have N20n : Hid (Lies c25 (c22.heap.size + 1) #[.int .i64 0, .int .i64 0] 32) := N20.out.below (hc) N20.out.lt
      clear N20
      have N20 := N20n
      clear N20n
      have P1n : Hid (PA p V1 c25) := P1.out.below (hc)
      clear P1
      have P1 := P1n
      clear P1n
      have P2n : Hid (PA q V2 c25) := P2.out.below (hc)
      clear P2
      have P2 := P2n
      clear P2n
      have P20n : Hid (PA q V20 c25) := P20.out.below (hc)
      clear P20
      have P20 := P20n
      clear P20n
      clear KB10
      clear hc
      refine wpList_yieldG (.bool false) (by rfl) ?hy ?_
      case hy => (go_simp <;> (first | with_reducible rfl | omega | skip))
      simp only [Act.put, List.setIfInBounds_toArray, List.set_cons_zero, List.set_cons_succ]
      refine wpList_yieldG (.bool false) (by rfl) ?hy ?_
      case hy => (go_simp <;> (first | with_reducible rfl | omega | skip))
      simp only [Act.put, List.setIfInBounds_toArray, List.set_cons_zero, List.set_cons_succ]
      refine wpList_yieldG (.bool false) (by rfl) ?hy ?_
      case hy => (go_simp <;> (first | with_reducible rfl | omega | skip))
      simp only [Act.put, List.setIfInBounds_toArray, List.set_cons_zero, List.set_cons_succ]
      refine wpList_yieldG (.int .i64 (U.size : Int)) (by rfl) ?hy ?_
      case hy => (go_simp <;> (first | with_reducible rfl | omega | skip))
      simp only [Act.put, List.setIfInBounds_toArray, List.set_cons_zero, List.set_cons_succ]
      refine wpList_yieldG (.string U) (by rfl) ?hy ?_
      case hy => (go_simp <;> (first | with_reducible rfl | omega | skip))
      simp only [Act.put, List.setIfInBounds_toArray, List.set_cons_zero, List.set_cons_succ]
      refine wpList_yieldG (.int .i64 (U.size : Int)) (by rfl) ?hy ?_
      case hy => (go_simp <;> (first | with_reducible rfl | omega | skip))
      simp only [Act.put, List.setIfInBounds_toArray, List.set_cons_zero, List.set_cons_succ]
      refine wpList_yieldG (.bool false) (by rfl) ?hy ?_
      case hy => (go_simp <;> (first | with_reducible rfl | omega | skip))
      simp only [Act.put, List.setIfInBounds_toArray, List.set_cons_zero, List.set_cons_succ]
      refine wpList_yieldG (.bool false) (by rfl) ?hy ?_
      case hy => (go_simp <;> (first | with_reducible rfl | omega | skip))
      simp only [Act.put, List.setIfInBounds_toArray, List.set_cons_zero, List.set_cons_succ]
      refine wpList_yieldG (.bool false) (by rfl) ?hy ?_
      case hy => (go_simp <;> (first | with_reducible rfl | omega | skip))
      simp only [Act.put, List.setIfInBounds_toArray, List.set_cons_zero, List.set_cons_succ]
      refine wpList_load_row9 (by rfl) 32 _ rfl (c22.heap.size + 1) rfl #[.int .i64 0, .int .i64 0] 32 _ N20.out Tryz.underlying32 rfl infoSp ?_
      simp only [Act.put, List.setIfInBounds_toArray, List.set_cons_zero, List.set_cons_succ]
      refine wpList_yieldG (.agg #[.int .i64 0, .int .i64 0]) (by rfl) ?hy ?_
      case hy => (go_simp <;> (first | with_reducible rfl | omega | skip))
      simp only [Act.put, List.setIfInBounds_toArray, List.set_cons_zero, List.set_cons_succ]
      refine wpList_yieldG (.bool false) (by rfl) ?hy ?_
      case hy => (go_simp <;> (first | with_reducible rfl | omega | skip))
      simp only [Act.put, List.setIfInBounds_toArray, List.set_cons_zero, List.set_cons_succ]
      refine wpList_yieldG (.bool false) (by rfl) ?hy ?_
      case hy => (go_simp <;> (first | with_reducible rfl | omega | skip))
      simp only [Act.put, List.setIfInBounds_toArray, List.set_cons_zero, List.set_cons_succ]
      refine wpList_nil ?_
      go_wp2_with (first | (refine wpList_load_row9 (by rfl) 29 _ rfl (y1.heap.size) rfl V1 29 _ M1.out Tryz.underlying29 rfl (by rw [z1.out]; exact infoPt) ?_) | (refine wpList_load_row9 (by rfl) 32 _ rfl (y1.heap.size + 1) rfl #[.int .i64 (er : Int), .int .i64 (at' : Int)] 32 _ N1.out Tryz.underlying32 rfl infoSp ?_) | (refine wpList_load_row9 (by rfl) 29 _ rfl (y2.heap.size) rfl V2 29 _ M2.out Tryz.underlying29 rfl (by rw [z2.out]; exact infoPt) ?_) | (refine wpList_load_row9 (by rfl) 32 _ rfl (y2.heap.size + 1) rfl #[.int .i64 (fr : Int), .int .i64 (fat : Int)] 32 _ N2.out Tryz.underlying32 rfl infoSp ?_) | (refine wpList_load_row9 (by rfl) 29 _ rfl (c22.heap.size) rfl V20 29 _ M20.out Tryz.underlying29 rfl (by rw [z20.out]; exact infoPt) ?_) | (refine wpList_load_row9 (by rfl) 32 _ rfl (c22.heap.size + 1) rfl #[.int .i64 0, .int .i64 0] 32 _ N20.out Tryz.underlying32 rfl infoSp ?_))
      go_ret
      exact ⟨rfl, KB11.out⟩
    · have hfr' : ((fr : Int) == 0) = false := by rw [beq_eq_false_iff_ne]; omega
      clear HQ
      have f2 : v2.cell? ⟨y2.heap.size + 1, 0, none⟩ = some (.int .i64 (fr : Int)) := N2.out.cell 0
      go_wp2_with (first | (refine wpList_load_row9 (by rfl) 29 _ rfl (y1.heap.size) rfl V1 29 _ M1.out Tryz.underlying29 rfl (by rw [z1.out]; exact infoPt) ?_) | (refine wpList_load_row9 (by rfl) 32 _ rfl (y1.heap.size + 1) rfl #[.int .i64 (er : Int), .int .i64 (at' : Int)] 32 _ N1.out Tryz.underlying32 rfl infoSp ?_) | (refine wpList_load_row9 (by rfl) 29 _ rfl (y2.heap.size) rfl V2 29 _ M2.out Tryz.underlying29 rfl (by rw [z2.out]; exact infoPt) ?_) | (refine wpList_load_row9 (by rfl) 32 _ rfl (y2.heap.size + 1) rfl #[.int .i64 (fr : Int), .int .i64 (fat : Int)] 32 _ N2.out Tryz.underlying32 rfl infoSp ?_))
      go_ret
      exact ⟨rfl, KB5.out⟩
theorem walk (s : ByteArray) (ss : s.size ≤ 140737488351232) (wide : Bool) (w : World) (ht : Td w ∧ 10 ≤ w.heap.size) :
    Calls Tryz.prog 8 #[.string s, .bool wide] w fun e w' => e = .returned (.bool true) ∧ Below w.heap.size w w' := by
  have HT : ∀ wx, Below w.heap.size w wx → Td wx ∧ 10 ≤ wx.heap.size := fun wx hb => ⟨ht.1.below hb, Nat.le_trans ht.2 hb.size⟩
  have hR : ∀ (t : ByteArray) (wx : World), t.size ≤ 140737488351232 → Below w.heap.size w wx → Calls Tryz.prog 14 #[.string t, .bool wide] wx (PvV wx (pv (pth wide true t.data.toList))) := fun t wx hz hb => rev_pv t hz wide wx (HT wx hb).1 (HT wx hb).2
  have hF : ∀ (t : ByteArray) (wx : World), t.size ≤ 140737488351232 → Below w.heap.size w wx → Calls Tryz.prog 16 #[.string t, .bool wide] wx (PvV wx (pv (pth wide false t.data.toList))) := fun t wx hz hb => fwd_pv t hz wide wx (HT wx hb).1 (HT wx hb).2
  refine walkW s wide _ _ (pv_in wide true s.data.toList) (pv_in wide false s.data.toList) _ _ _ _ _ _ (txt (wrP (pv (pth wide true s.data.toList)).1)) (txt (wrP (pv (pth wide false s.data.toList)).1)) w (fun wx hx => head_any wx (HT wx hx).1 (HT wx hx).2) (fun wx hx => hR s wx ss hx) (fun wx hx => hF s wx ss hx) (fun h => ?_) (fun h => ?_)
  · obtain ⟨p, n, h1, h2⟩ := pv_zero h
    rw [h2]
    exact half_of true 14 s wide p n h1 w HT hR
  · obtain ⟨p, n, h1, h2⟩ := pv_zero h
    rw [h2]
    exact half_of false 16 s wide p n h1 w HT hF

set_option maxRecDepth 100000 in
theorem contract (H : Type) (enc : TypeId × Value → H) (W : World) (base : Nat) (args : Array Value) (ds gs : List (DataW H)) (before : List MemPlace)
    (hval : ∀ (j : Nat) t v, Tryz.f8.params[j]? = some t → args[j]? = some v → Value.okWide Tryz.prog W .any base t v)
    (hW : DataW.Whole enc Tryz.prog Tryz.f8.params.toList Rows.pathAgainSpec.vars false W args.toList ds gs before)
    (hsz : (DataW.weightsEach Tryz.prog (Tryz.f8.params.toList ++ (OpenSpec.ofChange Rows.pathAgainSpec).bare.plain.varTypes Tryz.prog) (ds ++ gs)).all (· ≤ reachBytes) = true)
    (hL : laidMetH Tryz.prog Rows.pathAgainRow.laid W) (hsh : W.ShapedOpen Tryz.prog) :
    Calls Tryz.prog 8 args W fun e W' => ∃ v, e = .returned v ∧ Rows.pathAgainSpec.post enc Tryz.prog Tryz.f8 false true false false W args v W' := by
  have hW' := hW
  obtain ⟨p, q, hA0, hV, rfl, hfz, hnd⟩ := hW
  have hA : DataW.TrodAll enc Tryz.prog W 0 (fun _ => true) true Tryz.f8.params.toList args.toList ds p := hA0
  rw [Tryz.params8] at hA hval hsz
  obtain ⟨v0, vs0, d0, ds0, p0, q0, hargs, rfl, rfl, h0, r0⟩ := trodAll_cons hA
  obtain ⟨v1, vs1, d1, ds1, p1, q1, rfl, rfl, rfl, h1, r1⟩ := trodAll_cons r0
  obtain ⟨rfl, rfl, rfl⟩ := trodAll_nil r1
  obtain rfl : args = #[v0, v1] := by cases args; simp_all
  obtain ⟨rfl, rfl⟩ := trodVars_none hV
  obtain ⟨a0, rfl, rfl, rfl, w0⟩ := open_string Tryz.underlying9 (hval 0 9 v0 rfl rfl) h0
  obtain ⟨a1, rfl, rfl, rfl⟩ := open_bool Tryz.underlying4 (hval 1 4 v1 rfl rfl) h1
  clear hA0
  have s0 := sized_string hsz (j := 0) (t := 9) rfl rfl
  simp only [reachBytes, Array.length_toList] at s0
  simp only [List.append_nil] at hW'
  refine (walk a0 s0 a1 W (tabs9_of hL hsh)).mono fun e W' ⟨he, bel⟩ => ?_
  subst he
  exact ⟨_, rfl, _, _, _, [], [], [], hW', trodAll_mk1 (shut_bool Tryz.underlying4 _), trodAll_cons_mk (shut_string Tryz.underlying9 w0) (trodAll_cons_mk (shut_bool Tryz.underlying4 _) trodAll_mk0), rfl, bel.frame _, fun h => by cases h⟩

set_option maxRecDepth 100000 in
theorem laid_met (os : Os) : laidMet Tryz.prog Rows.pathAgainRow.laid ((laidWorld9 os).forCall (fun _ _ => 0) ⟨#[], #[.string ByteArray.empty, .bool false], []⟩).memory :=
  laidMet_of_run' 8 (by kernel_rfl) (by kernel_rfl)
set_option maxRecDepth 100000 in
theorem reads (os : Os) {H : Type} (enc : TypeId × Value → H) : ∃ places, DataW.whole enc Tryz.prog ((laidWorld9 os).forCall (fun _ _ => 0) ⟨#[], #[.string ByteArray.empty, .bool false], []⟩).memory Tryz.f8.params.toList Rows.pathAgainSpec.vars false #[Value.string ByteArray.empty, Value.bool false].toList 8 = some ([.lit (.string []), .lit (.bool false)], [], places) :=
  ⟨[], by kernel_rfl⟩

set_option maxRecDepth 100000 in
theorem lifted (os : Os) (started : os.Started) (H : Type) (enc : TypeId × Value → H) (F : Stop.Interp) :
    ReturnsInHanded {} Tryz.checked os 8 .any ((OpenSpec.ofChange Rows.pathAgainSpec).preRow enc Tryz.prog Tryz.f8 Rows.pathAgainRow.domain false Rows.pathAgainRow.laid) (((OpenSpec.ofChange Rows.pathAgainSpec).at F).post enc Tryz.prog Tryz.f8 false true false false) := by
  obtain ⟨places, hx⟩ := reads os enc
  refine returnsInHanded_of_row (C := Tryz.checked) (s := OpenSpec.ofChange Rows.pathAgainSpec) own started (by kernel_rfl) Tryz.func8
    (witness_row_at (enc := enc) (C := Tryz.checked) false (laidWorld9 os) #[.string ByteArray.empty, .bool false] rfl (by kernel_rfl) (by kernel_rfl) (by kernel_rfl)
      (OpenSpec.preRow_of_cond 8 hx (by kernel_rfl) (fun k hk => by cases hk) (by kernel_rfl) (laid_met os))) ?_
  intro W base args ds gs before hval hW _ _ hsz hL hsh _
  exact contract H enc W base args ds gs before hval hW hsz hL hsh

theorem said : Rows.PathAgainSaid :=
  OpenClaim.holds_of_cond 8 Tryz.f8 rfl rfl rfl rfl rfl rfl rfl ⟨rfl, rfl, rfl, rfl, rfl⟩ rfl rfl rfl rfl rfl (by kernel_rfl) Tryz.func8 (by kernel_rfl)
    (of_decide_eq_true (by kernel_rfl)) (by unfold Func.isWrapper; first | (rw [if_pos (by decide +kernel)]; kernel_rfl) | (rw [if_neg (by decide +kernel)]; exact ⟨rfl, rfl⟩))
    (fun os started H enc _ F => by rw [OpenClaim.pre_eq_preRow]; exact lifted os started H enc F)

/-- No parameter wants a stand-in; the program's own looks are off. -/
theorem plain (f : FuncId) (fn : Func) (hf : Tryz.pinned.checked.prog.funcNamed "posthorn/posthornlaw09.PathAgain" = some f) (hfn : Tryz.pinned.checked.prog.funcs[f]? = some fn) :
    true = Tryz.pinned.checked.prog.looks [] ∧ ∀ (j : Nat) t, fn.params[j]? = some t → Tryz.pinned.checked.prog.wantsStandIn t = false := by
  obtain rfl : f = 8 := Option.some.inj ((show Tryz.prog.funcNamed "posthorn/posthornlaw09.PathAgain" = some 8 by kernel_rfl).symm.trans hf) |>.symm
  obtain rfl : fn = Tryz.f8 := (Option.some.inj (Tryz.func8.symm.trans hfn)).symm
  refine ⟨by kernel_rfl, fun j t ht => ?_⟩
  rw [Tryz.params8] at ht
  have hm : t ∈ [9, 4] := by simpa using Array.mem_of_getElem? ht
  have hall : ([9, 4].all fun u => !Tryz.prog.wantsStandIn u) = true := by kernel_rfl
  exact (show Tryz.prog.wantsStandIn t = false by simpa using List.all_eq_true.1 hall t hm)

/-- The card. -/
theorem card : Rows.PathAgainCardSaid :=
  Claim7.holds_tied_plain_at .later [] _ _ _ _ said (fun _ h => by cases h) (by kernel_rfl) (fun _ h => by cases h) pathAgain_row_tie rfl ⟨rfl, rfl⟩ (by kernel_rfl) rfl plain (by kernel_rfl)
end Go.Proofs.YtfjpkfhbmldmfaaGreatDoor.pathAgain
namespace Go.Proofs.YtfjpkfhbmldmfaaGreatDoor
theorem pathAgain_card : Rows.PathAgainCardSaid := pathAgain.card
#print axioms pathAgain_card
end Go.Proofs.YtfjpkfhbmldmfaaGreatDoor
