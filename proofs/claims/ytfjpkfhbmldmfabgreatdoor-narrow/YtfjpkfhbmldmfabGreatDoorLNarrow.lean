/-
  For every text the statement PathNarrow returns true.
-/
import Derived.Test.YtfjpkfhbmldmfabGreatDoorUtfE
import Derived.Test.YtfjpkfhbmldmfabGreatDoorXx9
import Derived.Test.YtfjpkfhbmldmfabGreatDoorCard9
import Derived.ProofKit
import Derived.ChangeMaps5
import Derived.OpenShut
import Derived.ShutString
import Derived.ChangeOld
import Derived.SizedLaws
namespace Go.Proofs.YtfjpkfhbmldmfabGreatDoor.pathNarrow
open Go.ChangeShapes Go.WideShapes Go.ChangeAt Go.RowKit
open Go.ChangeMaps (open_string shut_string)

/-- What a path that was read without wide is good for. -/
structure Good (w : World) (p q : Pt) : Prop where
  sm : ∀ wx V V1, PA p V wx → PA q V1 wx → Calls Tryz.prog 9 #[.agg V, .agg V1] wx fun e w' => e = .returned (.bool true) ∧ Below wx.heap.size wx w'
  wd : ∀ wx V, Below w.heap.size w wx → PA p V wx → Calls Tryz.prog 11 #[.agg V] wx fun e w' => e = .returned (.bool false) ∧ Below wx.heap.size wx w'
  ck : ∀ b, ∀ wx V, Below w.heap.size w wx → PA p V wx → Calls Tryz.prog 12 #[.agg V, .bool b] wx fun e w' => e = .returned (.int .i64 0) ∧ Below wx.heap.size wx w'
/-- What a path that was read with wide alone is. -/
structure Broad (w : World) (q : Pt) (m : Nat) : Prop where
  wd : ∀ wx V, Below w.heap.size w wx → PA q V wx → Calls Tryz.prog 11 #[.agg V] wx fun e w' => e = .returned (.bool true) ∧ Below wx.heap.size wx w'
  ck : ∀ wx V, Below w.heap.size w wx → PA q V wx → Calls Tryz.prog 12 #[.agg V, .bool false] wx fun e w' => e = .returned (.int .i64 (m : Int)) ∧ Below wx.heap.size wx w'
  no : m ≠ 0
set_option maxHeartbeats 16000000 in
set_option maxRecDepth 100000 in
theorem walkW (s : ByteArray) (p q : Pt) (hp : p.In) (hq : q.In) (n er at' m fr fat ek : Nat) (w : World)
    (HH : Hid (∀ wx, Below w.heap.size w wx → Calls Tryz.prog 7 #[] wx fun e w' => e = .returned (.bool true) ∧ Below wx.heap.size wx w'))
    (HR : Hid (∀ wx, Below w.heap.size w wx → Calls Tryz.prog 10 #[.string s, .bool false] wx fun e w' => ∃ V, e = .returned (.tuple #[.agg V, .int .i64 (n : Int), .agg #[.int .i64 (er : Int), .int .i64 (at' : Int)]]) ∧ PA p V w' ∧ Below wx.heap.size wx w'))
    (HF : Hid (∀ wx, Below w.heap.size w wx → Calls Tryz.prog 10 #[.string s, .bool true] wx fun e w' => ∃ V, e = .returned (.tuple #[.agg V, .int .i64 (m : Int), .agg #[.int .i64 (fr : Int), .int .i64 (fat : Int)]]) ∧ PA q V w' ∧ Below wx.heap.size wx w'))
    (HP : Hid (er = 0 → n = m ∧ fr = 0 ∧ fat = 0 ∧ Good w p q)) (HQ : Hid (er ≠ 0 → fr = 0 → Broad w q ek)) :
    Calls Tryz.prog 4 #[.string s] w fun e w' => e = .returned (.bool true) ∧ Below w.heap.size w w' := by
  have KB : Hid (Below w.heap.size w w) := Below.refl _ _
  go_enter Tryz.func4, Tryz.ntmps4
  go_upto_region 1 with fail
  go_wp2_with fail
  refine Calls.mono (HH.out _ KB.out) ?_
  rintro e y0 ⟨rfl, hc⟩
  have KB1 : Hid (Below w.heap.size w y0) := KB.out.trans ((hc).mono KB.out.size)
  clear KB
  clear hc
  go_wp2_with fail
  refine Calls.mono (HR.out _ KB1.out) ?_
  rintro e y1 ⟨V1, rfl, hA, hc⟩
  have KB2 : Hid (Below w.heap.size w y1) := KB1.out.trans ((hc).mono KB1.out.size)
  clear KB1
  have P1 : Hid (PA p V1 y1) := hA
  have z1 : Hid (V1.size = 21) := hA.size hp.ok.2.len
  have o1 : Hid (V1.all (·.oneCell') = true) := hA.one
  clear hA hc
  have A : Hid (Lies ((y1.alloc (.cells #[.int .i64 0, .slice none 0 0, .string ⟨#[]⟩, .int .i64 0, .string ⟨#[]⟩, .int .u8 0, .int .u8 0, .int .u8 0, .int .u8 0, .int .u8 0, .int .u8 0, .int .u8 0, .int .u8 0, .int .u8 0, .int .u8 0, .int .u8 0, .int .u8 0, .int .u8 0, .int .u8 0, .int .u8 0, .int .u8 0] 32)).alloc (.cells #[.int .i64 0, .int .i64 0] 35)) y1.heap.size #[.int .i64 0, .slice none 0 0, .string ⟨#[]⟩, .int .i64 0, .string ⟨#[]⟩, .int .u8 0, .int .u8 0, .int .u8 0, .int .u8 0, .int .u8 0, .int .u8 0, .int .u8 0, .int .u8 0, .int .u8 0, .int .u8 0, .int .u8 0, .int .u8 0, .int .u8 0, .int .u8 0, .int .u8 0, .int .u8 0] 32) := (Lies.new y1 _ _).alloc _
  have B : Hid (Lies ((y1.alloc (.cells #[.int .i64 0, .slice none 0 0, .string ⟨#[]⟩, .int .i64 0, .string ⟨#[]⟩, .int .u8 0, .int .u8 0, .int .u8 0, .int .u8 0, .int .u8 0, .int .u8 0, .int .u8 0, .int .u8 0, .int .u8 0, .int .u8 0, .int .u8 0, .int .u8 0, .int .u8 0, .int .u8 0, .int .u8 0, .int .u8 0] 32)).alloc (.cells #[.int .i64 0, .int .i64 0] 35)) (y1.heap.size + 1) #[.int .i64 0, .int .i64 0] 35) := new_one y1 _ _ _
  have M1 : Hid (Lies ((((y1.alloc (.cells #[.int .i64 0, .slice none 0 0, .string ⟨#[]⟩, .int .i64 0, .string ⟨#[]⟩, .int .u8 0, .int .u8 0, .int .u8 0, .int .u8 0, .int .u8 0, .int .u8 0, .int .u8 0, .int .u8 0, .int .u8 0, .int .u8 0, .int .u8 0, .int .u8 0, .int .u8 0, .int .u8 0, .int .u8 0, .int .u8 0] 32)).alloc (.cells #[.int .i64 0, .int .i64 0] 35)).setRow y1.heap.size V1).setRow (y1.heap.size + 1) #[.int .i64 (er : Int), .int .i64 (at' : Int)]) y1.heap.size V1 32) := (A.out.row _).row_other (by omega) _
  have N1 : Hid (Lies ((((y1.alloc (.cells #[.int .i64 0, .slice none 0 0, .string ⟨#[]⟩, .int .i64 0, .string ⟨#[]⟩, .int .u8 0, .int .u8 0, .int .u8 0, .int .u8 0, .int .u8 0, .int .u8 0, .int .u8 0, .int .u8 0, .int .u8 0, .int .u8 0, .int .u8 0, .int .u8 0, .int .u8 0, .int .u8 0, .int .u8 0, .int .u8 0] 32)).alloc (.cells #[.int .i64 0, .int .i64 0] 35)).setRow y1.heap.size V1).setRow (y1.heap.size + 1) #[.int .i64 (er : Int), .int .i64 (at' : Int)]) (y1.heap.size + 1) #[.int .i64 (er : Int), .int .i64 (at' : Int)] 35) := (B.out.row_other (by omega) _).row _
  have BB : Hid (Below y1.heap.size y1 ((((y1.alloc (.cells #[.int .i64 0, .slice none 0 0, .string ⟨#[]⟩, .int .i64 0, .string ⟨#[]⟩, .int .u8 0, .int .u8 0, .int .u8 0, .int .u8 0, .int .u8 0, .int .u8 0, .int .u8 0, .int .u8 0, .int .u8 0, .int .u8 0, .int .u8 0, .int .u8 0, .int .u8 0, .int .u8 0, .int .u8 0, .int .u8 0] 32)).alloc (.cells #[.int .i64 0, .int .i64 0] 35)).setRow y1.heap.size V1).setRow (y1.heap.size + 1) #[.int .i64 (er : Int), .int .i64 (at' : Int)])) := below_row (below_row (((Below.refl _ _).alloc (Nat.le_refl _) _).alloc (by simp) _) (Nat.le_refl _) _) (by omega) _
  have KB3 : Hid (Below w.heap.size w ((((y1.alloc (.cells #[.int .i64 0, .slice none 0 0, .string ⟨#[]⟩, .int .i64 0, .string ⟨#[]⟩, .int .u8 0, .int .u8 0, .int .u8 0, .int .u8 0, .int .u8 0, .int .u8 0, .int .u8 0, .int .u8 0, .int .u8 0, .int .u8 0, .int .u8 0, .int .u8 0, .int .u8 0, .int .u8 0, .int .u8 0, .int .u8 0] 32)).alloc (.cells #[.int .i64 0, .int .i64 0] 35)).setRow y1.heap.size V1).setRow (y1.heap.size + 1) #[.int .i64 (er : Int), .int .i64 (at' : Int)])) := KB2.out.trans ((BB.out).mono KB2.out.size)
  have P1n : Hid (PA p V1 ((((y1.alloc (.cells #[.int .i64 0, .slice none 0 0, .string ⟨#[]⟩, .int .i64 0, .string ⟨#[]⟩, .int .u8 0, .int .u8 0, .int .u8 0, .int .u8 0, .int .u8 0, .int .u8 0, .int .u8 0, .int .u8 0, .int .u8 0, .int .u8 0, .int .u8 0, .int .u8 0, .int .u8 0, .int .u8 0, .int .u8 0, .int .u8 0] 32)).alloc (.cells #[.int .i64 0, .int .i64 0] 35)).setRow y1.heap.size V1).setRow (y1.heap.size + 1) #[.int .i64 (er : Int), .int .i64 (at' : Int)])) := P1.out.below (BB.out)
  clear P1
  have P1 := P1n
  clear P1n
  clear KB2
  go_upto_region 4 with (first | (refine wpList_store_row rfl 32 _ _ rfl y1.heap.size rfl #[.int .i64 0, .slice none 0 0, .string ⟨#[]⟩, .int .i64 0, .string ⟨#[]⟩, .int .u8 0, .int .u8 0, .int .u8 0, .int .u8 0, .int .u8 0, .int .u8 0, .int .u8 0, .int .u8 0, .int .u8 0, .int .u8 0, .int .u8 0, .int .u8 0, .int .u8 0, .int .u8 0, .int .u8 0, .int .u8 0] V1 rfl 32 A.out (by rw [z1.out]; exact infoPt) (by rw [z1.out]; rfl) o1.out rfl ?_) | (refine wpList_store_row rfl 35 _ _ rfl (y1.heap.size + 1) rfl #[.int .i64 0, .int .i64 0] #[.int .i64 (er : Int), .int .i64 (at' : Int)] rfl 35 (B.out.row_other (by omega) _) infoSp rfl (by simp [Value.oneCell']) rfl ?_))
  generalize hv1 : (((y1.alloc (.cells #[.int .i64 0, .slice none 0 0, .string ⟨#[]⟩, .int .i64 0, .string ⟨#[]⟩, .int .u8 0, .int .u8 0, .int .u8 0, .int .u8 0, .int .u8 0, .int .u8 0, .int .u8 0, .int .u8 0, .int .u8 0, .int .u8 0, .int .u8 0, .int .u8 0, .int .u8 0, .int .u8 0, .int .u8 0, .int .u8 0] 32)).alloc (.cells #[.int .i64 0, .int .i64 0] 35)).setRow y1.heap.size V1).setRow (y1.heap.size + 1) #[.int .i64 (er : Int), .int .i64 (at' : Int)] = v1 at M1 N1 KB3 P1 ⊢
  clear hv1 A B BB
  go_wp2_with (first | (refine wpList_load_row9 (by rfl) 32 _ rfl (y1.heap.size) rfl V1 32 _ M1.out Tryz.underlying32 rfl (by rw [z1.out]; exact infoPt) ?_) | (refine wpList_load_row9 (by rfl) 35 _ rfl (y1.heap.size + 1) rfl #[.int .i64 (er : Int), .int .i64 (at' : Int)] 35 _ N1.out Tryz.underlying35 rfl infoSp ?_))
  refine Calls.mono (HF.out _ KB3.out) ?_
  rintro e y2 ⟨V2, rfl, hA, hc⟩
  have KB4 : Hid (Below w.heap.size w y2) := KB3.out.trans ((hc).mono KB3.out.size)
  have M1n : Hid (Lies y2 (y1.heap.size) V1 32) := M1.out.below (hc) M1.out.lt
  clear M1
  have M1 := M1n
  clear M1n
  have N1n : Hid (Lies y2 (y1.heap.size + 1) #[.int .i64 (er : Int), .int .i64 (at' : Int)] 35) := N1.out.below (hc) N1.out.lt
  clear N1
  have N1 := N1n
  clear N1n
  have P1n : Hid (PA p V1 y2) := P1.out.below (hc)
  clear P1
  have P1 := P1n
  clear P1n
  clear KB3
  have P2 : Hid (PA q V2 y2) := hA
  have z2 : Hid (V2.size = 21) := hA.size hq.ok.2.len
  have o2 : Hid (V2.all (·.oneCell') = true) := hA.one
  clear hA hc
  have A : Hid (Lies ((y2.alloc (.cells #[.int .i64 0, .slice none 0 0, .string ⟨#[]⟩, .int .i64 0, .string ⟨#[]⟩, .int .u8 0, .int .u8 0, .int .u8 0, .int .u8 0, .int .u8 0, .int .u8 0, .int .u8 0, .int .u8 0, .int .u8 0, .int .u8 0, .int .u8 0, .int .u8 0, .int .u8 0, .int .u8 0, .int .u8 0, .int .u8 0] 32)).alloc (.cells #[.int .i64 0, .int .i64 0] 35)) y2.heap.size #[.int .i64 0, .slice none 0 0, .string ⟨#[]⟩, .int .i64 0, .string ⟨#[]⟩, .int .u8 0, .int .u8 0, .int .u8 0, .int .u8 0, .int .u8 0, .int .u8 0, .int .u8 0, .int .u8 0, .int .u8 0, .int .u8 0, .int .u8 0, .int .u8 0, .int .u8 0, .int .u8 0, .int .u8 0, .int .u8 0] 32) := (Lies.new y2 _ _).alloc _
  have B : Hid (Lies ((y2.alloc (.cells #[.int .i64 0, .slice none 0 0, .string ⟨#[]⟩, .int .i64 0, .string ⟨#[]⟩, .int .u8 0, .int .u8 0, .int .u8 0, .int .u8 0, .int .u8 0, .int .u8 0, .int .u8 0, .int .u8 0, .int .u8 0, .int .u8 0, .int .u8 0, .int .u8 0, .int .u8 0, .int .u8 0, .int .u8 0, .int .u8 0] 32)).alloc (.cells #[.int .i64 0, .int .i64 0] 35)) (y2.heap.size + 1) #[.int .i64 0, .int .i64 0] 35) := new_one y2 _ _ _
  have M2 : Hid (Lies ((((y2.alloc (.cells #[.int .i64 0, .slice none 0 0, .string ⟨#[]⟩, .int .i64 0, .string ⟨#[]⟩, .int .u8 0, .int .u8 0, .int .u8 0, .int .u8 0, .int .u8 0, .int .u8 0, .int .u8 0, .int .u8 0, .int .u8 0, .int .u8 0, .int .u8 0, .int .u8 0, .int .u8 0, .int .u8 0, .int .u8 0, .int .u8 0] 32)).alloc (.cells #[.int .i64 0, .int .i64 0] 35)).setRow y2.heap.size V2).setRow (y2.heap.size + 1) #[.int .i64 (fr : Int), .int .i64 (fat : Int)]) y2.heap.size V2 32) := (A.out.row _).row_other (by omega) _
  have N2 : Hid (Lies ((((y2.alloc (.cells #[.int .i64 0, .slice none 0 0, .string ⟨#[]⟩, .int .i64 0, .string ⟨#[]⟩, .int .u8 0, .int .u8 0, .int .u8 0, .int .u8 0, .int .u8 0, .int .u8 0, .int .u8 0, .int .u8 0, .int .u8 0, .int .u8 0, .int .u8 0, .int .u8 0, .int .u8 0, .int .u8 0, .int .u8 0, .int .u8 0] 32)).alloc (.cells #[.int .i64 0, .int .i64 0] 35)).setRow y2.heap.size V2).setRow (y2.heap.size + 1) #[.int .i64 (fr : Int), .int .i64 (fat : Int)]) (y2.heap.size + 1) #[.int .i64 (fr : Int), .int .i64 (fat : Int)] 35) := (B.out.row_other (by omega) _).row _
  have BB : Hid (Below y2.heap.size y2 ((((y2.alloc (.cells #[.int .i64 0, .slice none 0 0, .string ⟨#[]⟩, .int .i64 0, .string ⟨#[]⟩, .int .u8 0, .int .u8 0, .int .u8 0, .int .u8 0, .int .u8 0, .int .u8 0, .int .u8 0, .int .u8 0, .int .u8 0, .int .u8 0, .int .u8 0, .int .u8 0, .int .u8 0, .int .u8 0, .int .u8 0, .int .u8 0] 32)).alloc (.cells #[.int .i64 0, .int .i64 0] 35)).setRow y2.heap.size V2).setRow (y2.heap.size + 1) #[.int .i64 (fr : Int), .int .i64 (fat : Int)])) := below_row (below_row (((Below.refl _ _).alloc (Nat.le_refl _) _).alloc (by simp) _) (Nat.le_refl _) _) (by omega) _
  have KB5 : Hid (Below w.heap.size w ((((y2.alloc (.cells #[.int .i64 0, .slice none 0 0, .string ⟨#[]⟩, .int .i64 0, .string ⟨#[]⟩, .int .u8 0, .int .u8 0, .int .u8 0, .int .u8 0, .int .u8 0, .int .u8 0, .int .u8 0, .int .u8 0, .int .u8 0, .int .u8 0, .int .u8 0, .int .u8 0, .int .u8 0, .int .u8 0, .int .u8 0, .int .u8 0] 32)).alloc (.cells #[.int .i64 0, .int .i64 0] 35)).setRow y2.heap.size V2).setRow (y2.heap.size + 1) #[.int .i64 (fr : Int), .int .i64 (fat : Int)])) := KB4.out.trans ((BB.out).mono KB4.out.size)
  have M1n : Hid (Lies ((((y2.alloc (.cells #[.int .i64 0, .slice none 0 0, .string ⟨#[]⟩, .int .i64 0, .string ⟨#[]⟩, .int .u8 0, .int .u8 0, .int .u8 0, .int .u8 0, .int .u8 0, .int .u8 0, .int .u8 0, .int .u8 0, .int .u8 0, .int .u8 0, .int .u8 0, .int .u8 0, .int .u8 0, .int .u8 0, .int .u8 0, .int .u8 0] 32)).alloc (.cells #[.int .i64 0, .int .i64 0] 35)).setRow y2.heap.size V2).setRow (y2.heap.size + 1) #[.int .i64 (fr : Int), .int .i64 (fat : Int)]) (y1.heap.size) V1 32) := M1.out.below (BB.out) M1.out.lt
  clear M1
  have M1 := M1n
  clear M1n
  have N1n : Hid (Lies ((((y2.alloc (.cells #[.int .i64 0, .slice none 0 0, .string ⟨#[]⟩, .int .i64 0, .string ⟨#[]⟩, .int .u8 0, .int .u8 0, .int .u8 0, .int .u8 0, .int .u8 0, .int .u8 0, .int .u8 0, .int .u8 0, .int .u8 0, .int .u8 0, .int .u8 0, .int .u8 0, .int .u8 0, .int .u8 0, .int .u8 0, .int .u8 0] 32)).alloc (.cells #[.int .i64 0, .int .i64 0] 35)).setRow y2.heap.size V2).setRow (y2.heap.size + 1) #[.int .i64 (fr : Int), .int .i64 (fat : Int)]) (y1.heap.size + 1) #[.int .i64 (er : Int), .int .i64 (at' : Int)] 35) := N1.out.below (BB.out) N1.out.lt
  clear N1
  have N1 := N1n
  clear N1n
  have P1n : Hid (PA p V1 ((((y2.alloc (.cells #[.int .i64 0, .slice none 0 0, .string ⟨#[]⟩, .int .i64 0, .string ⟨#[]⟩, .int .u8 0, .int .u8 0, .int .u8 0, .int .u8 0, .int .u8 0, .int .u8 0, .int .u8 0, .int .u8 0, .int .u8 0, .int .u8 0, .int .u8 0, .int .u8 0, .int .u8 0, .int .u8 0, .int .u8 0, .int .u8 0] 32)).alloc (.cells #[.int .i64 0, .int .i64 0] 35)).setRow y2.heap.size V2).setRow (y2.heap.size + 1) #[.int .i64 (fr : Int), .int .i64 (fat : Int)])) := P1.out.below (BB.out)
  clear P1
  have P1 := P1n
  clear P1n
  have P2n : Hid (PA q V2 ((((y2.alloc (.cells #[.int .i64 0, .slice none 0 0, .string ⟨#[]⟩, .int .i64 0, .string ⟨#[]⟩, .int .u8 0, .int .u8 0, .int .u8 0, .int .u8 0, .int .u8 0, .int .u8 0, .int .u8 0, .int .u8 0, .int .u8 0, .int .u8 0, .int .u8 0, .int .u8 0, .int .u8 0, .int .u8 0, .int .u8 0, .int .u8 0] 32)).alloc (.cells #[.int .i64 0, .int .i64 0] 35)).setRow y2.heap.size V2).setRow (y2.heap.size + 1) #[.int .i64 (fr : Int), .int .i64 (fat : Int)])) := P2.out.below (BB.out)
  clear P2
  have P2 := P2n
  clear P2n
  clear KB4
  go_upto_region 5 with (first | (refine wpList_store_row rfl 32 _ _ rfl y2.heap.size rfl #[.int .i64 0, .slice none 0 0, .string ⟨#[]⟩, .int .i64 0, .string ⟨#[]⟩, .int .u8 0, .int .u8 0, .int .u8 0, .int .u8 0, .int .u8 0, .int .u8 0, .int .u8 0, .int .u8 0, .int .u8 0, .int .u8 0, .int .u8 0, .int .u8 0, .int .u8 0, .int .u8 0, .int .u8 0, .int .u8 0] V2 rfl 32 A.out (by rw [z2.out]; exact infoPt) (by rw [z2.out]; rfl) o2.out rfl ?_) | (refine wpList_store_row rfl 35 _ _ rfl (y2.heap.size + 1) rfl #[.int .i64 0, .int .i64 0] #[.int .i64 (fr : Int), .int .i64 (fat : Int)] rfl 35 (B.out.row_other (by omega) _) infoSp rfl (by simp [Value.oneCell']) rfl ?_))
  generalize hv2 : (((y2.alloc (.cells #[.int .i64 0, .slice none 0 0, .string ⟨#[]⟩, .int .i64 0, .string ⟨#[]⟩, .int .u8 0, .int .u8 0, .int .u8 0, .int .u8 0, .int .u8 0, .int .u8 0, .int .u8 0, .int .u8 0, .int .u8 0, .int .u8 0, .int .u8 0, .int .u8 0, .int .u8 0, .int .u8 0, .int .u8 0, .int .u8 0] 32)).alloc (.cells #[.int .i64 0, .int .i64 0] 35)).setRow y2.heap.size V2).setRow (y2.heap.size + 1) #[.int .i64 (fr : Int), .int .i64 (fat : Int)] = v2 at M2 N2 KB5 M1 N1 P1 P2 ⊢
  clear hv2 A B BB
  clear HH HR HF
  have f1 : v2.cell? ⟨y1.heap.size + 1, 0, none⟩ = some (.int .i64 (er : Int)) := N1.out.cell 0
  have f2 : v2.cell? ⟨y2.heap.size + 1, 0, none⟩ = some (.int .i64 (fr : Int)) := N2.out.cell 0
  by_cases her : er = 0
  · obtain ⟨hnm, hfr, hfa, HX⟩ := HP.out her
    have her' : ((er : Int) == 0) = true := by rw [her]; rfl
    have hnm' : ((n : Int) == (m : Int)) = true := by rw [hnm]; exact beq_self_eq_true _
    clear HP HQ
    have N2z : Hid (Lies v2 (y2.heap.size + 1) #[.int .i64 0, .int .i64 0] 35) := by
      have := N2.out
      rw [hfr, hfa] at this
      exact this
    clear N2
    have N2 := N2z
    clear N2z f2
    go_upto_region 6 with (first | (refine wpList_load_row9 (by rfl) 32 _ rfl (y1.heap.size) rfl V1 32 _ M1.out Tryz.underlying32 rfl (by rw [z1.out]; exact infoPt) ?_) | (refine wpList_load_row9 (by rfl) 35 _ rfl (y1.heap.size + 1) rfl #[.int .i64 (er : Int), .int .i64 (at' : Int)] 35 _ N1.out Tryz.underlying35 rfl infoSp ?_) | (refine wpList_load_row9 (by rfl) 32 _ rfl (y2.heap.size) rfl V2 32 _ M2.out Tryz.underlying32 rfl (by rw [z2.out]; exact infoPt) ?_) | (refine wpList_load_row9 (by rfl) 35 _ rfl (y2.heap.size + 1) rfl #[.int .i64 0, .int .i64 0] 35 _ N2.out Tryz.underlying35 rfl infoSp ?_))
    refine wp_region_lit ?_
    refine wpList_load_row9 (by rfl) 32 _ rfl (y1.heap.size) rfl V1 32 _ M1.out Tryz.underlying32 rfl (by rw [z1.out]; exact infoPt) ?_
    simp only [Act.put, List.setIfInBounds_toArray, List.set_cons_zero, List.set_cons_succ]
    refine wpList_load_row9 (by rfl) 32 _ rfl (y2.heap.size) rfl V2 32 _ M2.out Tryz.underlying32 rfl (by rw [z2.out]; exact infoPt) ?_
    simp only [Act.put, List.setIfInBounds_toArray, List.set_cons_zero, List.set_cons_succ]
    refine wpList_onG (by rfl) ?_
    go_simp
    refine Calls.mono (HX.sm _ _ _ P1.out P2.out) ?_
    rintro e c1 ⟨rfl, hc⟩
    have KB6 : Hid (Below w.heap.size w c1) := KB5.out.trans ((hc).mono KB5.out.size)
    have M1n : Hid (Lies c1 (y1.heap.size) V1 32) := M1.out.below (hc) M1.out.lt
    clear M1
    have M1 := M1n
    clear M1n
    have N1n : Hid (Lies c1 (y1.heap.size + 1) #[.int .i64 (er : Int), .int .i64 (at' : Int)] 35) := N1.out.below (hc) N1.out.lt
    clear N1
    have N1 := N1n
    clear N1n
    have M2n : Hid (Lies c1 (y2.heap.size) V2 32) := M2.out.below (hc) M2.out.lt
    clear M2
    have M2 := M2n
    clear M2n
    have N2n : Hid (Lies c1 (y2.heap.size + 1) #[.int .i64 0, .int .i64 0] 35) := N2.out.below (hc) N2.out.lt
    clear N2
    have N2 := N2n
    clear N2n
    have P1n : Hid (PA p V1 c1) := P1.out.below (hc)
    clear P1
    have P1 := P1n
    clear P1n
    have P2n : Hid (PA q V2 c1) := P2.out.below (hc)
    clear P2
    have P2 := P2n
    clear P2n
    clear KB5
    clear hc
    refine wpList_yieldG (.bool true) (by rfl) ?hy ?_
    case hy => (go_simp <;> (first | with_reducible rfl | omega | skip))
    simp only [Act.put, List.setIfInBounds_toArray, List.set_cons_zero, List.set_cons_succ]
    refine wpList_yieldG (.int .i64 (n : Int)) (by rfl) ?hy ?_
    case hy => (go_simp <;> (first | with_reducible rfl | omega | skip))
    simp only [Act.put, List.setIfInBounds_toArray, List.set_cons_zero, List.set_cons_succ]
    refine wpList_yieldG (.int .i64 (m : Int)) (by rfl) ?hy ?_
    case hy => (go_simp <;> (first | with_reducible rfl | omega | skip))
    simp only [Act.put, List.setIfInBounds_toArray, List.set_cons_zero, List.set_cons_succ]
    refine wpList_yieldG (.bool true) (by rfl) ?hy ?_
    case hy => (go_simp <;> (first | with_reducible rfl | omega | skip))
    simp only [Act.put, List.setIfInBounds_toArray, List.set_cons_zero, List.set_cons_succ]
    refine wpList_yieldG (.bool true) (by rfl) ?hy ?_
    case hy => (go_simp <;> (first | with_reducible rfl | omega | skip))
    simp only [Act.put, List.setIfInBounds_toArray, List.set_cons_zero, List.set_cons_succ]
    refine wpList_yieldG (.bool true) (by rfl) ?hy ?_
    case hy => (go_simp <;> (first | with_reducible rfl | omega | skip))
    simp only [Act.put, List.setIfInBounds_toArray, List.set_cons_zero, List.set_cons_succ]
    refine wpList_load_row9 (by rfl) 35 _ rfl (y2.heap.size + 1) rfl #[.int .i64 0, .int .i64 0] 35 _ N2.out Tryz.underlying35 rfl infoSp ?_
    simp only [Act.put, List.setIfInBounds_toArray, List.set_cons_zero, List.set_cons_succ]
    refine wpList_yieldG (.agg #[.int .i64 0, .int .i64 0]) (by rfl) ?hy ?_
    case hy => (go_simp <;> (first | with_reducible rfl | omega | skip))
    simp only [Act.put, List.setIfInBounds_toArray, List.set_cons_zero, List.set_cons_succ]
    refine wpList_yieldG (.bool true) (by rfl) ?hy ?_
    case hy => (go_simp <;> (first | with_reducible rfl | omega | skip))
    simp only [Act.put, List.setIfInBounds_toArray, List.set_cons_zero, List.set_cons_succ]
    refine wpList_yieldG (.bool true) (by rfl) ?hy ?_
    case hy => (go_simp <;> (first | with_reducible rfl | omega | skip))
    simp only [Act.put, List.setIfInBounds_toArray, List.set_cons_zero, List.set_cons_succ]
    refine wpList_yieldG (.bool true) (by rfl) ?hy ?_
    case hy => (go_simp <;> (first | with_reducible rfl | omega | skip))
    simp only [Act.put, List.setIfInBounds_toArray, List.set_cons_zero, List.set_cons_succ]
    refine wpList_load_row9 (by rfl) 32 _ rfl (y1.heap.size) rfl V1 32 _ M1.out Tryz.underlying32 rfl (by rw [z1.out]; exact infoPt) ?_
    simp only [Act.put, List.setIfInBounds_toArray, List.set_cons_zero, List.set_cons_succ]
    refine wpList_onG (by rfl) ?_
    go_simp
    refine Calls.mono (HX.wd _ _ KB6.out P1.out) ?_
    rintro e c2 ⟨rfl, hc⟩
    have KB7 : Hid (Below w.heap.size w c2) := KB6.out.trans ((hc).mono KB6.out.size)
    have M1n : Hid (Lies c2 (y1.heap.size) V1 32) := M1.out.below (hc) M1.out.lt
    clear M1
    have M1 := M1n
    clear M1n
    have N1n : Hid (Lies c2 (y1.heap.size + 1) #[.int .i64 (er : Int), .int .i64 (at' : Int)] 35) := N1.out.below (hc) N1.out.lt
    clear N1
    have N1 := N1n
    clear N1n
    have M2n : Hid (Lies c2 (y2.heap.size) V2 32) := M2.out.below (hc) M2.out.lt
    clear M2
    have M2 := M2n
    clear M2n
    have N2n : Hid (Lies c2 (y2.heap.size + 1) #[.int .i64 0, .int .i64 0] 35) := N2.out.below (hc) N2.out.lt
    clear N2
    have N2 := N2n
    clear N2n
    have P1n : Hid (PA p V1 c2) := P1.out.below (hc)
    clear P1
    have P1 := P1n
    clear P1n
    have P2n : Hid (PA q V2 c2) := P2.out.below (hc)
    clear P2
    have P2 := P2n
    clear P2n
    clear KB6
    clear hc
    refine wpList_yieldG (.bool true) (by rfl) ?hy ?_
    case hy => (go_simp <;> (first | with_reducible rfl | omega | skip))
    simp only [Act.put, List.setIfInBounds_toArray, List.set_cons_zero, List.set_cons_succ]
    refine wpList_yieldG (.bool true) (by rfl) ?hy ?_
    case hy => (go_simp <;> (first | with_reducible rfl | omega | skip))
    simp only [Act.put, List.setIfInBounds_toArray, List.set_cons_zero, List.set_cons_succ]
    refine wpList_yieldG (.bool true) (by rfl) ?hy ?_
    case hy => (go_simp <;> (first | with_reducible rfl | omega | skip))
    simp only [Act.put, List.setIfInBounds_toArray, List.set_cons_zero, List.set_cons_succ]
    refine wpList_load_row9 (by rfl) 32 _ rfl (y1.heap.size) rfl V1 32 _ M1.out Tryz.underlying32 rfl (by rw [z1.out]; exact infoPt) ?_
    simp only [Act.put, List.setIfInBounds_toArray, List.set_cons_zero, List.set_cons_succ]
    refine wpList_onG (by rfl) ?_
    go_simp
    refine Calls.mono (HX.ck true _ _ KB7.out P1.out) ?_
    rintro e c3 ⟨rfl, hc⟩
    have KB8 : Hid (Below w.heap.size w c3) := KB7.out.trans ((hc).mono KB7.out.size)
    have M1n : Hid (Lies c3 (y1.heap.size) V1 32) := M1.out.below (hc) M1.out.lt
    clear M1
    have M1 := M1n
    clear M1n
    have N1n : Hid (Lies c3 (y1.heap.size + 1) #[.int .i64 (er : Int), .int .i64 (at' : Int)] 35) := N1.out.below (hc) N1.out.lt
    clear N1
    have N1 := N1n
    clear N1n
    have M2n : Hid (Lies c3 (y2.heap.size) V2 32) := M2.out.below (hc) M2.out.lt
    clear M2
    have M2 := M2n
    clear M2n
    have N2n : Hid (Lies c3 (y2.heap.size + 1) #[.int .i64 0, .int .i64 0] 35) := N2.out.below (hc) N2.out.lt
    clear N2
    have N2 := N2n
    clear N2n
    have P1n : Hid (PA p V1 c3) := P1.out.below (hc)
    clear P1
    have P1 := P1n
    clear P1n
    have P2n : Hid (PA q V2 c3) := P2.out.below (hc)
    clear P2
    have P2 := P2n
    clear P2n
    clear KB7
    clear hc
    refine wpList_yieldG (.bool true) (by rfl) ?hy ?_
    case hy => (go_simp <;> (first | with_reducible rfl | omega | skip))
    simp only [Act.put, List.setIfInBounds_toArray, List.set_cons_zero, List.set_cons_succ]
    refine wpList_yieldG (.bool true) (by rfl) ?hy ?_
    case hy => (go_simp <;> (first | with_reducible rfl | omega | skip))
    simp only [Act.put, List.setIfInBounds_toArray, List.set_cons_zero, List.set_cons_succ]
    refine wpList_yieldG (.bool true) (by rfl) ?hy ?_
    case hy => (go_simp <;> (first | with_reducible rfl | omega | skip))
    simp only [Act.put, List.setIfInBounds_toArray, List.set_cons_zero, List.set_cons_succ]
    refine wpList_load_row9 (by rfl) 32 _ rfl (y1.heap.size) rfl V1 32 _ M1.out Tryz.underlying32 rfl (by rw [z1.out]; exact infoPt) ?_
    simp only [Act.put, List.setIfInBounds_toArray, List.set_cons_zero, List.set_cons_succ]
    refine wpList_onG (by rfl) ?_
    go_simp
    refine Calls.mono (HX.ck false _ _ KB8.out P1.out) ?_
    rintro e c4 ⟨rfl, hc⟩
    have KB9 : Hid (Below w.heap.size w c4) := KB8.out.trans ((hc).mono KB8.out.size)
    have M1n : Hid (Lies c4 (y1.heap.size) V1 32) := M1.out.below (hc) M1.out.lt
    clear M1
    have M1 := M1n
    clear M1n
    have N1n : Hid (Lies c4 (y1.heap.size + 1) #[.int .i64 (er : Int), .int .i64 (at' : Int)] 35) := N1.out.below (hc) N1.out.lt
    clear N1
    have N1 := N1n
    clear N1n
    have M2n : Hid (Lies c4 (y2.heap.size) V2 32) := M2.out.below (hc) M2.out.lt
    clear M2
    have M2 := M2n
    clear M2n
    have N2n : Hid (Lies c4 (y2.heap.size + 1) #[.int .i64 0, .int .i64 0] 35) := N2.out.below (hc) N2.out.lt
    clear N2
    have N2 := N2n
    clear N2n
    have P1n : Hid (PA p V1 c4) := P1.out.below (hc)
    clear P1
    have P1 := P1n
    clear P1n
    have P2n : Hid (PA q V2 c4) := P2.out.below (hc)
    clear P2
    have P2 := P2n
    clear P2n
    clear KB8
    clear hc
    refine wpList_yieldG (.bool true) (by rfl) ?hy ?_
    case hy => (go_simp <;> (first | with_reducible rfl | omega | skip))
    simp only [Act.put, List.setIfInBounds_toArray, List.set_cons_zero, List.set_cons_succ]
    refine wpList_yieldG (.bool true) (by rfl) ?hy ?_
    case hy => (go_simp <;> (first | with_reducible rfl | omega | skip))
    simp only [Act.put, List.setIfInBounds_toArray, List.set_cons_zero, List.set_cons_succ]
    refine wpList_yieldG (.bool true) (by rfl) ?hy ?_
    case hy => (go_simp <;> (first | with_reducible rfl | omega | skip))
    simp only [Act.put, List.setIfInBounds_toArray, List.set_cons_zero, List.set_cons_succ]
    refine wpList_nil ?_
    go_wp2
    go_ret
    exact ⟨rfl, KB9.out⟩
  · have her' : ((er : Int) == 0) = false := by rw [beq_eq_false_iff_ne]; omega
    clear HP
    by_cases hfr : fr = 0
    · have HX := HQ.out her hfr
      have hek := HX.no
      have hek' : ¬ (ek : Int) = 0 := by omega
      have hfr' : ((fr : Int) == 0) = true := by rw [hfr]; rfl
      clear HQ
      go_upto_region 8 with (first | (refine wpList_load_row9 (by rfl) 32 _ rfl (y1.heap.size) rfl V1 32 _ M1.out Tryz.underlying32 rfl (by rw [z1.out]; exact infoPt) ?_) | (refine wpList_load_row9 (by rfl) 35 _ rfl (y1.heap.size + 1) rfl #[.int .i64 (er : Int), .int .i64 (at' : Int)] 35 _ N1.out Tryz.underlying35 rfl infoSp ?_) | (refine wpList_load_row9 (by rfl) 32 _ rfl (y2.heap.size) rfl V2 32 _ M2.out Tryz.underlying32 rfl (by rw [z2.out]; exact infoPt) ?_) | (refine wpList_load_row9 (by rfl) 35 _ rfl (y2.heap.size + 1) rfl #[.int .i64 (fr : Int), .int .i64 (fat : Int)] 35 _ N2.out Tryz.underlying35 rfl infoSp ?_))
      refine wp_region_lit ?_
      refine wpList_load_row9 (by rfl) 32 _ rfl (y2.heap.size) rfl V2 32 _ M2.out Tryz.underlying32 rfl (by rw [z2.out]; exact infoPt) ?_
      simp only [Act.put, List.setIfInBounds_toArray, List.set_cons_zero, List.set_cons_succ]
      refine wpList_onG (by rfl) ?_
      go_simp
      refine Calls.mono (HX.wd _ _ KB5.out P2.out) ?_
      rintro e c1 ⟨rfl, hc⟩
      have KB6 : Hid (Below w.heap.size w c1) := KB5.out.trans ((hc).mono KB5.out.size)
      have M1n : Hid (Lies c1 (y1.heap.size) V1 32) := M1.out.below (hc) M1.out.lt
      clear M1
      have M1 := M1n
      clear M1n
      have N1n : Hid (Lies c1 (y1.heap.size + 1) #[.int .i64 (er : Int), .int .i64 (at' : Int)] 35) := N1.out.below (hc) N1.out.lt
      clear N1
      have N1 := N1n
      clear N1n
      have M2n : Hid (Lies c1 (y2.heap.size) V2 32) := M2.out.below (hc) M2.out.lt
      clear M2
      have M2 := M2n
      clear M2n
      have N2n : Hid (Lies c1 (y2.heap.size + 1) #[.int .i64 (fr : Int), .int .i64 (fat : Int)] 35) := N2.out.below (hc) N2.out.lt
      clear N2
      have N2 := N2n
      clear N2n
      have P1n : Hid (PA p V1 c1) := P1.out.below (hc)
      clear P1
      have P1 := P1n
      clear P1n
      have P2n : Hid (PA q V2 c1) := P2.out.below (hc)
      clear P2
      have P2 := P2n
      clear P2n
      clear KB5
      clear hc
      refine wpList_yieldG (.bool true) (by rfl) ?hy ?_
      case hy => (go_simp <;> (first | with_reducible rfl | omega | skip))
      simp only [Act.put, List.setIfInBounds_toArray, List.set_cons_zero, List.set_cons_succ]
      refine wpList_load_row9 (by rfl) 32 _ rfl (y2.heap.size) rfl V2 32 _ M2.out Tryz.underlying32 rfl (by rw [z2.out]; exact infoPt) ?_
      simp only [Act.put, List.setIfInBounds_toArray, List.set_cons_zero, List.set_cons_succ]
      refine wpList_onG (by rfl) ?_
      go_simp
      refine Calls.mono (HX.ck _ _ KB6.out P2.out) ?_
      rintro e c2 ⟨rfl, hc⟩
      have KB7 : Hid (Below w.heap.size w c2) := KB6.out.trans ((hc).mono KB6.out.size)
      have M1n : Hid (Lies c2 (y1.heap.size) V1 32) := M1.out.below (hc) M1.out.lt
      clear M1
      have M1 := M1n
      clear M1n
      have N1n : Hid (Lies c2 (y1.heap.size + 1) #[.int .i64 (er : Int), .int .i64 (at' : Int)] 35) := N1.out.below (hc) N1.out.lt
      clear N1
      have N1 := N1n
      clear N1n
      have M2n : Hid (Lies c2 (y2.heap.size) V2 32) := M2.out.below (hc) M2.out.lt
      clear M2
      have M2 := M2n
      clear M2n
      have N2n : Hid (Lies c2 (y2.heap.size + 1) #[.int .i64 (fr : Int), .int .i64 (fat : Int)] 35) := N2.out.below (hc) N2.out.lt
      clear N2
      have N2 := N2n
      clear N2n
      have P1n : Hid (PA p V1 c2) := P1.out.below (hc)
      clear P1
      have P1 := P1n
      clear P1n
      have P2n : Hid (PA q V2 c2) := P2.out.below (hc)
      clear P2
      have P2 := P2n
      clear P2n
      clear KB6
      clear hc
      refine wpList_yieldG (.bool true) (by rfl) ?hy ?_
      case hy => (go_simp <;> (first | with_reducible rfl | omega | skip))
      simp only [Act.put, List.setIfInBounds_toArray, List.set_cons_zero, List.set_cons_succ]
      refine wpList_yieldG (.bool true) (by rfl) ?hy ?_
      case hy => (go_simp <;> (first | with_reducible rfl | omega | skip))
      simp only [Act.put, List.setIfInBounds_toArray, List.set_cons_zero, List.set_cons_succ]
      refine wpList_yieldG (.bool true) (by rfl) ?hy ?_
      case hy => (go_simp <;> (first | with_reducible rfl | omega | skip))
      simp only [Act.put, List.setIfInBounds_toArray, List.set_cons_zero, List.set_cons_succ]
      refine wpList_nil ?_
      go_wp2
      go_ret
      exact ⟨rfl, KB7.out⟩
    · have hfr' : ((fr : Int) == 0) = false := by rw [beq_eq_false_iff_ne]; omega
      clear HQ
      go_wp2_with (first | (refine wpList_load_row9 (by rfl) 32 _ rfl (y1.heap.size) rfl V1 32 _ M1.out Tryz.underlying32 rfl (by rw [z1.out]; exact infoPt) ?_) | (refine wpList_load_row9 (by rfl) 35 _ rfl (y1.heap.size + 1) rfl #[.int .i64 (er : Int), .int .i64 (at' : Int)] 35 _ N1.out Tryz.underlying35 rfl infoSp ?_) | (refine wpList_load_row9 (by rfl) 32 _ rfl (y2.heap.size) rfl V2 32 _ M2.out Tryz.underlying32 rfl (by rw [z2.out]; exact infoPt) ?_) | (refine wpList_load_row9 (by rfl) 35 _ rfl (y2.heap.size + 1) rfl #[.int .i64 (fr : Int), .int .i64 (fat : Int)] 35 _ N2.out Tryz.underlying35 rfl infoSp ?_))
      go_ret
      exact ⟨rfl, KB5.out⟩
theorem walk (s : ByteArray) (ss : s.size ≤ 140737488351232) (w : World) (ht : Td w ∧ 10 ≤ w.heap.size) :
    Calls Tryz.prog 4 #[.string s] w fun e w' => e = .returned (.bool true) ∧ Below w.heap.size w w' := by
  have HT : ∀ wx, Below w.heap.size w wx → Td wx ∧ 10 ≤ wx.heap.size := fun wx hb => ⟨ht.1.below hb, Nat.le_trans ht.2 hb.size⟩
  have hR : ∀ (wide : Bool) (wx : World), Below w.heap.size w wx → Calls Tryz.prog 10 #[.string s, .bool wide] wx (PvV wx (pv (pth wide true s.data.toList))) := fun wide wx hb => rev_pv s ss wide wx (HT wx hb).1 (HT wx hb).2
  refine walkW s _ _ (pv_in false true s.data.toList) (pv_in true true s.data.toList) _ _ _ _ _ _ (ckP (pv (pth true true s.data.toList)).1 false) w (fun wx hx => head_any wx (HT wx hx).1 (HT wx hx).2) (fun wx hx => hR false wx hx) (fun wx hx => hR true wx hx) (fun h => ?_) (fun h h' => ?_)
  · obtain ⟨p, n, h1, h2⟩ := pv_zero h
    obtain ⟨h3, h4⟩ := pth_nar.1 h1
    obtain ⟨ok, hc⟩ := pth_ck h1
    have hc1 := (pth_ck h3).2
    have hin := ckP_in ok hc
    rw [h2, h3]
    refine ⟨rfl, rfl, rfl, ⟨fun wx V V1 hV hV1 => same_pa hin hV hV1, fun wx V hb hV => ?_, fun b wx V hb hV => ?_⟩⟩
    · have := wide_pa hin hV (HT wx hb).1
      rw [h4] at this
      exact this
    · have := check_pa hin hV (HT wx hb).1 b
      cases b
      · rw [hc] at this
        exact this
      · rw [hc1] at this
        exact this
  · obtain ⟨p, n, h1, h2⟩ := pv_zero h'
    obtain ⟨e, a, h3, _, _⟩ := pv_fault h
    obtain ⟨ok, hc⟩ := pth_ck h1
    have hin := ckP_in ok hc
    have hw : wideP p = true := by
      cases hq : wideP p
      · rw [pth_nar.2 ⟨h1, hq⟩] at h3
        cases h3
      · rfl
    rw [h2]
    refine ⟨fun wx V hb hV => ?_, fun wx V hb hV => check_pa hin hV (HT wx hb).1 false, fun h0 => ?_⟩
    · have := wide_pa hin hV (HT wx hb).1
      rw [hw] at this
      exact this
    · have := ckP_nar h0
      rw [hw] at this
      cases this

set_option maxRecDepth 100000 in
theorem contract (H : Type) (enc : TypeId × Value → H) (W : World) (base : Nat) (args : Array Value) (ds gs : List (DataW H)) (before : List MemPlace)
    (hval : ∀ (j : Nat) t v, Tryz.f4.params[j]? = some t → args[j]? = some v → Value.okWide Tryz.prog W .any base t v)
    (hW : DataW.Whole enc Tryz.prog Tryz.f4.params.toList Rows.pathNarrowSpec.vars false W args.toList ds gs before)
    (hsz : (DataW.weightsEach Tryz.prog (Tryz.f4.params.toList ++ (OpenSpec.ofChange Rows.pathNarrowSpec).bare.plain.varTypes Tryz.prog) (ds ++ gs)).all (· ≤ reachBytes) = true)
    (hL : laidMetH Tryz.prog Rows.pathNarrowRow.laid W) (hsh : W.ShapedOpen Tryz.prog) :
    Calls Tryz.prog 4 args W fun e W' => ∃ v, e = .returned v ∧ Rows.pathNarrowSpec.post enc Tryz.prog Tryz.f4 false true false false W args v W' := by
  have hW' := hW
  obtain ⟨p, q, hA0, hV, rfl, hfz, hnd⟩ := hW
  have hA : DataW.TrodAll enc Tryz.prog W 0 (fun _ => true) true Tryz.f4.params.toList args.toList ds p := hA0
  rw [Tryz.params4] at hA hval hsz
  obtain ⟨v0, vs0, d0, ds0, p0, q0, hargs, rfl, rfl, h0, r0⟩ := trodAll_cons hA
  obtain ⟨rfl, rfl, rfl⟩ := trodAll_nil r0
  obtain rfl : args = #[v0] := by cases args; simp_all
  obtain ⟨rfl, rfl⟩ := trodVars_none hV
  obtain ⟨a0, rfl, rfl, rfl, w0⟩ := open_string Tryz.underlying9 (hval 0 9 v0 rfl rfl) h0
  clear hA0
  have s0 := sized_string hsz (j := 0) (t := 9) rfl rfl
  simp only [reachBytes, Array.length_toList] at s0
  simp only [List.append_nil] at hW'
  refine (walk a0 s0 W (tabs9_of hL hsh)).mono fun e W' ⟨he, bel⟩ => ?_
  subst he
  exact ⟨_, rfl, _, _, _, [], [], [], hW', trodAll_mk1 (shut_bool Tryz.underlying4 _), trodAll_cons_mk (shut_string Tryz.underlying9 w0) trodAll_mk0, rfl, bel.frame _, fun h => by cases h⟩

set_option maxRecDepth 100000 in
theorem laid_met (os : Os) : laidMet Tryz.prog Rows.pathNarrowRow.laid ((laidWorld9 os).forCall (fun _ _ => 0) ⟨#[], #[.string ByteArray.empty], []⟩).memory :=
  laidMet_of_run' 8 (by kernel_rfl) (by kernel_rfl)
set_option maxRecDepth 100000 in
theorem reads (os : Os) {H : Type} (enc : TypeId × Value → H) : ∃ places, DataW.whole enc Tryz.prog ((laidWorld9 os).forCall (fun _ _ => 0) ⟨#[], #[.string ByteArray.empty], []⟩).memory Tryz.f4.params.toList Rows.pathNarrowSpec.vars false #[Value.string ByteArray.empty].toList 8 = some ([.lit (.string [])], [], places) :=
  ⟨[], by kernel_rfl⟩

set_option maxRecDepth 100000 in
theorem lifted (os : Os) (started : os.Started) (H : Type) (enc : TypeId × Value → H) (F : Stop.Interp) :
    ReturnsInHanded {} Tryz.checked os 4 .any ((OpenSpec.ofChange Rows.pathNarrowSpec).preRow enc Tryz.prog Tryz.f4 Rows.pathNarrowRow.domain false Rows.pathNarrowRow.laid) (((OpenSpec.ofChange Rows.pathNarrowSpec).at F).post enc Tryz.prog Tryz.f4 false true false false) := by
  obtain ⟨places, hx⟩ := reads os enc
  refine returnsInHanded_of_row (C := Tryz.checked) (s := OpenSpec.ofChange Rows.pathNarrowSpec) own started (by kernel_rfl) Tryz.func4
    (witness_row_at (enc := enc) (C := Tryz.checked) false (laidWorld9 os) #[.string ByteArray.empty] rfl (by kernel_rfl) (by kernel_rfl) (by kernel_rfl)
      (OpenSpec.preRow_of_cond 8 hx (by kernel_rfl) (fun k hk => by cases hk) (by kernel_rfl) (laid_met os))) ?_
  intro W base args ds gs before hval hW _ _ hsz hL hsh _
  exact contract H enc W base args ds gs before hval hW hsz hL hsh

theorem said : Rows.PathNarrowSaid :=
  OpenClaim.holds_of_cond 4 Tryz.f4 rfl rfl rfl rfl rfl rfl rfl ⟨rfl, rfl, rfl, rfl, rfl⟩ rfl rfl rfl rfl rfl (by kernel_rfl) Tryz.func4 (by kernel_rfl)
    (of_decide_eq_true (by kernel_rfl)) (by unfold Func.isWrapper; first | (rw [if_pos (by decide +kernel)]; kernel_rfl) | (rw [if_neg (by decide +kernel)]; exact ⟨rfl, rfl⟩))
    (fun os started H enc _ F => by rw [OpenClaim.pre_eq_preRow]; exact lifted os started H enc F)

/-- No parameter wants a stand-in; the program's own looks are off. -/
theorem plain (f : FuncId) (fn : Func) (hf : Tryz.pinned.checked.prog.funcNamed "posthorn/posthornlaw09.PathNarrow" = some f) (hfn : Tryz.pinned.checked.prog.funcs[f]? = some fn) :
    true = Tryz.pinned.checked.prog.looks [] ∧ ∀ (j : Nat) t, fn.params[j]? = some t → Tryz.pinned.checked.prog.wantsStandIn t = false := by
  obtain rfl : f = 4 := Option.some.inj ((show Tryz.prog.funcNamed "posthorn/posthornlaw09.PathNarrow" = some 4 by kernel_rfl).symm.trans hf) |>.symm
  obtain rfl : fn = Tryz.f4 := (Option.some.inj (Tryz.func4.symm.trans hfn)).symm
  refine ⟨by kernel_rfl, fun j t ht => ?_⟩
  rw [Tryz.params4] at ht
  have hm : t ∈ [9] := by simpa using Array.mem_of_getElem? ht
  have hall : ([9].all fun u => !Tryz.prog.wantsStandIn u) = true := by kernel_rfl
  exact (show Tryz.prog.wantsStandIn t = false by simpa using List.all_eq_true.1 hall t hm)

/-- The card. -/
theorem card : Rows.PathNarrowCardSaid :=
  Claim7.holds_tied_plain_at .later [] _ _ _ _ said (fun _ h => by cases h) (by kernel_rfl) (fun _ h => by cases h) pathNarrow_row_tie rfl ⟨rfl, rfl⟩ (by kernel_rfl) rfl plain (by kernel_rfl)
end Go.Proofs.YtfjpkfhbmldmfabGreatDoor.pathNarrow
namespace Go.Proofs.YtfjpkfhbmldmfabGreatDoor
theorem pathNarrow_card : Rows.PathNarrowCardSaid := pathNarrow.card
#print axioms pathNarrow_card
end Go.Proofs.YtfjpkfhbmldmfabGreatDoor
