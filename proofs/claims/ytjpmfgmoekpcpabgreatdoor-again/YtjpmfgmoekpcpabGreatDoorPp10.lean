/-
  The program's parseOne.
-/
import Derived.Test.YtjpmfgmoekpcpabGreatDoorPk10
import Derived.Test.YtjpmfgmoekpcpabGreatDoorPmC10
namespace Go.Proofs.YtjpmfgmoekpcpabGreatDoor
open Go.RowKit

set_option maxHeartbeats 8000000 in
set_option maxRecDepth 100000 in
theorem pone_none (s : ByteArray) (f E : Nat) (wide : Bool) (_hf : f ≤ s.size) (_hE : E ≤ s.size) (_hs : s.size ≤ 140737488355328) (w : World)
    (HK : Hid (∀ wx, Below w.heap.size w wx → Calls Tryz.prog 80 #[.string s, .int .i64 (f : Int)] wx fun e w' => e = .returned (.int .i64 (E : Int)) ∧ w' = wx)) (hq : ((E : Int) == (f : Int)) = true) :
    Calls Tryz.prog 37 #[.string s, .int .i64 (f : Int), .bool wide] w fun e w' => e = .returned (.tuple #[.agg #[.string ⟨#[]⟩, .string ⟨#[]⟩, .bool false], .int .i64 0, .agg #[.int .i64 100, .int .i64 (E : Int)]]) ∧ Below w.heap.size w w' := by
  have HL6 : Hid (Lies ((w.alloc (.cells #[.string ⟨#[]⟩, .string ⟨#[]⟩, .bool false] 54)).alloc (.cells #[.int .i64 0, .int .i64 0] 28)) w.heap.size #[.string ⟨#[]⟩, .string ⟨#[]⟩, .bool false] 54) := (Lies.new w _ _).alloc _
  have HL8 : Hid (Lies ((w.alloc (.cells #[.string ⟨#[]⟩, .string ⟨#[]⟩, .bool false] 54)).alloc (.cells #[.int .i64 0, .int .i64 0] 28)) (w.heap.size + 1) #[.int .i64 0, .int .i64 0] 28) := by
    have := Lies.new (w.alloc (.cells #[.string ⟨#[]⟩, .string ⟨#[]⟩, .bool false] 54)) #[.int .i64 0, .int .i64 0] 28
    rw [World.size_alloc] at this
    exact this
  have HKB : Hid (Below w.heap.size w ((w.alloc (.cells #[.string ⟨#[]⟩, .string ⟨#[]⟩, .bool false] 54)).alloc (.cells #[.int .i64 0, .int .i64 0] 28))) := ((Below.refl _ _).alloc (Nat.le_refl _) _).alloc (by simp) _
  go_enter Tryz.func37, Tryz.ntmps37
  go_upto_region 1 with fail
  generalize ((w.alloc (.cells #[.string ⟨#[]⟩, .string ⟨#[]⟩, .bool false] 54)).alloc (.cells #[.int .i64 0, .int .i64 0] 28)) = v0 at HL6 HL8 HKB ⊢
  go_wp2_with (first
    | (go_at_call 80; refine (HK.out _ HKB.out).mono ?_; rintro e wd ⟨rfl, rfl⟩)
    | (refine wpList_store_row rfl 54 _ _ rfl w.heap.size rfl _ #[.string ⟨#[]⟩, .string ⟨#[]⟩, .bool false] rfl 54 HL6.out infoPm rfl (by simp [Value.oneCell']) rfl ?_)
    | (refine wpList_store_row rfl 28 _ _ rfl (w.heap.size + 1) rfl _ #[.int .i64 100, .int .i64 (E : Int)] rfl 28 (HL8.out.row_other (by omega) _) infoSp rfl (by simp [Value.oneCell']) rfl ?_))
  refine bodyPost_ret (res_cvc (p := 6) (q := 7) (r := 8) (by kernel_rfl) _ _ w.heap.size (w.heap.size + 1) #[.string ⟨#[]⟩, .string ⟨#[]⟩, .bool false] #[.int .i64 100, .int .i64 (E : Int)] _ _ (.int .i64 0) rfl rfl rfl ((HL6.out.row #[.string ⟨#[]⟩, .string ⟨#[]⟩, .bool false]).row_other (by omega) _) ((HL8.out.row_other (by omega) #[.string ⟨#[]⟩, .string ⟨#[]⟩, .bool false]).row #[.int .i64 100, .int .i64 (E : Int)]) Tryz.underlying54 rfl infoPm Tryz.underlying28 rfl infoSp) rfl ⟨rfl, below_row (below_row HKB.out (Nat.le_refl _) _) (by omega) _⟩
set_option maxHeartbeats 8000000 in
set_option maxRecDepth 100000 in
theorem pone_bad (s : ByteArray) (f E : Nat) (wide : Bool) (_hf : f ≤ s.size) (_hE : E ≤ s.size) (_hs : s.size ≤ 140737488355328) (w : World)
    (HK : Hid (∀ wx, Below w.heap.size w wx → Calls Tryz.prog 80 #[.string s, .int .i64 (f : Int)] wx fun e w' => e = .returned (.int .i64 (E : Int)) ∧ w' = wx)) (hq : ((E : Int) == (f : Int)) = false) (hl : E < s.size) (h61 : ((s[E].toNat : Int) != 61) = true) (h32 : ((s[E].toNat : Int) != 32) = true) :
    Calls Tryz.prog 37 #[.string s, .int .i64 (f : Int), .bool wide] w fun e w' => e = .returned (.tuple #[.agg #[.string ⟨#[]⟩, .string ⟨#[]⟩, .bool false], .int .i64 0, .agg #[.int .i64 100, .int .i64 (E : Int)]]) ∧ Below w.heap.size w w' := by
  have HL6 : Hid (Lies ((w.alloc (.cells #[.string ⟨#[]⟩, .string ⟨#[]⟩, .bool false] 54)).alloc (.cells #[.int .i64 0, .int .i64 0] 28)) w.heap.size #[.string ⟨#[]⟩, .string ⟨#[]⟩, .bool false] 54) := (Lies.new w _ _).alloc _
  have HL8 : Hid (Lies ((w.alloc (.cells #[.string ⟨#[]⟩, .string ⟨#[]⟩, .bool false] 54)).alloc (.cells #[.int .i64 0, .int .i64 0] 28)) (w.heap.size + 1) #[.int .i64 0, .int .i64 0] 28) := by
    have := Lies.new (w.alloc (.cells #[.string ⟨#[]⟩, .string ⟨#[]⟩, .bool false] 54)) #[.int .i64 0, .int .i64 0] 28
    rw [World.size_alloc] at this
    exact this
  have HKB : Hid (Below w.heap.size w ((w.alloc (.cells #[.string ⟨#[]⟩, .string ⟨#[]⟩, .bool false] 54)).alloc (.cells #[.int .i64 0, .int .i64 0] 28))) := ((Below.refl _ _).alloc (Nat.le_refl _) _).alloc (by simp) _
  go_enter Tryz.func37, Tryz.ntmps37
  go_upto_region 1 with fail
  generalize ((w.alloc (.cells #[.string ⟨#[]⟩, .string ⟨#[]⟩, .bool false] 54)).alloc (.cells #[.int .i64 0, .int .i64 0] 28)) = v0 at HL6 HL8 HKB ⊢
  go_wp2_with (first
    | (go_at_call 80; refine (HK.out _ HKB.out).mono ?_; rintro e wd ⟨rfl, rfl⟩)
    | (refine wpList_store_row rfl 54 _ _ rfl w.heap.size rfl _ #[.string ⟨#[]⟩, .string ⟨#[]⟩, .bool false] rfl 54 HL6.out infoPm rfl (by simp [Value.oneCell']) rfl ?_)
    | (refine wpList_store_row rfl 28 _ _ rfl (w.heap.size + 1) rfl _ #[.int .i64 100, .int .i64 (E : Int)] rfl 28 (HL8.out.row_other (by omega) _) infoSp rfl (by simp [Value.oneCell']) rfl ?_))
  refine bodyPost_ret (res_cvc (p := 6) (q := 7) (r := 8) (by kernel_rfl) _ _ w.heap.size (w.heap.size + 1) #[.string ⟨#[]⟩, .string ⟨#[]⟩, .bool false] #[.int .i64 100, .int .i64 (E : Int)] _ _ (.int .i64 0) rfl rfl rfl ((HL6.out.row #[.string ⟨#[]⟩, .string ⟨#[]⟩, .bool false]).row_other (by omega) _) ((HL8.out.row_other (by omega) #[.string ⟨#[]⟩, .string ⟨#[]⟩, .bool false]).row #[.int .i64 100, .int .i64 (E : Int)]) Tryz.underlying54 rfl infoPm Tryz.underlying28 rfl infoSp) rfl ⟨rfl, below_row (below_row HKB.out (Nat.le_refl _) _) (by omega) _⟩
set_option maxHeartbeats 8000000 in
set_option maxRecDepth 100000 in
theorem pone_end (s : ByteArray) (f E : Nat) (wide : Bool) (hf : f ≤ s.size) (hE : E ≤ s.size) (_hs : s.size ≤ 140737488355328) (w : World)
    (HK : Hid (∀ wx, Below w.heap.size w wx → Calls Tryz.prog 80 #[.string s, .int .i64 (f : Int)] wx fun e w' => e = .returned (.int .i64 (E : Int)) ∧ w' = wx)) (U : ByteArray) (_hfE : f ≤ E) (hq : ((E : Int) == (f : Int)) = false) (hl : ((E : Int) == (s.size : Int)) = true) (hn : ¬ (E : Int) < (s.size : Int)) (HU : Hid (∀ wx, Below w.heap.size w wx → Calls Tryz.prog 26 #[.string (s.extract f E)] wx fun e w' => e = .returned (.string U) ∧ Below wx.heap.size wx w')) :
    Calls Tryz.prog 37 #[.string s, .int .i64 (f : Int), .bool wide] w fun e w' => e = .returned (.tuple #[.agg #[.string U, .string ⟨#[]⟩, .bool false], .int .i64 (E : Int), .agg #[.int .i64 0, .int .i64 0]]) ∧ Below w.heap.size w w' := by
  have HL6 : Hid (Lies ((w.alloc (.cells #[.string ⟨#[]⟩, .string ⟨#[]⟩, .bool false] 54)).alloc (.cells #[.int .i64 0, .int .i64 0] 28)) w.heap.size #[.string ⟨#[]⟩, .string ⟨#[]⟩, .bool false] 54) := (Lies.new w _ _).alloc _
  have HL8 : Hid (Lies ((w.alloc (.cells #[.string ⟨#[]⟩, .string ⟨#[]⟩, .bool false] 54)).alloc (.cells #[.int .i64 0, .int .i64 0] 28)) (w.heap.size + 1) #[.int .i64 0, .int .i64 0] 28) := by
    have := Lies.new (w.alloc (.cells #[.string ⟨#[]⟩, .string ⟨#[]⟩, .bool false] 54)) #[.int .i64 0, .int .i64 0] 28
    rw [World.size_alloc] at this
    exact this
  have HKB : Hid (Below w.heap.size w ((w.alloc (.cells #[.string ⟨#[]⟩, .string ⟨#[]⟩, .bool false] 54)).alloc (.cells #[.int .i64 0, .int .i64 0] 28))) := ((Below.refl _ _).alloc (Nat.le_refl _) _).alloc (by simp) _
  go_enter Tryz.func37, Tryz.ntmps37
  go_upto_region 1 with fail
  generalize ((w.alloc (.cells #[.string ⟨#[]⟩, .string ⟨#[]⟩, .bool false] 54)).alloc (.cells #[.int .i64 0, .int .i64 0] 28)) = v0 at HL6 HL8 HKB ⊢
  have hEf : (f : Int) ≤ (E : Int) := by omega
  have hEs : (E : Int) ≤ (s.size : Int) := by omega
  go_upto_region 5 with (first
    | (go_at_call 80; refine (HK.out _ HKB.out).mono ?_; rintro e wd ⟨rfl, rfl⟩)
    | (go_at_call 26; refine (HU.out _ HKB.out).mono ?_; rintro e w1 ⟨rfl, hb1⟩))
  have M6 : Hid (Lies (w1.alloc (.cells #[.string U, .string ⟨#[]⟩, .bool false] 54)) w.heap.size #[.string ⟨#[]⟩, .string ⟨#[]⟩, .bool false] 54) := (HL6.out.below hb1 HL6.out.lt).alloc _
  have M8 : Hid (Lies (w1.alloc (.cells #[.string U, .string ⟨#[]⟩, .bool false] 54)) (w.heap.size + 1) #[.int .i64 0, .int .i64 0] 28) := (HL8.out.below hb1 HL8.out.lt).alloc _
  have M10 : Hid (Lies (w1.alloc (.cells #[.string U, .string ⟨#[]⟩, .bool false] 54)) w1.heap.size #[.string U, .string ⟨#[]⟩, .bool false] 54) := Lies.new w1 _ _
  have MB : Hid (Below w.heap.size w (w1.alloc (.cells #[.string U, .string ⟨#[]⟩, .bool false] 54))) := (HKB.out.trans (hb1.mono HKB.out.size)).alloc (Nat.le_trans HKB.out.size hb1.size) _
  have hb10 : w.heap.size + 1 < w1.heap.size := Nat.lt_of_lt_of_le HL8.out.lt hb1.size
  clear hb1 HL6 HL8 HKB HK HU
  generalize w1.alloc (.cells #[.string U, .string ⟨#[]⟩, .bool false] 54) = v1 at M6 M8 M10 MB ⊢
  generalize w1.heap.size = b at M10 hb10 ⊢
  go_wp2_with (first
    | (refine wpList_load_row rfl 54 _ rfl b rfl #[.string U, .string ⟨#[]⟩, .bool false] 54 _ M10.out Tryz.underlying54 rfl infoPm ?_)
    | (refine wpList_store_row rfl 54 _ _ rfl w.heap.size rfl _ #[.string U, .string ⟨#[]⟩, .bool false] rfl 54 M6.out infoPm rfl (by simp [Value.oneCell']) rfl ?_)
    | (refine wpList_store_row rfl 28 _ _ rfl (w.heap.size + 1) rfl _ #[.int .i64 0, .int .i64 0] rfl 28 (M8.out.row_other (by omega) _) infoSp rfl (by simp [Value.oneCell']) rfl ?_))
  refine bodyPost_ret (res_cvc (p := 6) (q := 7) (r := 8) (by kernel_rfl) _ _ w.heap.size (w.heap.size + 1) #[.string U, .string ⟨#[]⟩, .bool false] #[.int .i64 0, .int .i64 0] _ _ (.int .i64 (E : Int)) rfl rfl rfl ((M6.out.row #[.string U, .string ⟨#[]⟩, .bool false]).row_other (by omega) _) ((M8.out.row_other (by omega) #[.string U, .string ⟨#[]⟩, .bool false]).row #[.int .i64 0, .int .i64 0]) Tryz.underlying54 rfl infoPm Tryz.underlying28 rfl infoSp) rfl ⟨rfl, below_row (below_row MB.out (Nat.le_refl _) _) (by omega) _⟩
set_option maxHeartbeats 8000000 in
set_option maxRecDepth 100000 in
theorem pone_blank (s : ByteArray) (f E : Nat) (wide : Bool) (_hf : f ≤ s.size) (_hE : E ≤ s.size) (_hs : s.size ≤ 140737488355328) (w : World)
    (HK : Hid (∀ wx, Below w.heap.size w wx → Calls Tryz.prog 80 #[.string s, .int .i64 (f : Int)] wx fun e w' => e = .returned (.int .i64 (E : Int)) ∧ w' = wx)) (U : ByteArray) (hfE : f ≤ E) (hq : ((E : Int) == (f : Int)) = false) (hl : E < s.size) (hn : ((E : Int) == (s.size : Int)) = false) (h61 : ((s[E].toNat : Int) != 61) = true) (h32 : ((s[E].toNat : Int) != 32) = false) (e32 : ((s[E].toNat : Int) == 32) = true) (HU : Hid (∀ wx, Below w.heap.size w wx → Calls Tryz.prog 26 #[.string (s.extract f E)] wx fun e w' => e = .returned (.string U) ∧ Below wx.heap.size wx w')) :
    Calls Tryz.prog 37 #[.string s, .int .i64 (f : Int), .bool wide] w fun e w' => e = .returned (.tuple #[.agg #[.string U, .string ⟨#[]⟩, .bool false], .int .i64 (E : Int), .agg #[.int .i64 0, .int .i64 0]]) ∧ Below w.heap.size w w' := by
  have HL6 : Hid (Lies ((w.alloc (.cells #[.string ⟨#[]⟩, .string ⟨#[]⟩, .bool false] 54)).alloc (.cells #[.int .i64 0, .int .i64 0] 28)) w.heap.size #[.string ⟨#[]⟩, .string ⟨#[]⟩, .bool false] 54) := (Lies.new w _ _).alloc _
  have HL8 : Hid (Lies ((w.alloc (.cells #[.string ⟨#[]⟩, .string ⟨#[]⟩, .bool false] 54)).alloc (.cells #[.int .i64 0, .int .i64 0] 28)) (w.heap.size + 1) #[.int .i64 0, .int .i64 0] 28) := by
    have := Lies.new (w.alloc (.cells #[.string ⟨#[]⟩, .string ⟨#[]⟩, .bool false] 54)) #[.int .i64 0, .int .i64 0] 28
    rw [World.size_alloc] at this
    exact this
  have HKB : Hid (Below w.heap.size w ((w.alloc (.cells #[.string ⟨#[]⟩, .string ⟨#[]⟩, .bool false] 54)).alloc (.cells #[.int .i64 0, .int .i64 0] 28))) := ((Below.refl _ _).alloc (Nat.le_refl _) _).alloc (by simp) _
  go_enter Tryz.func37, Tryz.ntmps37
  go_upto_region 1 with fail
  generalize ((w.alloc (.cells #[.string ⟨#[]⟩, .string ⟨#[]⟩, .bool false] 54)).alloc (.cells #[.int .i64 0, .int .i64 0] 28)) = v0 at HL6 HL8 HKB ⊢
  have hEf : (f : Int) ≤ (E : Int) := by omega
  have hEs : (E : Int) ≤ (s.size : Int) := by omega
  go_upto_region 5 with (first
    | (go_at_call 80; refine (HK.out _ HKB.out).mono ?_; rintro e wd ⟨rfl, rfl⟩)
    | (go_at_call 26; refine (HU.out _ HKB.out).mono ?_; rintro e w1 ⟨rfl, hb1⟩))
  have M6 : Hid (Lies (w1.alloc (.cells #[.string U, .string ⟨#[]⟩, .bool false] 54)) w.heap.size #[.string ⟨#[]⟩, .string ⟨#[]⟩, .bool false] 54) := (HL6.out.below hb1 HL6.out.lt).alloc _
  have M8 : Hid (Lies (w1.alloc (.cells #[.string U, .string ⟨#[]⟩, .bool false] 54)) (w.heap.size + 1) #[.int .i64 0, .int .i64 0] 28) := (HL8.out.below hb1 HL8.out.lt).alloc _
  have M10 : Hid (Lies (w1.alloc (.cells #[.string U, .string ⟨#[]⟩, .bool false] 54)) w1.heap.size #[.string U, .string ⟨#[]⟩, .bool false] 54) := Lies.new w1 _ _
  have MB : Hid (Below w.heap.size w (w1.alloc (.cells #[.string U, .string ⟨#[]⟩, .bool false] 54))) := (HKB.out.trans (hb1.mono HKB.out.size)).alloc (Nat.le_trans HKB.out.size hb1.size) _
  have hb10 : w.heap.size + 1 < w1.heap.size := Nat.lt_of_lt_of_le HL8.out.lt hb1.size
  clear hb1 HL6 HL8 HKB HK HU
  generalize w1.alloc (.cells #[.string U, .string ⟨#[]⟩, .bool false] 54) = v1 at M6 M8 M10 MB ⊢
  generalize w1.heap.size = b at M10 hb10 ⊢
  go_wp2_with (first
    | (refine wpList_load_row rfl 54 _ rfl b rfl #[.string U, .string ⟨#[]⟩, .bool false] 54 _ M10.out Tryz.underlying54 rfl infoPm ?_)
    | (refine wpList_store_row rfl 54 _ _ rfl w.heap.size rfl _ #[.string U, .string ⟨#[]⟩, .bool false] rfl 54 M6.out infoPm rfl (by simp [Value.oneCell']) rfl ?_)
    | (refine wpList_store_row rfl 28 _ _ rfl (w.heap.size + 1) rfl _ #[.int .i64 0, .int .i64 0] rfl 28 (M8.out.row_other (by omega) _) infoSp rfl (by simp [Value.oneCell']) rfl ?_))
  refine bodyPost_ret (res_cvc (p := 6) (q := 7) (r := 8) (by kernel_rfl) _ _ w.heap.size (w.heap.size + 1) #[.string U, .string ⟨#[]⟩, .bool false] #[.int .i64 0, .int .i64 0] _ _ (.int .i64 (E : Int)) rfl rfl rfl ((M6.out.row #[.string U, .string ⟨#[]⟩, .bool false]).row_other (by omega) _) ((M8.out.row_other (by omega) #[.string U, .string ⟨#[]⟩, .bool false]).row #[.int .i64 0, .int .i64 0]) Tryz.underlying54 rfl infoPm Tryz.underlying28 rfl infoSp) rfl ⟨rfl, below_row (below_row MB.out (Nat.le_refl _) _) (by omega) _⟩
set_option maxHeartbeats 8000000 in
set_option maxRecDepth 100000 in
theorem pone_empty (s : ByteArray) (f E : Nat) (wide : Bool) (_hf : f ≤ s.size) (_hE : E ≤ s.size) (hs : s.size ≤ 140737488355328) (w : World)
    (HK : Hid (∀ wx, Below w.heap.size w wx → Calls Tryz.prog 80 #[.string s, .int .i64 (f : Int)] wx fun e w' => e = .returned (.int .i64 (E : Int)) ∧ w' = wx)) (U A B : ByteArray) (fd : Bool) (N : Nat) (hfE : f ≤ E) (hq : ((E : Int) == (f : Int)) = false) (hl : E < s.size) (hn : ((E : Int) == (s.size : Int)) = false) (h61 : ((s[E].toNat : Int) != 61) = false) (e32 : ((s[E].toNat : Int) == 32) = false) (_hA : A.size ≤ s.size) (hN : N ≤ s.size) (HU : Hid (∀ wx, Below w.heap.size w wx → Calls Tryz.prog 26 #[.string (s.extract f E)] wx fun e w' => e = .returned (.string U) ∧ Below wx.heap.size wx w')) (HC : Hid (∀ wx, Below w.heap.size w wx → Calls Tryz.prog 85 #[.string (s.extract (E + 1) s.size), .string ⟨#[32]⟩] wx fun e w' => e = .returned (.tuple #[.string A, .string B, .bool fd]) ∧ Below wx.heap.size wx w')) (HV : Hid (∀ wx, Below w.heap.size w wx → Calls Tryz.prog 81 #[.string A, .bool wide] wx fun e w' => e = .returned (.int .i64 (N : Int)) ∧ Below wx.heap.size wx w')) (he : A.toList.isEmpty = true) :
    Calls Tryz.prog 37 #[.string s, .int .i64 (f : Int), .bool wide] w fun e w' => e = .returned (.tuple #[.agg #[.string ⟨#[]⟩, .string ⟨#[]⟩, .bool false], .int .i64 0, .agg #[.int .i64 101, .int .i64 ((E : Int) + 1 + (N : Int))]]) ∧ Below w.heap.size w w' := by
  have HL6 : Hid (Lies ((w.alloc (.cells #[.string ⟨#[]⟩, .string ⟨#[]⟩, .bool false] 54)).alloc (.cells #[.int .i64 0, .int .i64 0] 28)) w.heap.size #[.string ⟨#[]⟩, .string ⟨#[]⟩, .bool false] 54) := (Lies.new w _ _).alloc _
  have HL8 : Hid (Lies ((w.alloc (.cells #[.string ⟨#[]⟩, .string ⟨#[]⟩, .bool false] 54)).alloc (.cells #[.int .i64 0, .int .i64 0] 28)) (w.heap.size + 1) #[.int .i64 0, .int .i64 0] 28) := by
    have := Lies.new (w.alloc (.cells #[.string ⟨#[]⟩, .string ⟨#[]⟩, .bool false] 54)) #[.int .i64 0, .int .i64 0] 28
    rw [World.size_alloc] at this
    exact this
  have HKB : Hid (Below w.heap.size w ((w.alloc (.cells #[.string ⟨#[]⟩, .string ⟨#[]⟩, .bool false] 54)).alloc (.cells #[.int .i64 0, .int .i64 0] 28))) := ((Below.refl _ _).alloc (Nat.le_refl _) _).alloc (by simp) _
  go_enter Tryz.func37, Tryz.ntmps37
  go_upto_region 1 with fail
  generalize ((w.alloc (.cells #[.string ⟨#[]⟩, .string ⟨#[]⟩, .bool false] 54)).alloc (.cells #[.int .i64 0, .int .i64 0] 28)) = v0 at HL6 HL8 HKB ⊢
  have hEf : (f : Int) ≤ (E : Int) := by omega
  have hEs : (E : Int) ≤ (s.size : Int) := by omega
  go_upto_region 5 with (first
    | (go_at_call 80; refine (HK.out _ HKB.out).mono ?_; rintro e wd ⟨rfl, rfl⟩)
    | (go_at_call 26; refine (HU.out _ HKB.out).mono ?_; rintro e w1 ⟨rfl, hb1⟩))
  have M6 : Hid (Lies (w1.alloc (.cells #[.string U, .string ⟨#[]⟩, .bool false] 54)) w.heap.size #[.string ⟨#[]⟩, .string ⟨#[]⟩, .bool false] 54) := (HL6.out.below hb1 HL6.out.lt).alloc _
  have M8 : Hid (Lies (w1.alloc (.cells #[.string U, .string ⟨#[]⟩, .bool false] 54)) (w.heap.size + 1) #[.int .i64 0, .int .i64 0] 28) := (HL8.out.below hb1 HL8.out.lt).alloc _
  have M10 : Hid (Lies (w1.alloc (.cells #[.string U, .string ⟨#[]⟩, .bool false] 54)) w1.heap.size #[.string U, .string ⟨#[]⟩, .bool false] 54) := Lies.new w1 _ _
  have MB : Hid (Below w.heap.size w (w1.alloc (.cells #[.string U, .string ⟨#[]⟩, .bool false] 54))) := (HKB.out.trans (hb1.mono HKB.out.size)).alloc (Nat.le_trans HKB.out.size hb1.size) _
  have hb10 : w.heap.size + 1 < w1.heap.size := Nat.lt_of_lt_of_le HL8.out.lt hb1.size
  clear hb1 HL6 HL8 HKB HK HU
  generalize w1.alloc (.cells #[.string U, .string ⟨#[]⟩, .bool false] 54) = v1 at M6 M8 M10 MB ⊢
  generalize w1.heap.size = b at M10 hb10 ⊢
  have c2 := M10.out.cell 2
  have f2 := M10.out.frozen 2
  have hE1 : (E : Int) + 1 ≤ (s.size : Int) := by omega
  go_upto_region 9 with fail
  have N6 : Hid (Lies (v1.setCell ⟨b, 2, none⟩ (.bool true)) w.heap.size #[.string ⟨#[]⟩, .string ⟨#[]⟩, .bool false] 54) := M6.out.set_other (a := ⟨b, 2, none⟩) (show w.heap.size ≠ b by omega) _
  have N8 : Hid (Lies (v1.setCell ⟨b, 2, none⟩ (.bool true)) (w.heap.size + 1) #[.int .i64 0, .int .i64 0] 28) := M8.out.set_other (a := ⟨b, 2, none⟩) (show w.heap.size + 1 ≠ b by omega) _
  have N10 : Hid (Lies (v1.setCell ⟨b, 2, none⟩ (.bool true)) b #[.string U, .string ⟨#[]⟩, .bool true] 54) := M10.out.set 2 _
  have NB : Hid (Below w.heap.size w (v1.setCell ⟨b, 2, none⟩ (.bool true))) := MB.out.setCell (p := ⟨b, 2, none⟩) (show w.heap.size ≤ b by omega) _
  clear M6 M8 M10 MB c2 f2
  generalize v1.setCell ⟨b, 2, none⟩ (.bool true) = v2 at N6 N8 N10 NB ⊢
  have HC2 : Hid (Calls Tryz.prog 85 #[.string (s.extract (E + 1) s.size), .string ⟨#[32]⟩] v2 fun e w' => e = .returned (.tuple #[.string A, .string B, .bool fd]) ∧ Below w.heap.size w w' ∧ Lies w' w.heap.size #[.string ⟨#[]⟩, .string ⟨#[]⟩, .bool false] 54 ∧ Lies w' (w.heap.size + 1) #[.int .i64 0, .int .i64 0] 28 ∧ Lies w' b #[.string U, .string ⟨#[]⟩, .bool true] 54 ∧ w'.cell? ⟨b, 1, none⟩ = some (.string ⟨#[]⟩) ∧ w'.frozen? ⟨b, 1, none⟩ = false) := by
    show Calls _ _ _ _ _
    refine (HC.out _ NB.out).mono ?_
    rintro e w' ⟨rfl, hb⟩
    have l := N10.out.below hb N10.out.lt
    exact ⟨rfl, NB.out.trans (hb.mono NB.out.size), N6.out.below hb N6.out.lt, N8.out.below hb N8.out.lt, l, l.cell 1, l.frozen 1⟩
  clear N6 N8 N10 NB HC
  go_upto_region 10 with (first
    | (go_at_call 85; refine HC2.out.mono ?_; rintro e w2 ⟨rfl, kb, l6, l8, l10, c1, f1⟩))
  have P6 : Hid (Lies (w2.setCell ⟨b, 1, none⟩ (.string A)) w.heap.size #[.string ⟨#[]⟩, .string ⟨#[]⟩, .bool false] 54) := l6.set_other (a := ⟨b, 1, none⟩) (show w.heap.size ≠ b by omega) _
  have P8 : Hid (Lies (w2.setCell ⟨b, 1, none⟩ (.string A)) (w.heap.size + 1) #[.int .i64 0, .int .i64 0] 28) := l8.set_other (a := ⟨b, 1, none⟩) (show w.heap.size + 1 ≠ b by omega) _
  have P10 : Hid (Lies (w2.setCell ⟨b, 1, none⟩ (.string A)) b #[.string U, .string A, .bool true] 54) := l10.set 1 _
  have PB : Hid (Below w.heap.size w (w2.setCell ⟨b, 1, none⟩ (.string A))) := kb.setCell (p := ⟨b, 1, none⟩) (show w.heap.size ≤ b by omega) _
  clear l6 l8 l10 kb c1 f1 HC2
  generalize w2.setCell ⟨b, 1, none⟩ (.string A) = v3 at P6 P8 P10 PB ⊢
  have c1 := P10.out.cell 1
  have HV2 : Hid (Calls Tryz.prog 81 #[.string A, .bool wide] v3 fun e w' => e = .returned (.int .i64 (N : Int)) ∧ Below w.heap.size w w' ∧ Lies w' w.heap.size #[.string ⟨#[]⟩, .string ⟨#[]⟩, .bool false] 54 ∧ Lies w' (w.heap.size + 1) #[.int .i64 0, .int .i64 0] 28 ∧ Lies w' b #[.string U, .string A, .bool true] 54) := by
    show Calls _ _ _ _ _
    refine (HV.out _ PB.out).mono ?_
    rintro e w' ⟨rfl, hb⟩
    exact ⟨rfl, PB.out.trans (hb.mono PB.out.size), P6.out.below hb P6.out.lt, P8.out.below hb P8.out.lt, P10.out.below hb P10.out.lt⟩
  clear P6 P8 P10 PB HV
  go_upto_region 11 with (first
    | (go_at_call 81; refine HV2.out.mono ?_; rintro e v4 ⟨rfl, kb, l6, l8, l10⟩))
  have Q6 : Hid (Lies v4 w.heap.size #[.string ⟨#[]⟩, .string ⟨#[]⟩, .bool false] 54) := l6
  have Q8 : Hid (Lies v4 (w.heap.size + 1) #[.int .i64 0, .int .i64 0] 28) := l8
  have Q10 : Hid (Lies v4 b #[.string U, .string A, .bool true] 54) := l10
  have QB : Hid (Below w.heap.size w v4) := kb
  clear l6 l8 l10 kb c1 HV2
  have c1 := Q10.out.cell 1
  go_wp2_with (first
    | (refine wpList_store_row rfl 54 _ _ rfl w.heap.size rfl _ #[.string ⟨#[]⟩, .string ⟨#[]⟩, .bool false] rfl 54 Q6.out infoPm rfl (by simp [Value.oneCell']) rfl ?_)
    | (refine wpList_store_row rfl 28 _ _ rfl (w.heap.size + 1) rfl _ #[.int .i64 101, .int .i64 ((E : Int) + 1 + (N : Int))] rfl 28 (Q8.out.row_other (by omega) _) infoSp rfl (by simp [Value.oneCell']) rfl ?_))
  refine bodyPost_ret (res_cvc (p := 6) (q := 7) (r := 8) (by kernel_rfl) _ _ w.heap.size (w.heap.size + 1) #[.string ⟨#[]⟩, .string ⟨#[]⟩, .bool false] #[.int .i64 101, .int .i64 ((E : Int) + 1 + (N : Int))] _ _ (.int .i64 0) rfl rfl rfl ((Q6.out.row #[.string ⟨#[]⟩, .string ⟨#[]⟩, .bool false]).row_other (by omega) _) ((Q8.out.row_other (by omega) #[.string ⟨#[]⟩, .string ⟨#[]⟩, .bool false]).row #[.int .i64 101, .int .i64 ((E : Int) + 1 + (N : Int))]) Tryz.underlying54 rfl infoPm Tryz.underlying28 rfl infoSp) rfl ⟨rfl, below_row (below_row QB.out (Nat.le_refl _) _) (by omega) _⟩
set_option maxHeartbeats 8000000 in
set_option maxRecDepth 100000 in
theorem pone_wrong (s : ByteArray) (f E : Nat) (wide : Bool) (_hf : f ≤ s.size) (_hE : E ≤ s.size) (hs : s.size ≤ 140737488355328) (w : World)
    (HK : Hid (∀ wx, Below w.heap.size w wx → Calls Tryz.prog 80 #[.string s, .int .i64 (f : Int)] wx fun e w' => e = .returned (.int .i64 (E : Int)) ∧ w' = wx)) (U A B : ByteArray) (fd : Bool) (N : Nat) (hfE : f ≤ E) (hq : ((E : Int) == (f : Int)) = false) (hl : E < s.size) (hn : ((E : Int) == (s.size : Int)) = false) (h61 : ((s[E].toNat : Int) != 61) = false) (e32 : ((s[E].toNat : Int) == 32) = false) (hA : A.size ≤ s.size) (_hN : N ≤ s.size) (HU : Hid (∀ wx, Below w.heap.size w wx → Calls Tryz.prog 26 #[.string (s.extract f E)] wx fun e w' => e = .returned (.string U) ∧ Below wx.heap.size wx w')) (HC : Hid (∀ wx, Below w.heap.size w wx → Calls Tryz.prog 85 #[.string (s.extract (E + 1) s.size), .string ⟨#[32]⟩] wx fun e w' => e = .returned (.tuple #[.string A, .string B, .bool fd]) ∧ Below wx.heap.size wx w')) (HV : Hid (∀ wx, Below w.heap.size w wx → Calls Tryz.prog 81 #[.string A, .bool wide] wx fun e w' => e = .returned (.int .i64 (N : Int)) ∧ Below wx.heap.size wx w')) (he : A.toList.isEmpty = false) (hb : (N : Int) < (A.size : Int)) :
    Calls Tryz.prog 37 #[.string s, .int .i64 (f : Int), .bool wide] w fun e w' => e = .returned (.tuple #[.agg #[.string ⟨#[]⟩, .string ⟨#[]⟩, .bool false], .int .i64 0, .agg #[.int .i64 101, .int .i64 ((E : Int) + 1 + (N : Int))]]) ∧ Below w.heap.size w w' := by
  have HL6 : Hid (Lies ((w.alloc (.cells #[.string ⟨#[]⟩, .string ⟨#[]⟩, .bool false] 54)).alloc (.cells #[.int .i64 0, .int .i64 0] 28)) w.heap.size #[.string ⟨#[]⟩, .string ⟨#[]⟩, .bool false] 54) := (Lies.new w _ _).alloc _
  have HL8 : Hid (Lies ((w.alloc (.cells #[.string ⟨#[]⟩, .string ⟨#[]⟩, .bool false] 54)).alloc (.cells #[.int .i64 0, .int .i64 0] 28)) (w.heap.size + 1) #[.int .i64 0, .int .i64 0] 28) := by
    have := Lies.new (w.alloc (.cells #[.string ⟨#[]⟩, .string ⟨#[]⟩, .bool false] 54)) #[.int .i64 0, .int .i64 0] 28
    rw [World.size_alloc] at this
    exact this
  have HKB : Hid (Below w.heap.size w ((w.alloc (.cells #[.string ⟨#[]⟩, .string ⟨#[]⟩, .bool false] 54)).alloc (.cells #[.int .i64 0, .int .i64 0] 28))) := ((Below.refl _ _).alloc (Nat.le_refl _) _).alloc (by simp) _
  go_enter Tryz.func37, Tryz.ntmps37
  go_upto_region 1 with fail
  generalize ((w.alloc (.cells #[.string ⟨#[]⟩, .string ⟨#[]⟩, .bool false] 54)).alloc (.cells #[.int .i64 0, .int .i64 0] 28)) = v0 at HL6 HL8 HKB ⊢
  have hEf : (f : Int) ≤ (E : Int) := by omega
  have hEs : (E : Int) ≤ (s.size : Int) := by omega
  go_upto_region 5 with (first
    | (go_at_call 80; refine (HK.out _ HKB.out).mono ?_; rintro e wd ⟨rfl, rfl⟩)
    | (go_at_call 26; refine (HU.out _ HKB.out).mono ?_; rintro e w1 ⟨rfl, hb1⟩))
  have M6 : Hid (Lies (w1.alloc (.cells #[.string U, .string ⟨#[]⟩, .bool false] 54)) w.heap.size #[.string ⟨#[]⟩, .string ⟨#[]⟩, .bool false] 54) := (HL6.out.below hb1 HL6.out.lt).alloc _
  have M8 : Hid (Lies (w1.alloc (.cells #[.string U, .string ⟨#[]⟩, .bool false] 54)) (w.heap.size + 1) #[.int .i64 0, .int .i64 0] 28) := (HL8.out.below hb1 HL8.out.lt).alloc _
  have M10 : Hid (Lies (w1.alloc (.cells #[.string U, .string ⟨#[]⟩, .bool false] 54)) w1.heap.size #[.string U, .string ⟨#[]⟩, .bool false] 54) := Lies.new w1 _ _
  have MB : Hid (Below w.heap.size w (w1.alloc (.cells #[.string U, .string ⟨#[]⟩, .bool false] 54))) := (HKB.out.trans (hb1.mono HKB.out.size)).alloc (Nat.le_trans HKB.out.size hb1.size) _
  have hb10 : w.heap.size + 1 < w1.heap.size := Nat.lt_of_lt_of_le HL8.out.lt hb1.size
  clear hb1 HL6 HL8 HKB HK HU
  generalize w1.alloc (.cells #[.string U, .string ⟨#[]⟩, .bool false] 54) = v1 at M6 M8 M10 MB ⊢
  generalize w1.heap.size = b at M10 hb10 ⊢
  have c2 := M10.out.cell 2
  have f2 := M10.out.frozen 2
  have hE1 : (E : Int) + 1 ≤ (s.size : Int) := by omega
  go_upto_region 9 with fail
  have N6 : Hid (Lies (v1.setCell ⟨b, 2, none⟩ (.bool true)) w.heap.size #[.string ⟨#[]⟩, .string ⟨#[]⟩, .bool false] 54) := M6.out.set_other (a := ⟨b, 2, none⟩) (show w.heap.size ≠ b by omega) _
  have N8 : Hid (Lies (v1.setCell ⟨b, 2, none⟩ (.bool true)) (w.heap.size + 1) #[.int .i64 0, .int .i64 0] 28) := M8.out.set_other (a := ⟨b, 2, none⟩) (show w.heap.size + 1 ≠ b by omega) _
  have N10 : Hid (Lies (v1.setCell ⟨b, 2, none⟩ (.bool true)) b #[.string U, .string ⟨#[]⟩, .bool true] 54) := M10.out.set 2 _
  have NB : Hid (Below w.heap.size w (v1.setCell ⟨b, 2, none⟩ (.bool true))) := MB.out.setCell (p := ⟨b, 2, none⟩) (show w.heap.size ≤ b by omega) _
  clear M6 M8 M10 MB c2 f2
  generalize v1.setCell ⟨b, 2, none⟩ (.bool true) = v2 at N6 N8 N10 NB ⊢
  have HC2 : Hid (Calls Tryz.prog 85 #[.string (s.extract (E + 1) s.size), .string ⟨#[32]⟩] v2 fun e w' => e = .returned (.tuple #[.string A, .string B, .bool fd]) ∧ Below w.heap.size w w' ∧ Lies w' w.heap.size #[.string ⟨#[]⟩, .string ⟨#[]⟩, .bool false] 54 ∧ Lies w' (w.heap.size + 1) #[.int .i64 0, .int .i64 0] 28 ∧ Lies w' b #[.string U, .string ⟨#[]⟩, .bool true] 54 ∧ w'.cell? ⟨b, 1, none⟩ = some (.string ⟨#[]⟩) ∧ w'.frozen? ⟨b, 1, none⟩ = false) := by
    show Calls _ _ _ _ _
    refine (HC.out _ NB.out).mono ?_
    rintro e w' ⟨rfl, hb⟩
    have l := N10.out.below hb N10.out.lt
    exact ⟨rfl, NB.out.trans (hb.mono NB.out.size), N6.out.below hb N6.out.lt, N8.out.below hb N8.out.lt, l, l.cell 1, l.frozen 1⟩
  clear N6 N8 N10 NB HC
  go_upto_region 10 with (first
    | (go_at_call 85; refine HC2.out.mono ?_; rintro e w2 ⟨rfl, kb, l6, l8, l10, c1, f1⟩))
  have P6 : Hid (Lies (w2.setCell ⟨b, 1, none⟩ (.string A)) w.heap.size #[.string ⟨#[]⟩, .string ⟨#[]⟩, .bool false] 54) := l6.set_other (a := ⟨b, 1, none⟩) (show w.heap.size ≠ b by omega) _
  have P8 : Hid (Lies (w2.setCell ⟨b, 1, none⟩ (.string A)) (w.heap.size + 1) #[.int .i64 0, .int .i64 0] 28) := l8.set_other (a := ⟨b, 1, none⟩) (show w.heap.size + 1 ≠ b by omega) _
  have P10 : Hid (Lies (w2.setCell ⟨b, 1, none⟩ (.string A)) b #[.string U, .string A, .bool true] 54) := l10.set 1 _
  have PB : Hid (Below w.heap.size w (w2.setCell ⟨b, 1, none⟩ (.string A))) := kb.setCell (p := ⟨b, 1, none⟩) (show w.heap.size ≤ b by omega) _
  clear l6 l8 l10 kb c1 f1 HC2
  generalize w2.setCell ⟨b, 1, none⟩ (.string A) = v3 at P6 P8 P10 PB ⊢
  have c1 := P10.out.cell 1
  have HV2 : Hid (Calls Tryz.prog 81 #[.string A, .bool wide] v3 fun e w' => e = .returned (.int .i64 (N : Int)) ∧ Below w.heap.size w w' ∧ Lies w' w.heap.size #[.string ⟨#[]⟩, .string ⟨#[]⟩, .bool false] 54 ∧ Lies w' (w.heap.size + 1) #[.int .i64 0, .int .i64 0] 28 ∧ Lies w' b #[.string U, .string A, .bool true] 54) := by
    show Calls _ _ _ _ _
    refine (HV.out _ PB.out).mono ?_
    rintro e w' ⟨rfl, hb⟩
    exact ⟨rfl, PB.out.trans (hb.mono PB.out.size), P6.out.below hb P6.out.lt, P8.out.below hb P8.out.lt, P10.out.below hb P10.out.lt⟩
  clear P6 P8 P10 PB HV
  go_upto_region 11 with (first
    | (go_at_call 81; refine HV2.out.mono ?_; rintro e v4 ⟨rfl, kb, l6, l8, l10⟩))
  have Q6 : Hid (Lies v4 w.heap.size #[.string ⟨#[]⟩, .string ⟨#[]⟩, .bool false] 54) := l6
  have Q8 : Hid (Lies v4 (w.heap.size + 1) #[.int .i64 0, .int .i64 0] 28) := l8
  have Q10 : Hid (Lies v4 b #[.string U, .string A, .bool true] 54) := l10
  have QB : Hid (Below w.heap.size w v4) := kb
  clear l6 l8 l10 kb c1 HV2
  have c1 := Q10.out.cell 1
  go_wp2_with (first
    | (refine wpList_store_row rfl 54 _ _ rfl w.heap.size rfl _ #[.string ⟨#[]⟩, .string ⟨#[]⟩, .bool false] rfl 54 Q6.out infoPm rfl (by simp [Value.oneCell']) rfl ?_)
    | (refine wpList_store_row rfl 28 _ _ rfl (w.heap.size + 1) rfl _ #[.int .i64 101, .int .i64 ((E : Int) + 1 + (N : Int))] rfl 28 (Q8.out.row_other (by omega) _) infoSp rfl (by simp [Value.oneCell']) rfl ?_))
  refine bodyPost_ret (res_cvc (p := 6) (q := 7) (r := 8) (by kernel_rfl) _ _ w.heap.size (w.heap.size + 1) #[.string ⟨#[]⟩, .string ⟨#[]⟩, .bool false] #[.int .i64 101, .int .i64 ((E : Int) + 1 + (N : Int))] _ _ (.int .i64 0) rfl rfl rfl ((Q6.out.row #[.string ⟨#[]⟩, .string ⟨#[]⟩, .bool false]).row_other (by omega) _) ((Q8.out.row_other (by omega) #[.string ⟨#[]⟩, .string ⟨#[]⟩, .bool false]).row #[.int .i64 101, .int .i64 ((E : Int) + 1 + (N : Int))]) Tryz.underlying54 rfl infoPm Tryz.underlying28 rfl infoSp) rfl ⟨rfl, below_row (below_row QB.out (Nat.le_refl _) _) (by omega) _⟩
set_option maxHeartbeats 8000000 in
set_option maxRecDepth 100000 in
theorem pone_value (s : ByteArray) (f E : Nat) (wide : Bool) (_hf : f ≤ s.size) (_hE : E ≤ s.size) (hs : s.size ≤ 140737488355328) (w : World)
    (HK : Hid (∀ wx, Below w.heap.size w wx → Calls Tryz.prog 80 #[.string s, .int .i64 (f : Int)] wx fun e w' => e = .returned (.int .i64 (E : Int)) ∧ w' = wx)) (U A B : ByteArray) (fd : Bool) (N : Nat) (hfE : f ≤ E) (hq : ((E : Int) == (f : Int)) = false) (hl : E < s.size) (hn : ((E : Int) == (s.size : Int)) = false) (h61 : ((s[E].toNat : Int) != 61) = false) (e32 : ((s[E].toNat : Int) == 32) = false) (_hA : A.size ≤ s.size) (hN : N ≤ s.size) (HU : Hid (∀ wx, Below w.heap.size w wx → Calls Tryz.prog 26 #[.string (s.extract f E)] wx fun e w' => e = .returned (.string U) ∧ Below wx.heap.size wx w')) (HC : Hid (∀ wx, Below w.heap.size w wx → Calls Tryz.prog 85 #[.string (s.extract (E + 1) s.size), .string ⟨#[32]⟩] wx fun e w' => e = .returned (.tuple #[.string A, .string B, .bool fd]) ∧ Below wx.heap.size wx w')) (HV : Hid (∀ wx, Below w.heap.size w wx → Calls Tryz.prog 81 #[.string A, .bool wide] wx fun e w' => e = .returned (.int .i64 (N : Int)) ∧ Below wx.heap.size wx w')) (he : A.toList.isEmpty = false) (hb : ¬ (N : Int) < (A.size : Int)) :
    Calls Tryz.prog 37 #[.string s, .int .i64 (f : Int), .bool wide] w fun e w' => e = .returned (.tuple #[.agg #[.string U, .string A, .bool true], .int .i64 ((E : Int) + 1 + (A.size : Int)), .agg #[.int .i64 0, .int .i64 0]]) ∧ Below w.heap.size w w' := by
  have HL6 : Hid (Lies ((w.alloc (.cells #[.string ⟨#[]⟩, .string ⟨#[]⟩, .bool false] 54)).alloc (.cells #[.int .i64 0, .int .i64 0] 28)) w.heap.size #[.string ⟨#[]⟩, .string ⟨#[]⟩, .bool false] 54) := (Lies.new w _ _).alloc _
  have HL8 : Hid (Lies ((w.alloc (.cells #[.string ⟨#[]⟩, .string ⟨#[]⟩, .bool false] 54)).alloc (.cells #[.int .i64 0, .int .i64 0] 28)) (w.heap.size + 1) #[.int .i64 0, .int .i64 0] 28) := by
    have := Lies.new (w.alloc (.cells #[.string ⟨#[]⟩, .string ⟨#[]⟩, .bool false] 54)) #[.int .i64 0, .int .i64 0] 28
    rw [World.size_alloc] at this
    exact this
  have HKB : Hid (Below w.heap.size w ((w.alloc (.cells #[.string ⟨#[]⟩, .string ⟨#[]⟩, .bool false] 54)).alloc (.cells #[.int .i64 0, .int .i64 0] 28))) := ((Below.refl _ _).alloc (Nat.le_refl _) _).alloc (by simp) _
  go_enter Tryz.func37, Tryz.ntmps37
  go_upto_region 1 with fail
  generalize ((w.alloc (.cells #[.string ⟨#[]⟩, .string ⟨#[]⟩, .bool false] 54)).alloc (.cells #[.int .i64 0, .int .i64 0] 28)) = v0 at HL6 HL8 HKB ⊢
  have hEf : (f : Int) ≤ (E : Int) := by omega
  have hEs : (E : Int) ≤ (s.size : Int) := by omega
  go_upto_region 5 with (first
    | (go_at_call 80; refine (HK.out _ HKB.out).mono ?_; rintro e wd ⟨rfl, rfl⟩)
    | (go_at_call 26; refine (HU.out _ HKB.out).mono ?_; rintro e w1 ⟨rfl, hb1⟩))
  have M6 : Hid (Lies (w1.alloc (.cells #[.string U, .string ⟨#[]⟩, .bool false] 54)) w.heap.size #[.string ⟨#[]⟩, .string ⟨#[]⟩, .bool false] 54) := (HL6.out.below hb1 HL6.out.lt).alloc _
  have M8 : Hid (Lies (w1.alloc (.cells #[.string U, .string ⟨#[]⟩, .bool false] 54)) (w.heap.size + 1) #[.int .i64 0, .int .i64 0] 28) := (HL8.out.below hb1 HL8.out.lt).alloc _
  have M10 : Hid (Lies (w1.alloc (.cells #[.string U, .string ⟨#[]⟩, .bool false] 54)) w1.heap.size #[.string U, .string ⟨#[]⟩, .bool false] 54) := Lies.new w1 _ _
  have MB : Hid (Below w.heap.size w (w1.alloc (.cells #[.string U, .string ⟨#[]⟩, .bool false] 54))) := (HKB.out.trans (hb1.mono HKB.out.size)).alloc (Nat.le_trans HKB.out.size hb1.size) _
  have hb10 : w.heap.size + 1 < w1.heap.size := Nat.lt_of_lt_of_le HL8.out.lt hb1.size
  clear hb1 HL6 HL8 HKB HK HU
  generalize w1.alloc (.cells #[.string U, .string ⟨#[]⟩, .bool false] 54) = v1 at M6 M8 M10 MB ⊢
  generalize w1.heap.size = b at M10 hb10 ⊢
  have c2 := M10.out.cell 2
  have f2 := M10.out.frozen 2
  have hE1 : (E : Int) + 1 ≤ (s.size : Int) := by omega
  go_upto_region 9 with fail
  have N6 : Hid (Lies (v1.setCell ⟨b, 2, none⟩ (.bool true)) w.heap.size #[.string ⟨#[]⟩, .string ⟨#[]⟩, .bool false] 54) := M6.out.set_other (a := ⟨b, 2, none⟩) (show w.heap.size ≠ b by omega) _
  have N8 : Hid (Lies (v1.setCell ⟨b, 2, none⟩ (.bool true)) (w.heap.size + 1) #[.int .i64 0, .int .i64 0] 28) := M8.out.set_other (a := ⟨b, 2, none⟩) (show w.heap.size + 1 ≠ b by omega) _
  have N10 : Hid (Lies (v1.setCell ⟨b, 2, none⟩ (.bool true)) b #[.string U, .string ⟨#[]⟩, .bool true] 54) := M10.out.set 2 _
  have NB : Hid (Below w.heap.size w (v1.setCell ⟨b, 2, none⟩ (.bool true))) := MB.out.setCell (p := ⟨b, 2, none⟩) (show w.heap.size ≤ b by omega) _
  clear M6 M8 M10 MB c2 f2
  generalize v1.setCell ⟨b, 2, none⟩ (.bool true) = v2 at N6 N8 N10 NB ⊢
  have HC2 : Hid (Calls Tryz.prog 85 #[.string (s.extract (E + 1) s.size), .string ⟨#[32]⟩] v2 fun e w' => e = .returned (.tuple #[.string A, .string B, .bool fd]) ∧ Below w.heap.size w w' ∧ Lies w' w.heap.size #[.string ⟨#[]⟩, .string ⟨#[]⟩, .bool false] 54 ∧ Lies w' (w.heap.size + 1) #[.int .i64 0, .int .i64 0] 28 ∧ Lies w' b #[.string U, .string ⟨#[]⟩, .bool true] 54 ∧ w'.cell? ⟨b, 1, none⟩ = some (.string ⟨#[]⟩) ∧ w'.frozen? ⟨b, 1, none⟩ = false) := by
    show Calls _ _ _ _ _
    refine (HC.out _ NB.out).mono ?_
    rintro e w' ⟨rfl, hb⟩
    have l := N10.out.below hb N10.out.lt
    exact ⟨rfl, NB.out.trans (hb.mono NB.out.size), N6.out.below hb N6.out.lt, N8.out.below hb N8.out.lt, l, l.cell 1, l.frozen 1⟩
  clear N6 N8 N10 NB HC
  go_upto_region 10 with (first
    | (go_at_call 85; refine HC2.out.mono ?_; rintro e w2 ⟨rfl, kb, l6, l8, l10, c1, f1⟩))
  have P6 : Hid (Lies (w2.setCell ⟨b, 1, none⟩ (.string A)) w.heap.size #[.string ⟨#[]⟩, .string ⟨#[]⟩, .bool false] 54) := l6.set_other (a := ⟨b, 1, none⟩) (show w.heap.size ≠ b by omega) _
  have P8 : Hid (Lies (w2.setCell ⟨b, 1, none⟩ (.string A)) (w.heap.size + 1) #[.int .i64 0, .int .i64 0] 28) := l8.set_other (a := ⟨b, 1, none⟩) (show w.heap.size + 1 ≠ b by omega) _
  have P10 : Hid (Lies (w2.setCell ⟨b, 1, none⟩ (.string A)) b #[.string U, .string A, .bool true] 54) := l10.set 1 _
  have PB : Hid (Below w.heap.size w (w2.setCell ⟨b, 1, none⟩ (.string A))) := kb.setCell (p := ⟨b, 1, none⟩) (show w.heap.size ≤ b by omega) _
  clear l6 l8 l10 kb c1 f1 HC2
  generalize w2.setCell ⟨b, 1, none⟩ (.string A) = v3 at P6 P8 P10 PB ⊢
  have c1 := P10.out.cell 1
  have HV2 : Hid (Calls Tryz.prog 81 #[.string A, .bool wide] v3 fun e w' => e = .returned (.int .i64 (N : Int)) ∧ Below w.heap.size w w' ∧ Lies w' w.heap.size #[.string ⟨#[]⟩, .string ⟨#[]⟩, .bool false] 54 ∧ Lies w' (w.heap.size + 1) #[.int .i64 0, .int .i64 0] 28 ∧ Lies w' b #[.string U, .string A, .bool true] 54) := by
    show Calls _ _ _ _ _
    refine (HV.out _ PB.out).mono ?_
    rintro e w' ⟨rfl, hb⟩
    exact ⟨rfl, PB.out.trans (hb.mono PB.out.size), P6.out.below hb P6.out.lt, P8.out.below hb P8.out.lt, P10.out.below hb P10.out.lt⟩
  clear P6 P8 P10 PB HV
  go_upto_region 11 with (first
    | (go_at_call 81; refine HV2.out.mono ?_; rintro e v4 ⟨rfl, kb, l6, l8, l10⟩))
  have Q6 : Hid (Lies v4 w.heap.size #[.string ⟨#[]⟩, .string ⟨#[]⟩, .bool false] 54) := l6
  have Q8 : Hid (Lies v4 (w.heap.size + 1) #[.int .i64 0, .int .i64 0] 28) := l8
  have Q10 : Hid (Lies v4 b #[.string U, .string A, .bool true] 54) := l10
  have QB : Hid (Below w.heap.size w v4) := kb
  clear l6 l8 l10 kb c1 HV2
  have c1 := Q10.out.cell 1
  go_wp2_with fail
  have k0 : v4.cell? ⟨b, 0, none⟩ = some (.string U) := Q10.out.cell 0
  have k1 : v4.cell? ⟨b, 1, none⟩ = some (.string A) := Q10.out.cell 1
  have k2 : v4.cell? ⟨b, 2, none⟩ = some (.bool true) := Q10.out.cell 2
  have m0 : v4.cell? ⟨w.heap.size, 0, none⟩ = some (.string ⟨#[]⟩) := Q6.out.cell 0
  have m1 : v4.cell? ⟨w.heap.size, 1, none⟩ = some (.string ⟨#[]⟩) := Q6.out.cell 1
  have m2 : v4.cell? ⟨w.heap.size, 2, none⟩ = some (.bool false) := Q6.out.cell 2
  have n0 : v4.cell? ⟨w.heap.size + 1, 0, none⟩ = some (.int .i64 0) := Q8.out.cell 0
  have n1 : v4.cell? ⟨w.heap.size + 1, 1, none⟩ = some (.int .i64 0) := Q8.out.cell 1
  have g0 := Q6.out.frozen 0
  have g1 := Q6.out.frozen 1
  have g2 := Q6.out.frozen 2
  have r0 := Q8.out.frozen 0
  have r1 := Q8.out.frozen 1
  have hne : w.heap.size ≠ b := by omega
  have hne2 : w.heap.size + 1 ≠ b := by omega
  clear c1
  go_region
  have W6 := ((((Q6.out.set 0 (.string U)).set 1 (.string A)).set 2 (.bool true)).set_other (a := ⟨w.heap.size + 1, 0, none⟩) (show w.heap.size ≠ w.heap.size + 1 by omega) (.int .i64 0)).set_other (a := ⟨w.heap.size + 1, 1, none⟩) (show w.heap.size ≠ w.heap.size + 1 by omega) (.int .i64 0)
  have W8 := ((((Q8.out.set_other (a := ⟨w.heap.size, 0, none⟩) (show w.heap.size + 1 ≠ w.heap.size by omega) (.string U)).set_other (a := ⟨w.heap.size, 1, none⟩) (show w.heap.size + 1 ≠ w.heap.size by omega) (.string A)).set_other (a := ⟨w.heap.size, 2, none⟩) (show w.heap.size + 1 ≠ w.heap.size by omega) (.bool true)).set 0 (.int .i64 0)).set 1 (.int .i64 0)
  have WB := ((((QB.out.setCell (p := ⟨w.heap.size, 0, none⟩) (Nat.le_refl _) (.string U)).setCell (p := ⟨w.heap.size, 1, none⟩) (Nat.le_refl _) (.string A)).setCell (p := ⟨w.heap.size, 2, none⟩) (Nat.le_refl _) (.bool true)).setCell (p := ⟨w.heap.size + 1, 0, none⟩) (show w.heap.size ≤ w.heap.size + 1 by omega) (.int .i64 0)).setCell (p := ⟨w.heap.size + 1, 1, none⟩) (show w.heap.size ≤ w.heap.size + 1 by omega) (.int .i64 0)
  have H6 : Hid _ := W6.drew
  have H8 : Hid _ := W8.drew
  have HB : Hid _ := WB.drew
  clear k0 k1 k2 m0 m1 m2 n0 n1 g0 g1 g2 r0 r1 W6 W8 WB Q6 Q8 Q10 QB
  go_wp2
  refine bodyPost_ret (res_cvc (p := 6) (q := 7) (r := 8) (by kernel_rfl) _ _ w.heap.size (w.heap.size + 1) #[.string U, .string A, .bool true] #[.int .i64 0, .int .i64 0] _ _ (.int .i64 ((E : Int) + 1 + (A.size : Int))) rfl rfl rfl H6.out H8.out Tryz.underlying54 rfl infoPm Tryz.underlying28 rfl infoSp) rfl ⟨rfl, HB.out⟩
end Go.Proofs.YtjpmfgmoekpcpabGreatDoor
