/-
  The contract of wakes.
-/
import Derived.Test.YtnlgbopdbihnjaaGreatDoorWj8
namespace Go.Proofs.YtnlgbopdbihnjaaGreatDoor
open Go.RowKit

set_option maxHeartbeats 4000000 in
set_option maxRecDepth 100000 in
theorem wakes_any (w : World) (hT : Tc w) : Calls Tryz.prog 9 #[] w fun e w' => e = .returned (.bool true) ∧ Below w.heap.size w w' := by
  have HT : Hid (∀ wx, Below w.heap.size w wx → Tc wx) := fun wx hb => hT.below hb
  have HP1 : Hid (∀ wx, Tc wx → Calls Tryz.prog 10 #[.string ⟨#[109, 120, 46, 101, 120, 97, 109, 112, 108, 101]⟩, .bool false] wx fun e w' => e = .returned (.tuple #[.agg (hostC mxH), .agg #[.int .i64 0, .int .i64 0]]) ∧ Below wx.heap.size wx w') := fun wx hx => by
    have := parse_any ⟨#[109, 120, 46, 101, 120, 97, 109, 112, 108, 101]⟩ false wx hx.tb (by decide)
    rw [show (⟨#[109, 120, 46, 101, 120, 97, 109, 112, 108, 101]⟩ : ByteArray).data.toList = [109, 120, 46, 101, 120, 97, 109, 112, 108, 101] from rfl, pw1] at this
    exact this
  have HP2 : Hid (∀ wx, Tc wx → Calls Tryz.prog 10 #[.string ⟨#[91, 49, 46, 50, 46, 51, 46, 52, 93]⟩, .bool false] wx fun e w' => e = .returned (.tuple #[.agg (hostC fourK), .agg #[.int .i64 0, .int .i64 0]]) ∧ Below wx.heap.size wx w') := fun wx hx => by
    have := parse_any ⟨#[91, 49, 46, 50, 46, 51, 46, 52, 93]⟩ false wx hx.tb (by decide)
    rw [show (⟨#[91, 49, 46, 50, 46, 51, 46, 52, 93]⟩ : ByteArray).data.toList = [91, 49, 46, 50, 46, 51, 46, 52, 93] from rfl, pw2] at this
    exact this
  have HP4 : Hid (∀ wx, Tc wx → Calls Tryz.prog 10 #[.string ⟨#[97, 46, 46, 98]⟩, .bool true] wx fun e w' => e = .returned (.tuple #[.agg (hostC ho0), .agg #[.int .i64 80, .int .i64 2]]) ∧ Below wx.heap.size wx w') := fun wx hx => by
    have := parse_any ⟨#[97, 46, 46, 98]⟩ true wx hx.tb (by decide)
    rw [show (⟨#[97, 46, 46, 98]⟩ : ByteArray).data.toList = [97, 46, 46, 98] from rfl, pw4] at this
    exact this
  have HV4 : Hid (∀ wx, Tc wx → Calls Tryz.prog 14 #[.int .u8 1, .int .u8 2, .int .u8 3, .int .u8 4] wx fun e w' => e = .returned (.agg (hostC fourK)) ∧ Below wx.heap.size wx w') := fun wx _ => lv4_any 1 2 3 4 wx
  have HPR : Hid (∀ wx, Tc wx → Calls Tryz.prog 20 #[.agg (hostC fourK)] wx fun e w' => e = .returned (.tuple #[.string ⟨#[91, 49, 46, 50, 46, 51, 46, 52, 93]⟩, .int .i64 0]) ∧ Below wx.heap.size wx w') := fun wx hx => by
    have := print_any fourK fourK_ok wx hx.tb hx.pow (by decide)
    rw [pw3] at this
    exact this
  have HV6 : Hid (∀ wx, Tc wx → Calls Tryz.prog 12 #[.string ⟨#[50, 48, 48, 49, 58, 68, 66, 56, 58, 58, 49, 58, 48, 58, 48, 58, 49]⟩] wx fun e w' => e = .returned (.tuple #[.agg (bytesV [32, 1, 13, 184, 0, 0, 0, 0, 0, 1, 0, 0, 0, 0, 0, 1]), .agg #[.int .i64 0, .int .i64 0]]) ∧ Below wx.heap.size wx w') := fun wx hx => by
    obtain ⟨te, pe, he⟩ := hx.tb.es
    have := v6_any ⟨#[50, 48, 48, 49, 58, 68, 66, 56, 58, 58, 49, 58, 48, 58, 48, 58, 49]⟩ te pe wx hx.tb.cls hx.tb.gcl he (by decide)
    rw [show (⟨#[50, 48, 48, 49, 58, 68, 66, 56, 58, 58, 49, 58, 48, 58, 48, 58, 49]⟩ : ByteArray).data.toList = [50, 48, 48, 49, 58, 68, 66, 56, 58, 58, 49, 58, 48, 58, 48, 58, 49] from rfl, pw5] at this
    exact this
  have HP6 : Hid (∀ wx, Tc wx → Calls Tryz.prog 16 #[.agg (bytesV [32, 1, 13, 184, 0, 0, 0, 0, 0, 1, 0, 0, 0, 0, 0, 1])] wx fun e w' => e = .returned (.string ⟨#[50, 48, 48, 49, 58, 100, 98, 56, 58, 58, 49, 58, 48, 58, 48, 58, 49]⟩) ∧ Below wx.heap.size wx w') := fun wx hx => by
    have := printv6_any [32, 1, 13, 184, 0, 0, 0, 0, 0, 1, 0, 0, 0, 0, 0, 1] rfl (by decide) wx hx.tb.t64
    rw [pw6] at this
    exact this
  have HS1 : Hid (∀ wx, Tc wx → Calls Tryz.prog 13 #[.agg (hostC mxH), .agg (hostC MXH)] wx fun e w' => e = .returned (.bool true) ∧ Below wx.heap.size wx w') := fun wx hx => by
    have := sme_any mxH MXH mxH_ok MXH_ok wx hx (by decide) (by decide)
    rw [pw7] at this
    exact this
  have HS2 : Hid (∀ wx, Tc wx → Calls Tryz.prog 13 #[.agg (hostC mxH), .agg (hostC fourK)] wx fun e w' => e = .returned (.bool false) ∧ Below wx.heap.size wx w') := fun wx hx => by
    have := sme_any mxH fourK mxH_ok fourK_ok wx hx (by decide) (by decide)
    rw [pw8] at this
    exact this
  have RM := host_row mxH rfl
  have RF := host_row fourK rfl
  have R0 := host_row ho0 rfl
  have RS := six_row [32, 1, 13, 184, 0, 0, 0, 0, 0, 1, 0, 0, 0, 0, 0, 1] rfl
  have HMX : Hid (hostV mxH = .agg (hostC mxH)) := rfl
  obtain ⟨XM, hXM⟩ : ∃ X, X = hostC mxH := ⟨_, rfl⟩
  obtain ⟨XF, hXF⟩ : ∃ X, X = hostC fourK := ⟨_, rfl⟩
  obtain ⟨X0, hX0⟩ : ∃ X, X = hostC ho0 := ⟨_, rfl⟩
  obtain ⟨XS, hXS⟩ : ∃ X, X = bytesV [32, 1, 13, 184, 0, 0, 0, 0, 0, 1, 0, 0, 0, 0, 0, 1] := ⟨_, rfl⟩
  rw [← hXM] at HP1 HS1 HS2 RM
  rw [← hXF] at HP2 HV4 HPR HS2 RF
  rw [← hX0] at HP4 R0
  rw [← hXS] at HV6 HP6 RS
  have EM : Hid (XM = hostC mxH) := hXM
  have EF : Hid (XF = hostC fourK) := hXF
  have HCm : Hid (XM.size = 18 ∧ XF.size = 18 ∧ XS.size = 16) := ⟨by rw [hXM]; rfl, by rw [hXF]; rfl, by rw [hXS]; rfl⟩
  clear hXM hXF hX0 hXS HMX
  have HB0 : Hid (Below w.heap.size w w) := Below.refl _ _
  clear hT
  go_enter Tryz.func9, Tryz.ntmps9
  go_wp2_with fail
  refine (HP1.out _ (HT.out _ HB0.out)).mono ?_
  rintro e w1 ⟨rfl, hb1⟩
  have CB1 : Hid (Below w.heap.size w w1) := HB0.out.trans (hb1.mono HB0.out.size)
  clear hb1 HP1
  have A1 : Hid (Lies ((w1.alloc (.cells #[.int .i64 0, .string ⟨#[]⟩, .int .u8 0, .int .u8 0, .int .u8 0, .int .u8 0, .int .u8 0, .int .u8 0, .int .u8 0, .int .u8 0, .int .u8 0, .int .u8 0, .int .u8 0, .int .u8 0, .int .u8 0, .int .u8 0, .int .u8 0, .int .u8 0] 28)).alloc (.cells #[.int .i64 0, .int .i64 0] 30)) w1.heap.size #[.int .i64 0, .string ⟨#[]⟩, .int .u8 0, .int .u8 0, .int .u8 0, .int .u8 0, .int .u8 0, .int .u8 0, .int .u8 0, .int .u8 0, .int .u8 0, .int .u8 0, .int .u8 0, .int .u8 0, .int .u8 0, .int .u8 0, .int .u8 0, .int .u8 0] 28) := (Lies.new w1 _ _).alloc _
  have B1 : Hid (Lies ((w1.alloc (.cells #[.int .i64 0, .string ⟨#[]⟩, .int .u8 0, .int .u8 0, .int .u8 0, .int .u8 0, .int .u8 0, .int .u8 0, .int .u8 0, .int .u8 0, .int .u8 0, .int .u8 0, .int .u8 0, .int .u8 0, .int .u8 0, .int .u8 0, .int .u8 0, .int .u8 0] 28)).alloc (.cells #[.int .i64 0, .int .i64 0] 30)) (w1.heap.size + 1) #[.int .i64 0, .int .i64 0] 30) := new_one w1 _ _ _
  have M1 : Hid (Lies ((((w1.alloc (.cells #[.int .i64 0, .string ⟨#[]⟩, .int .u8 0, .int .u8 0, .int .u8 0, .int .u8 0, .int .u8 0, .int .u8 0, .int .u8 0, .int .u8 0, .int .u8 0, .int .u8 0, .int .u8 0, .int .u8 0, .int .u8 0, .int .u8 0, .int .u8 0, .int .u8 0] 28)).alloc (.cells #[.int .i64 0, .int .i64 0] 30)).setRow w1.heap.size XM).setRow (w1.heap.size + 1) #[.int .i64 0, .int .i64 0]) w1.heap.size XM 28) := (A1.out.row _).row_other (by omega) _
  have N1 : Hid (Lies ((((w1.alloc (.cells #[.int .i64 0, .string ⟨#[]⟩, .int .u8 0, .int .u8 0, .int .u8 0, .int .u8 0, .int .u8 0, .int .u8 0, .int .u8 0, .int .u8 0, .int .u8 0, .int .u8 0, .int .u8 0, .int .u8 0, .int .u8 0, .int .u8 0, .int .u8 0, .int .u8 0] 28)).alloc (.cells #[.int .i64 0, .int .i64 0] 30)).setRow w1.heap.size XM).setRow (w1.heap.size + 1) #[.int .i64 0, .int .i64 0]) (w1.heap.size + 1) #[.int .i64 0, .int .i64 0] 30) := (B1.out.row_other (by omega) _).row _
  have BB1 : Hid (Below w1.heap.size w1 ((((w1.alloc (.cells #[.int .i64 0, .string ⟨#[]⟩, .int .u8 0, .int .u8 0, .int .u8 0, .int .u8 0, .int .u8 0, .int .u8 0, .int .u8 0, .int .u8 0, .int .u8 0, .int .u8 0, .int .u8 0, .int .u8 0, .int .u8 0, .int .u8 0, .int .u8 0, .int .u8 0] 28)).alloc (.cells #[.int .i64 0, .int .i64 0] 30)).setRow w1.heap.size XM).setRow (w1.heap.size + 1) #[.int .i64 0, .int .i64 0])) := below_row (below_row (((Below.refl _ _).alloc (Nat.le_refl _) _).alloc (by simp) _) (Nat.le_refl _) _) (by omega) _
  have KB1 : Hid (Below w.heap.size w ((((w1.alloc (.cells #[.int .i64 0, .string ⟨#[]⟩, .int .u8 0, .int .u8 0, .int .u8 0, .int .u8 0, .int .u8 0, .int .u8 0, .int .u8 0, .int .u8 0, .int .u8 0, .int .u8 0, .int .u8 0, .int .u8 0, .int .u8 0, .int .u8 0, .int .u8 0, .int .u8 0] 28)).alloc (.cells #[.int .i64 0, .int .i64 0] 30)).setRow w1.heap.size XM).setRow (w1.heap.size + 1) #[.int .i64 0, .int .i64 0])) := CB1.out.trans (BB1.out.mono CB1.out.size)
  go_upto_region 2 with (first | (refine wpList_store_row rfl 28 _ _ rfl w1.heap.size rfl _ XM rfl 28 A1.out RM.1 RM.2.1 RM.2.2 rfl ?_) | (refine wpList_store_row rfl 30 _ _ rfl (w1.heap.size + 1) rfl _ #[.int .i64 0, .int .i64 0] rfl 30 (B1.out.row_other (by omega) _) infoSp rfl (by simp [Value.oneCell']) rfl ?_))
  generalize hv1 : (((w1.alloc (.cells #[.int .i64 0, .string ⟨#[]⟩, .int .u8 0, .int .u8 0, .int .u8 0, .int .u8 0, .int .u8 0, .int .u8 0, .int .u8 0, .int .u8 0, .int .u8 0, .int .u8 0, .int .u8 0, .int .u8 0, .int .u8 0, .int .u8 0, .int .u8 0, .int .u8 0] 28)).alloc (.cells #[.int .i64 0, .int .i64 0] 30)).setRow w1.heap.size XM).setRow (w1.heap.size + 1) #[.int .i64 0, .int .i64 0] = v1 at M1 N1 BB1 KB1  ⊢
  clear hv1 A1 B1 BB1 CB1
  go_wp2_with fail
  refine (HP2.out _ (HT.out _ KB1.out)).mono ?_
  rintro e w2 ⟨rfl, hb2⟩
  have CB2 : Hid (Below w.heap.size w w2) := KB1.out.trans (hb2.mono KB1.out.size)
  have M1n : Hid (Lies w2 w1.heap.size XM 28) := M1.out.below hb2 M1.out.lt
  clear M1
  have M1 := M1n
  clear M1n
  have N1n : Hid (Lies w2 (w1.heap.size + 1) #[.int .i64 0, .int .i64 0] 30) := N1.out.below hb2 N1.out.lt
  clear N1
  have N1 := N1n
  clear N1n
  clear hb2 HP2
  have A2 : Hid (Lies ((w2.alloc (.cells #[.int .i64 0, .string ⟨#[]⟩, .int .u8 0, .int .u8 0, .int .u8 0, .int .u8 0, .int .u8 0, .int .u8 0, .int .u8 0, .int .u8 0, .int .u8 0, .int .u8 0, .int .u8 0, .int .u8 0, .int .u8 0, .int .u8 0, .int .u8 0, .int .u8 0] 28)).alloc (.cells #[.int .i64 0, .int .i64 0] 30)) w2.heap.size #[.int .i64 0, .string ⟨#[]⟩, .int .u8 0, .int .u8 0, .int .u8 0, .int .u8 0, .int .u8 0, .int .u8 0, .int .u8 0, .int .u8 0, .int .u8 0, .int .u8 0, .int .u8 0, .int .u8 0, .int .u8 0, .int .u8 0, .int .u8 0, .int .u8 0] 28) := (Lies.new w2 _ _).alloc _
  have B2 : Hid (Lies ((w2.alloc (.cells #[.int .i64 0, .string ⟨#[]⟩, .int .u8 0, .int .u8 0, .int .u8 0, .int .u8 0, .int .u8 0, .int .u8 0, .int .u8 0, .int .u8 0, .int .u8 0, .int .u8 0, .int .u8 0, .int .u8 0, .int .u8 0, .int .u8 0, .int .u8 0, .int .u8 0] 28)).alloc (.cells #[.int .i64 0, .int .i64 0] 30)) (w2.heap.size + 1) #[.int .i64 0, .int .i64 0] 30) := new_one w2 _ _ _
  have M2 : Hid (Lies ((((w2.alloc (.cells #[.int .i64 0, .string ⟨#[]⟩, .int .u8 0, .int .u8 0, .int .u8 0, .int .u8 0, .int .u8 0, .int .u8 0, .int .u8 0, .int .u8 0, .int .u8 0, .int .u8 0, .int .u8 0, .int .u8 0, .int .u8 0, .int .u8 0, .int .u8 0, .int .u8 0] 28)).alloc (.cells #[.int .i64 0, .int .i64 0] 30)).setRow w2.heap.size XF).setRow (w2.heap.size + 1) #[.int .i64 0, .int .i64 0]) w2.heap.size XF 28) := (A2.out.row _).row_other (by omega) _
  have N2 : Hid (Lies ((((w2.alloc (.cells #[.int .i64 0, .string ⟨#[]⟩, .int .u8 0, .int .u8 0, .int .u8 0, .int .u8 0, .int .u8 0, .int .u8 0, .int .u8 0, .int .u8 0, .int .u8 0, .int .u8 0, .int .u8 0, .int .u8 0, .int .u8 0, .int .u8 0, .int .u8 0, .int .u8 0] 28)).alloc (.cells #[.int .i64 0, .int .i64 0] 30)).setRow w2.heap.size XF).setRow (w2.heap.size + 1) #[.int .i64 0, .int .i64 0]) (w2.heap.size + 1) #[.int .i64 0, .int .i64 0] 30) := (B2.out.row_other (by omega) _).row _
  have BB2 : Hid (Below w2.heap.size w2 ((((w2.alloc (.cells #[.int .i64 0, .string ⟨#[]⟩, .int .u8 0, .int .u8 0, .int .u8 0, .int .u8 0, .int .u8 0, .int .u8 0, .int .u8 0, .int .u8 0, .int .u8 0, .int .u8 0, .int .u8 0, .int .u8 0, .int .u8 0, .int .u8 0, .int .u8 0, .int .u8 0] 28)).alloc (.cells #[.int .i64 0, .int .i64 0] 30)).setRow w2.heap.size XF).setRow (w2.heap.size + 1) #[.int .i64 0, .int .i64 0])) := below_row (below_row (((Below.refl _ _).alloc (Nat.le_refl _) _).alloc (by simp) _) (Nat.le_refl _) _) (by omega) _
  have KB2 : Hid (Below w.heap.size w ((((w2.alloc (.cells #[.int .i64 0, .string ⟨#[]⟩, .int .u8 0, .int .u8 0, .int .u8 0, .int .u8 0, .int .u8 0, .int .u8 0, .int .u8 0, .int .u8 0, .int .u8 0, .int .u8 0, .int .u8 0, .int .u8 0, .int .u8 0, .int .u8 0, .int .u8 0, .int .u8 0] 28)).alloc (.cells #[.int .i64 0, .int .i64 0] 30)).setRow w2.heap.size XF).setRow (w2.heap.size + 1) #[.int .i64 0, .int .i64 0])) := CB2.out.trans (BB2.out.mono CB2.out.size)
  have M1n : Hid (Lies ((((w2.alloc (.cells #[.int .i64 0, .string ⟨#[]⟩, .int .u8 0, .int .u8 0, .int .u8 0, .int .u8 0, .int .u8 0, .int .u8 0, .int .u8 0, .int .u8 0, .int .u8 0, .int .u8 0, .int .u8 0, .int .u8 0, .int .u8 0, .int .u8 0, .int .u8 0, .int .u8 0] 28)).alloc (.cells #[.int .i64 0, .int .i64 0] 30)).setRow w2.heap.size XF).setRow (w2.heap.size + 1) #[.int .i64 0, .int .i64 0]) w1.heap.size XM 28) := M1.out.below BB2.out M1.out.lt
  clear M1
  have M1 := M1n
  clear M1n
  have N1n : Hid (Lies ((((w2.alloc (.cells #[.int .i64 0, .string ⟨#[]⟩, .int .u8 0, .int .u8 0, .int .u8 0, .int .u8 0, .int .u8 0, .int .u8 0, .int .u8 0, .int .u8 0, .int .u8 0, .int .u8 0, .int .u8 0, .int .u8 0, .int .u8 0, .int .u8 0, .int .u8 0, .int .u8 0] 28)).alloc (.cells #[.int .i64 0, .int .i64 0] 30)).setRow w2.heap.size XF).setRow (w2.heap.size + 1) #[.int .i64 0, .int .i64 0]) (w1.heap.size + 1) #[.int .i64 0, .int .i64 0] 30) := N1.out.below BB2.out N1.out.lt
  clear N1
  have N1 := N1n
  clear N1n
  go_upto_region 3 with (first | (refine wpList_store_row rfl 28 _ _ rfl w2.heap.size rfl _ XF rfl 28 A2.out RF.1 RF.2.1 RF.2.2 rfl ?_) | (refine wpList_store_row rfl 30 _ _ rfl (w2.heap.size + 1) rfl _ #[.int .i64 0, .int .i64 0] rfl 30 (B2.out.row_other (by omega) _) infoSp rfl (by simp [Value.oneCell']) rfl ?_))
  generalize hv2 : (((w2.alloc (.cells #[.int .i64 0, .string ⟨#[]⟩, .int .u8 0, .int .u8 0, .int .u8 0, .int .u8 0, .int .u8 0, .int .u8 0, .int .u8 0, .int .u8 0, .int .u8 0, .int .u8 0, .int .u8 0, .int .u8 0, .int .u8 0, .int .u8 0, .int .u8 0, .int .u8 0] 28)).alloc (.cells #[.int .i64 0, .int .i64 0] 30)).setRow w2.heap.size XF).setRow (w2.heap.size + 1) #[.int .i64 0, .int .i64 0] = v2 at M2 N2 BB2 KB2 M1 N1 ⊢
  clear hv2 A2 B2 BB2 CB2
  go_wp2_with fail
  refine (HV4.out _ (HT.out _ KB2.out)).mono ?_
  rintro e w3 ⟨rfl, hb31⟩
  have KB31 : Hid (Below w.heap.size w w3) := KB2.out.trans (hb31.mono KB2.out.size)
  have M1n : Hid (Lies w3 w1.heap.size XM 28) := M1.out.below hb31 M1.out.lt
  clear M1
  have M1 := M1n
  clear M1n
  have N1n : Hid (Lies w3 (w1.heap.size + 1) #[.int .i64 0, .int .i64 0] 30) := N1.out.below hb31 N1.out.lt
  clear N1
  have N1 := N1n
  clear N1n
  have M2n : Hid (Lies w3 w2.heap.size XF 28) := M2.out.below hb31 M2.out.lt
  clear M2
  have M2 := M2n
  clear M2n
  have N2n : Hid (Lies w3 (w2.heap.size + 1) #[.int .i64 0, .int .i64 0] 30) := N2.out.below hb31 N2.out.lt
  clear N2
  have N2 := N2n
  clear N2n
  clear hb31
  go_wp2_with fail
  refine (HPR.out _ (HT.out _ KB31.out)).mono ?_
  rintro e w4 ⟨rfl, hb32⟩
  have KB32 : Hid (Below w.heap.size w w4) := KB31.out.trans (hb32.mono KB31.out.size)
  have M1n : Hid (Lies w4 w1.heap.size XM 28) := M1.out.below hb32 M1.out.lt
  clear M1
  have M1 := M1n
  clear M1n
  have N1n : Hid (Lies w4 (w1.heap.size + 1) #[.int .i64 0, .int .i64 0] 30) := N1.out.below hb32 N1.out.lt
  clear N1
  have N1 := N1n
  clear N1n
  have M2n : Hid (Lies w4 w2.heap.size XF 28) := M2.out.below hb32 M2.out.lt
  clear M2
  have M2 := M2n
  clear M2n
  have N2n : Hid (Lies w4 (w2.heap.size + 1) #[.int .i64 0, .int .i64 0] 30) := N2.out.below hb32 N2.out.lt
  clear N2
  have N2 := N2n
  clear N2n
  clear hb32
  go_upto_region 4 with fail
  go_wp2_with fail
  refine (HP4.out _ (HT.out _ KB32.out)).mono ?_
  rintro e w5 ⟨rfl, hb4⟩
  have CB4 : Hid (Below w.heap.size w w5) := KB32.out.trans (hb4.mono KB32.out.size)
  have M1n : Hid (Lies w5 w1.heap.size XM 28) := M1.out.below hb4 M1.out.lt
  clear M1
  have M1 := M1n
  clear M1n
  have N1n : Hid (Lies w5 (w1.heap.size + 1) #[.int .i64 0, .int .i64 0] 30) := N1.out.below hb4 N1.out.lt
  clear N1
  have N1 := N1n
  clear N1n
  have M2n : Hid (Lies w5 w2.heap.size XF 28) := M2.out.below hb4 M2.out.lt
  clear M2
  have M2 := M2n
  clear M2n
  have N2n : Hid (Lies w5 (w2.heap.size + 1) #[.int .i64 0, .int .i64 0] 30) := N2.out.below hb4 N2.out.lt
  clear N2
  have N2 := N2n
  clear N2n
  clear hb4 HP4
  have A4 : Hid (Lies ((w5.alloc (.cells #[.int .i64 0, .string ⟨#[]⟩, .int .u8 0, .int .u8 0, .int .u8 0, .int .u8 0, .int .u8 0, .int .u8 0, .int .u8 0, .int .u8 0, .int .u8 0, .int .u8 0, .int .u8 0, .int .u8 0, .int .u8 0, .int .u8 0, .int .u8 0, .int .u8 0] 28)).alloc (.cells #[.int .i64 0, .int .i64 0] 30)) w5.heap.size #[.int .i64 0, .string ⟨#[]⟩, .int .u8 0, .int .u8 0, .int .u8 0, .int .u8 0, .int .u8 0, .int .u8 0, .int .u8 0, .int .u8 0, .int .u8 0, .int .u8 0, .int .u8 0, .int .u8 0, .int .u8 0, .int .u8 0, .int .u8 0, .int .u8 0] 28) := (Lies.new w5 _ _).alloc _
  have B4 : Hid (Lies ((w5.alloc (.cells #[.int .i64 0, .string ⟨#[]⟩, .int .u8 0, .int .u8 0, .int .u8 0, .int .u8 0, .int .u8 0, .int .u8 0, .int .u8 0, .int .u8 0, .int .u8 0, .int .u8 0, .int .u8 0, .int .u8 0, .int .u8 0, .int .u8 0, .int .u8 0, .int .u8 0] 28)).alloc (.cells #[.int .i64 0, .int .i64 0] 30)) (w5.heap.size + 1) #[.int .i64 0, .int .i64 0] 30) := new_one w5 _ _ _
  have M4 : Hid (Lies ((((w5.alloc (.cells #[.int .i64 0, .string ⟨#[]⟩, .int .u8 0, .int .u8 0, .int .u8 0, .int .u8 0, .int .u8 0, .int .u8 0, .int .u8 0, .int .u8 0, .int .u8 0, .int .u8 0, .int .u8 0, .int .u8 0, .int .u8 0, .int .u8 0, .int .u8 0, .int .u8 0] 28)).alloc (.cells #[.int .i64 0, .int .i64 0] 30)).setRow w5.heap.size X0).setRow (w5.heap.size + 1) #[.int .i64 80, .int .i64 2]) w5.heap.size X0 28) := (A4.out.row _).row_other (by omega) _
  have N4 : Hid (Lies ((((w5.alloc (.cells #[.int .i64 0, .string ⟨#[]⟩, .int .u8 0, .int .u8 0, .int .u8 0, .int .u8 0, .int .u8 0, .int .u8 0, .int .u8 0, .int .u8 0, .int .u8 0, .int .u8 0, .int .u8 0, .int .u8 0, .int .u8 0, .int .u8 0, .int .u8 0, .int .u8 0] 28)).alloc (.cells #[.int .i64 0, .int .i64 0] 30)).setRow w5.heap.size X0).setRow (w5.heap.size + 1) #[.int .i64 80, .int .i64 2]) (w5.heap.size + 1) #[.int .i64 80, .int .i64 2] 30) := (B4.out.row_other (by omega) _).row _
  have BB4 : Hid (Below w5.heap.size w5 ((((w5.alloc (.cells #[.int .i64 0, .string ⟨#[]⟩, .int .u8 0, .int .u8 0, .int .u8 0, .int .u8 0, .int .u8 0, .int .u8 0, .int .u8 0, .int .u8 0, .int .u8 0, .int .u8 0, .int .u8 0, .int .u8 0, .int .u8 0, .int .u8 0, .int .u8 0, .int .u8 0] 28)).alloc (.cells #[.int .i64 0, .int .i64 0] 30)).setRow w5.heap.size X0).setRow (w5.heap.size + 1) #[.int .i64 80, .int .i64 2])) := below_row (below_row (((Below.refl _ _).alloc (Nat.le_refl _) _).alloc (by simp) _) (Nat.le_refl _) _) (by omega) _
  have KB4 : Hid (Below w.heap.size w ((((w5.alloc (.cells #[.int .i64 0, .string ⟨#[]⟩, .int .u8 0, .int .u8 0, .int .u8 0, .int .u8 0, .int .u8 0, .int .u8 0, .int .u8 0, .int .u8 0, .int .u8 0, .int .u8 0, .int .u8 0, .int .u8 0, .int .u8 0, .int .u8 0, .int .u8 0, .int .u8 0] 28)).alloc (.cells #[.int .i64 0, .int .i64 0] 30)).setRow w5.heap.size X0).setRow (w5.heap.size + 1) #[.int .i64 80, .int .i64 2])) := CB4.out.trans (BB4.out.mono CB4.out.size)
  have M1n : Hid (Lies ((((w5.alloc (.cells #[.int .i64 0, .string ⟨#[]⟩, .int .u8 0, .int .u8 0, .int .u8 0, .int .u8 0, .int .u8 0, .int .u8 0, .int .u8 0, .int .u8 0, .int .u8 0, .int .u8 0, .int .u8 0, .int .u8 0, .int .u8 0, .int .u8 0, .int .u8 0, .int .u8 0] 28)).alloc (.cells #[.int .i64 0, .int .i64 0] 30)).setRow w5.heap.size X0).setRow (w5.heap.size + 1) #[.int .i64 80, .int .i64 2]) w1.heap.size XM 28) := M1.out.below BB4.out M1.out.lt
  clear M1
  have M1 := M1n
  clear M1n
  have N1n : Hid (Lies ((((w5.alloc (.cells #[.int .i64 0, .string ⟨#[]⟩, .int .u8 0, .int .u8 0, .int .u8 0, .int .u8 0, .int .u8 0, .int .u8 0, .int .u8 0, .int .u8 0, .int .u8 0, .int .u8 0, .int .u8 0, .int .u8 0, .int .u8 0, .int .u8 0, .int .u8 0, .int .u8 0] 28)).alloc (.cells #[.int .i64 0, .int .i64 0] 30)).setRow w5.heap.size X0).setRow (w5.heap.size + 1) #[.int .i64 80, .int .i64 2]) (w1.heap.size + 1) #[.int .i64 0, .int .i64 0] 30) := N1.out.below BB4.out N1.out.lt
  clear N1
  have N1 := N1n
  clear N1n
  have M2n : Hid (Lies ((((w5.alloc (.cells #[.int .i64 0, .string ⟨#[]⟩, .int .u8 0, .int .u8 0, .int .u8 0, .int .u8 0, .int .u8 0, .int .u8 0, .int .u8 0, .int .u8 0, .int .u8 0, .int .u8 0, .int .u8 0, .int .u8 0, .int .u8 0, .int .u8 0, .int .u8 0, .int .u8 0] 28)).alloc (.cells #[.int .i64 0, .int .i64 0] 30)).setRow w5.heap.size X0).setRow (w5.heap.size + 1) #[.int .i64 80, .int .i64 2]) w2.heap.size XF 28) := M2.out.below BB4.out M2.out.lt
  clear M2
  have M2 := M2n
  clear M2n
  have N2n : Hid (Lies ((((w5.alloc (.cells #[.int .i64 0, .string ⟨#[]⟩, .int .u8 0, .int .u8 0, .int .u8 0, .int .u8 0, .int .u8 0, .int .u8 0, .int .u8 0, .int .u8 0, .int .u8 0, .int .u8 0, .int .u8 0, .int .u8 0, .int .u8 0, .int .u8 0, .int .u8 0, .int .u8 0] 28)).alloc (.cells #[.int .i64 0, .int .i64 0] 30)).setRow w5.heap.size X0).setRow (w5.heap.size + 1) #[.int .i64 80, .int .i64 2]) (w2.heap.size + 1) #[.int .i64 0, .int .i64 0] 30) := N2.out.below BB4.out N2.out.lt
  clear N2
  have N2 := N2n
  clear N2n
  go_upto_region 5 with (first | (refine wpList_store_row rfl 28 _ _ rfl w5.heap.size rfl _ X0 rfl 28 A4.out R0.1 R0.2.1 R0.2.2 rfl ?_) | (refine wpList_store_row rfl 30 _ _ rfl (w5.heap.size + 1) rfl _ #[.int .i64 80, .int .i64 2] rfl 30 (B4.out.row_other (by omega) _) infoSp rfl (by simp [Value.oneCell']) rfl ?_))
  generalize hv4 : (((w5.alloc (.cells #[.int .i64 0, .string ⟨#[]⟩, .int .u8 0, .int .u8 0, .int .u8 0, .int .u8 0, .int .u8 0, .int .u8 0, .int .u8 0, .int .u8 0, .int .u8 0, .int .u8 0, .int .u8 0, .int .u8 0, .int .u8 0, .int .u8 0, .int .u8 0, .int .u8 0] 28)).alloc (.cells #[.int .i64 0, .int .i64 0] 30)).setRow w5.heap.size X0).setRow (w5.heap.size + 1) #[.int .i64 80, .int .i64 2] = v4 at M4 N4 BB4 KB4 M1 N1 M2 N2 ⊢
  clear hv4 A4 B4 BB4 CB4
  go_wp2_with fail
  refine (HV6.out _ (HT.out _ KB4.out)).mono ?_
  rintro e w6 ⟨rfl, hb5⟩
  have CB5 : Hid (Below w.heap.size w w6) := KB4.out.trans (hb5.mono KB4.out.size)
  have M1n : Hid (Lies w6 w1.heap.size XM 28) := M1.out.below hb5 M1.out.lt
  clear M1
  have M1 := M1n
  clear M1n
  have N1n : Hid (Lies w6 (w1.heap.size + 1) #[.int .i64 0, .int .i64 0] 30) := N1.out.below hb5 N1.out.lt
  clear N1
  have N1 := N1n
  clear N1n
  have M2n : Hid (Lies w6 w2.heap.size XF 28) := M2.out.below hb5 M2.out.lt
  clear M2
  have M2 := M2n
  clear M2n
  have N2n : Hid (Lies w6 (w2.heap.size + 1) #[.int .i64 0, .int .i64 0] 30) := N2.out.below hb5 N2.out.lt
  clear N2
  have N2 := N2n
  clear N2n
  have M4n : Hid (Lies w6 w5.heap.size X0 28) := M4.out.below hb5 M4.out.lt
  clear M4
  have M4 := M4n
  clear M4n
  have N4n : Hid (Lies w6 (w5.heap.size + 1) #[.int .i64 80, .int .i64 2] 30) := N4.out.below hb5 N4.out.lt
  clear N4
  have N4 := N4n
  clear N4n
  clear hb5 HV6
  have A5 : Hid (Lies ((w6.alloc (.cells #[.int .u8 0, .int .u8 0, .int .u8 0, .int .u8 0, .int .u8 0, .int .u8 0, .int .u8 0, .int .u8 0, .int .u8 0, .int .u8 0, .int .u8 0, .int .u8 0, .int .u8 0, .int .u8 0, .int .u8 0, .int .u8 0] 26)).alloc (.cells #[.int .i64 0, .int .i64 0] 30)) w6.heap.size #[.int .u8 0, .int .u8 0, .int .u8 0, .int .u8 0, .int .u8 0, .int .u8 0, .int .u8 0, .int .u8 0, .int .u8 0, .int .u8 0, .int .u8 0, .int .u8 0, .int .u8 0, .int .u8 0, .int .u8 0, .int .u8 0] 26) := (Lies.new w6 _ _).alloc _
  have B5 : Hid (Lies ((w6.alloc (.cells #[.int .u8 0, .int .u8 0, .int .u8 0, .int .u8 0, .int .u8 0, .int .u8 0, .int .u8 0, .int .u8 0, .int .u8 0, .int .u8 0, .int .u8 0, .int .u8 0, .int .u8 0, .int .u8 0, .int .u8 0, .int .u8 0] 26)).alloc (.cells #[.int .i64 0, .int .i64 0] 30)) (w6.heap.size + 1) #[.int .i64 0, .int .i64 0] 30) := new_one w6 _ _ _
  have M5 : Hid (Lies ((((w6.alloc (.cells #[.int .u8 0, .int .u8 0, .int .u8 0, .int .u8 0, .int .u8 0, .int .u8 0, .int .u8 0, .int .u8 0, .int .u8 0, .int .u8 0, .int .u8 0, .int .u8 0, .int .u8 0, .int .u8 0, .int .u8 0, .int .u8 0] 26)).alloc (.cells #[.int .i64 0, .int .i64 0] 30)).setRow w6.heap.size XS).setRow (w6.heap.size + 1) #[.int .i64 0, .int .i64 0]) w6.heap.size XS 26) := (A5.out.row _).row_other (by omega) _
  have N5 : Hid (Lies ((((w6.alloc (.cells #[.int .u8 0, .int .u8 0, .int .u8 0, .int .u8 0, .int .u8 0, .int .u8 0, .int .u8 0, .int .u8 0, .int .u8 0, .int .u8 0, .int .u8 0, .int .u8 0, .int .u8 0, .int .u8 0, .int .u8 0, .int .u8 0] 26)).alloc (.cells #[.int .i64 0, .int .i64 0] 30)).setRow w6.heap.size XS).setRow (w6.heap.size + 1) #[.int .i64 0, .int .i64 0]) (w6.heap.size + 1) #[.int .i64 0, .int .i64 0] 30) := (B5.out.row_other (by omega) _).row _
  have BB5 : Hid (Below w6.heap.size w6 ((((w6.alloc (.cells #[.int .u8 0, .int .u8 0, .int .u8 0, .int .u8 0, .int .u8 0, .int .u8 0, .int .u8 0, .int .u8 0, .int .u8 0, .int .u8 0, .int .u8 0, .int .u8 0, .int .u8 0, .int .u8 0, .int .u8 0, .int .u8 0] 26)).alloc (.cells #[.int .i64 0, .int .i64 0] 30)).setRow w6.heap.size XS).setRow (w6.heap.size + 1) #[.int .i64 0, .int .i64 0])) := below_row (below_row (((Below.refl _ _).alloc (Nat.le_refl _) _).alloc (by simp) _) (Nat.le_refl _) _) (by omega) _
  have KB5 : Hid (Below w.heap.size w ((((w6.alloc (.cells #[.int .u8 0, .int .u8 0, .int .u8 0, .int .u8 0, .int .u8 0, .int .u8 0, .int .u8 0, .int .u8 0, .int .u8 0, .int .u8 0, .int .u8 0, .int .u8 0, .int .u8 0, .int .u8 0, .int .u8 0, .int .u8 0] 26)).alloc (.cells #[.int .i64 0, .int .i64 0] 30)).setRow w6.heap.size XS).setRow (w6.heap.size + 1) #[.int .i64 0, .int .i64 0])) := CB5.out.trans (BB5.out.mono CB5.out.size)
  have M1n : Hid (Lies ((((w6.alloc (.cells #[.int .u8 0, .int .u8 0, .int .u8 0, .int .u8 0, .int .u8 0, .int .u8 0, .int .u8 0, .int .u8 0, .int .u8 0, .int .u8 0, .int .u8 0, .int .u8 0, .int .u8 0, .int .u8 0, .int .u8 0, .int .u8 0] 26)).alloc (.cells #[.int .i64 0, .int .i64 0] 30)).setRow w6.heap.size XS).setRow (w6.heap.size + 1) #[.int .i64 0, .int .i64 0]) w1.heap.size XM 28) := M1.out.below BB5.out M1.out.lt
  clear M1
  have M1 := M1n
  clear M1n
  have N1n : Hid (Lies ((((w6.alloc (.cells #[.int .u8 0, .int .u8 0, .int .u8 0, .int .u8 0, .int .u8 0, .int .u8 0, .int .u8 0, .int .u8 0, .int .u8 0, .int .u8 0, .int .u8 0, .int .u8 0, .int .u8 0, .int .u8 0, .int .u8 0, .int .u8 0] 26)).alloc (.cells #[.int .i64 0, .int .i64 0] 30)).setRow w6.heap.size XS).setRow (w6.heap.size + 1) #[.int .i64 0, .int .i64 0]) (w1.heap.size + 1) #[.int .i64 0, .int .i64 0] 30) := N1.out.below BB5.out N1.out.lt
  clear N1
  have N1 := N1n
  clear N1n
  have M2n : Hid (Lies ((((w6.alloc (.cells #[.int .u8 0, .int .u8 0, .int .u8 0, .int .u8 0, .int .u8 0, .int .u8 0, .int .u8 0, .int .u8 0, .int .u8 0, .int .u8 0, .int .u8 0, .int .u8 0, .int .u8 0, .int .u8 0, .int .u8 0, .int .u8 0] 26)).alloc (.cells #[.int .i64 0, .int .i64 0] 30)).setRow w6.heap.size XS).setRow (w6.heap.size + 1) #[.int .i64 0, .int .i64 0]) w2.heap.size XF 28) := M2.out.below BB5.out M2.out.lt
  clear M2
  have M2 := M2n
  clear M2n
  have N2n : Hid (Lies ((((w6.alloc (.cells #[.int .u8 0, .int .u8 0, .int .u8 0, .int .u8 0, .int .u8 0, .int .u8 0, .int .u8 0, .int .u8 0, .int .u8 0, .int .u8 0, .int .u8 0, .int .u8 0, .int .u8 0, .int .u8 0, .int .u8 0, .int .u8 0] 26)).alloc (.cells #[.int .i64 0, .int .i64 0] 30)).setRow w6.heap.size XS).setRow (w6.heap.size + 1) #[.int .i64 0, .int .i64 0]) (w2.heap.size + 1) #[.int .i64 0, .int .i64 0] 30) := N2.out.below BB5.out N2.out.lt
  clear N2
  have N2 := N2n
  clear N2n
  have M4n : Hid (Lies ((((w6.alloc (.cells #[.int .u8 0, .int .u8 0, .int .u8 0, .int .u8 0, .int .u8 0, .int .u8 0, .int .u8 0, .int .u8 0, .int .u8 0, .int .u8 0, .int .u8 0, .int .u8 0, .int .u8 0, .int .u8 0, .int .u8 0, .int .u8 0] 26)).alloc (.cells #[.int .i64 0, .int .i64 0] 30)).setRow w6.heap.size XS).setRow (w6.heap.size + 1) #[.int .i64 0, .int .i64 0]) w5.heap.size X0 28) := M4.out.below BB5.out M4.out.lt
  clear M4
  have M4 := M4n
  clear M4n
  have N4n : Hid (Lies ((((w6.alloc (.cells #[.int .u8 0, .int .u8 0, .int .u8 0, .int .u8 0, .int .u8 0, .int .u8 0, .int .u8 0, .int .u8 0, .int .u8 0, .int .u8 0, .int .u8 0, .int .u8 0, .int .u8 0, .int .u8 0, .int .u8 0, .int .u8 0] 26)).alloc (.cells #[.int .i64 0, .int .i64 0] 30)).setRow w6.heap.size XS).setRow (w6.heap.size + 1) #[.int .i64 0, .int .i64 0]) (w5.heap.size + 1) #[.int .i64 80, .int .i64 2] 30) := N4.out.below BB5.out N4.out.lt
  clear N4
  have N4 := N4n
  clear N4n
  go_upto_region 6 with (first | (refine wpList_store_row rfl 26 _ _ rfl w6.heap.size rfl _ XS rfl 26 A5.out RS.1 RS.2.1 RS.2.2 rfl ?_) | (refine wpList_store_row rfl 30 _ _ rfl (w6.heap.size + 1) rfl _ #[.int .i64 0, .int .i64 0] rfl 30 (B5.out.row_other (by omega) _) infoSp rfl (by simp [Value.oneCell']) rfl ?_))
  generalize hv5 : (((w6.alloc (.cells #[.int .u8 0, .int .u8 0, .int .u8 0, .int .u8 0, .int .u8 0, .int .u8 0, .int .u8 0, .int .u8 0, .int .u8 0, .int .u8 0, .int .u8 0, .int .u8 0, .int .u8 0, .int .u8 0, .int .u8 0, .int .u8 0] 26)).alloc (.cells #[.int .i64 0, .int .i64 0] 30)).setRow w6.heap.size XS).setRow (w6.heap.size + 1) #[.int .i64 0, .int .i64 0] = v5 at M5 N5 BB5 KB5 M1 N1 M2 N2 M4 N4 ⊢
  clear hv5 A5 B5 BB5 CB5
  have a0 := N1.out.cell 0
  have a1 := N1.out.cell 1
  have b0 := N2.out.cell 0
  have b1 := N2.out.cell 1
  have d0 := N4.out.cell 0
  have d1 := N4.out.cell 1
  have f0 := N5.out.cell 0
  have f1 := N5.out.cell 1
  simp at a0 a1 b0 b1 d0 d1 f0 f1
  have hzz := N1.out.lt
  have hzz2 := N2.out.lt
  have hzz4 := N4.out.lt
  have hzz5 := N5.out.lt
  go_upto_region 8 with fail
  have hm := HCm.out
  refine wp_region_late (fun wx => Below v5.heap.size v5 wx) 29 (by kernel_rfl) (Below.refl _ v5).drew (fun hHeld => ?_)
  refine wpAnyE_tk (i := 0) (d := some 54) (v := .agg XM) rfl (by kernel_rfl) (by kernel_rfl) (by kernel_rfl) rfl (fun _ _ _ h => h) rfl rfl ?hy (by assumption) ?_
  case hy => exact fun w' hSw => exec_load_row 28 _ rfl w1.heap.size rfl XM 28 _ (M1.out.below hSw M1.out.lt) Tryz.underlying28 rfl (by rw [hm.1]; exact infoHo)
  simp only [Act.put, List.setIfInBounds_toArray, List.set_cons_zero, List.set_cons_succ]
  refine wpAnyE_tk (i := 1) (d := some 55) (v := hostV mxH) rfl (by kernel_rfl) (by kernel_rfl) (by kernel_rfl) rfl (fun _ _ _ h => h) rfl rfl ?hy (by assumption) ?_
  case hy => (intro w' _; go_simp; rfl)
  simp only [Act.put, List.setIfInBounds_toArray, List.set_cons_zero, List.set_cons_succ]
  refine wpAnyE_tk (i := 2) (d := some 56) (v := .bool true) rfl (by kernel_rfl) (by kernel_rfl) (by kernel_rfl) rfl (fun _ _ _ h => h) rfl rfl ?hy (by assumption) ?_
  case hy =>
    intro w' _
    refine Eq.trans (exec_eql_host _ _ _ rfl mxH mxH ?_ ?_ rfl rfl) (by rw [decide_eq_true rfl])
    · (show Value.agg XM = _; rw [EM.out]; rfl)
    · rfl
  simp only [Act.put, List.setIfInBounds_toArray, List.set_cons_zero, List.set_cons_succ]
  refine wpAnyE_tk (i := 3) (d := some 57) (v := ?_) rfl (by kernel_rfl) (by kernel_rfl) (by kernel_rfl) rfl (fun _ _ _ h => h) rfl rfl ?hy (by assumption) ?_
  case hy => (intro w' hSw; (try dsimp only at hSw); go_simp <;> (first | with_reducible rfl | omega | skip))
  simp only [Act.put, List.setIfInBounds_toArray, List.set_cons_zero, List.set_cons_succ]
  refine wpAnyE_tk (i := 4) (d := some 58) (v := .agg XF) rfl (by kernel_rfl) (by kernel_rfl) (by kernel_rfl) rfl (fun _ _ _ h => h) rfl rfl ?hy (by assumption) ?_
  case hy => exact fun w' hSw => exec_load_row 28 _ rfl w2.heap.size rfl XF 28 _ (M2.out.below hSw M2.out.lt) Tryz.underlying28 rfl (by rw [hm.2.1]; exact infoHo)
  simp only [Act.put, List.setIfInBounds_toArray, List.set_cons_zero, List.set_cons_succ]
  refine wpAnyE_on (i := 5) (by kernel_rfl) rfl rfl ?_
  go_simp
  refine Calls.mono (HV4.out _ (HT.out _ KB5.out.drew)) ?_
  rintro e y1 ⟨rfl, hca⟩
  have hxa : Below v5.heap.size v5 y1 := (Below.refl _ v5).drew.trans hca
  refine ⟨hxa, ?_⟩
  have KXa : Hid (Below w.heap.size w y1) := KB5.out.trans (hxa.mono KB5.out.size)
  refine wpAnyE_tk (i := 6) (d := some 60) (v := .bool true) rfl (by kernel_rfl) (by kernel_rfl) (by kernel_rfl) rfl (fun _ _ _ h => h) rfl rfl ?hy (by assumption) ?_
  case hy =>
    intro w' _
    refine Eq.trans (exec_eql_host _ _ _ rfl fourK fourK ?_ ?_ rfl rfl) (by rw [decide_eq_true rfl])
    · (show Value.agg XF = _; rw [EF.out]; rfl)
    · (show Value.agg XF = _; rw [EF.out]; rfl)
  simp only [Act.put, List.setIfInBounds_toArray, List.set_cons_zero, List.set_cons_succ]
  refine wpAnyE_tk (i := 7) (d := some 61) (v := ?_) rfl (by kernel_rfl) (by kernel_rfl) (by kernel_rfl) rfl (fun _ _ _ h => h) rfl rfl ?hy (by assumption) ?_
  case hy => (intro w' hSw; (try dsimp only at hSw); go_simp <;> (first | with_reducible rfl | omega | skip))
  simp only [Act.put, List.setIfInBounds_toArray, List.set_cons_zero, List.set_cons_succ]
  refine wpAnyE_tk (i := 8) (d := some 62) (v := ?_) rfl (by kernel_rfl) (by kernel_rfl) (by kernel_rfl) rfl (fun _ _ _ h => h) rfl rfl ?hy (by assumption) ?_
  case hy => (intro w' hSw; (try dsimp only at hSw); go_simp <;> (first | with_reducible rfl | omega | skip))
  simp only [Act.put, List.setIfInBounds_toArray, List.set_cons_zero, List.set_cons_succ]
  refine wpAnyE_tk (i := 9) (d := some 63) (v := ?_) rfl (by kernel_rfl) (by kernel_rfl) (by kernel_rfl) rfl (fun _ _ _ h => h) rfl rfl ?hy (by assumption) ?_
  case hy => (intro w' hSw; (try dsimp only at hSw); go_simp <;> (first | with_reducible rfl | omega | skip))
  simp only [Act.put, List.setIfInBounds_toArray, List.set_cons_zero, List.set_cons_succ]
  refine wpAnyE_tk (i := 10) (d := some 64) (v := ?_) rfl (by kernel_rfl) (by kernel_rfl) (by kernel_rfl) rfl (fun _ _ _ h => h) rfl rfl ?hy (by assumption) ?_
  case hy => (intro w' hSw; (try dsimp only at hSw); go_simp <;> (first | with_reducible rfl | omega | skip))
  simp only [Act.put, List.setIfInBounds_toArray, List.set_cons_zero, List.set_cons_succ]
  refine wpAnyE_tk (i := 11) (d := some 65) (v := ?_) rfl (by kernel_rfl) (by kernel_rfl) (by kernel_rfl) rfl (fun _ _ _ h => h) rfl rfl ?hy (by assumption) ?_
  case hy => (intro w' hSw; (try dsimp only at hSw); go_simp <;> (first | with_reducible rfl | omega | skip))
  simp only [Act.put, List.setIfInBounds_toArray, List.set_cons_zero, List.set_cons_succ]
  refine wpAnyE_tk (i := 12) (d := some 66) (v := ?_) rfl (by kernel_rfl) (by kernel_rfl) (by kernel_rfl) rfl (fun _ _ _ h => h) rfl rfl ?hy (by assumption) ?_
  case hy => (intro w' hSw; (try dsimp only at hSw); go_simp <;> (first | with_reducible rfl | omega | skip))
  simp only [Act.put, List.setIfInBounds_toArray, List.set_cons_zero, List.set_cons_succ]
  refine wpAnyE_tk (i := 13) (d := some 67) (v := .agg XS) rfl (by kernel_rfl) (by kernel_rfl) (by kernel_rfl) rfl (fun _ _ _ h => h) rfl rfl ?hy (by assumption) ?_
  case hy => exact fun w' hSw => exec_load_row 26 _ rfl w6.heap.size rfl XS 26 _ (M5.out.below hSw M5.out.lt) Tryz.underlying26 rfl (by rw [hm.2.2]; exact info16)
  simp only [Act.put, List.setIfInBounds_toArray, List.set_cons_zero, List.set_cons_succ]
  refine wpAnyE_on (i := 14) (by kernel_rfl) rfl rfl ?_
  go_simp
  refine Calls.mono (HP6.out _ (HT.out _ KXa.out)) ?_
  rintro e y2 ⟨rfl, hcb⟩
  have hxb : Below v5.heap.size v5 y2 := hxa.trans (hcb.mono hxa.size)
  refine ⟨hxb, ?_⟩
  have KXb : Hid (Below w.heap.size w y2) := KB5.out.trans (hxb.mono KB5.out.size)
  refine wpAnyE_tk (i := 15) (d := some 69) (v := ?_) rfl (by kernel_rfl) (by kernel_rfl) (by kernel_rfl) rfl (fun _ _ _ h => h) rfl rfl ?hy (by assumption) ?_
  case hy => (intro w' hSw; (try dsimp only at hSw); go_simp <;> (first | with_reducible rfl | omega | skip))
  simp only [Act.put, List.setIfInBounds_toArray, List.set_cons_zero, List.set_cons_succ]
  refine wpAnyE_tk (i := 16) (d := some 70) (v := ?_) rfl (by kernel_rfl) (by kernel_rfl) (by kernel_rfl) rfl (fun _ _ _ h => h) rfl rfl ?hy (by assumption) ?_
  case hy => (intro w' hSw; (try dsimp only at hSw); go_simp <;> (first | with_reducible rfl | omega | skip))
  simp only [Act.put, List.setIfInBounds_toArray, List.set_cons_zero, List.set_cons_succ]
  refine wpAnyE_tk (i := 17) (d := some 71) (v := ?_) rfl (by kernel_rfl) (by kernel_rfl) (by kernel_rfl) rfl (fun _ _ _ h => h) rfl rfl ?hy (by assumption) ?_
  case hy => (intro w' hSw; (try dsimp only at hSw); go_simp <;> (first | with_reducible rfl | omega | skip))
  simp only [Act.put, List.setIfInBounds_toArray, List.set_cons_zero, List.set_cons_succ]
  refine wpAnyE_tk (i := 18) (d := some 72) (v := .agg XM) rfl (by kernel_rfl) (by kernel_rfl) (by kernel_rfl) rfl (fun _ _ _ h => h) rfl rfl ?hy (by assumption) ?_
  case hy => exact fun w' hSw => exec_load_row 28 _ rfl w1.heap.size rfl XM 28 _ (M1.out.below hSw M1.out.lt) Tryz.underlying28 rfl (by rw [hm.1]; exact infoHo)
  simp only [Act.put, List.setIfInBounds_toArray, List.set_cons_zero, List.set_cons_succ]
  refine wpAnyE_tk (i := 19) (d := some 73) (v := hostV MXH) rfl (by kernel_rfl) (by kernel_rfl) (by kernel_rfl) rfl (fun _ _ _ h => h) rfl rfl ?hy (by assumption) ?_
  case hy => (intro w' _; go_simp; rfl)
  simp only [Act.put, List.setIfInBounds_toArray, List.set_cons_zero, List.set_cons_succ]
  refine wpAnyE_on (i := 20) (by kernel_rfl) rfl rfl ?_
  go_simp
  refine Calls.mono (HS1.out _ (HT.out _ KXb.out)) ?_
  rintro e y3 ⟨rfl, hcc⟩
  have hxc : Below v5.heap.size v5 y3 := hxb.trans (hcc.mono hxb.size)
  refine ⟨hxc, ?_⟩
  have KXc : Hid (Below w.heap.size w y3) := KB5.out.trans (hxc.mono KB5.out.size)
  refine wpAnyE_tk (i := 21) (d := some 75) (v := ?_) rfl (by kernel_rfl) (by kernel_rfl) (by kernel_rfl) rfl (fun _ _ _ h => h) rfl rfl ?hy (by assumption) ?_
  case hy => (intro w' hSw; (try dsimp only at hSw); go_simp <;> (first | with_reducible rfl | omega | skip))
  simp only [Act.put, List.setIfInBounds_toArray, List.set_cons_zero, List.set_cons_succ]
  refine wpAnyE_tk (i := 22) (d := some 76) (v := ?_) rfl (by kernel_rfl) (by kernel_rfl) (by kernel_rfl) rfl (fun _ _ _ h => h) rfl rfl ?hy (by assumption) ?_
  case hy => (intro w' hSw; (try dsimp only at hSw); go_simp <;> (first | with_reducible rfl | omega | skip))
  simp only [Act.put, List.setIfInBounds_toArray, List.set_cons_zero, List.set_cons_succ]
  refine wpAnyE_tk (i := 23) (d := some 77) (v := .agg XM) rfl (by kernel_rfl) (by kernel_rfl) (by kernel_rfl) rfl (fun _ _ _ h => h) rfl rfl ?hy (by assumption) ?_
  case hy => exact fun w' hSw => exec_load_row 28 _ rfl w1.heap.size rfl XM 28 _ (M1.out.below hSw M1.out.lt) Tryz.underlying28 rfl (by rw [hm.1]; exact infoHo)
  simp only [Act.put, List.setIfInBounds_toArray, List.set_cons_zero, List.set_cons_succ]
  refine wpAnyE_tk (i := 24) (d := some 78) (v := .agg XF) rfl (by kernel_rfl) (by kernel_rfl) (by kernel_rfl) rfl (fun _ _ _ h => h) rfl rfl ?hy (by assumption) ?_
  case hy => exact fun w' hSw => exec_load_row 28 _ rfl w2.heap.size rfl XF 28 _ (M2.out.below hSw M2.out.lt) Tryz.underlying28 rfl (by rw [hm.2.1]; exact infoHo)
  simp only [Act.put, List.setIfInBounds_toArray, List.set_cons_zero, List.set_cons_succ]
  refine wpAnyE_on (i := 25) (by kernel_rfl) rfl rfl ?_
  go_simp
  refine Calls.mono (HS2.out _ (HT.out _ KXc.out)) ?_
  rintro e y4 ⟨rfl, hcd⟩
  have hxd : Below v5.heap.size v5 y4 := hxc.trans (hcd.mono hxc.size)
  refine ⟨hxd, ?_⟩
  have KXd : Hid (Below w.heap.size w y4) := KB5.out.trans (hxd.mono KB5.out.size)
  refine wpAnyE_tk (i := 26) (d := some 80) (v := ?_) rfl (by kernel_rfl) (by kernel_rfl) (by kernel_rfl) rfl (fun _ _ _ h => h) rfl rfl ?hy (by assumption) ?_
  case hy => (intro w' hSw; (try dsimp only at hSw); go_simp <;> (first | with_reducible rfl | omega | skip))
  simp only [Act.put, List.setIfInBounds_toArray, List.set_cons_zero, List.set_cons_succ]
  refine wpAnyE_tk (i := 27) (d := some 81) (v := ?_) rfl (by kernel_rfl) (by kernel_rfl) (by kernel_rfl) rfl (fun _ _ _ h => h) rfl rfl ?hy (by assumption) ?_
  case hy => (intro w' hSw; (try dsimp only at hSw); go_simp <;> (first | with_reducible rfl | omega | skip))
  simp only [Act.put, List.setIfInBounds_toArray, List.set_cons_zero, List.set_cons_succ]
  refine wpAnyE_tk (i := 28) (d := some 0) (v := ?_) rfl (by kernel_rfl) (by kernel_rfl) (by kernel_rfl) rfl (fun _ _ _ h => h) rfl rfl ?hy (by assumption) ?_
  case hy => (intro w' hSw; (try dsimp only at hSw); go_simp <;> (first | with_reducible rfl | omega | skip))
  simp only [Act.put, List.setIfInBounds_toArray, List.set_cons_zero]
  refine wpAnyE_done (by kernel_rfl) ?_ _
  clear hHeld
  go_wp2
  go_ret
  exact ⟨rfl, KXd.out⟩
end Go.Proofs.YtnlgbopdbihnjaaGreatDoor
