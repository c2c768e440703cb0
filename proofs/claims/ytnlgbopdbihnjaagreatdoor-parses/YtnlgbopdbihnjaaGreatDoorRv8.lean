/-
  The document's whole6: the walk.
-/
import Derived.Test.YtnlgbopdbihnjaaGreatDoorRu8
namespace Go.Proofs.YtnlgbopdbihnjaaGreatDoor
open Go.RowKit

set_option maxHeartbeats 16000000 in
set_option maxRecDepth 100000 in
theorem rw6_any (s : ByteArray) (w : World) (hT : ∃ m, w.cell? ⟨1, 0, none⟩ = some (.int .i64 m)) (hs : s.size ≤ 2000000) : Calls Tryz.prog 67 #[.string s] w fun e w' => e = .returned (w6V s.data.toList) ∧ Below w.heap.size w w' := by
  have HT : Hid (∀ wx, Below w.heap.size w wx → ∃ m, wx.cell? ⟨1, 0, none⟩ = some (.int .i64 m)) := fun wx hx => by
    obtain ⟨m, hm⟩ := hT
    exact ⟨m, (hx.cell (p := ⟨1, 0, none⟩) (World.block_lt_of_cell? w _ hm)).trans hm⟩
  clear hT
  have RR : Hid (Lies ((w.alloc (.cells #[.int .u8 0, .int .u8 0, .int .u8 0, .int .u8 0, .int .u8 0, .int .u8 0, .int .u8 0, .int .u8 0, .int .u8 0, .int .u8 0, .int .u8 0, .int .u8 0, .int .u8 0, .int .u8 0, .int .u8 0, .int .u8 0] 26)).alloc (.cells #[.int .u8 0, .int .u8 0, .int .u8 0, .int .u8 0, .int .u8 0, .int .u8 0, .int .u8 0, .int .u8 0, .int .u8 0, .int .u8 0, .int .u8 0, .int .u8 0, .int .u8 0, .int .u8 0, .int .u8 0, .int .u8 0] 26)) w.heap.size #[.int .u8 0, .int .u8 0, .int .u8 0, .int .u8 0, .int .u8 0, .int .u8 0, .int .u8 0, .int .u8 0, .int .u8 0, .int .u8 0, .int .u8 0, .int .u8 0, .int .u8 0, .int .u8 0, .int .u8 0, .int .u8 0] 26) := (Lies.new w _ _).alloc _
  have AA : Hid (Lies ((w.alloc (.cells #[.int .u8 0, .int .u8 0, .int .u8 0, .int .u8 0, .int .u8 0, .int .u8 0, .int .u8 0, .int .u8 0, .int .u8 0, .int .u8 0, .int .u8 0, .int .u8 0, .int .u8 0, .int .u8 0, .int .u8 0, .int .u8 0] 26)).alloc (.cells #[.int .u8 0, .int .u8 0, .int .u8 0, .int .u8 0, .int .u8 0, .int .u8 0, .int .u8 0, .int .u8 0, .int .u8 0, .int .u8 0, .int .u8 0, .int .u8 0, .int .u8 0, .int .u8 0, .int .u8 0, .int .u8 0] 26)) (w.heap.size + 1) #[.int .u8 0, .int .u8 0, .int .u8 0, .int .u8 0, .int .u8 0, .int .u8 0, .int .u8 0, .int .u8 0, .int .u8 0, .int .u8 0, .int .u8 0, .int .u8 0, .int .u8 0, .int .u8 0, .int .u8 0, .int .u8 0] 26) := new_one w _ _ _
  have KX : Hid (Below w.heap.size w ((w.alloc (.cells #[.int .u8 0, .int .u8 0, .int .u8 0, .int .u8 0, .int .u8 0, .int .u8 0, .int .u8 0, .int .u8 0, .int .u8 0, .int .u8 0, .int .u8 0, .int .u8 0, .int .u8 0, .int .u8 0, .int .u8 0, .int .u8 0] 26)).alloc (.cells #[.int .u8 0, .int .u8 0, .int .u8 0, .int .u8 0, .int .u8 0, .int .u8 0, .int .u8 0, .int .u8 0, .int .u8 0, .int .u8 0, .int .u8 0, .int .u8 0, .int .u8 0, .int .u8 0, .int .u8 0, .int .u8 0] 26))) := ((Below.refl _ _).alloc (Nat.le_refl _) _).alloc (by simp) _
  have HCT : Hid (∀ wx, Below w.heap.size w wx → Calls Tryz.prog 55 #[.string s, .string ⟨#[58, 58]⟩] wx fun e w' => e = .returned (.tuple #[.string ⟨(Lib.cut s.data.toList [58, 58]).1.toArray⟩, .string ⟨(Lib.cut s.data.toList [58, 58]).2.1.toArray⟩, .bool (Lib.cut s.data.toList [58, 58]).2.2]) ∧ ∃ n, w' = wx.drewN n) := fun wx hx => by
    obtain ⟨m, hm⟩ := HT.out wx hx
    exact Tryz.strings_Cut s ⟨#[58, 58]⟩ m wx (by omega) hm
  go_enter Tryz.func67, Tryz.ntmps67
  go_upto_region 2 with fail
  generalize (w.alloc (.cells #[.int .u8 0, .int .u8 0, .int .u8 0, .int .u8 0, .int .u8 0, .int .u8 0, .int .u8 0, .int .u8 0, .int .u8 0, .int .u8 0, .int .u8 0, .int .u8 0, .int .u8 0, .int .u8 0, .int .u8 0, .int .u8 0] 26)).alloc (.cells #[.int .u8 0, .int .u8 0, .int .u8 0, .int .u8 0, .int .u8 0, .int .u8 0, .int .u8 0, .int .u8 0, .int .u8 0, .int .u8 0, .int .u8 0, .int .u8 0, .int .u8 0, .int .u8 0, .int .u8 0, .int .u8 0] 26) = v0 at RR AA KX ⊢
  cases hcu : cut2 s.data.toList with
  | none =>
    have hcc := cut_cut2 s.data.toList
    rw [hcu] at hcc
    have HCU : Hid (Calls Tryz.prog 55 #[.string s, .string ⟨#[58, 58]⟩] v0 fun e w' => e = .returned (.tuple #[.string s, .string ⟨#[]⟩, .bool false]) ∧ ∃ n, w' = v0.drewN n) := by
      have := HCT.out v0 KX.out
      rw [hcc] at this
      rw [show (⟨s.data.toList.toArray⟩ : ByteArray) = s from by simp] at this
      exact this
    have HW : Hid (whole6 s.data.toList = match groupsD s.data.toList true with
      | some b => if b.length = 16 then some b else none
      | none => none) := by show _ = _; unfold whole6; rw [hcu]; rfl
    have HG := rgrp_any s true
    clear HCT hcc hcu
    go_wp2_with fail
    refine HCU.out.mono ?_
    rintro e y1 ⟨rfl, n, hy1⟩
    have hb1 : Below v0.heap.size v0 y1 := by rw [hy1]; exact ⟨rfl, rfl, rfl, Nat.le_refl _, fun _ _ => rfl⟩
    have AAn : Hid (Lies y1 (w.heap.size + 1) #[.int .u8 0, .int .u8 0, .int .u8 0, .int .u8 0, .int .u8 0, .int .u8 0, .int .u8 0, .int .u8 0, .int .u8 0, .int .u8 0, .int .u8 0, .int .u8 0, .int .u8 0, .int .u8 0, .int .u8 0, .int .u8 0] 26) := AA.out.below hb1 AA.out.lt
    have RRn : Hid (Lies y1 w.heap.size #[.int .u8 0, .int .u8 0, .int .u8 0, .int .u8 0, .int .u8 0, .int .u8 0, .int .u8 0, .int .u8 0, .int .u8 0, .int .u8 0, .int .u8 0, .int .u8 0, .int .u8 0, .int .u8 0, .int .u8 0, .int .u8 0] 26) := RR.out.below hb1 RR.out.lt
    have KXn : Hid (Below w.heap.size w y1) := KX.out.trans (hb1.mono KX.out.size)
    clear AA RR KX
    have AA := AAn
    have RR := RRn
    have KX := KXn
    clear AAn RRn KXn
    clear hb1 hy1 HCU
    have HG2 := HG y1 (HT.out _ KX.out) hs
    clear HG
    go_wp2_with fail
    refine HG2.mono ?_
    rintro e y2 ⟨⟨v, rfl, hv⟩, hb2⟩
    have AAn : Hid (Lies y2 (w.heap.size + 1) #[.int .u8 0, .int .u8 0, .int .u8 0, .int .u8 0, .int .u8 0, .int .u8 0, .int .u8 0, .int .u8 0, .int .u8 0, .int .u8 0, .int .u8 0, .int .u8 0, .int .u8 0, .int .u8 0, .int .u8 0, .int .u8 0] 26) := AA.out.below hb2 AA.out.lt
    have RRn : Hid (Lies y2 w.heap.size #[.int .u8 0, .int .u8 0, .int .u8 0, .int .u8 0, .int .u8 0, .int .u8 0, .int .u8 0, .int .u8 0, .int .u8 0, .int .u8 0, .int .u8 0, .int .u8 0, .int .u8 0, .int .u8 0, .int .u8 0, .int .u8 0] 26) := RR.out.below hb2 RR.out.lt
    have KXn : Hid (Below w.heap.size w y2) := KX.out.trans (hb2.mono KX.out.size)
    clear AA RR KX
    have AA := AAn
    have RR := RRn
    have KX := KXn
    clear AAn RRn KXn
    clear hb2 HG2
    have hzy := AA.out.lt
    cases hgd : groupsD s.data.toList true with
    | none =>
      rw [hgd] at hv
      obtain rfl : v = .tuple #[.slice none 0 0, .bool false] := hv
      have HR : Hid (w6V s.data.toList = .tuple #[.agg #[.int .u8 0, .int .u8 0, .int .u8 0, .int .u8 0, .int .u8 0, .int .u8 0, .int .u8 0, .int .u8 0, .int .u8 0, .int .u8 0, .int .u8 0, .int .u8 0, .int .u8 0, .int .u8 0, .int .u8 0, .int .u8 0], .bool false]) := w6_none (by rw [HW.out, hgd])
      clear HW hgd
      go_wp2_with (first | (refine wpList_load_row rfl 26 _ rfl (w.heap.size + 1) rfl #[.int .u8 0, .int .u8 0, .int .u8 0, .int .u8 0, .int .u8 0, .int .u8 0, .int .u8 0, .int .u8 0, .int .u8 0, .int .u8 0, .int .u8 0, .int .u8 0, .int .u8 0, .int .u8 0, .int .u8 0, .int .u8 0] 26 _ AA.out Tryz.underlying26 rfl info16 ?_) | (refine wpList_store_row rfl 26 _ _ rfl w.heap.size rfl _ #[.int .u8 0, .int .u8 0, .int .u8 0, .int .u8 0, .int .u8 0, .int .u8 0, .int .u8 0, .int .u8 0, .int .u8 0, .int .u8 0, .int .u8 0, .int .u8 0, .int .u8 0, .int .u8 0, .int .u8 0, .int .u8 0] rfl 26 RR.out info16 rfl (by simp [Value.oneCell']) rfl ?_))
      exact bodyPost_ret (results_mixR (p := 2) (q := 3) (by kernel_rfl) _ _ w.heap.size _ _ (.bool false) rfl rfl (RR.out.row _) Tryz.underlying26 rfl info16) rfl ⟨by rw [HR.out], below_row KX.out (Nat.le_refl _) _⟩
    | some b =>
      rw [hgd] at hv
      obtain ⟨u, rfl, hown⟩ := hv
      obtain ⟨ua, uc, rfl, _⟩ := own_u8 hown
      by_cases h16 : b.length = 16
      · have h16b : ((b.length : Int) != 16) = false := by rw [h16]; rfl
        have HR : Hid (w6V s.data.toList = .tuple #[.agg (bytesV b), .bool true]) := w6_some (by rw [HW.out, hgd]; exact if_pos h16)
        obtain ⟨w3, hrun, hl3, hw3⟩ := copy_u8 (g := w.heap.size + 1) (o := 0) (dLen := 16) (dCap := 16) hown AA.out (by omega) (by rw [h16]; decide) (some ⟨w.heap.size + 1, 0, none⟩) (fun _ => rfl)
        have hnew : (#[.int .u8 0, .int .u8 0, .int .u8 0, .int .u8 0, .int .u8 0, .int .u8 0, .int .u8 0, .int .u8 0, .int .u8 0, .int .u8 0, .int .u8 0, .int .u8 0, .int .u8 0, .int .u8 0, .int .u8 0, .int .u8 0] : Array Value).toList.take 0 ++ cells8 b ++ (#[.int .u8 0, .int .u8 0, .int .u8 0, .int .u8 0, .int .u8 0, .int .u8 0, .int .u8 0, .int .u8 0, .int .u8 0, .int .u8 0, .int .u8 0, .int .u8 0, .int .u8 0, .int .u8 0, .int .u8 0, .int .u8 0] : Array Value).toList.drop (0 + b.length) = cells8 b := by rw [h16]; simp
        rw [hnew] at hl3 hw3
        have AA3 : Hid (Lies w3 (w.heap.size + 1) (bytesV b) 26) := hl3
        have RR3 : Hid (Lies w3 w.heap.size #[.int .u8 0, .int .u8 0, .int .u8 0, .int .u8 0, .int .u8 0, .int .u8 0, .int .u8 0, .int .u8 0, .int .u8 0, .int .u8 0, .int .u8 0, .int .u8 0, .int .u8 0, .int .u8 0, .int .u8 0, .int .u8 0] 26) := by
          rcases hw3 with h | h
          · rw [h]; exact RR.out
          · rw [h]; exact RR.out.row_other (by omega) _
        have KX3 : Hid (Below w.heap.size w w3) := by
          rcases hw3 with h | h
          · rw [h]; exact KX.out
          · rw [h]; exact below_row KX.out (by omega) _
        have hVz : (bytesV b).size = 16 := by rw [bytesV_size, h16]
        have hVo : (bytesV b).all (·.oneCell') = true := by
          rw [Array.all_eq_true_iff_forall_mem]
          intro v hv
          exact cells8_one b v (by unfold bytesV at hv; exact List.mem_toArray.1 hv)
        rw [h16] at hrun
        generalize bytesV b = V at HR AA3 hVz hVo
        have hlu : (b.length : Int) = 16 := by omega
        clear hl3 hw3 hnew HW hgd hown AA RR KX
        rw [h16]
        clear h16 h16b hlu
        have AA := AA3
        have RR := RR3
        have KX := KX3
        clear AA3 RR3 KX3
        go_upto_region 8 with fail
        clear hrun
        go_wp2_with (first | (refine wpList_load_row rfl 26 _ rfl (w.heap.size + 1) rfl V 26 _ AA.out Tryz.underlying26 rfl (by rw [hVz]; exact info16) ?_) | (refine wpList_store_row rfl 26 _ _ rfl w.heap.size rfl _ V rfl 26 RR.out (by rw [hVz]; exact info16) (by rw [hVz]; rfl) hVo rfl ?_))
        exact bodyPost_ret (results_mixR (p := 2) (q := 3) (by kernel_rfl) _ _ w.heap.size _ _ (.bool true) rfl rfl (RR.out.row _) Tryz.underlying26 rfl (by rw [hVz]; exact info16)) rfl ⟨by rw [HR.out], below_row KX.out (Nat.le_refl _) _⟩
      · have h16b : ((b.length : Int) != 16) = true := by rw [bne_iff_ne]; omega
        have HR : Hid (w6V s.data.toList = .tuple #[.agg #[.int .u8 0, .int .u8 0, .int .u8 0, .int .u8 0, .int .u8 0, .int .u8 0, .int .u8 0, .int .u8 0, .int .u8 0, .int .u8 0, .int .u8 0, .int .u8 0, .int .u8 0, .int .u8 0, .int .u8 0, .int .u8 0], .bool false]) := w6_none (by rw [HW.out, hgd]; exact if_neg h16)
        clear HW hgd h16 hown
        go_wp2_with (first | (refine wpList_load_row rfl 26 _ rfl (w.heap.size + 1) rfl #[.int .u8 0, .int .u8 0, .int .u8 0, .int .u8 0, .int .u8 0, .int .u8 0, .int .u8 0, .int .u8 0, .int .u8 0, .int .u8 0, .int .u8 0, .int .u8 0, .int .u8 0, .int .u8 0, .int .u8 0, .int .u8 0] 26 _ AA.out Tryz.underlying26 rfl info16 ?_) | (refine wpList_store_row rfl 26 _ _ rfl w.heap.size rfl _ #[.int .u8 0, .int .u8 0, .int .u8 0, .int .u8 0, .int .u8 0, .int .u8 0, .int .u8 0, .int .u8 0, .int .u8 0, .int .u8 0, .int .u8 0, .int .u8 0, .int .u8 0, .int .u8 0, .int .u8 0, .int .u8 0] rfl 26 RR.out info16 rfl (by simp [Value.oneCell']) rfl ?_))
        exact bodyPost_ret (results_mixR (p := 2) (q := 3) (by kernel_rfl) _ _ w.heap.size _ _ (.bool false) rfl rfl (RR.out.row _) Tryz.underlying26 rfl info16) rfl ⟨by rw [HR.out], below_row KX.out (Nat.le_refl _) _⟩
  | some x =>
    obtain ⟨hd, tl⟩ := x
    have hcc := cut_cut2 s.data.toList
    rw [hcu] at hcc
    have hat := cut2_at _ _ _ hcu
    have hlen : hd.length + tl.length + 2 = s.size := by
      have := congrArg List.length hat
      rw [len_list] at this
      simp at this
      omega
    have HCU : Hid (Calls Tryz.prog 55 #[.string s, .string ⟨#[58, 58]⟩] v0 fun e w' => e = .returned (.tuple #[.string ⟨hd.toArray⟩, .string ⟨tl.toArray⟩, .bool true]) ∧ ∃ n, w' = v0.drewN n) := by
      have := HCT.out v0 KX.out
      rw [hcc] at this
      exact this
    have HW : Hid (whole6 s.data.toList = match groupsD hd false, groupsD tl true with
      | some b, some c => if b.length + c.length ≤ 12 then some (b ++ List.replicate (16 - b.length - c.length) 0 ++ c) else none
      | _, _ => none) := by show _ = _; unfold whole6; rw [hcu]; rfl
    have HGA : Hid (∀ wx, Below w.heap.size w wx → Calls Tryz.prog 106 #[.string ⟨hd.toArray⟩, .bool false] wx fun e w' => (∃ v, e = .returned v ∧ GrpA (groupsD hd false) wx.heap.size v w') ∧ Below wx.heap.size wx w') := fun wx hx => by
      have := rgrp_any ⟨hd.toArray⟩ false wx (HT.out wx hx) (by show hd.toArray.size ≤ _; rw [List.size_toArray]; omega)
      rw [str_list] at this
      exact this
    have HGB : Hid (∀ wx, Below w.heap.size w wx → Calls Tryz.prog 106 #[.string ⟨tl.toArray⟩, .bool true] wx fun e w' => (∃ v, e = .returned v ∧ GrpA (groupsD tl true) wx.heap.size v w') ∧ Below wx.heap.size wx w') := fun wx hx => by
      have := rgrp_any ⟨tl.toArray⟩ true wx (HT.out wx hx) (by show tl.toArray.size ≤ _; rw [List.size_toArray]; omega)
      rw [str_list] at this
      exact this
    generalize (⟨hd.toArray⟩ : ByteArray) = XH at HCU HGA
    generalize (⟨tl.toArray⟩ : ByteArray) = XT at HCU HGB
    clear HCT hcc hcu hat
    go_wp2_with fail
    refine HCU.out.mono ?_
    rintro e y1 ⟨rfl, n, hy1⟩
    have hb1 : Below v0.heap.size v0 y1 := by rw [hy1]; exact ⟨rfl, rfl, rfl, Nat.le_refl _, fun _ _ => rfl⟩
    have AAn : Hid (Lies y1 (w.heap.size + 1) #[.int .u8 0, .int .u8 0, .int .u8 0, .int .u8 0, .int .u8 0, .int .u8 0, .int .u8 0, .int .u8 0, .int .u8 0, .int .u8 0, .int .u8 0, .int .u8 0, .int .u8 0, .int .u8 0, .int .u8 0, .int .u8 0] 26) := AA.out.below hb1 AA.out.lt
    have RRn : Hid (Lies y1 w.heap.size #[.int .u8 0, .int .u8 0, .int .u8 0, .int .u8 0, .int .u8 0, .int .u8 0, .int .u8 0, .int .u8 0, .int .u8 0, .int .u8 0, .int .u8 0, .int .u8 0, .int .u8 0, .int .u8 0, .int .u8 0, .int .u8 0] 26) := RR.out.below hb1 RR.out.lt
    have KXn : Hid (Below w.heap.size w y1) := KX.out.trans (hb1.mono KX.out.size)
    clear AA RR KX
    have AA := AAn
    have RR := RRn
    have KX := KXn
    clear AAn RRn KXn
    clear hb1 hy1 HCU
    go_wp2_with fail
    refine (HGA.out _ KX.out).mono ?_
    rintro e y2 ⟨⟨v, rfl, hv⟩, hb2⟩
    have AAn : Hid (Lies y2 (w.heap.size + 1) #[.int .u8 0, .int .u8 0, .int .u8 0, .int .u8 0, .int .u8 0, .int .u8 0, .int .u8 0, .int .u8 0, .int .u8 0, .int .u8 0, .int .u8 0, .int .u8 0, .int .u8 0, .int .u8 0, .int .u8 0, .int .u8 0] 26) := AA.out.below hb2 AA.out.lt
    have RRn : Hid (Lies y2 w.heap.size #[.int .u8 0, .int .u8 0, .int .u8 0, .int .u8 0, .int .u8 0, .int .u8 0, .int .u8 0, .int .u8 0, .int .u8 0, .int .u8 0, .int .u8 0, .int .u8 0, .int .u8 0, .int .u8 0, .int .u8 0, .int .u8 0] 26) := RR.out.below hb2 RR.out.lt
    have KXn : Hid (Below w.heap.size w y2) := KX.out.trans (hb2.mono KX.out.size)
    clear AA RR KX
    have AA := AAn
    have RR := RRn
    have KX := KXn
    clear AAn RRn KXn
    clear hb2 HGA
    cases hgd : groupsD hd false with
    | none =>
      rw [hgd] at hv
      obtain rfl : v = .tuple #[.slice none 0 0, .bool false] := hv
      have HR : Hid (w6V s.data.toList = .tuple #[.agg #[.int .u8 0, .int .u8 0, .int .u8 0, .int .u8 0, .int .u8 0, .int .u8 0, .int .u8 0, .int .u8 0, .int .u8 0, .int .u8 0, .int .u8 0, .int .u8 0, .int .u8 0, .int .u8 0, .int .u8 0, .int .u8 0], .bool false]) := w6_none (by rw [HW.out, hgd])
      clear HW hgd
      go_wp2_with fail
      refine (HGB.out _ KX.out).mono ?_
      rintro e y3 ⟨⟨v, rfl, hv⟩, hb3⟩
      have AAn : Hid (Lies y3 (w.heap.size + 1) #[.int .u8 0, .int .u8 0, .int .u8 0, .int .u8 0, .int .u8 0, .int .u8 0, .int .u8 0, .int .u8 0, .int .u8 0, .int .u8 0, .int .u8 0, .int .u8 0, .int .u8 0, .int .u8 0, .int .u8 0, .int .u8 0] 26) := AA.out.below hb3 AA.out.lt
      have RRn : Hid (Lies y3 w.heap.size #[.int .u8 0, .int .u8 0, .int .u8 0, .int .u8 0, .int .u8 0, .int .u8 0, .int .u8 0, .int .u8 0, .int .u8 0, .int .u8 0, .int .u8 0, .int .u8 0, .int .u8 0, .int .u8 0, .int .u8 0, .int .u8 0] 26) := RR.out.below hb3 RR.out.lt
      have KXn : Hid (Below w.heap.size w y3) := KX.out.trans (hb3.mono KX.out.size)
      clear AA RR KX
      have AA := AAn
      have RR := RRn
      have KX := KXn
      clear AAn RRn KXn
      clear hb3 HGB
      have hzy := AA.out.lt
      obtain ⟨vu, vb, rfl⟩ : ∃ a b, v = .tuple #[a, .bool b] := by
        cases hgt : groupsD tl true with
        | none => rw [hgt] at hv; exact ⟨_, _, hv⟩
        | some c => rw [hgt] at hv; obtain ⟨u, h, _⟩ := hv; exact ⟨_, _, h⟩
      clear hv
      go_wp2_with (first | (refine wpList_load_row rfl 26 _ rfl (w.heap.size + 1) rfl #[.int .u8 0, .int .u8 0, .int .u8 0, .int .u8 0, .int .u8 0, .int .u8 0, .int .u8 0, .int .u8 0, .int .u8 0, .int .u8 0, .int .u8 0, .int .u8 0, .int .u8 0, .int .u8 0, .int .u8 0, .int .u8 0] 26 _ AA.out Tryz.underlying26 rfl info16 ?_) | (refine wpList_store_row rfl 26 _ _ rfl w.heap.size rfl _ #[.int .u8 0, .int .u8 0, .int .u8 0, .int .u8 0, .int .u8 0, .int .u8 0, .int .u8 0, .int .u8 0, .int .u8 0, .int .u8 0, .int .u8 0, .int .u8 0, .int .u8 0, .int .u8 0, .int .u8 0, .int .u8 0] rfl 26 RR.out info16 rfl (by simp [Value.oneCell']) rfl ?_))
      exact bodyPost_ret (results_mixR (p := 2) (q := 3) (by kernel_rfl) _ _ w.heap.size _ _ (.bool false) rfl rfl (RR.out.row _) Tryz.underlying26 rfl info16) rfl ⟨by rw [HR.out], below_row KX.out (Nat.le_refl _) _⟩
    | some b =>
      rw [hgd] at hv
      obtain ⟨u, rfl, hown⟩ := hv
      obtain ⟨ua, uc, rfl, _⟩ := own_u8 hown
      have HOB : Hid (y2.ownsRow y1.heap.size 5 1 (.slice ua b.length uc) b.length (cells8 b)) := hown
      clear hown
      go_wp2_with fail
      refine (HGB.out _ KX.out).mono ?_
      rintro e y3 ⟨⟨v, rfl, hv⟩, hb3⟩
      have HO3 : Hid (y3.ownsRow y1.heap.size 5 1 (.slice ua b.length uc) b.length (cells8 b)) := ownN_below HOB.out hb3
      have AAn : Hid (Lies y3 (w.heap.size + 1) #[.int .u8 0, .int .u8 0, .int .u8 0, .int .u8 0, .int .u8 0, .int .u8 0, .int .u8 0, .int .u8 0, .int .u8 0, .int .u8 0, .int .u8 0, .int .u8 0, .int .u8 0, .int .u8 0, .int .u8 0, .int .u8 0] 26) := AA.out.below hb3 AA.out.lt
      have RRn : Hid (Lies y3 w.heap.size #[.int .u8 0, .int .u8 0, .int .u8 0, .int .u8 0, .int .u8 0, .int .u8 0, .int .u8 0, .int .u8 0, .int .u8 0, .int .u8 0, .int .u8 0, .int .u8 0, .int .u8 0, .int .u8 0, .int .u8 0, .int .u8 0] 26) := RR.out.below hb3 RR.out.lt
      have KXn : Hid (Below w.heap.size w y3) := KX.out.trans (hb3.mono KX.out.size)
      clear AA RR KX
      have AA := AAn
      have RR := RRn
      have KX := KXn
      clear AAn RRn KXn
      clear hb3 HGB HOB
      have hzy := AA.out.lt
      cases hgt : groupsD tl true with
      | none =>
        rw [hgt] at hv
        obtain rfl : v = .tuple #[.slice none 0 0, .bool false] := hv
        have HR : Hid (w6V s.data.toList = .tuple #[.agg #[.int .u8 0, .int .u8 0, .int .u8 0, .int .u8 0, .int .u8 0, .int .u8 0, .int .u8 0, .int .u8 0, .int .u8 0, .int .u8 0, .int .u8 0, .int .u8 0, .int .u8 0, .int .u8 0, .int .u8 0, .int .u8 0], .bool false]) := w6_none (by rw [HW.out, hgd, hgt])
        clear HW hgd hgt HO3
        go_wp2_with (first | (refine wpList_load_row rfl 26 _ rfl (w.heap.size + 1) rfl #[.int .u8 0, .int .u8 0, .int .u8 0, .int .u8 0, .int .u8 0, .int .u8 0, .int .u8 0, .int .u8 0, .int .u8 0, .int .u8 0, .int .u8 0, .int .u8 0, .int .u8 0, .int .u8 0, .int .u8 0, .int .u8 0] 26 _ AA.out Tryz.underlying26 rfl info16 ?_) | (refine wpList_store_row rfl 26 _ _ rfl w.heap.size rfl _ #[.int .u8 0, .int .u8 0, .int .u8 0, .int .u8 0, .int .u8 0, .int .u8 0, .int .u8 0, .int .u8 0, .int .u8 0, .int .u8 0, .int .u8 0, .int .u8 0, .int .u8 0, .int .u8 0, .int .u8 0, .int .u8 0] rfl 26 RR.out info16 rfl (by simp [Value.oneCell']) rfl ?_))
        exact bodyPost_ret (results_mixR (p := 2) (q := 3) (by kernel_rfl) _ _ w.heap.size _ _ (.bool false) rfl rfl (RR.out.row _) Tryz.underlying26 rfl info16) rfl ⟨by rw [HR.out], below_row KX.out (Nat.le_refl _) _⟩
      | some c =>
        rw [hgt] at hv
        obtain ⟨u, rfl, hown⟩ := hv
        obtain ⟨va, vc, rfl, _⟩ := own_u8 hown
        by_cases h12 : b.length + c.length ≤ 12
        · have h12b : ¬ (12 : Int) < (b.length : Int) + (c.length : Int) := by omega
          have HR : Hid (w6V s.data.toList = .tuple #[.agg (bytesV (b ++ List.replicate (16 - b.length - c.length) 0 ++ c)), .bool true]) := w6_some (by rw [HW.out, hgd, hgt]; exact if_pos h12)
          obtain ⟨w3, hrun, hl3, hw3⟩ := copy_u8 (g := w.heap.size + 1) (o := 0) (dLen := 16) (dCap := 16) HO3.out AA.out (by omega) (by show 0 + b.length ≤ 16; omega) (some ⟨w.heap.size + 1, 0, none⟩) (fun _ => rfl)
          have AA3 : Hid (Lies w3 (w.heap.size + 1) (((#[.int .u8 0, .int .u8 0, .int .u8 0, .int .u8 0, .int .u8 0, .int .u8 0, .int .u8 0, .int .u8 0, .int .u8 0, .int .u8 0, .int .u8 0, .int .u8 0, .int .u8 0, .int .u8 0, .int .u8 0, .int .u8 0] : Array Value).toList.take 0 ++ cells8 b ++ (#[.int .u8 0, .int .u8 0, .int .u8 0, .int .u8 0, .int .u8 0, .int .u8 0, .int .u8 0, .int .u8 0, .int .u8 0, .int .u8 0, .int .u8 0, .int .u8 0, .int .u8 0, .int .u8 0, .int .u8 0, .int .u8 0] : Array Value).toList.drop (0 + b.length)).toArray) 26) := hl3
          have RR3 : Hid (Lies w3 w.heap.size #[.int .u8 0, .int .u8 0, .int .u8 0, .int .u8 0, .int .u8 0, .int .u8 0, .int .u8 0, .int .u8 0, .int .u8 0, .int .u8 0, .int .u8 0, .int .u8 0, .int .u8 0, .int .u8 0, .int .u8 0, .int .u8 0] 26) := by
            rcases hw3 with h | h
            · rw [h]; exact RR.out
            · rw [h]; exact RR.out.row_other (by omega) _
          have KX3 : Hid (Below w.heap.size w w3) := by
            rcases hw3 with h | h
            · rw [h]; exact KX.out
            · rw [h]; exact below_row KX.out (by omega) _
          have HOC : Hid (w3.ownsRow y2.heap.size 5 1 (.slice va c.length vc) c.length (cells8 c)) := by
            rcases hw3 with h | h
            · rw [h]; exact hown
            · rw [h]; exact own_row hown AA.out _
          have hMl : ((#[.int .u8 0, .int .u8 0, .int .u8 0, .int .u8 0, .int .u8 0, .int .u8 0, .int .u8 0, .int .u8 0, .int .u8 0, .int .u8 0, .int .u8 0, .int .u8 0, .int .u8 0, .int .u8 0, .int .u8 0, .int .u8 0] : Array Value).toList.take 0 ++ cells8 b ++ (#[.int .u8 0, .int .u8 0, .int .u8 0, .int .u8 0, .int .u8 0, .int .u8 0, .int .u8 0, .int .u8 0, .int .u8 0, .int .u8 0, .int .u8 0, .int .u8 0, .int .u8 0, .int .u8 0, .int .u8 0, .int .u8 0] : Array Value).toList.drop (0 + b.length)).toArray.toList = cells8 b ++ List.replicate (16 - b.length) (Value.int .u8 0) := by
            rw [Nat.zero_add]
            show [] ++ cells8 b ++ (List.replicate 16 (Value.int .u8 0)).drop b.length = _
            rw [List.drop_replicate]
            rfl
          generalize ((#[.int .u8 0, .int .u8 0, .int .u8 0, .int .u8 0, .int .u8 0, .int .u8 0, .int .u8 0, .int .u8 0, .int .u8 0, .int .u8 0, .int .u8 0, .int .u8 0, .int .u8 0, .int .u8 0, .int .u8 0, .int .u8 0] : Array Value).toList.take 0 ++ cells8 b ++ (#[.int .u8 0, .int .u8 0, .int .u8 0, .int .u8 0, .int .u8 0, .int .u8 0, .int .u8 0, .int .u8 0, .int .u8 0, .int .u8 0, .int .u8 0, .int .u8 0, .int .u8 0, .int .u8 0, .int .u8 0, .int .u8 0] : Array Value).toList.drop (0 + b.length)).toArray = M at AA3 hMl
          clear hl3 hw3 HW hgd hgt hown HO3 AA RR KX hlen
          have AA := AA3
          have RR := RR3
          have KX := KX3
          clear AA3 RR3 KX3
          have h16c : c.length ≤ 16 := by omega
          have hMs : M.size = 16 := by
            have := congrArg List.length hMl
            rw [List.length_append, cells8_len, List.length_replicate] at this
            simp at this
            omega
          obtain ⟨A, hA, hsl⟩ := slice_end (w.heap.size + 1) c.length h16c
          obtain ⟨w4, hrun2, hl4, hw4⟩ := copy_u8 (g := w.heap.size + 1) (o := 16 - c.length) (dLen := c.length) (dCap := c.length) HOC.out AA.out (Nat.le_refl _) (by omega) A (fun h => hA (fun h0 => h (List.eq_nil_of_length_eq_zero h0)))
          rw [row_end h12 hMl] at hl4 hw4
          have hVz : (bytesV (b ++ List.replicate (16 - b.length - c.length) 0 ++ c)).size = 16 := by
            rw [bytesV_size]
            simp
            omega
          have hVo : (bytesV (b ++ List.replicate (16 - b.length - c.length) 0 ++ c)).all (·.oneCell') = true := by
            rw [Array.all_eq_true_iff_forall_mem]
            intro v hv
            exact cells8_one _ v (by unfold bytesV at hv; exact List.mem_toArray.1 hv)
          generalize bytesV (b ++ List.replicate (16 - b.length - c.length) 0 ++ c) = V at HR hl4 hw4 hVz hVo
          have AA4 : Hid (Lies w4 (w.heap.size + 1) V 26) := hl4
          have RR4 : Hid (Lies w4 w.heap.size #[.int .u8 0, .int .u8 0, .int .u8 0, .int .u8 0, .int .u8 0, .int .u8 0, .int .u8 0, .int .u8 0, .int .u8 0, .int .u8 0, .int .u8 0, .int .u8 0, .int .u8 0, .int .u8 0, .int .u8 0, .int .u8 0] 26) := by
            rcases hw4 with h | h
            · rw [h]; exact RR.out
            · rw [h]; exact RR.out.row_other (by omega) _
          have KX4 : Hid (Below w.heap.size w w4) := by
            rcases hw4 with h | h
            · rw [h]; exact KX.out
            · rw [h]; exact below_row KX.out (by omega) _
          clear hl4 hw4 HOC hA AA RR KX hMl hMs h16c h12
          have AA := AA4
          have RR := RR4
          have KX := KX4
          clear AA4 RR4 KX4
          go_upto_region 15 with fail
          clear hrun hrun2 hsl
          go_wp2_with (first | (refine wpList_load_row rfl 26 _ rfl (w.heap.size + 1) rfl V 26 _ AA.out Tryz.underlying26 rfl (by rw [hVz]; exact info16) ?_) | (refine wpList_store_row rfl 26 _ _ rfl w.heap.size rfl _ V rfl 26 RR.out (by rw [hVz]; exact info16) (by rw [hVz]; rfl) hVo rfl ?_))
          exact bodyPost_ret (results_mixR (p := 2) (q := 3) (by kernel_rfl) _ _ w.heap.size _ _ (.bool true) rfl rfl (RR.out.row _) Tryz.underlying26 rfl (by rw [hVz]; exact info16)) rfl ⟨by rw [HR.out], below_row KX.out (Nat.le_refl _) _⟩
        · have h12b : (12 : Int) < (b.length : Int) + (c.length : Int) := by omega
          have HR : Hid (w6V s.data.toList = .tuple #[.agg #[.int .u8 0, .int .u8 0, .int .u8 0, .int .u8 0, .int .u8 0, .int .u8 0, .int .u8 0, .int .u8 0, .int .u8 0, .int .u8 0, .int .u8 0, .int .u8 0, .int .u8 0, .int .u8 0, .int .u8 0, .int .u8 0], .bool false]) := w6_none (by rw [HW.out, hgd, hgt]; exact if_neg h12)
          have hbl : b.length ≤ 140737488355328 := by have := groups_short hgd; omega
          have hcl : c.length ≤ 140737488355328 := by have := groups_short hgt; omega
          clear HW hgd hgt HO3 hown h12 hlen
          go_wp2_with (first | (refine wpList_load_row rfl 26 _ rfl (w.heap.size + 1) rfl #[.int .u8 0, .int .u8 0, .int .u8 0, .int .u8 0, .int .u8 0, .int .u8 0, .int .u8 0, .int .u8 0, .int .u8 0, .int .u8 0, .int .u8 0, .int .u8 0, .int .u8 0, .int .u8 0, .int .u8 0, .int .u8 0] 26 _ AA.out Tryz.underlying26 rfl info16 ?_) | (refine wpList_store_row rfl 26 _ _ rfl w.heap.size rfl _ #[.int .u8 0, .int .u8 0, .int .u8 0, .int .u8 0, .int .u8 0, .int .u8 0, .int .u8 0, .int .u8 0, .int .u8 0, .int .u8 0, .int .u8 0, .int .u8 0, .int .u8 0, .int .u8 0, .int .u8 0, .int .u8 0] rfl 26 RR.out info16 rfl (by simp [Value.oneCell']) rfl ?_))
          exact bodyPost_ret (results_mixR (p := 2) (q := 3) (by kernel_rfl) _ _ w.heap.size _ _ (.bool false) rfl rfl (RR.out.row _) Tryz.underlying26 rfl info16) rfl ⟨by rw [HR.out], below_row KX.out (Nat.le_refl _) _⟩
end Go.Proofs.YtnlgbopdbihnjaaGreatDoor
