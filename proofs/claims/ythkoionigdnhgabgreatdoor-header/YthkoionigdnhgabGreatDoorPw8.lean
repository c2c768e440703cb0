/-
  The contract of domain.PrintV6.
-/
import Derived.Test.YthkoionigdnhgabGreatDoorPv8
import Derived.Test.YthkoionigdnhgabGreatDoorQi9
import Derived.Test.YthkoionigdnhgabGreatDoorDmR
import Derived.Test.YthkoionigdnhgabGreatDoorPureUp
import Derived.Lib.EndianBits
namespace Go.Proofs.YthkoionigdnhgabGreatDoor
open Go.RowKit

theorem grpsOf_at : ∀ (a : List Nat) (i : Nat), 2 * i + 1 < a.length → (grpsOf a)[i]? = some (256 * a.getD (2 * i) 0 + a.getD (2 * i + 1) 0)
  | [], _, h => by simp at h
  | [_], i, h => by simp at h
  | x :: y :: r, 0, _ => rfl
  | x :: y :: r, i + 1, h => by
    have := grpsOf_at r i (by simp at h; omega)
    rw [grpsOf, List.getElem?_cons_succ, this, show 2 * (i + 1) = 2 * i + 1 + 1 from by omega, List.getD_cons_succ, List.getD_cons_succ, show 2 * i + 1 + 1 + 1 = 2 * i + 1 + 1 + 1 from rfl, List.getD_cons_succ, List.getD_cons_succ]
theorem u64_or_hi (a b : Nat) (ha : a < 256) (hb : b < 256) : bits .or .u64 ((a : Int) * 256) (b : Int) = ((256 * a + b : Nat) : Int) := by
  have h := u64_or8 (b : Int) ((a : Int) * 256) (by omega) (by omega) (by omega) (by omega) (by omega)
  have e : bits .or .u64 ((a : Int) * 256) (b : Int) = bits .or .u64 (b : Int) ((a : Int) * 256) := by
    show IntKind.u64.wrap ((BitVec.ofInt 64 _ ||| BitVec.ofInt 64 _).toNat : Int) = IntKind.u64.wrap ((BitVec.ofInt 64 _ ||| BitVec.ofInt 64 _).toNat : Int)
    rw [BitVec.or_comm]
  rw [e, h]
  omega
theorem str_append (x y : List UInt8) : (⟨x.toArray⟩ : ByteArray) ++ (⟨y.toArray⟩ : ByteArray) = ⟨(x ++ y).toArray⟩ := by
  apply ByteArray.ext
  rw [ByteArray.data_append]
  simp

set_option maxHeartbeats 4000000 in
set_option maxRecDepth 100000 in
theorem printv6_any (a : List Nat) (ha : a.length = 16) (hb : ∀ x ∈ a, x < 256) (w : World) (ht : w.cell? ⟨11, 15, none⟩ = some (.int .u8 4)) : Calls Tryz.prog 111 #[.agg (bytesV a)] w fun e w' => e = .returned (.string ⟨(print6 a).toArray⟩) ∧ Below w.heap.size w w' := by
  have HL : Hid (a.length = 16) := ha
  have HX : Hid (∀ x ∈ a, x < 256) := hb
  have HT : Hid (∀ wx, Below w.heap.size w wx → wx.cell? ⟨11, 15, none⟩ = some (.int .u8 4)) := fun wx hb => (hb.cell (p := ⟨11, 15, none⟩) (World.block_lt_of_cell? w _ ht)).trans ht
  obtain ⟨_, hgl, hg⟩ := two_grps a (by rw [ha]) hb
  rw [ha] at hgl
  have hlen := print6_len a ha hb
  have HGL : Hid ((grpsOf a).length = 8) := by show _ = _; omega
  have HG : Hid (∀ n ∈ grpsOf a, n < 65536) := hg
  have HA : Hid (Lies ((w.alloc (.cells (bytesV a) 25)).alloc (.cells (strsV (List.replicate 8 [])) 204)) w.heap.size (bytesV a) 25) := (Lies.new w _ _).alloc _
  have H0 : Hid (PtS w 8 204 [] ((w.alloc (.cells (bytesV a) 25)).alloc (.cells (strsV (List.replicate 8 [])) 204))) := ⟨new_one w _ _ _, ((Below.refl _ _).alloc (Nat.le_refl _) _).alloc (by simp) _⟩
  clear ha hb ht hg hgl
  go_enter Tryz.func111, Tryz.ntmps111
  go_wp2_with fail
  go_loopw [8] (fun c wr => ∃ i : Nat, i ≤ 8 ∧ c = .int .i64 i ∧ Hid (PtS w 8 204 (((grpsOf a).take i).map hexD) wr) ∧ Hid (Lies wr w.heap.size (bytesV a) 25)) (fun c _ => 8 - (intOf c).toNat)
  case atStart => exact ⟨0, by omega, rfl, H0, HA⟩
  case round =>
    obtain ⟨i, hi, rfl, HS, HA2⟩ := hrel
    clear H0 HA
    by_cases hlt : i < 8
    · have hil : i < (grpsOf a).length := by rw [HGL.out]; exact hlt
      have hlt' : (i : Int) < 8 := by omega
      have hn := HG.out _ (List.getElem_mem hil)
      have hga := grpsOf_at a i (by rw [HL.out]; omega)
      rw [List.getElem?_eq_getElem hil] at hga
      injection hga with hga
      have h1 : 2 * i < a.length := by rw [HL.out]; omega
      have h2 : 2 * i + 1 < a.length := by rw [HL.out]; omega
      have e1 : a.getD (2 * i) 0 = a[2 * i] := by rw [List.getD_eq_getElem?_getD, List.getElem?_eq_getElem h1]; rfl
      have e2 : a.getD (2 * i + 1) 0 = a[2 * i + 1] := by rw [List.getD_eq_getElem?_getD, List.getElem?_eq_getElem h2]; rfl
      have c1 : wr.cell? ⟨w.heap.size, 2 * i, none⟩ = some (.int .u8 (a[2 * i] : Nat)) := (HA2.out.cell _).trans (bytesV_at a _ h1)
      have c2 : wr.cell? ⟨w.heap.size, 2 * i + 1, none⟩ = some (.int .u8 (a[2 * i + 1] : Nat)) := (HA2.out.cell _).trans (bytesV_at a _ h2)
      have b1 : a[2 * i] < 256 := HX.out _ (List.getElem_mem h1)
      have b2 : a[2 * i + 1] < 256 := HX.out _ (List.getElem_mem h2)
      rw [e1, e2] at hga
      clear e1 e2
      have HM : Hid (((grpsOf a).take (i + 1)).map hexD = ((grpsOf a).take i).map hexD ++ [hexD (grpsOf a)[i]]) := by
        show _ = _
        rw [List.take_succ_eq_append_getElem hil, List.map_append]
        rfl
      generalize (grpsOf a)[i] = n at hn hga HM
      generalize a[2 * i] = x at c1 b1 hga
      generalize a[2 * i + 1] = y at c2 b2 hga
      have hor := u64_or_hi x y b1 b2
      rw [← hga] at hor
      have b1' : (x : Int) < 256 := by omega
      have b2' : (y : Int) < 256 := by omega
      have hz := HA2.out.lt
      have hl : (((grpsOf a).take i).map hexD).length = i := by rw [List.length_map, List.length_take]; omega
      generalize ((grpsOf a).take i).map hexD = L at HS HM hl
      subst hl
      clear hga
      go_wp2_with fail
      go_region
      try rw [hor]
      clear hor
      go_wp2_with fail
      have HSd : PtS w 8 204 L wr.drew := ⟨HS.out.s, HS.out.below.drew⟩
      refine (fmt_16 n hn _ (HT.out _ HSd.below)).mono ?_
      rintro e w2 ⟨rfl, hb2⟩
      have HS2 := HSd.later hb2
      obtain ⟨v, hv⟩ := HS2.cell hlt
      have hf := HS2.s.frozen L.length
      have hz2 := HS2.s.lt
      have HN : Hid (PtS w 8 204 (((grpsOf a).take (L.length + 1)).map hexD) (w2.setCell ⟨w.heap.size + 1, L.length, none⟩ (.string ⟨(hexD n).toArray⟩))) := by
        have := HS2.put hlt (hexD n)
        rw [← HM.out] at this
        exact this
      have HA3 : Hid (Lies (w2.setCell ⟨w.heap.size + 1, L.length, none⟩ (.string ⟨(hexD n).toArray⟩)) w.heap.size (bytesV a) 25) := by
        have : Lies wr.drew w.heap.size (bytesV a) 25 := HA2.out
        exact (this.below hb2 this.lt).set_other (a := ⟨w.heap.size + 1, L.length, none⟩) (by show w.heap.size ≠ w.heap.size + 1; omega) _
      clear hb2 HS2 HS HM HSd c1 c2 HA2
      generalize hexD n = d at HN HA3 ⊢
      go_wp2_with fail
      go_roundw
      case rel => exact ⟨L.length + 1, by omega, by go_num, HN, HA3⟩
      case measure => simp [intOf]; omega
    · obtain rfl : i = 8 := by omega
      have HSL : Hid (Lies wr (w.heap.size + 1) (strsV ((grpsOf a).map hexD)) 204) := by
        have := HS.out.s
        rw [List.take_of_length_le (by rw [HGL.out]; omega), List.length_map, HGL.out, Nat.sub_self, List.replicate_zero, List.append_nil] at this
        exact this
      have hlm : ((grpsOf a).map hexD).length = 8 := by rw [List.length_map, HGL.out]
      have HB : Hid (Below w.heap.size w wr) := HS.out.below
      have hzz := zeros_ok ((grpsOf a).map hexD)
      rw [hlm] at hzz
      have HPR : Hid (print6 a = if (zeros ((grpsOf a).map hexD)).2 - (zeros ((grpsOf a).map hexD)).1 < 2 then joinL [58] ((grpsOf a).map hexD) else joinL [58] (((grpsOf a).map hexD).take (zeros ((grpsOf a).map hexD)).1) ++ [58, 58] ++ joinL [58] (((grpsOf a).map hexD).drop (zeros ((grpsOf a).map hexD)).2)) := rfl
      have hz := HSL.out.lt
      clear HS HA2
      generalize (grpsOf a).map hexD = L at HSL hlm hzz HPR
      have HZE := zeros_any L hlm
      obtain ⟨f, t, hft⟩ : ∃ f t, zeros L = (f, t) := ⟨_, _, rfl⟩
      rw [hft] at hzz HPR HZE
      dsimp only at hzz HPR HZE
      obtain ⟨z1, z2, _⟩ := hzz
      have z1' : (f : Int) ≤ (t : Int) := by omega
      have z2' : (t : Int) ≤ 8 := by omega
      have hsz : (strsV L).size = 8 := by rw [strsV_size, hlm]
      go_wp2_with (first | (refine wpList_load_row rfl 204 _ rfl (w.heap.size + 1) rfl (strsV L) 204 _ HSL.out Tryz.underlying204 rfl (by rw [hsz]; exact info8s) ?_) | fail)
      refine (HZE _).mono ?_
      rintro e w2 ⟨rfl, hb2⟩
      have HS2 : Hid (Lies w2 (w.heap.size + 1) (strsV L) 204) := HSL.out.below hb2 hz
      have HB2 : Hid (Below w.heap.size w w2) := HB.out.trans (hb2.mono (by omega))
      have hz2 := HS2.out.lt
      clear hb2 HSL HB HZE hft
      by_cases hshort : t - f < 2
      · have HPR2 : Hid (print6 a = joinL [58] L) := by show _ = _; rw [HPR.out, if_pos hshort]
        have hs' : (t : Int) - (f : Int) < 2 := by omega
        have HJ : Hid (Calls Tryz.prog 129 #[.slice (some ⟨w.heap.size + 1, 0, none⟩) 8 8, .string ⟨#[58]⟩] w2 fun e w' => e = .returned (.string ⟨(print6 a).toArray⟩) ∧ Below w2.heap.size w2 w') := by
          have := join_some HS2.out 0 8 8 ⟨#[58]⟩ (by omega) (by omega) (by rw [List.drop_zero, List.take_of_length_le (by omega)]; rw [HPR2.out] at hlen; exact Nat.le_trans hlen (by decide)) (by omega)
          rw [List.drop_zero, List.take_of_length_le (by omega)] at this
          rw [HPR2.out]
          exact this
        obtain ⟨pa, hpa⟩ : ∃ pa, (print6 a).toArray = pa := ⟨_, rfl⟩
        have HPA : Hid ((print6 a).toArray = pa) := hpa
        rw [hpa] at HJ
        clear hlen HPR HPR2 hpa HS2
        go_wp2_with (go_at_call 129; refine HJ.out.mono ?_; rintro e w3 ⟨rfl, hb3⟩)
        go_ret
        refine ⟨by rw [HPA.out]; rfl, HB2.out.trans (Below.mono ?_ (Nat.le_of_lt (Nat.lt_of_succ_lt hz2)))⟩
        assumption
      · have HPR2 : Hid (print6 a = joinL [58] (L.take f) ++ [58, 58] ++ joinL [58] (L.drop t)) := by show _ = _; rw [HPR.out, if_neg hshort]
        have hs' : ¬ (t : Int) - (f : Int) < 2 := by omega
        have hl1 : (joinL [58] (L.take f)).length ≤ 82 ∧ (joinL [58] (L.drop t)).length ≤ 82 := by
          rw [HPR2.out, List.length_append, List.length_append] at hlen
          omega
        have HJ1 : Hid (∀ wx, Below w2.heap.size w2 wx → Calls Tryz.prog 129 #[.slice (some ⟨w.heap.size + 1, 0, none⟩) f 8, .string ⟨#[58]⟩] wx fun e w' => e = .returned (.string ⟨(joinL [58] (L.take f)).toArray⟩) ∧ Below w2.heap.size w2 w') := fun wx hb => by
          have := join_some (HS2.out.below hb hz2) 0 f 8 ⟨#[58]⟩ (by omega) (by omega) (by rw [List.drop_zero]; exact Nat.le_trans hl1.1 (by decide)) (by omega)
          rw [List.drop_zero] at this
          exact this.mono fun e w' h => ⟨h.1, hb.trans (h.2.mono hb.size)⟩
        obtain ⟨o, ho⟩ : ∃ o, o = if t = 8 then 0 else t := ⟨_, rfl⟩
        have HJ2 : Hid (∀ wx, Below w2.heap.size w2 wx → Calls Tryz.prog 129 #[.slice (some ⟨w.heap.size + 1, o, none⟩) (8 - t) (8 - t), .string ⟨#[58]⟩] wx fun e w' => e = .returned (.string ⟨(joinL [58] (L.drop t)).toArray⟩) ∧ Below w2.heap.size w2 w') := fun wx hb => by
          by_cases h8 : t = 8
          · have e : L.drop t = [] := List.drop_eq_nil_of_le (by omega)
            rw [e, show 8 - t = 0 from by omega]
            exact (Tryz.strings_Join_none _ _ _ wx).mono fun e w' h => ⟨h.1, by rw [h.2]; exact hb⟩
          · rw [if_neg h8] at ho
            subst ho
            have := join_some (HS2.out.below hb hz2) o (8 - o) (8 - o) ⟨#[58]⟩ (by omega) (by omega) (by rw [List.take_of_length_le (by rw [List.length_drop]; omega)]; exact Nat.le_trans hl1.2 (by decide)) (by omega)
            rw [List.take_of_length_le (by rw [List.length_drop]; omega)] at this
            exact this.mono fun e w' h => ⟨h.1, hb.trans (h.2.mono hb.size)⟩
        generalize joinL [58] (L.take f) = A at HJ1 HPR2 hl1
        generalize joinL [58] (L.drop t) = B at HJ2 HPR2 hl1
        obtain ⟨hA, hB⟩ := hl1
        clear hlen HPR HS2
        have hal : Tryz.prog.arrayLen 204 = 8 := by simp [Program.arrayLen, Tryz.underlying204]
        have hs1 : ∀ W, (Instr.sliceAt 204 (.pointer (some ⟨w.heap.size + 1, 0, none⟩)) none (some (.int .i64 (f : Int))) none).run Tryz.prog W = .ok (.slice (some ⟨w.heap.size + 1, 0, none⟩) f 8) W := fun W => by
          rw [run_sliceAt_array_h W 204 ⟨w.heap.size + 1, 0, none⟩ (by simp [Program.arrayLen, Program.elem, Tryz.underlying204]) .i64 (f : Int) (by omega) (by rw [hal]; omega)]
          go_simp
        have hs2 : ∀ W, (Instr.sliceAt 204 (.pointer (some ⟨w.heap.size + 1, 0, none⟩)) (some (.int .i64 (t : Int))) none none).run Tryz.prog W = .ok (.slice (some ⟨w.heap.size + 1, o, none⟩) (8 - t) (8 - t)) W := fun W => by
          rw [run_sliceAt_array_l W 204 ⟨w.heap.size + 1, 0, none⟩ (by simp [Program.arrayLen, Program.elem, Tryz.underlying204]) .i64 (t : Int) (by omega) (by rw [hal]; omega), hal]
          go_simp
          try rw [ho]
          by_cases h8 : t = 8
          · simp [h8]
          · simp [h8, Ne.symm h8]
        clear hal ho
        generalize Value.slice (some ⟨w.heap.size + 1, 0, none⟩) f 8 = v1 at hs1 HJ1
        generalize Value.slice (some ⟨w.heap.size + 1, o, none⟩) (8 - t) (8 - t) = v2 at hs2 HJ2
        obtain ⟨SA, hSA⟩ : ∃ SA : ByteArray, SA = ⟨A.toArray⟩ := ⟨_, rfl⟩
        obtain ⟨SB, hSB⟩ : ∃ SB : ByteArray, SB = ⟨B.toArray⟩ := ⟨_, rfl⟩
        have hA1 : (SA.size : Int) ≤ 8388608 := by rw [hSA]; show ((A.toArray.size : Nat) : Int) ≤ _; rw [List.size_toArray]; omega
        have hA2 : (SB.size : Int) ≤ 8388608 := by rw [hSB]; show ((B.toArray.size : Nat) : Int) ≤ _; rw [List.size_toArray]; omega
        have hA3 : ((SA ++ ⟨#[58, 58]⟩).size : Int) ≤ 8388608 := by
          rw [ByteArray.size_append, hSA]
          show ((A.toArray.size + 2 : Nat) : Int) ≤ _
          rw [List.size_toArray]
          omega
        have HFIN : Hid ((⟨(print6 a).toArray⟩ : ByteArray) = SA ++ ⟨#[58, 58]⟩ ++ SB) := by
          show _ = _
          rw [HPR2.out, hSA, hSB, show (⟨#[58, 58]⟩ : ByteArray) = ⟨([58, 58] : List UInt8).toArray⟩ from rfl, str_append, str_append]
        rw [← hSA] at HJ1
        rw [← hSB] at HJ2
        have ad1 : ∀ W, (Op.stringOp .add SA ⟨#[58, 58]⟩).run Tryz.prog W = .ok (.string (SA ++ ⟨#[58, 58]⟩)) W := fun W => run_string_add _ _ _ hA1 (by decide)
        have ad2 : ∀ W, (Op.stringOp .add (SA ++ ⟨#[58, 58]⟩) SB).run Tryz.prog W = .ok (.string (SA ++ ⟨#[58, 58]⟩ ++ SB)) W := fun W => run_string_add _ _ _ hA3 hA2
        clear hA hB hA1 hA2 hA3 HPR2 hSA hSB
        go_wp2_with fail
        refine wp_region_late (fun _ => True) 9 (by kernel_rfl) trivial (fun hHeld => ?_)
        refine wpAnyE_tk (i := 0) (d := some 40) (v := ?_) rfl (by kernel_rfl) (by kernel_rfl) (by kernel_rfl) rfl (fun _ _ _ h => h) rfl rfl ?hy (by first | assumption | go_simp) ?_
        case hy => (intro w' hSw; (try dsimp only at hSw); go_simp <;> (first | with_reducible rfl | omega | skip))
        simp only [Act.put, List.setIfInBounds_toArray, List.set_cons_zero, List.set_cons_succ]
        refine wpAnyE_tk (i := 1) (d := some 41) (v := v1) rfl (by kernel_rfl) (by kernel_rfl) (by kernel_rfl) rfl (fun _ _ _ h => h) rfl rfl ?hy (by first | assumption | go_simp) ?_
        case hy => (intro w' hSw; (try dsimp only at hSw); go_simp <;> (first | with_reducible rfl | omega | skip))
        simp only [Act.put, List.setIfInBounds_toArray, List.set_cons_zero, List.set_cons_succ]
        refine wpAnyE_tk (i := 4) (d := some 44) (v := ?_) rfl (by kernel_rfl) (by kernel_rfl) (by kernel_rfl) rfl (fun _ _ _ h => h) rfl rfl ?hy (by first | assumption | go_simp) ?_
        case hy => (intro w' hSw; (try dsimp only at hSw); go_simp <;> (first | with_reducible rfl | omega | skip))
        simp only [Act.put, List.setIfInBounds_toArray, List.set_cons_zero, List.set_cons_succ]
        refine wpAnyE_tk (i := 5) (d := some 45) (v := v2) rfl (by kernel_rfl) (by kernel_rfl) (by kernel_rfl) rfl (fun _ _ _ h => h) rfl rfl ?hy (by first | assumption | go_simp) ?_
        case hy => (intro w' hSw; (try dsimp only at hSw); go_simp <;> (first | with_reducible rfl | omega | skip))
        simp only [Act.put, List.setIfInBounds_toArray, List.set_cons_zero, List.set_cons_succ]
        refine wpAnyE_on (i := 2) (by kernel_rfl) rfl rfl ?_
        go_simp
        refine Calls.mono (HJ1.out _ ((Below.refl _ w2).drew)) ?_
        rintro e u1 ⟨rfl, hb⟩
        have K1 : Hid (Below w2.heap.size w2 u1) := hb
        clear hb
        refine wpAnyE_tk (i := 3) (d := some 43) (v := .string (SA ++ ⟨#[58, 58]⟩)) rfl (by kernel_rfl) (by kernel_rfl) (by kernel_rfl) rfl (fun _ _ _ h => h) rfl rfl ?hy (by first | assumption | go_simp) ?_
        case hy => (intro w' hSw; (try dsimp only at hSw); go_simp <;> (first | with_reducible rfl | omega | skip))
        simp only [Act.put, List.setIfInBounds_toArray, List.set_cons_zero, List.set_cons_succ]
        refine wpAnyE_on (i := 6) (by kernel_rfl) rfl rfl ?_
        go_simp
        refine Calls.mono (HJ2.out _ K1.out) ?_
        rintro e u2 ⟨rfl, hb⟩
        have K2 : Hid (Below w2.heap.size w2 u2) := hb
        clear hb
        refine wpAnyE_tk (i := 7) (d := some 47) (v := .string (SA ++ ⟨#[58, 58]⟩ ++ SB)) rfl (by kernel_rfl) (by kernel_rfl) (by kernel_rfl) rfl (fun _ _ _ h => h) rfl rfl ?hy (by first | assumption | go_simp) ?_
        case hy => (intro w' hSw; (try dsimp only at hSw); go_simp <;> (first | with_reducible rfl | omega | skip))
        simp only [Act.put, List.setIfInBounds_toArray, List.set_cons_zero, List.set_cons_succ]
        refine wpAnyE_tk (i := 8) (d := some 2) (v := .string (SA ++ ⟨#[58, 58]⟩ ++ SB)) rfl (by kernel_rfl) (by kernel_rfl) (by kernel_rfl) rfl (fun _ _ _ h => h) rfl rfl ?hy (by first | assumption | go_simp) ?_
        case hy => (intro w' hSw; (try dsimp only at hSw); go_simp <;> (first | with_reducible rfl | omega | skip))
        simp only [Act.put, List.setIfInBounds_toArray, List.set_cons_zero, List.set_cons_succ]
        refine wpAnyE_done (by kernel_rfl) ?_ _
        clear hHeld
        go_wp2
        go_ret
        exact ⟨by rw [HFIN.out]; rfl, HB2.out.trans (K2.out.mono (Nat.le_of_lt (Nat.lt_of_succ_lt hz2)))⟩
end Go.Proofs.YthkoionigdnhgabGreatDoor
