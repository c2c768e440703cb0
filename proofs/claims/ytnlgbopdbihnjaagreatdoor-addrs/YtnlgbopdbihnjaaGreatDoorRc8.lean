/-
  The document's Check.
-/
import Derived.Test.YtnlgbopdbihnjaaGreatDoorRn8
import Derived.Test.YtnlgbopdbihnjaaGreatDoorCk8
namespace Go.Proofs.YtnlgbopdbihnjaaGreatDoor
open Go.RowKit

theorem run_index_16 (l : List Nat) (hl : l.length = 16) (k : Nat) (hk : k < 16) (w : World) : (Instr.index 26 (.agg (bytesV l)) (.int .i64 (k : Int))).run Tryz.prog w = .ok (.int .u8 (l.getD k 0 : Nat)) w := by
  have h5 : (Tryz.prog.info? 5).map (·.size) = some 1 := by kernel_rfl
  have hk' : k < l.length := by omega
  cases hq : Tryz.prog.info? 5 with
  | none => simp [hq] at h5
  | some i =>
    have hs : i.size = 1 := by simpa [hq] using h5
    have hat := bytesV_at l k hk'
    have hg : l.getD k 0 = l[k] := by rw [List.getD_eq_getElem?_getD, List.getElem?_eq_getElem hk', Option.getD_some]
    rw [hg]
    simp [Instr.index, asIntOf, run_underlying Tryz.underlying26, run_underlying Tryz.underlying5, sizeOf, typeInfo, hq, hs, part, isAgg, hat]
    intro h
    omega
/-- The first i bytes are as they may be. -/
def Okb (z : Nat) (l : List Nat) (i : Nat) : Prop := ∀ j, j < i → z ≤ j → l.getD j 0 = 0
theorem Okb.step {z : Nat} {l : List Nat} {i : Nat} (h : Okb z l i) (hi : z ≤ i → l.getD i 0 = 0) : Okb z l (i + 1) := fun j h1 h2 => by
  rcases Nat.lt_or_ge j i with h' | h'
  · exact h j h' h2
  · obtain rfl : j = i := by omega
    exact hi h2
theorem Okb.drop {z : Nat} {l : List Nat} (hl : l.length = 16) (h : Okb z l 16) : l.drop z = List.replicate (16 - z) 0 := by
  refine List.ext_getElem (by rw [List.length_drop, hl, List.length_replicate]) fun j h1 h2 => ?_
  rw [List.length_drop] at h1
  have := h (z + j) (by omega) (by omega)
  rw [List.getD_eq_getElem?_getD, List.getElem?_eq_getElem (by omega), Option.getD_some] at this
  rw [List.getElem_drop, this, List.getElem_replicate]
theorem drop_okb {z : Nat} {l : List Nat} (h : l.drop z = List.replicate (16 - z) 0) (j : Nat) (hj : z ≤ j) : l.getD j 0 = 0 := by
  have e : (l.drop z).getD (j - z) 0 = 0 := by
    rw [h, List.getD_eq_getElem?_getD, List.getElem?_replicate]
    split <;> rfl
  rw [List.getD_eq_getElem?_getD, List.getElem?_drop, show z + (j - z) = j from by omega] at e
  rw [List.getD_eq_getElem?_getD]
  exact e
theorem len_nil (l : List UInt8) : (⟨l.toArray⟩ : ByteArray).toList.isEmpty = decide (l = []) := by
  rw [ByteArray.toList_eq]
  cases l <;> simp

set_option maxHeartbeats 8000000 in
set_option maxRecDepth 100000 in
theorem rck1_any (h : Ho) (ha : h.a.length = 16) (wide : Bool) (w : World) (hk : h.k = 1) :
    Calls Tryz.prog 22 #[hostV h, .bool wide] w fun e w' => e = .returned (.int .i64 (ckD h wide : Nat)) ∧ Below w.heap.size w w' := by
  have hsz := hostC_size h ha
  obtain ⟨HC, hHC⟩ : ∃ HC, HC = hostC h := ⟨_, rfl⟩
  have e1 : hostV h = .agg HC := by rw [hHC]; rfl
  have HHC : Hid (HC = hostC h) := hHC
  rw [← hHC] at hsz
  rw [e1]
  have L1 : Hid (Lies (w.alloc (.cells HC 28)) w.heap.size HC 28) := Lies.new w _ _
  have HB : Hid (Below w.heap.size w (w.alloc (.cells HC 28))) := (Below.refl _ _).alloc (Nat.le_refl _) _
  clear hHC e1
  have HV1 : Hid (¬ h.a = z16 → ckD h wide = 2) := fun hz => by
    unfold ckD
    have a1 : ¬ (h.k < 1 ∨ 4 < h.k) := by omega
    have a2 : ¬ ((h.k = 2 ∨ h.k = 3) ∧ ¬ h.n = []) := by omega
    rw [if_neg a1, if_neg a2, if_pos ⟨.inl hk, hz⟩]
  have HV2 : Hid (h.a = z16 → ckD h wide = (wd wide h.n).1) := fun hz => by
    unfold ckD
    have a1 : ¬ (h.k < 1 ∨ 4 < h.k) := by omega
    have a2 : ¬ ((h.k = 2 ∨ h.k = 3) ∧ ¬ h.n = []) := by omega
    have a4 : ¬ (h.k = 2 ∧ ¬ h.a.drop 4 = List.replicate 12 0) := by omega
    rw [if_neg a1, if_neg a2, if_neg (fun h => h.2 hz), if_neg a4, if_pos hk]
  go_enter Tryz.func22, Tryz.ntmps22
  go_upto_region 1 with fail
  generalize w.alloc (.cells HC 28) = wA at L1 HB ⊢
  have L1h : Lies wA w.heap.size (hostC h) 28 := by rw [← HHC.out]; exact L1.out
  obtain ⟨c0, c1⟩ := host_cells L1h
  rw [hk] at c0
  obtain ⟨A, hA⟩ : ∃ A, A = h.a.map fun n => Value.int .u8 (n : Nat) := ⟨_, rfl⟩
  have hAl : A.length = 16 := by rw [hA, List.length_map, ha]
  have HMID : Hid (wA.rangeAt w.heap.size 2 A) := by rw [hA]; exact host_mid L1h
  have HIDX : Hid (∀ k, k < 16 → ∀ W, (Instr.index 26 (.agg A.toArray) (.int .i64 (k : Nat))).run Tryz.prog W = .ok (.int .u8 (h.a.getD k 0 : Nat)) W) := fun k hk W => by rw [hA]; exact run_index_16 h.a ha k hk W
  obtain ⟨S, hS⟩ : ∃ S : ByteArray, S = ⟨h.n.toArray⟩ := ⟨_, rfl⟩
  rw [← hS] at c1
  have HSS : Hid (S = ⟨h.n.toArray⟩) := hS
  have HN : Hid (S.data.toList = h.n) := by rw [hS]; exact str_list h.n
  have HZ : Hid (S.size = h.n.length) := by rw [hS]; exact List.size_toArray ..
  clear hA hS L1h hk
  go_wp2_with (refine wpList_load_mid rfl 26 _ rfl w.heap.size 2 rfl A _ HMID.out Tryz.underlying26 rfl (by rw [hAl]; exact info16) ?_)
  go_loopw [32] (fun c wr => ∃ i : Nat, i ≤ 16 ∧ c = .int .i64 i ∧ Hid (Okb 0 h.a i) ∧ Hid (wr = wA)) (fun c _ => 16 - (intOf c).toNat)
  case atStart => exact ⟨0, by omega, rfl, fun j h1 _ => absurd h1 (by omega), rfl⟩
  case round =>
    obtain ⟨i, hi, rfl, HO, HVV⟩ := hrel
    obtain rfl : wA = wr := HVV.out.symm
    clear HVV
    by_cases hlt : i < 16
    · have hlt' : (i : Int) < 16 := by omega
      have hidx := HIDX.out i hlt
      obtain ⟨x, hx⟩ : ∃ x, x = h.a.getD i 0 := ⟨_, rfl⟩
      have HX : Hid (x = h.a.getD i 0) := hx
      rw [← hx] at hidx
      clear hx HIDX
      by_cases hx0 : x = 0
      · have HO2 : Hid (Okb 0 h.a (i + 1)) := HO.out.step fun _ => by rw [← HX.out]; exact hx0
        have hxb : ((x : Int) != 0) = false := by rw [hx0]; rfl
        have hxc : ((x : Int) == 0) = true := by rw [hx0]; rfl
        clear hx0 HX HO
        go_wp2_with fail
        go_roundw
        case rel => exact ⟨i + 1, by omega, by go_num, HO2, trivial⟩
        case measure => simp [intOf]; omega
      · have hxb : ((x : Int) != 0) = true := by rw [bne_iff_ne]; omega
        have hxc : ((x : Int) == 0) = false := by rw [beq_eq_false_iff_ne]; omega
        have HT : Hid (ckD h wide = 2) := HV1.out fun e => hx0 (by rw [HX.out]; exact drop_okb (z := 0) (by rw [List.drop_zero]; exact e) i (by omega))
        clear hx0 HX HO
        go_wp2_with fail
        go_ret
        exact ⟨by rw [HT.out]; rfl, HB.out⟩
    · have hlt' : ¬ (i : Int) < 16 := by omega
      obtain rfl : i = 16 := by omega
      clear HIDX hlt hi
      have HZZ : Hid (h.a = z16) := by have := Okb.drop ha HO.out; rw [List.drop_zero] at this; exact this
      have HT : Hid (ckD h wide = (wd wide h.n).1) := HV2.out HZZ.out
      have HWD : Hid (Calls Tryz.prog 51 #[.string S, .bool wide] wA fun e w' => e = .returned (.agg #[.int .i64 ((wd wide h.n).1 : Nat), .int .i64 ((wd wide h.n).2 : Nat)]) ∧ Below wA.heap.size wA w') := by
        have := name_any S wide wA
        rw [HN.out] at this
        exact this
      generalize wd wide h.n = ev at HT HWD
      have hfd := field_spot (ev.1 : Int) (ev.2 : Int)
      go_wp2_with fail
      refine HWD.out.mono ?_
      rintro e w2 ⟨rfl, hb2⟩
      have KB : Hid (Below w.heap.size w w2) := HB.out.trans (hb2.mono (Nat.le_of_lt L1.out.lt))
      clear hb2 HWD c0 c1
      go_wp2_with fail
      go_ret
      exact ⟨by rw [HT.out]; rfl, KB.out⟩

set_option maxHeartbeats 8000000 in
set_option maxRecDepth 100000 in
theorem rck2_any (h : Ho) (ha : h.a.length = 16) (wide : Bool) (w : World) (hk : h.k = 2) (hn0 : h.n = []) :
    Calls Tryz.prog 22 #[hostV h, .bool wide] w fun e w' => e = .returned (.int .i64 (ckD h wide : Nat)) ∧ Below w.heap.size w w' := by
  have hsz := hostC_size h ha
  obtain ⟨HC, hHC⟩ : ∃ HC, HC = hostC h := ⟨_, rfl⟩
  have e1 : hostV h = .agg HC := by rw [hHC]; rfl
  have HHC : Hid (HC = hostC h) := hHC
  rw [← hHC] at hsz
  rw [e1]
  have L1 : Hid (Lies (w.alloc (.cells HC 28)) w.heap.size HC 28) := Lies.new w _ _
  have HB : Hid (Below w.heap.size w (w.alloc (.cells HC 28))) := (Below.refl _ _).alloc (Nat.le_refl _) _
  clear hHC e1
  have HV1 : Hid (¬ h.a.drop 4 = List.replicate 12 0 → ckD h wide = 2) := fun hz => by
    unfold ckD
    have a1 : ¬ (h.k < 1 ∨ 4 < h.k) := by omega
    have a3 : ¬ ((h.k = 1 ∨ h.k = 4) ∧ ¬ h.a = z16) := by omega
    rw [if_neg a1, if_neg (fun h => h.2 hn0), if_neg a3, if_pos ⟨hk, hz⟩]
  have HV2 : Hid (h.a.drop 4 = List.replicate 12 0 → ckD h wide = 0) := fun hz => by
    unfold ckD
    have a1 : ¬ (h.k < 1 ∨ 4 < h.k) := by omega
    have a3 : ¬ ((h.k = 1 ∨ h.k = 4) ∧ ¬ h.a = z16) := by omega
    have a5 : ¬ h.k = 1 := by omega
    have a6 : ¬ (h.k = 4 ∧ 253 < h.n.length) := by omega
    have a7 : ¬ (h.k = 4 ∧ (¬ tgD h.n = none ∨ sixB h.n = true)) := by omega
    rw [if_neg a1, if_neg (fun h => h.2 hn0), if_neg a3, if_neg (fun h => h.2 hz), if_neg a5, if_neg a6, if_neg a7]
  go_enter Tryz.func22, Tryz.ntmps22
  go_upto_region 1 with fail
  generalize w.alloc (.cells HC 28) = wA at L1 HB ⊢
  have L1h : Lies wA w.heap.size (hostC h) 28 := by rw [← HHC.out]; exact L1.out
  obtain ⟨c0, c1⟩ := host_cells L1h
  rw [hk] at c0
  obtain ⟨A, hA⟩ : ∃ A, A = h.a.map fun n => Value.int .u8 (n : Nat) := ⟨_, rfl⟩
  have hAl : A.length = 16 := by rw [hA, List.length_map, ha]
  have HMID : Hid (wA.rangeAt w.heap.size 2 A) := by rw [hA]; exact host_mid L1h
  have HIDX : Hid (∀ k, k < 16 → ∀ W, (Instr.index 26 (.agg A.toArray) (.int .i64 (k : Nat))).run Tryz.prog W = .ok (.int .u8 (h.a.getD k 0 : Nat)) W) := fun k hk W => by rw [hA]; exact run_index_16 h.a ha k hk W
  obtain ⟨S, hS⟩ : ∃ S : ByteArray, S = ⟨h.n.toArray⟩ := ⟨_, rfl⟩
  rw [← hS] at c1
  have HSS : Hid (S = ⟨h.n.toArray⟩) := hS
  have HN : Hid (S.data.toList = h.n) := by rw [hS]; exact str_list h.n
  have HZ : Hid (S.size = h.n.length) := by rw [hS]; exact List.size_toArray ..
  have hemp : S.toList.isEmpty = true := by rw [hS, len_nil, decide_eq_true hn0]
  clear hA hS L1h hk hn0
  go_wp2_with (refine wpList_load_mid rfl 26 _ rfl w.heap.size 2 rfl A _ HMID.out Tryz.underlying26 rfl (by rw [hAl]; exact info16) ?_)
  go_loopw [32] (fun c wr => ∃ i : Nat, i ≤ 16 ∧ c = .int .i64 i ∧ Hid (Okb 4 h.a i) ∧ Hid (wr = wA)) (fun c _ => 16 - (intOf c).toNat)
  case atStart => exact ⟨0, by omega, rfl, fun j h1 _ => absurd h1 (by omega), rfl⟩
  case round =>
    obtain ⟨i, hi, rfl, HO, HVV⟩ := hrel
    obtain rfl : wA = wr := HVV.out.symm
    clear HVV
    by_cases hlt : i < 16
    · have hlt' : (i : Int) < 16 := by omega
      have hidx := HIDX.out i hlt
      obtain ⟨x, hx⟩ : ∃ x, x = h.a.getD i 0 := ⟨_, rfl⟩
      have HX : Hid (x = h.a.getD i 0) := hx
      rw [← hx] at hidx
      clear hx HIDX
      by_cases hx0 : x = 0
      · have HO2 : Hid (Okb 4 h.a (i + 1)) := HO.out.step fun _ => by rw [← HX.out]; exact hx0
        have hxb : ((x : Int) != 0) = false := by rw [hx0]; rfl
        have hxc : ((x : Int) == 0) = true := by rw [hx0]; rfl
        clear hx0 HX HO
        go_wp2_with fail
        go_roundw
        case rel => exact ⟨i + 1, by omega, by go_num, HO2, trivial⟩
        case measure => simp [intOf]; omega
      · have hxb : ((x : Int) != 0) = true := by rw [bne_iff_ne]; omega
        have hxc : ((x : Int) == 0) = false := by rw [beq_eq_false_iff_ne]; omega
        by_cases h3 : 3 < i
        · have h3' : (3 : Int) < (i : Int) := by omega
          have HT : Hid (ckD h wide = 2) := HV1.out fun e => hx0 (by rw [HX.out]; exact drop_okb (z := 4) e i (by omega))
          clear hx0 HX HO
          go_wp2_with fail
          go_ret
          exact ⟨by rw [HT.out]; rfl, HB.out⟩
        · have h3' : ¬ (3 : Int) < (i : Int) := by omega
          have HO2 : Hid (Okb 4 h.a (i + 1)) := HO.out.step fun h => absurd h (by omega)
          clear hx0 HX HO
          go_wp2_with fail
          go_roundw
          case rel => exact ⟨i + 1, by omega, by go_num, HO2, trivial⟩
          case measure => simp [intOf]; omega
    · have hlt' : ¬ (i : Int) < 16 := by omega
      obtain rfl : i = 16 := by omega
      clear HIDX hlt hi
      have HT : Hid (ckD h wide = 0) := HV2.out (Okb.drop ha HO.out)
      go_wp2_with fail
      go_ret
      exact ⟨by rw [HT.out]; rfl, HB.out⟩

set_option maxHeartbeats 8000000 in
set_option maxRecDepth 100000 in
theorem rck3_any (h : Ho) (ha : h.a.length = 16) (wide : Bool) (w : World) (hk : h.k = 3) (hn0 : h.n = []) :
    Calls Tryz.prog 22 #[hostV h, .bool wide] w fun e w' => e = .returned (.int .i64 (ckD h wide : Nat)) ∧ Below w.heap.size w w' := by
  have hsz := hostC_size h ha
  obtain ⟨HC, hHC⟩ : ∃ HC, HC = hostC h := ⟨_, rfl⟩
  have e1 : hostV h = .agg HC := by rw [hHC]; rfl
  have HHC : Hid (HC = hostC h) := hHC
  rw [← hHC] at hsz
  rw [e1]
  have L1 : Hid (Lies (w.alloc (.cells HC 28)) w.heap.size HC 28) := Lies.new w _ _
  have HB : Hid (Below w.heap.size w (w.alloc (.cells HC 28))) := (Below.refl _ _).alloc (Nat.le_refl _) _
  clear hHC e1
  have HV2 : Hid (ckD h wide = 0) := by
    show _ = _
    unfold ckD
    have a1 : ¬ (h.k < 1 ∨ 4 < h.k) := by omega
    have a3 : ¬ ((h.k = 1 ∨ h.k = 4) ∧ ¬ h.a = z16) := by omega
    have a4 : ¬ (h.k = 2 ∧ ¬ h.a.drop 4 = List.replicate 12 0) := by omega
    have a5 : ¬ h.k = 1 := by omega
    have a6 : ¬ (h.k = 4 ∧ 253 < h.n.length) := by omega
    have a7 : ¬ (h.k = 4 ∧ (¬ tgD h.n = none ∨ sixB h.n = true)) := by omega
    rw [if_neg a1, if_neg (fun h => h.2 hn0), if_neg a3, if_neg a4, if_neg a5, if_neg a6, if_neg a7]
  go_enter Tryz.func22, Tryz.ntmps22
  go_upto_region 1 with fail
  generalize w.alloc (.cells HC 28) = wA at L1 HB ⊢
  have L1h : Lies wA w.heap.size (hostC h) 28 := by rw [← HHC.out]; exact L1.out
  obtain ⟨c0, c1⟩ := host_cells L1h
  rw [hk] at c0
  obtain ⟨A, hA⟩ : ∃ A, A = h.a.map fun n => Value.int .u8 (n : Nat) := ⟨_, rfl⟩
  have hAl : A.length = 16 := by rw [hA, List.length_map, ha]
  have HMID : Hid (wA.rangeAt w.heap.size 2 A) := by rw [hA]; exact host_mid L1h
  have HIDX : Hid (∀ k, k < 16 → ∀ W, (Instr.index 26 (.agg A.toArray) (.int .i64 (k : Nat))).run Tryz.prog W = .ok (.int .u8 (h.a.getD k 0 : Nat)) W) := fun k hk W => by rw [hA]; exact run_index_16 h.a ha k hk W
  obtain ⟨S, hS⟩ : ∃ S : ByteArray, S = ⟨h.n.toArray⟩ := ⟨_, rfl⟩
  rw [← hS] at c1
  have HSS : Hid (S = ⟨h.n.toArray⟩) := hS
  have HN : Hid (S.data.toList = h.n) := by rw [hS]; exact str_list h.n
  have HZ : Hid (S.size = h.n.length) := by rw [hS]; exact List.size_toArray ..
  have hemp : S.toList.isEmpty = true := by rw [hS, len_nil, decide_eq_true hn0]
  clear hA hS L1h hk hn0
  go_wp2_with (refine wpList_load_mid rfl 26 _ rfl w.heap.size 2 rfl A _ HMID.out Tryz.underlying26 rfl (by rw [hAl]; exact info16) ?_)
  go_loopw [32] (fun c wr => ∃ i : Nat, i ≤ 16 ∧ c = .int .i64 i ∧ Hid (Okb 16 h.a i) ∧ Hid (wr = wA)) (fun c _ => 16 - (intOf c).toNat)
  case atStart => exact ⟨0, by omega, rfl, fun j h1 _ => absurd h1 (by omega), rfl⟩
  case round =>
    obtain ⟨i, hi, rfl, HO, HVV⟩ := hrel
    obtain rfl : wA = wr := HVV.out.symm
    clear HVV
    by_cases hlt : i < 16
    · have hlt' : (i : Int) < 16 := by omega
      have hidx := HIDX.out i hlt
      obtain ⟨x, hx⟩ : ∃ x, x = h.a.getD i 0 := ⟨_, rfl⟩
      have HX : Hid (x = h.a.getD i 0) := hx
      rw [← hx] at hidx
      clear hx HIDX
      by_cases hx0 : x = 0
      · have HO2 : Hid (Okb 16 h.a (i + 1)) := HO.out.step fun _ => by rw [← HX.out]; exact hx0
        have hxb : ((x : Int) != 0) = false := by rw [hx0]; rfl
        have hxc : ((x : Int) == 0) = true := by rw [hx0]; rfl
        clear hx0 HX HO
        go_wp2_with fail
        go_roundw
        case rel => exact ⟨i + 1, by omega, by go_num, HO2, trivial⟩
        case measure => simp [intOf]; omega
      · have hxb : ((x : Int) != 0) = true := by rw [bne_iff_ne]; omega
        have hxc : ((x : Int) == 0) = false := by rw [beq_eq_false_iff_ne]; omega
        have HO2 : Hid (Okb 16 h.a (i + 1)) := HO.out.step fun h => absurd h (by omega)
        clear hx0 HX HO
        go_wp2_with fail
        go_roundw
        case rel => exact ⟨i + 1, by omega, by go_num, HO2, trivial⟩
        case measure => simp [intOf]; omega
    · have hlt' : ¬ (i : Int) < 16 := by omega
      obtain rfl : i = 16 := by omega
      clear HIDX hlt hi
      go_wp2_with fail
      go_ret
      exact ⟨by rw [HV2.out]; rfl, HB.out⟩

set_option maxHeartbeats 8000000 in
set_option maxRecDepth 100000 in
theorem rck4_any (h : Ho) (ha : h.a.length = 16) (wide : Bool) (w : World) (hn : h.n.length ≤ 140737488351232) (hk : h.k = 4) :
    Calls Tryz.prog 22 #[hostV h, .bool wide] w fun e w' => e = .returned (.int .i64 (ckD h wide : Nat)) ∧ Below w.heap.size w w' := by
  have hsz := hostC_size h ha
  obtain ⟨HC, hHC⟩ : ∃ HC, HC = hostC h := ⟨_, rfl⟩
  have e1 : hostV h = .agg HC := by rw [hHC]; rfl
  have HHC : Hid (HC = hostC h) := hHC
  rw [← hHC] at hsz
  rw [e1]
  have L1 : Hid (Lies (w.alloc (.cells HC 28)) w.heap.size HC 28) := Lies.new w _ _
  have HB : Hid (Below w.heap.size w (w.alloc (.cells HC 28))) := (Below.refl _ _).alloc (Nat.le_refl _) _
  clear hHC e1
  have HV1 : Hid (¬ h.a = z16 → ckD h wide = 2) := fun hz => by
    unfold ckD
    have a1 : ¬ (h.k < 1 ∨ 4 < h.k) := by omega
    have a2 : ¬ ((h.k = 2 ∨ h.k = 3) ∧ ¬ h.n = []) := by omega
    rw [if_neg a1, if_neg a2, if_pos ⟨.inr hk, hz⟩]
  have HV2 : Hid (h.a = z16 → ckD h wide = if 253 < h.n.length then 82 else if ¬ tgD h.n = none ∨ sixB h.n = true then 83 else 0) := fun hz => by
    unfold ckD
    have a1 : ¬ (h.k < 1 ∨ 4 < h.k) := by omega
    have a2 : ¬ ((h.k = 2 ∨ h.k = 3) ∧ ¬ h.n = []) := by omega
    have a4 : ¬ (h.k = 2 ∧ ¬ h.a.drop 4 = List.replicate 12 0) := by omega
    have a5 : ¬ h.k = 1 := by omega
    rw [if_neg a1, if_neg a2, if_neg (fun h => h.2 hz), if_neg a4, if_neg a5]
    by_cases b1 : 253 < h.n.length
    · rw [if_pos ⟨hk, b1⟩, if_pos b1]
    · rw [if_neg (fun h => b1 h.2), if_neg b1]
      by_cases b2 : ¬ tgD h.n = none ∨ sixB h.n = true
      · rw [if_pos ⟨hk, b2⟩, if_pos b2]
      · rw [if_neg (fun h => b2 h.2), if_neg b2]
  go_enter Tryz.func22, Tryz.ntmps22
  go_upto_region 1 with fail
  generalize w.alloc (.cells HC 28) = wA at L1 HB ⊢
  have L1h : Lies wA w.heap.size (hostC h) 28 := by rw [← HHC.out]; exact L1.out
  obtain ⟨c0, c1⟩ := host_cells L1h
  rw [hk] at c0
  obtain ⟨A, hA⟩ : ∃ A, A = h.a.map fun n => Value.int .u8 (n : Nat) := ⟨_, rfl⟩
  have hAl : A.length = 16 := by rw [hA, List.length_map, ha]
  have HMID : Hid (wA.rangeAt w.heap.size 2 A) := by rw [hA]; exact host_mid L1h
  have HIDX : Hid (∀ k, k < 16 → ∀ W, (Instr.index 26 (.agg A.toArray) (.int .i64 (k : Nat))).run Tryz.prog W = .ok (.int .u8 (h.a.getD k 0 : Nat)) W) := fun k hk W => by rw [hA]; exact run_index_16 h.a ha k hk W
  obtain ⟨S, hS⟩ : ∃ S : ByteArray, S = ⟨h.n.toArray⟩ := ⟨_, rfl⟩
  rw [← hS] at c1
  have HSS : Hid (S = ⟨h.n.toArray⟩) := hS
  have HN : Hid (S.data.toList = h.n) := by rw [hS]; exact str_list h.n
  have HZ : Hid (S.size = h.n.length) := by rw [hS]; exact List.size_toArray ..
  clear hA hS L1h hk
  go_wp2_with (refine wpList_load_mid rfl 26 _ rfl w.heap.size 2 rfl A _ HMID.out Tryz.underlying26 rfl (by rw [hAl]; exact info16) ?_)
  go_loopw [32] (fun c wr => ∃ i : Nat, i ≤ 16 ∧ c = .int .i64 i ∧ Hid (Okb 0 h.a i) ∧ Hid (wr = wA)) (fun c _ => 16 - (intOf c).toNat)
  case atStart => exact ⟨0, by omega, rfl, fun j h1 _ => absurd h1 (by omega), rfl⟩
  case round =>
    obtain ⟨i, hi, rfl, HO, HVV⟩ := hrel
    obtain rfl : wA = wr := HVV.out.symm
    clear HVV
    by_cases hlt : i < 16
    · have hlt' : (i : Int) < 16 := by omega
      have hidx := HIDX.out i hlt
      obtain ⟨x, hx⟩ : ∃ x, x = h.a.getD i 0 := ⟨_, rfl⟩
      have HX : Hid (x = h.a.getD i 0) := hx
      rw [← hx] at hidx
      clear hx HIDX
      by_cases hx0 : x = 0
      · have HO2 : Hid (Okb 0 h.a (i + 1)) := HO.out.step fun _ => by rw [← HX.out]; exact hx0
        have hxb : ((x : Int) != 0) = false := by rw [hx0]; rfl
        have hxc : ((x : Int) == 0) = true := by rw [hx0]; rfl
        clear hx0 HX HO
        go_wp2_with fail
        go_roundw
        case rel => exact ⟨i + 1, by omega, by go_num, HO2, trivial⟩
        case measure => simp [intOf]; omega
      · have hxb : ((x : Int) != 0) = true := by rw [bne_iff_ne]; omega
        have hxc : ((x : Int) == 0) = false := by rw [beq_eq_false_iff_ne]; omega
        have HT : Hid (ckD h wide = 2) := HV1.out fun e => hx0 (by rw [HX.out]; exact drop_okb (z := 0) (by rw [List.drop_zero]; exact e) i (by omega))
        clear hx0 HX HO
        go_wp2_with fail
        go_ret
        exact ⟨by rw [HT.out]; rfl, HB.out⟩
    · have hlt' : ¬ (i : Int) < 16 := by omega
      obtain rfl : i = 16 := by omega
      clear HIDX hlt hi
      have HZZ : Hid (h.a = z16) := by have := Okb.drop ha HO.out; rw [List.drop_zero] at this; exact this
      have HT0 := HV2.out HZZ.out
      have hw : w.heap.size ≤ wA.heap.size := Nat.le_of_lt L1.out.lt
      by_cases h253 : 253 < h.n.length
      · have HT : Hid (ckD h wide = 82) := by rw [if_pos h253] at HT0; exact HT0
        have h253' : (253 : Int) < (S.size : Int) := by rw [HZ.out]; omega
        clear HT0 h253 hn
        go_wp2_with fail
        go_ret
        exact ⟨by rw [HT.out]; rfl, HB.out⟩
      · rw [if_neg h253] at HT0
        have h253' : ¬ (253 : Int) < (S.size : Int) := by rw [HZ.out]; omega
        have HTG : Hid (Calls Tryz.prog 54 #[.string S] wA fun e w' => e = .returned (.int .i64 (optI (tgD h.n))) ∧ Below wA.heap.size wA w') := by
          have := tagged_any S wA (by unfold maxLen; rw [HZ.out]; omega)
          rw [HN.out] at this
          exact this
        cases htg : tgD h.n with
        | some p =>
          have HT : Hid (ckD h wide = 83) := by rw [if_pos (.inl (by rw [htg]; simp))] at HT0; exact HT0
          rw [htg] at HTG
          have HTG2 : Hid (Calls Tryz.prog 54 #[.string S] wA fun e w' => e = .returned (.int .i64 (p : Nat)) ∧ Below wA.heap.size wA w') := HTG
          clear HT0 h253 hn HTG htg
          go_wp2_with fail
          refine HTG2.out.mono ?_
          rintro e w2 ⟨rfl, hb2⟩
          have KB : Hid (Below w.heap.size w w2) := HB.out.trans (hb2.mono hw)
          have hp0 : (0 : Int) ≤ (p : Int) := by omega
          clear hb2 HTG2 c0 c1
          go_wp2_with fail
          go_ret
          exact ⟨by rw [HT.out]; rfl, KB.out⟩
        | none =>
          rw [htg] at HTG
          have HTG2 : Hid (Calls Tryz.prog 54 #[.string S] wA fun e w' => e = .returned (.int .i64 (-1)) ∧ Below wA.heap.size wA w') := HTG
          have HT : Hid (ckD h wide = if sixB h.n = true then 83 else 0) := by
            show _ = _
            rw [HT0]
            by_cases h6 : sixB h.n = true
            · rw [if_pos (.inr h6), if_pos h6]
            · rw [if_neg (fun h => h.elim (fun h => h htg) h6), if_neg h6]
          clear HT0 h253 hn HTG htg
          go_wp2_with fail
          refine HTG2.out.mono ?_
          rintro e w2 ⟨rfl, hb2⟩
          have KB : Hid (Below w.heap.size w w2) := HB.out.trans (hb2.mono hw)
          have L2 : Hid (Lies w2 w.heap.size HC 28) := L1.out.below hb2 L1.out.lt
          have c1' : w2.cell? ⟨w.heap.size, 1, none⟩ = some (.string S) := by
            rw [HSS.out]
            exact (host_cells (h := h) (by rw [← HHC.out]; exact L2.out)).2
          have hw2 : w.heap.size < w2.heap.size := L2.out.lt
          have HSX : Hid (Calls Tryz.prog 52 #[.string S] w2 fun e w' => e = .returned (.bool (sixB h.n)) ∧ Below w2.heap.size w2 w') := by
            have := sixth_any S w2
            rw [HN.out] at this
            exact this
          clear hb2 HTG2 c0 c1
          generalize sixB h.n = x at HSX HT
          go_wp2_with fail
          refine HSX.out.mono ?_
          rintro e w3 ⟨rfl, hb3⟩
          have KC : Hid (Below w.heap.size w w3) := KB.out.trans (hb3.mono (Nat.le_of_lt hw2))
          clear hb3 HSX c1'
          cases x
          · go_wp2_with fail
            go_ret
            exact ⟨by rw [HT.out]; rfl, KC.out⟩
          · go_wp2_with fail
            go_ret
            exact ⟨by rw [HT.out]; rfl, KC.out⟩

set_option maxHeartbeats 8000000 in
set_option maxRecDepth 100000 in
theorem rck0_any (h : Ho) (wide : Bool) (w : World) (hk : (h.k < 1 ∨ 4 < h.k) ∨ ((h.k = 2 ∨ h.k = 3) ∧ ¬ h.n = [])) :
    Calls Tryz.prog 22 #[hostV h, .bool wide] w fun e w' => e = .returned (.int .i64 (2 : Nat)) ∧ Below w.heap.size w w' := by
  obtain ⟨HC, hHC⟩ : ∃ HC, HC = hostC h := ⟨_, rfl⟩
  have e1 : hostV h = .agg HC := by rw [hHC]; rfl
  have HHC : Hid (HC = hostC h) := hHC
  rw [e1]
  have L1 : Hid (Lies (w.alloc (.cells HC 28)) w.heap.size HC 28) := Lies.new w _ _
  have HB : Hid (Below w.heap.size w (w.alloc (.cells HC 28))) := (Below.refl _ _).alloc (Nat.le_refl _) _
  clear hHC e1
  go_enter Tryz.func22, Tryz.ntmps22
  go_upto_region 1 with fail
  generalize w.alloc (.cells HC 28) = wA at L1 HB ⊢
  have L1h : Lies wA w.heap.size (hostC h) 28 := by rw [← HHC.out]; exact L1.out
  obtain ⟨c0, c1⟩ := host_cells L1h
  obtain ⟨S, hS⟩ : ∃ S : ByteArray, S = ⟨h.n.toArray⟩ := ⟨_, rfl⟩
  rw [← hS] at c1
  obtain ⟨k, hkk⟩ : ∃ k, k = h.k := ⟨_, rfl⟩
  rw [← hkk] at c0 hk
  rcases hk with (h1 | h1) | ⟨h1 | h1, h2⟩
  · clear L1h hkk hS
    go_wp2_with fail
    go_ret
    exact ⟨rfl, HB.out⟩
  · have h1' : ¬ k < 1 := by omega
    clear L1h hkk hS
    go_wp2_with fail
    go_ret
    exact ⟨rfl, HB.out⟩
  · have hemp : S.toList.isEmpty = false := by rw [hS, len_nil, decide_eq_false h2]
    rw [h1] at c0
    clear L1h hkk hS h2 h1
    go_wp2_with fail
    go_ret
    exact ⟨rfl, HB.out⟩
  · have hemp : S.toList.isEmpty = false := by rw [hS, len_nil, decide_eq_false h2]
    rw [h1] at c0
    clear L1h hkk hS h2 h1
    go_wp2_with fail
    go_ret
    exact ⟨rfl, HB.out⟩

theorem rcheck_any (h : Ho) (ha : h.a.length = 16) (wide : Bool) (w : World) (hn : h.n.length ≤ 140737488351232) :
    Calls Tryz.prog 22 #[hostV h, .bool wide] w fun e w' => e = .returned (.int .i64 (check h wide : Nat)) ∧ Below w.heap.size w w' := by
  rw [← ckD_is h ha]
  by_cases h0 : (h.k < 1 ∨ 4 < h.k) ∨ ((h.k = 2 ∨ h.k = 3) ∧ ¬ h.n = [])
  · have e : ckD h wide = 2 := by
      unfold ckD
      rcases h0 with h0 | h0
      · rw [if_pos h0]
      · rw [if_neg (by omega), if_pos h0]
    rw [e]
    exact rck0_any h wide w h0
  · have hnn : h.k = 2 ∨ h.k = 3 → h.n = [] := fun h2 => Classical.byContradiction fun h3 => h0 (.inr ⟨h2, h3⟩)
    have hk : h.k = 1 ∨ h.k = 2 ∨ h.k = 3 ∨ h.k = 4 := by
      have : ¬ (h.k < 1 ∨ 4 < h.k) := fun h' => h0 (.inl h')
      omega
    rcases hk with k | k | k | k
    · exact rck1_any h ha wide w k
    · exact rck2_any h ha wide w k (hnn (.inl k))
    · exact rck3_any h ha wide w k (hnn (.inr k))
    · exact rck4_any h ha wide w hn k
end Go.Proofs.YtnlgbopdbihnjaaGreatDoor
