/-
  The document's Within.
-/
import Derived.Test.YtnlgbopdbihnjaaGreatDoorFenP
import Derived.Test.YtnlgbopdbihnjaaGreatDoorRg8
namespace Go.Proofs.YtnlgbopdbihnjaaGreatDoor
open Go.RowKit

/-- The first i bits are the same. -/
def Bsm (a b : List Nat) (i : Nat) : Prop := ∀ j, j < i → bitN a j = bitN b j
theorem Bsm.step {a b : List Nat} {i : Nat} (h : Bsm a b i) (hi : bitN a i = bitN b i) : Bsm a b (i + 1) := fun j hj => by
  rcases Nat.lt_or_ge j i with h' | h'
  · exact h j h'
  · obtain rfl : j = i := by omega
    exact hi
set_option maxHeartbeats 16000000 in
set_option maxRecDepth 100000 in
theorem rwi_any (VA VB : Array Value) (a b : Ho) (hVA : VA = hostC a) (hVB : VB = hostC b) (hla : a.a.length = 16) (hlb : b.a.length = 16) (ba : ∀ x ∈ a.a, x < 256) (bb : ∀ x ∈ b.a, x < 256) (n : Int) (hn0 : -9223372036854775808 ≤ n) (hn1 : n ≤ 9223372036854775807) (ca cb : Nat) (r : Bool) (w : World)
    (HCA : Hid (∀ wx, Below w.heap.size w wx → Calls Tryz.prog 22 #[.agg VA, .bool false] wx fun e w' => e = .returned (.int .i64 (ca : Nat)) ∧ Below wx.heap.size wx w')) (HCB : Hid (∀ wx, Below w.heap.size w wx → Calls Tryz.prog 22 #[.agg VB, .bool false] wx fun e w' => e = .returned (.int .i64 (cb : Nat)) ∧ Below wx.heap.size wx w'))
    (HF : Hid (¬ (ca = 0 ∧ cb = 0 ∧ a.k = b.k ∧ 0 ≤ n ∧ ((a.k = 2 ∧ n ≤ 32) ∨ (a.k = 3 ∧ n ≤ 128))) → r = false)) (HG : Hid (0 ≤ n → (a.k = 2 ∧ n ≤ 32) ∨ (a.k = 3 ∧ n ≤ 128) → ca = 0 ∧ cb = 0 ∧ a.k = b.k → (r = true ↔ Bsm a.a b.a n.toNat))) :
    Calls Tryz.prog 30 #[.agg VA, .agg VB, .int .i64 n] w fun e w' => e = .returned (.bool r) ∧ Below w.heap.size w w' := by
  have za : VA.size = 18 := by rw [hVA]; exact hostC_size a hla
  have zb : VB.size = 18 := by rw [hVB]; exact hostC_size b hlb
  have EA : Hid (VA = hostC a) := hVA
  have EB : Hid (VB = hostC b) := hVB
  obtain ⟨ka, hka⟩ : ∃ k, k = a.k := ⟨_, rfl⟩
  obtain ⟨kb, hkb⟩ : ∃ k, k = b.k := ⟨_, rfl⟩
  have HA0 : Hid (VA[0]? = some (.int .i64 ka)) := by rw [hVA, hka]; rfl
  have HB0 : Hid (VB[0]? = some (.int .i64 kb)) := by rw [hVB, hkb]; rfl
  rw [← hka, ← hkb] at HF HG
  have L1 : Hid (Lies ((w.alloc (.cells VA 28)).alloc (.cells VB 28)) w.heap.size VA 28) := (Lies.new w _ _).alloc _
  have L2 : Hid (Lies ((w.alloc (.cells VA 28)).alloc (.cells VB 28)) (w.heap.size + 1) VB 28) := new_one w _ _ _
  have KB : Hid (Below w.heap.size w ((w.alloc (.cells VA 28)).alloc (.cells VB 28))) := ((Below.refl _ _).alloc (Nat.le_refl _) _).alloc (by simp) _
  have HBA : Hid (∀ (i : Nat) (wx : World), i < 128 → Calls Tryz.prog 71 #[.agg (bytesV a.a), .int .i64 (i : Nat)] wx fun e w' => e = .returned (.int .i64 (bitN a.a i : Nat)) ∧ Below wx.heap.size wx w') := fun i wx hi => rbit_any a.a i hla ba hi wx
  have HBB : Hid (∀ (i : Nat) (wx : World), i < 128 → Calls Tryz.prog 71 #[.agg (bytesV b.a), .int .i64 (i : Nat)] wx fun e w' => e = .returned (.int .i64 (bitN b.a i : Nat)) ∧ Below wx.heap.size wx w') := fun i wx hi => rbit_any b.a i hlb bb hi wx
  clear hVA hVB hka hkb ba bb
  go_enter Tryz.func30, Tryz.ntmps30
  go_upto_region 1 with fail
  generalize (w.alloc (.cells VA 28)).alloc (.cells VB 28) = v0 at L1 L2 KB ⊢
  go_wp2_with (first | (refine wpList_load_rowG (by rfl) 28 _ rfl (w.heap.size) rfl VA 28 _ L1.out Tryz.underlying28 rfl (by rw [za]; exact infoHo) ?_))
  refine Calls.mono (HCA.out _ KB.out) ?_
  rintro e y1 ⟨rfl, hc⟩
  have KB1 : Hid (Below w.heap.size w y1) := KB.out.trans ((hc).mono KB.out.size)
  have L1n : Hid (Lies y1 (w.heap.size) VA 28) := L1.out.below (hc) L1.out.lt
  clear L1
  have L1 := L1n
  clear L1n
  have L2n : Hid (Lies y1 (w.heap.size + 1) VB 28) := L2.out.below (hc) L2.out.lt
  clear L2
  have L2 := L2n
  clear L2n
  clear KB
  clear hc
  by_cases hca : ca = 0
  case neg =>
    have hcb1 : ((ca : Int) != 0) = true := by rw [bne_iff_ne]; omega
    have HR : Hid (r = false) := HF.out fun h => hca h.1
    clear hca
    go_wp2_with fail
    go_ret
    exact ⟨by rw [HR.out]; rfl, KB1.out⟩
  have hc1 : ((ca : Int) != 0) = false := by rw [hca]; rfl
  go_wp2_with (first | (refine wpList_load_rowG (by rfl) 28 _ rfl (w.heap.size + 1) rfl VB 28 _ L2.out Tryz.underlying28 rfl (by rw [zb]; exact infoHo) ?_))
  refine Calls.mono (HCB.out _ KB1.out) ?_
  rintro e y2 ⟨rfl, hc⟩
  have KB2 : Hid (Below w.heap.size w y2) := KB1.out.trans ((hc).mono KB1.out.size)
  have L1n : Hid (Lies y2 (w.heap.size) VA 28) := L1.out.below (hc) L1.out.lt
  clear L1
  have L1 := L1n
  clear L1n
  have L2n : Hid (Lies y2 (w.heap.size + 1) VB 28) := L2.out.below (hc) L2.out.lt
  clear L2
  have L2 := L2n
  clear L2n
  clear KB1
  clear hc
  by_cases hcb : cb = 0
  case neg =>
    have hcb1 : ((cb : Int) != 0) = true := by rw [bne_iff_ne]; omega
    have HR : Hid (r = false) := HF.out fun h => hcb h.2.1
    clear hcb hca
    go_wp2_with fail
    go_ret
    exact ⟨by rw [HR.out]; rfl, KB2.out⟩
  have hc2 : ((cb : Int) != 0) = false := by rw [hcb]; rfl
  have c0 : y2.cell? ⟨w.heap.size, 0, none⟩ = some (.int .i64 ka) := by rw [L1.out.cell 0, HA0.out]
  have c1 : y2.cell? ⟨w.heap.size + 1, 0, none⟩ = some (.int .i64 kb) := by rw [L2.out.cell 0, HB0.out]
  by_cases hkk : ka = kb
  case neg =>
    have hkb1 : (ka != kb) = true := by rw [bne_iff_ne]; exact hkk
    have HR : Hid (r = false) := HF.out fun h => hkk h.2.2.1
    clear hkk hca hcb
    go_wp2_with fail
    go_ret
    exact ⟨by rw [HR.out]; rfl, KB2.out⟩
  have hkb1 : (ka != kb) = false := by rw [bne, hkk]; simp
  have HALL : Hid (ca = 0 ∧ cb = 0 ∧ ka = kb) := ⟨hca, hcb, hkk⟩
  clear hkk hca hcb
  go_upto_region 3 with fail
  clear hc1 hc2 hkb1 c1
  by_cases hneg : n < 0
  case pos =>
    have HR : Hid (r = false) := HF.out fun h => by have := h.2.2.2.1; omega
    go_wp2_with fail
    go_ret
    exact ⟨by rw [HR.out]; rfl, KB2.out⟩
  have hnn : 0 ≤ n := by omega
  by_cases hk2 : ka = 2
  case neg =>
    have e2 : (ka == 2) = false := by rw [beq_eq_false_iff_ne]; exact hk2
    have e2' : (ka != 2) = true := by rw [bne, e2]; rfl
    by_cases hk3 : ka = 3
    case neg =>
      have e3 : (ka == 3) = false := by rw [beq_eq_false_iff_ne]; exact hk3
      have e3' : (ka != 3) = true := by rw [bne, e3]; rfl
      have HR : Hid (r = false) := HF.out fun h => h.2.2.2.2.elim (fun h => hk2 h.1) (fun h => hk3 h.1)
      clear hk2 hk3
      go_wp2_with fail
      go_ret
      exact ⟨by rw [HR.out]; rfl, KB2.out⟩
    have e3 : (ka == 3) = true := by rw [beq_iff_eq]; exact hk3
    have e3' : (ka != 3) = false := by rw [bne, e3]; rfl
    by_cases hm : 128 < n
    case pos =>
      have HR : Hid (r = false) := HF.out fun h => by have := h.2.2.2.2; omega
      clear hk2 hk3
      go_wp2_with fail
      go_ret
      exact ⟨by rw [HR.out]; rfl, KB2.out⟩
    have HR : Hid (r = true ↔ Bsm a.a b.a n.toNat) := HG.out hnn (.inr ⟨hk3, by omega⟩) HALL.out
    have hn128 : n ≤ 128 := by omega
    clear hk2 hk3
    obtain ⟨N, rfl⟩ : ∃ N : Nat, n = (N : Int) := ⟨n.toNat, by omega⟩
    go_upto_region 5 with fail
    clear c0 hneg hm
    go_wp2_with fail
    go_loopw [54] (fun c wr => ∃ i : Nat, i ≤ N ∧ c = .int .i64 i ∧ Hid (Bsm a.a b.a i) ∧ Hid (Below w.heap.size w wr) ∧ Hid (Lies wr w.heap.size VA 28) ∧ Hid (Lies wr (w.heap.size + 1) VB 28)) (fun c _ => N - (intOf c).toNat)
    case atStart => exact ⟨0, Nat.zero_le _, rfl, fun j hj => absurd hj (by omega), KB2, L1, L2⟩
    case round =>
      obtain ⟨i, hi, rfl, HS, KX, M1, M2⟩ := hrel
      clear L1 L2 KB2
      by_cases hlt : i < N
      · have hlt' : (i : Int) < (N : Int) := by omega
        have HX1 : Hid (∀ wx, Below w.heap.size w wx → Calls Tryz.prog 71 #[.agg (bytesV a.a), .int .i64 (i : Nat)] wx fun e w' => e = .returned (.int .i64 (bitN a.a i : Nat)) ∧ Below wx.heap.size wx w') := fun wx _ => HBA.out i wx (by omega)
        have HX2 : Hid (∀ wx, Below w.heap.size w wx → Calls Tryz.prog 71 #[.agg (bytesV b.a), .int .i64 (i : Nat)] wx fun e w' => e = .returned (.int .i64 (bitN b.a i : Nat)) ∧ Below wx.heap.size wx w') := fun wx _ => HBB.out i wx (by omega)
        have HEQ : Hid (bitN a.a i = bitN b.a i → Bsm a.a b.a (i + 1)) := fun h => HS.out.step h
        have HNE : Hid (bitN a.a i ≠ bitN b.a i → r = false) := fun h => by
          cases hr : r
          · rfl
          · exact absurd (HR.out.1 hr i (by omega)) h
        clear HBA HBB HR HS
        generalize bitN a.a i = x at HX1 HEQ HNE
        generalize bitN b.a i = y at HX2 HEQ HNE
        go_upto_region 8 with fail
        by_cases hxy : x = y
        · have hb1 : ((x : Int) != (y : Int)) = false := by rw [hxy]; simp
          have HN : Hid (Bsm a.a b.a (i + 1)) := HEQ.out hxy
          clear hxy HEQ HNE
          refine wp_region_late (fun wx => Below wr.heap.size wr wx) 9 (by kernel_rfl) (Below.refl _ wr).drew (fun hHeld => ?_)
          refine wpAnyE_tk (i := 0) (d := some 57) (v := ?_) rfl (by kernel_rfl) (by kernel_rfl) (by kernel_rfl) rfl (fun _ _ _ h => h) rfl rfl ?hy (by assumption) ?_
          case hy => (intro w' hSw; (try dsimp only at hSw); go_simp <;> (first | with_reducible rfl | omega | skip))
          simp only [Act.put, List.setIfInBounds_toArray, List.set_cons_zero, List.set_cons_succ]
          refine wpAnyE_tk (i := 1) (d := some 58) (v := .agg (bytesV a.a)) rfl (by kernel_rfl) (by kernel_rfl) (by kernel_rfl) rfl (fun _ _ _ h => h) rfl rfl ?hy (by assumption) ?_
          case hy => exact fun w' hSw => exec_load_mid 26 _ rfl (w.heap.size) 2 rfl (a.a.map fun n => Value.int .u8 (n : Nat)) _ (host_mid (h := a) (by rw [← EA.out]; exact M1.out.below hSw M1.out.lt)) Tryz.underlying26 rfl (by rw [List.length_map, hla]; exact info16)
          simp only [Act.put, List.setIfInBounds_toArray, List.set_cons_zero, List.set_cons_succ]
          refine wpAnyE_tk (i := 2) (d := some 59) (v := ?_) rfl (by kernel_rfl) (by kernel_rfl) (by kernel_rfl) rfl (fun _ _ _ h => h) rfl rfl ?hy (by assumption) ?_
          case hy => (intro w' hSw; (try dsimp only at hSw); go_simp <;> (first | with_reducible rfl | omega | skip))
          simp only [Act.put, List.setIfInBounds_toArray, List.set_cons_zero, List.set_cons_succ]
          refine wpAnyE_tk (i := 4) (d := some 61) (v := ?_) rfl (by kernel_rfl) (by kernel_rfl) (by kernel_rfl) rfl (fun _ _ _ h => h) rfl rfl ?hy (by assumption) ?_
          case hy => (intro w' hSw; (try dsimp only at hSw); go_simp <;> (first | with_reducible rfl | omega | skip))
          simp only [Act.put, List.setIfInBounds_toArray, List.set_cons_zero, List.set_cons_succ]
          refine wpAnyE_tk (i := 5) (d := some 62) (v := .agg (bytesV b.a)) rfl (by kernel_rfl) (by kernel_rfl) (by kernel_rfl) rfl (fun _ _ _ h => h) rfl rfl ?hy (by assumption) ?_
          case hy => exact fun w' hSw => exec_load_mid 26 _ rfl (w.heap.size + 1) 2 rfl (b.a.map fun n => Value.int .u8 (n : Nat)) _ (host_mid (h := b) (by rw [← EB.out]; exact M2.out.below hSw M2.out.lt)) Tryz.underlying26 rfl (by rw [List.length_map, hlb]; exact info16)
          simp only [Act.put, List.setIfInBounds_toArray, List.set_cons_zero, List.set_cons_succ]
          refine wpAnyE_tk (i := 6) (d := some 63) (v := ?_) rfl (by kernel_rfl) (by kernel_rfl) (by kernel_rfl) rfl (fun _ _ _ h => h) rfl rfl ?hy (by assumption) ?_
          case hy => (intro w' hSw; (try dsimp only at hSw); go_simp <;> (first | with_reducible rfl | omega | skip))
          simp only [Act.put, List.setIfInBounds_toArray, List.set_cons_zero, List.set_cons_succ]
          refine wpAnyE_on (i := 3) (by kernel_rfl) rfl rfl ?_
          go_simp
          refine Calls.mono (HX1.out _ (KX.out.trans (((Below.refl _ wr).drew).mono KX.out.size))) ?_
          rintro e y1 ⟨rfl, hc1⟩
          have hx1 : Below wr.heap.size wr y1 := ((Below.refl _ wr).drew).trans hc1
          refine ⟨hx1, ?_⟩
          clear hc1
          refine wpAnyE_on (i := 7) (by kernel_rfl) rfl rfl ?_
          go_simp
          refine Calls.mono (HX2.out _ (KX.out.trans ((hx1).mono KX.out.size))) ?_
          rintro e y2 ⟨rfl, hc2⟩
          have hx2 : Below wr.heap.size wr y2 := hx1.trans (hc2.mono hx1.size)
          refine ⟨hx2, ?_⟩
          clear hc2
          refine wpAnyE_tk (i := 8) (d := some 65) (v := ?_) rfl (by kernel_rfl) (by kernel_rfl) (by kernel_rfl) rfl (fun _ _ _ h => h) rfl rfl ?hy (by assumption) ?_
          case hy => (intro w' hSw; (try dsimp only at hSw); go_simp <;> (first | with_reducible rfl | omega | skip))
          simp only [Act.put, List.setIfInBounds_toArray, List.set_cons_zero, List.set_cons_succ]
          refine wpAnyE_done (by kernel_rfl) ?_ _
          have KB3 : Hid (Below w.heap.size w y2) := KX.out.trans ((hx2).mono KX.out.size)
          have M1n : Hid (Lies y2 (w.heap.size) VA 28) := M1.out.below (hx2) M1.out.lt
          clear M1
          have M1 := M1n
          clear M1n
          have M2n : Hid (Lies y2 (w.heap.size + 1) VB 28) := M2.out.below (hx2) M2.out.lt
          clear M2
          have M2 := M2n
          clear M2n
          have hb3 : Hid (Below wr.heap.size wr y2) := hx2
          clear hHeld hx1 hx2 KX
          go_wp2_with fail
          go_roundw
          case rel => exact ⟨i + 1, by omega, by go_num, HN, KB3, M1, M2⟩
          case measure => simp [intOf]; omega
        · have hb1 : ((x : Int) != (y : Int)) = true := by rw [bne_iff_ne]; omega
          have HN : Hid (r = false) := HNE.out hxy
          clear hxy HEQ HNE
          refine wp_region_late (fun wx => Below wr.heap.size wr wx) 9 (by kernel_rfl) (Below.refl _ wr).drew (fun hHeld => ?_)
          refine wpAnyE_tk (i := 0) (d := some 57) (v := ?_) rfl (by kernel_rfl) (by kernel_rfl) (by kernel_rfl) rfl (fun _ _ _ h => h) rfl rfl ?hy (by assumption) ?_
          case hy => (intro w' hSw; (try dsimp only at hSw); go_simp <;> (first | with_reducible rfl | omega | skip))
          simp only [Act.put, List.setIfInBounds_toArray, List.set_cons_zero, List.set_cons_succ]
          refine wpAnyE_tk (i := 1) (d := some 58) (v := .agg (bytesV a.a)) rfl (by kernel_rfl) (by kernel_rfl) (by kernel_rfl) rfl (fun _ _ _ h => h) rfl rfl ?hy (by assumption) ?_
          case hy => exact fun w' hSw => exec_load_mid 26 _ rfl (w.heap.size) 2 rfl (a.a.map fun n => Value.int .u8 (n : Nat)) _ (host_mid (h := a) (by rw [← EA.out]; exact M1.out.below hSw M1.out.lt)) Tryz.underlying26 rfl (by rw [List.length_map, hla]; exact info16)
          simp only [Act.put, List.setIfInBounds_toArray, List.set_cons_zero, List.set_cons_succ]
          refine wpAnyE_tk (i := 2) (d := some 59) (v := ?_) rfl (by kernel_rfl) (by kernel_rfl) (by kernel_rfl) rfl (fun _ _ _ h => h) rfl rfl ?hy (by assumption) ?_
          case hy => (intro w' hSw; (try dsimp only at hSw); go_simp <;> (first | with_reducible rfl | omega | skip))
          simp only [Act.put, List.setIfInBounds_toArray, List.set_cons_zero, List.set_cons_succ]
          refine wpAnyE_tk (i := 4) (d := some 61) (v := ?_) rfl (by kernel_rfl) (by kernel_rfl) (by kernel_rfl) rfl (fun _ _ _ h => h) rfl rfl ?hy (by assumption) ?_
          case hy => (intro w' hSw; (try dsimp only at hSw); go_simp <;> (first | with_reducible rfl | omega | skip))
          simp only [Act.put, List.setIfInBounds_toArray, List.set_cons_zero, List.set_cons_succ]
          refine wpAnyE_tk (i := 5) (d := some 62) (v := .agg (bytesV b.a)) rfl (by kernel_rfl) (by kernel_rfl) (by kernel_rfl) rfl (fun _ _ _ h => h) rfl rfl ?hy (by assumption) ?_
          case hy => exact fun w' hSw => exec_load_mid 26 _ rfl (w.heap.size + 1) 2 rfl (b.a.map fun n => Value.int .u8 (n : Nat)) _ (host_mid (h := b) (by rw [← EB.out]; exact M2.out.below hSw M2.out.lt)) Tryz.underlying26 rfl (by rw [List.length_map, hlb]; exact info16)
          simp only [Act.put, List.setIfInBounds_toArray, List.set_cons_zero, List.set_cons_succ]
          refine wpAnyE_tk (i := 6) (d := some 63) (v := ?_) rfl (by kernel_rfl) (by kernel_rfl) (by kernel_rfl) rfl (fun _ _ _ h => h) rfl rfl ?hy (by assumption) ?_
          case hy => (intro w' hSw; (try dsimp only at hSw); go_simp <;> (first | with_reducible rfl | omega | skip))
          simp only [Act.put, List.setIfInBounds_toArray, List.set_cons_zero, List.set_cons_succ]
          refine wpAnyE_on (i := 3) (by kernel_rfl) rfl rfl ?_
          go_simp
          refine Calls.mono (HX1.out _ (KX.out.trans (((Below.refl _ wr).drew).mono KX.out.size))) ?_
          rintro e y1 ⟨rfl, hc1⟩
          have hx1 : Below wr.heap.size wr y1 := ((Below.refl _ wr).drew).trans hc1
          refine ⟨hx1, ?_⟩
          clear hc1
          refine wpAnyE_on (i := 7) (by kernel_rfl) rfl rfl ?_
          go_simp
          refine Calls.mono (HX2.out _ (KX.out.trans ((hx1).mono KX.out.size))) ?_
          rintro e y2 ⟨rfl, hc2⟩
          have hx2 : Below wr.heap.size wr y2 := hx1.trans (hc2.mono hx1.size)
          refine ⟨hx2, ?_⟩
          clear hc2
          refine wpAnyE_tk (i := 8) (d := some 65) (v := ?_) rfl (by kernel_rfl) (by kernel_rfl) (by kernel_rfl) rfl (fun _ _ _ h => h) rfl rfl ?hy (by assumption) ?_
          case hy => (intro w' hSw; (try dsimp only at hSw); go_simp <;> (first | with_reducible rfl | omega | skip))
          simp only [Act.put, List.setIfInBounds_toArray, List.set_cons_zero, List.set_cons_succ]
          refine wpAnyE_done (by kernel_rfl) ?_ _
          have KB3 : Hid (Below w.heap.size w y2) := KX.out.trans ((hx2).mono KX.out.size)
          have M1n : Hid (Lies y2 (w.heap.size) VA 28) := M1.out.below (hx2) M1.out.lt
          clear M1
          have M1 := M1n
          clear M1n
          have M2n : Hid (Lies y2 (w.heap.size + 1) VB 28) := M2.out.below (hx2) M2.out.lt
          clear M2
          have M2 := M2n
          clear M2n
          have hb3 : Hid (Below wr.heap.size wr y2) := hx2
          clear hHeld hx1 hx2 KX
          go_wp2_with fail
          go_ret
          exact ⟨by rw [HN.out]; rfl, KB3.out⟩
      · have hlt' : ¬ (i : Int) < (N : Int) := by omega
        have HN : Hid (r = true) := HR.out.2 (by rw [show (N : Int).toNat = i from by omega]; exact HS.out)
        clear HR HS HBA HBB
        go_wp2_with fail
        go_ret
        exact ⟨by rw [HN.out]; rfl, KX.out⟩
  have e2 : (ka == 2) = true := by rw [beq_iff_eq]; exact hk2
  have e2' : (ka != 2) = false := by rw [bne, e2]; rfl
  have e3 : (ka == 3) = false := by rw [hk2]; rfl
  by_cases hm : 32 < n
  case pos =>
    have HR : Hid (r = false) := HF.out fun h => by have := h.2.2.2.2; omega
    clear hk2
    go_wp2_with fail
    go_ret
    exact ⟨by rw [HR.out]; rfl, KB2.out⟩
  have HR : Hid (r = true ↔ Bsm a.a b.a n.toNat) := HG.out hnn (.inl ⟨hk2, by omega⟩) HALL.out
  have hn128 : n ≤ 128 := by omega
  clear hk2
  obtain ⟨N, rfl⟩ : ∃ N : Nat, n = (N : Int) := ⟨n.toNat, by omega⟩
  go_upto_region 5 with fail
  clear c0 hneg hm
  go_wp2_with fail
  go_loopw [54] (fun c wr => ∃ i : Nat, i ≤ N ∧ c = .int .i64 i ∧ Hid (Bsm a.a b.a i) ∧ Hid (Below w.heap.size w wr) ∧ Hid (Lies wr w.heap.size VA 28) ∧ Hid (Lies wr (w.heap.size + 1) VB 28)) (fun c _ => N - (intOf c).toNat)
  case atStart => exact ⟨0, Nat.zero_le _, rfl, fun j hj => absurd hj (by omega), KB2, L1, L2⟩
  case round =>
    obtain ⟨i, hi, rfl, HS, KX, M1, M2⟩ := hrel
    clear L1 L2 KB2
    by_cases hlt : i < N
    · have hlt' : (i : Int) < (N : Int) := by omega
      have HX1 : Hid (∀ wx, Below w.heap.size w wx → Calls Tryz.prog 71 #[.agg (bytesV a.a), .int .i64 (i : Nat)] wx fun e w' => e = .returned (.int .i64 (bitN a.a i : Nat)) ∧ Below wx.heap.size wx w') := fun wx _ => HBA.out i wx (by omega)
      have HX2 : Hid (∀ wx, Below w.heap.size w wx → Calls Tryz.prog 71 #[.agg (bytesV b.a), .int .i64 (i : Nat)] wx fun e w' => e = .returned (.int .i64 (bitN b.a i : Nat)) ∧ Below wx.heap.size wx w') := fun wx _ => HBB.out i wx (by omega)
      have HEQ : Hid (bitN a.a i = bitN b.a i → Bsm a.a b.a (i + 1)) := fun h => HS.out.step h
      have HNE : Hid (bitN a.a i ≠ bitN b.a i → r = false) := fun h => by
        cases hr : r
        · rfl
        · exact absurd (HR.out.1 hr i (by omega)) h
      clear HBA HBB HR HS
      generalize bitN a.a i = x at HX1 HEQ HNE
      generalize bitN b.a i = y at HX2 HEQ HNE
      go_upto_region 8 with fail
      by_cases hxy : x = y
      · have hb1 : ((x : Int) != (y : Int)) = false := by rw [hxy]; simp
        have HN : Hid (Bsm a.a b.a (i + 1)) := HEQ.out hxy
        clear hxy HEQ HNE
        refine wp_region_late (fun wx => Below wr.heap.size wr wx) 9 (by kernel_rfl) (Below.refl _ wr).drew (fun hHeld => ?_)
        refine wpAnyE_tk (i := 0) (d := some 57) (v := ?_) rfl (by kernel_rfl) (by kernel_rfl) (by kernel_rfl) rfl (fun _ _ _ h => h) rfl rfl ?hy (by assumption) ?_
        case hy => (intro w' hSw; (try dsimp only at hSw); go_simp <;> (first | with_reducible rfl | omega | skip))
        simp only [Act.put, List.setIfInBounds_toArray, List.set_cons_zero, List.set_cons_succ]
        refine wpAnyE_tk (i := 1) (d := some 58) (v := .agg (bytesV a.a)) rfl (by kernel_rfl) (by kernel_rfl) (by kernel_rfl) rfl (fun _ _ _ h => h) rfl rfl ?hy (by assumption) ?_
        case hy => exact fun w' hSw => exec_load_mid 26 _ rfl (w.heap.size) 2 rfl (a.a.map fun n => Value.int .u8 (n : Nat)) _ (host_mid (h := a) (by rw [← EA.out]; exact M1.out.below hSw M1.out.lt)) Tryz.underlying26 rfl (by rw [List.length_map, hla]; exact info16)
        simp only [Act.put, List.setIfInBounds_toArray, List.set_cons_zero, List.set_cons_succ]
        refine wpAnyE_tk (i := 2) (d := some 59) (v := ?_) rfl (by kernel_rfl) (by kernel_rfl) (by kernel_rfl) rfl (fun _ _ _ h => h) rfl rfl ?hy (by assumption) ?_
        case hy => (intro w' hSw; (try dsimp only at hSw); go_simp <;> (first | with_reducible rfl | omega | skip))
        simp only [Act.put, List.setIfInBounds_toArray, List.set_cons_zero, List.set_cons_succ]
        refine wpAnyE_tk (i := 4) (d := some 61) (v := ?_) rfl (by kernel_rfl) (by kernel_rfl) (by kernel_rfl) rfl (fun _ _ _ h => h) rfl rfl ?hy (by assumption) ?_
        case hy => (intro w' hSw; (try dsimp only at hSw); go_simp <;> (first | with_reducible rfl | omega | skip))
        simp only [Act.put, List.setIfInBounds_toArray, List.set_cons_zero, List.set_cons_succ]
        refine wpAnyE_tk (i := 5) (d := some 62) (v := .agg (bytesV b.a)) rfl (by kernel_rfl) (by kernel_rfl) (by kernel_rfl) rfl (fun _ _ _ h => h) rfl rfl ?hy (by assumption) ?_
        case hy => exact fun w' hSw => exec_load_mid 26 _ rfl (w.heap.size + 1) 2 rfl (b.a.map fun n => Value.int .u8 (n : Nat)) _ (host_mid (h := b) (by rw [← EB.out]; exact M2.out.below hSw M2.out.lt)) Tryz.underlying26 rfl (by rw [List.length_map, hlb]; exact info16)
        simp only [Act.put, List.setIfInBounds_toArray, List.set_cons_zero, List.set_cons_succ]
        refine wpAnyE_tk (i := 6) (d := some 63) (v := ?_) rfl (by kernel_rfl) (by kernel_rfl) (by kernel_rfl) rfl (fun _ _ _ h => h) rfl rfl ?hy (by assumption) ?_
        case hy => (intro w' hSw; (try dsimp only at hSw); go_simp <;> (first | with_reducible rfl | omega | skip))
        simp only [Act.put, List.setIfInBounds_toArray, List.set_cons_zero, List.set_cons_succ]
        refine wpAnyE_on (i := 3) (by kernel_rfl) rfl rfl ?_
        go_simp
        refine Calls.mono (HX1.out _ (KX.out.trans (((Below.refl _ wr).drew).mono KX.out.size))) ?_
        rintro e y1 ⟨rfl, hc1⟩
        have hx1 : Below wr.heap.size wr y1 := ((Below.refl _ wr).drew).trans hc1
        refine ⟨hx1, ?_⟩
        clear hc1
        refine wpAnyE_on (i := 7) (by kernel_rfl) rfl rfl ?_
        go_simp
        refine Calls.mono (HX2.out _ (KX.out.trans ((hx1).mono KX.out.size))) ?_
        rintro e y2 ⟨rfl, hc2⟩
        have hx2 : Below wr.heap.size wr y2 := hx1.trans (hc2.mono hx1.size)
        refine ⟨hx2, ?_⟩
        clear hc2
        refine wpAnyE_tk (i := 8) (d := some 65) (v := ?_) rfl (by kernel_rfl) (by kernel_rfl) (by kernel_rfl) rfl (fun _ _ _ h => h) rfl rfl ?hy (by assumption) ?_
        case hy => (intro w' hSw; (try dsimp only at hSw); go_simp <;> (first | with_reducible rfl | omega | skip))
        simp only [Act.put, List.setIfInBounds_toArray, List.set_cons_zero, List.set_cons_succ]
        refine wpAnyE_done (by kernel_rfl) ?_ _
        have KB3 : Hid (Below w.heap.size w y2) := KX.out.trans ((hx2).mono KX.out.size)
        have M1n : Hid (Lies y2 (w.heap.size) VA 28) := M1.out.below (hx2) M1.out.lt
        clear M1
        have M1 := M1n
        clear M1n
        have M2n : Hid (Lies y2 (w.heap.size + 1) VB 28) := M2.out.below (hx2) M2.out.lt
        clear M2
        have M2 := M2n
        clear M2n
        have hb3 : Hid (Below wr.heap.size wr y2) := hx2
        clear hHeld hx1 hx2 KX
        go_wp2_with fail
        go_roundw
        case rel => exact ⟨i + 1, by omega, by go_num, HN, KB3, M1, M2⟩
        case measure => simp [intOf]; omega
      · have hb1 : ((x : Int) != (y : Int)) = true := by rw [bne_iff_ne]; omega
        have HN : Hid (r = false) := HNE.out hxy
        clear hxy HEQ HNE
        refine wp_region_late (fun wx => Below wr.heap.size wr wx) 9 (by kernel_rfl) (Below.refl _ wr).drew (fun hHeld => ?_)
        refine wpAnyE_tk (i := 0) (d := some 57) (v := ?_) rfl (by kernel_rfl) (by kernel_rfl) (by kernel_rfl) rfl (fun _ _ _ h => h) rfl rfl ?hy (by assumption) ?_
        case hy => (intro w' hSw; (try dsimp only at hSw); go_simp <;> (first | with_reducible rfl | omega | skip))
        simp only [Act.put, List.setIfInBounds_toArray, List.set_cons_zero, List.set_cons_succ]
        refine wpAnyE_tk (i := 1) (d := some 58) (v := .agg (bytesV a.a)) rfl (by kernel_rfl) (by kernel_rfl) (by kernel_rfl) rfl (fun _ _ _ h => h) rfl rfl ?hy (by assumption) ?_
        case hy => exact fun w' hSw => exec_load_mid 26 _ rfl (w.heap.size) 2 rfl (a.a.map fun n => Value.int .u8 (n : Nat)) _ (host_mid (h := a) (by rw [← EA.out]; exact M1.out.below hSw M1.out.lt)) Tryz.underlying26 rfl (by rw [List.length_map, hla]; exact info16)
        simp only [Act.put, List.setIfInBounds_toArray, List.set_cons_zero, List.set_cons_succ]
        refine wpAnyE_tk (i := 2) (d := some 59) (v := ?_) rfl (by kernel_rfl) (by kernel_rfl) (by kernel_rfl) rfl (fun _ _ _ h => h) rfl rfl ?hy (by assumption) ?_
        case hy => (intro w' hSw; (try dsimp only at hSw); go_simp <;> (first | with_reducible rfl | omega | skip))
        simp only [Act.put, List.setIfInBounds_toArray, List.set_cons_zero, List.set_cons_succ]
        refine wpAnyE_tk (i := 4) (d := some 61) (v := ?_) rfl (by kernel_rfl) (by kernel_rfl) (by kernel_rfl) rfl (fun _ _ _ h => h) rfl rfl ?hy (by assumption) ?_
        case hy => (intro w' hSw; (try dsimp only at hSw); go_simp <;> (first | with_reducible rfl | omega | skip))
        simp only [Act.put, List.setIfInBounds_toArray, List.set_cons_zero, List.set_cons_succ]
        refine wpAnyE_tk (i := 5) (d := some 62) (v := .agg (bytesV b.a)) rfl (by kernel_rfl) (by kernel_rfl) (by kernel_rfl) rfl (fun _ _ _ h => h) rfl rfl ?hy (by assumption) ?_
        case hy => exact fun w' hSw => exec_load_mid 26 _ rfl (w.heap.size + 1) 2 rfl (b.a.map fun n => Value.int .u8 (n : Nat)) _ (host_mid (h := b) (by rw [← EB.out]; exact M2.out.below hSw M2.out.lt)) Tryz.underlying26 rfl (by rw [List.length_map, hlb]; exact info16)
        simp only [Act.put, List.setIfInBounds_toArray, List.set_cons_zero, List.set_cons_succ]
        refine wpAnyE_tk (i := 6) (d := some 63) (v := ?_) rfl (by kernel_rfl) (by kernel_rfl) (by kernel_rfl) rfl (fun _ _ _ h => h) rfl rfl ?hy (by assumption) ?_
        case hy => (intro w' hSw; (try dsimp only at hSw); go_simp <;> (first | with_reducible rfl | omega | skip))
        simp only [Act.put, List.setIfInBounds_toArray, List.set_cons_zero, List.set_cons_succ]
        refine wpAnyE_on (i := 3) (by kernel_rfl) rfl rfl ?_
        go_simp
        refine Calls.mono (HX1.out _ (KX.out.trans (((Below.refl _ wr).drew).mono KX.out.size))) ?_
        rintro e y1 ⟨rfl, hc1⟩
        have hx1 : Below wr.heap.size wr y1 := ((Below.refl _ wr).drew).trans hc1
        refine ⟨hx1, ?_⟩
        clear hc1
        refine wpAnyE_on (i := 7) (by kernel_rfl) rfl rfl ?_
        go_simp
        refine Calls.mono (HX2.out _ (KX.out.trans ((hx1).mono KX.out.size))) ?_
        rintro e y2 ⟨rfl, hc2⟩
        have hx2 : Below wr.heap.size wr y2 := hx1.trans (hc2.mono hx1.size)
        refine ⟨hx2, ?_⟩
        clear hc2
        refine wpAnyE_tk (i := 8) (d := some 65) (v := ?_) rfl (by kernel_rfl) (by kernel_rfl) (by kernel_rfl) rfl (fun _ _ _ h => h) rfl rfl ?hy (by assumption) ?_
        case hy => (intro w' hSw; (try dsimp only at hSw); go_simp <;> (first | with_reducible rfl | omega | skip))
        simp only [Act.put, List.setIfInBounds_toArray, List.set_cons_zero, List.set_cons_succ]
        refine wpAnyE_done (by kernel_rfl) ?_ _
        have KB3 : Hid (Below w.heap.size w y2) := KX.out.trans ((hx2).mono KX.out.size)
        have M1n : Hid (Lies y2 (w.heap.size) VA 28) := M1.out.below (hx2) M1.out.lt
        clear M1
        have M1 := M1n
        clear M1n
        have M2n : Hid (Lies y2 (w.heap.size + 1) VB 28) := M2.out.below (hx2) M2.out.lt
        clear M2
        have M2 := M2n
        clear M2n
        have hb3 : Hid (Below wr.heap.size wr y2) := hx2
        clear hHeld hx1 hx2 KX
        go_wp2_with fail
        go_ret
        exact ⟨by rw [HN.out]; rfl, KB3.out⟩
    · have hlt' : ¬ (i : Int) < (N : Int) := by omega
      have HN : Hid (r = true) := HR.out.2 (by rw [show (N : Int).toNat = i from by omega]; exact HS.out)
      clear HR HS HBA HBB
      go_wp2_with fail
      go_ret
      exact ⟨by rw [HN.out]; rfl, KX.out⟩

theorem rwithin_any (a b : Ho) (oka : a.Ok) (okb : b.Ok) (n : Int) (hn0 : -9223372036854775808 ≤ n) (hn1 : n ≤ 9223372036854775807) (w : World) (sa : a.n.length ≤ 140737488351232) (sb : b.n.length ≤ 140737488351232) :
    Calls Tryz.prog 30 #[hostV a, hostV b, .int .i64 n] w fun e w' => e = .returned (.bool (within a b n)) ∧ Below w.heap.size w w' := by
  refine rwi_any _ _ a b rfl rfl oka.len okb.len oka.byt okb.byt n hn0 hn1 (check a false) (check b false) (within a b n) w (fun wx _ => rcheck_any a oka.len false wx sa) (fun wx _ => rcheck_any b okb.len false wx sb) (fun h => ?_) (fun h0 hw hc => ?_)
  · cases hr : within a b n
    · rfl
    · obtain ⟨h1, h2, h3, h4, h5, _⟩ := (within_iff a b n).1 hr
      refine absurd ⟨h2, h3, h1, h4, ?_⟩ h
      unfold widthN at h5
      split at h5
      · exact .inl ⟨by assumption, h5⟩
      · split at h5
        · exact .inr ⟨by assumption, h5⟩
        · omega
  · obtain ⟨h2, h3, h1⟩ := hc
    have hw5 : n ≤ widthN a.k := by
      unfold widthN
      rcases hw with ⟨e, h⟩ | ⟨e, h⟩
      · rw [if_pos e]; exact h
      · rw [if_neg (by omega), if_pos e]; exact h
    have hn : n = (n.toNat : Int) := by omega
    have hcut := bits_cut a.a b.a n.toNat oka.len okb.len oka.byt okb.byt (by omega)
    rw [← hn] at hcut
    rw [within_iff]
    constructor
    · rintro ⟨_, _, _, _, _, h6⟩
      exact hcut.2 h6
    · intro h
      exact ⟨h1, h2, h3, h0, hw5, hcut.1 h⟩
end Go.Proofs.YtnlgbopdbihnjaaGreatDoor
