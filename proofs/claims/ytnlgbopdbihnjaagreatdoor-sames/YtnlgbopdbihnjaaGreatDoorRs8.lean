/-
  The document's Same.
-/
import Derived.Test.YtnlgbopdbihnjaaGreatDoorCu8
import Derived.Test.YtnlgbopdbihnjaaGreatDoorRg8
namespace Go.Proofs.YtnlgbopdbihnjaaGreatDoor
open Go.RowKit

set_option maxHeartbeats 16000000 in
set_option maxRecDepth 100000 in
theorem rsm_any (VA VB XA XB : Array Value) (a b x y : Ho) (hVA : VA = hostC a) (hVB : VB = hostC b) (hXA : XA = hostC x) (hXB : XB = hostC y) (hla : a.a.length = 16) (hlb : b.a.length = 16) (hlx : x.a.length = 16) (hly : y.a.length = 16) (sa : a.n.length ≤ 140737488351232) (sb : b.n.length ≤ 140737488351232) (ca cb ea eb : Nat) (r : Bool) (w : World)
    (HCA : Hid (∀ wx, Below w.heap.size w wx → Calls Tryz.prog 22 #[.agg VA, .bool true] wx fun e w' => e = .returned (.int .i64 (ca : Nat)) ∧ Below wx.heap.size wx w')) (HCB : Hid (∀ wx, Below w.heap.size w wx → Calls Tryz.prog 22 #[.agg VB, .bool true] wx fun e w' => e = .returned (.int .i64 (cb : Nat)) ∧ Below wx.heap.size wx w'))
    (HAA : Hid (∀ wx, Below w.heap.size w wx → Calls Tryz.prog 19 #[.agg VA] wx fun e w' => e = .returned (.tuple #[.agg XA, .int .i64 (ea : Nat)]) ∧ Below wx.heap.size wx w')) (HAB : Hid (∀ wx, Below w.heap.size w wx → Calls Tryz.prog 19 #[.agg VB] wx fun e w' => e = .returned (.tuple #[.agg XB, .int .i64 (eb : Nat)]) ∧ Below wx.heap.size wx w'))
    (HF : Hid (¬ (ca = 0 ∧ cb = 0 ∧ a.k = b.k) → r = false)) (HG : Hid (ca = 0 ∧ cb = 0 ∧ a.k = b.k → r = if ea = 0 ∧ eb = 0 then decide (x = y) else decide (sml a.n = sml b.n))) :
    Calls Tryz.prog 29 #[.agg VA, .agg VB] w fun e w' => e = .returned (.bool r) ∧ Below w.heap.size w w' := by
  have za : VA.size = 18 := by rw [hVA]; exact hostC_size a hla
  have zb : VB.size = 18 := by rw [hVB]; exact hostC_size b hlb
  have zx : XA.size = 18 := by rw [hXA]; exact hostC_size x hlx
  have zy : XB.size = 18 := by rw [hXB]; exact hostC_size y hly
  have ox : Hid (XA.all (·.oneCell') = true ∧ (#[.int .i64 0, .string ⟨#[]⟩, .int .u8 0, .int .u8 0, .int .u8 0, .int .u8 0, .int .u8 0, .int .u8 0, .int .u8 0, .int .u8 0, .int .u8 0, .int .u8 0, .int .u8 0, .int .u8 0, .int .u8 0, .int .u8 0, .int .u8 0, .int .u8 0] : Array Value).size = XA.size) := ⟨by rw [hXA]; exact hostC_one x, by rw [zx]; rfl⟩
  have oy : Hid (XB.all (·.oneCell') = true ∧ (#[.int .i64 0, .string ⟨#[]⟩, .int .u8 0, .int .u8 0, .int .u8 0, .int .u8 0, .int .u8 0, .int .u8 0, .int .u8 0, .int .u8 0, .int .u8 0, .int .u8 0, .int .u8 0, .int .u8 0, .int .u8 0, .int .u8 0, .int .u8 0, .int .u8 0] : Array Value).size = XB.size) := ⟨by rw [hXB]; exact hostC_one y, by rw [zy]; rfl⟩
  have EX : Hid (XA = hostC x) := hXA
  have EY : Hid (XB = hostC y) := hXB
  obtain ⟨ka, hka⟩ : ∃ k, k = a.k := ⟨_, rfl⟩
  obtain ⟨kb, hkb⟩ : ∃ k, k = b.k := ⟨_, rfl⟩
  obtain ⟨SA, hSA⟩ : ∃ S : ByteArray, S = ⟨a.n.toArray⟩ := ⟨_, rfl⟩
  obtain ⟨SB, hSB⟩ : ∃ S : ByteArray, S = ⟨b.n.toArray⟩ := ⟨_, rfl⟩
  have HA0 : Hid (VA[0]? = some (.int .i64 ka)) := by rw [hVA, hka]; rfl
  have HB0 : Hid (VB[0]? = some (.int .i64 kb)) := by rw [hVB, hkb]; rfl
  have HA1 : Hid (VA[1]? = some (.string SA)) := by rw [hVA, hSA]; rfl
  have HB1 : Hid (VB[1]? = some (.string SB)) := by rw [hVB, hSB]; rfl
  have HSA : Hid (∀ wx, Below w.heap.size w wx → Calls Tryz.prog 56 #[.string SA] wx fun e w' => e = .returned (.string ⟨(sml a.n).toArray⟩) ∧ Below wx.heap.size wx w') := fun wx _ => by
    have := rsmall_any SA wx (by unfold maxLen; rw [hSA]; show a.n.toArray.size ≤ _; rw [List.size_toArray]; omega)
    unfold smS at this
    rw [hSA, str_list] at this
    rw [hSA]
    exact this
  have HSB : Hid (∀ wx, Below w.heap.size w wx → Calls Tryz.prog 56 #[.string SB] wx fun e w' => e = .returned (.string ⟨(sml b.n).toArray⟩) ∧ Below wx.heap.size wx w') := fun wx _ => by
    have := rsmall_any SB wx (by unfold maxLen; rw [hSB]; show b.n.toArray.size ≤ _; rw [List.size_toArray]; omega)
    unfold smS at this
    rw [hSB, str_list] at this
    rw [hSB]
    exact this
  have HSE : Hid (((⟨(sml a.n).toArray⟩ : ByteArray).toList == (⟨(sml b.n).toArray⟩ : ByteArray).toList) = decide (sml a.n = sml b.n)) := by
    show _ = _
    rw [ByteArray.toList_eq, ByteArray.toList_eq, str_list, str_list, Bool.eq_iff_iff]
    simp
  rw [← hka, ← hkb] at HF HG
  have L1 : Hid (Lies ((w.alloc (.cells VA 28)).alloc (.cells VB 28)) w.heap.size VA 28) := (Lies.new w _ _).alloc _
  have L2 : Hid (Lies ((w.alloc (.cells VA 28)).alloc (.cells VB 28)) (w.heap.size + 1) VB 28) := new_one w _ _ _
  have KB : Hid (Below w.heap.size w ((w.alloc (.cells VA 28)).alloc (.cells VB 28))) := ((Below.refl _ _).alloc (Nat.le_refl _) _).alloc (by simp) _
  generalize (⟨(sml a.n).toArray⟩ : ByteArray) = TA at HSA HSE
  generalize (⟨(sml b.n).toArray⟩ : ByteArray) = TB at HSB HSE
  generalize decide (sml a.n = sml b.n) = q at HG HSE
  clear hVA hVB hXA hXB hka hkb hSA hSB sa sb
  go_enter Tryz.func29, Tryz.ntmps29
  go_upto_region 1 with fail
  generalize (w.alloc (.cells VA 28)).alloc (.cells VB 28) = v0 at L1 L2 KB ⊢
  go_wp2_with (first | (refine wpList_load_rowG (by rfl) 28 _ rfl (w.heap.size) rfl VA 28 _ L1.out Tryz.underlying28 rfl (by rw [za]; exact infoHo) ?_))
  refine Calls.mono (HCA.out _ KB.out) ?_
  rintro e y1 ⟨rfl, hc⟩
  have KB1 : Hid (Below w.heap.size w y1) := KB.out.trans ((hc).mono KB.out.size)
  have L1n : Hid (Lies y1 (w.heap.size) VA 28) := L1.out.below (hc) L1.out.lt
  clear L1
  have L1 := L1n
  clear L1n
  have L2n : Hid (Lies y1 (w.heap.size + 1) VB 28) := L2.out.below (hc) L2.out.lt
  clear L2
  have L2 := L2n
  clear L2n
  clear KB
  clear hc
  by_cases hca : ca = 0
  case neg =>
    have hcb1 : ((ca : Int) != 0) = true := by rw [bne_iff_ne]; omega
    have HR : Hid (r = false) := HF.out fun h => hca h.1
    clear hca
    go_wp2_with fail
    go_ret
    exact ⟨by rw [HR.out]; rfl, KB1.out⟩
  have hc1 : ((ca : Int) != 0) = false := by rw [hca]; rfl
  go_wp2_with (first | (refine wpList_load_rowG (by rfl) 28 _ rfl (w.heap.size + 1) rfl VB 28 _ L2.out Tryz.underlying28 rfl (by rw [zb]; exact infoHo) ?_))
  refine Calls.mono (HCB.out _ KB1.out) ?_
  rintro e y2 ⟨rfl, hc⟩
  have KB2 : Hid (Below w.heap.size w y2) := KB1.out.trans ((hc).mono KB1.out.size)
  have L1n : Hid (Lies y2 (w.heap.size) VA 28) := L1.out.below (hc) L1.out.lt
  clear L1
  have L1 := L1n
  clear L1n
  have L2n : Hid (Lies y2 (w.heap.size + 1) VB 28) := L2.out.below (hc) L2.out.lt
  clear L2
  have L2 := L2n
  clear L2n
  clear KB1
  clear hc
  by_cases hcb : cb = 0
  case neg =>
    have hcb1 : ((cb : Int) != 0) = true := by rw [bne_iff_ne]; omega
    have HR : Hid (r = false) := HF.out fun h => hcb h.2.1
    clear hcb hca
    go_wp2_with fail
    go_ret
    exact ⟨by rw [HR.out]; rfl, KB2.out⟩
  have hc2 : ((cb : Int) != 0) = false := by rw [hcb]; rfl
  have c0 : y2.cell? ⟨w.heap.size, 0, none⟩ = some (.int .i64 ka) := by rw [L1.out.cell 0, HA0.out]
  have c1 : y2.cell? ⟨w.heap.size + 1, 0, none⟩ = some (.int .i64 kb) := by rw [L2.out.cell 0, HB0.out]
  by_cases hkk : ka = kb
  case neg =>
    have hkb1 : (ka != kb) = true := by rw [bne_iff_ne]; exact hkk
    have HR : Hid (r = false) := HF.out fun h => hkk h.2.2
    clear hkk hca hcb
    go_wp2_with fail
    go_ret
    exact ⟨by rw [HR.out]; rfl, KB2.out⟩
  have hkb1 : (ka != kb) = false := by rw [bne, hkk]; simp
  have HR : Hid (r = if ea = 0 ∧ eb = 0 then decide (x = y) else q) := HG.out ⟨hca, hcb, hkk⟩
  clear hkk hca hcb
  go_upto_region 3 with fail
  clear hc1 hc2 hkb1 c1 c0 HF HG
  go_wp2_with (first | (refine wpList_load_rowG (by rfl) 28 _ rfl (w.heap.size) rfl VA 28 _ L1.out Tryz.underlying28 rfl (by rw [za]; exact infoHo) ?_))
  refine Calls.mono (HAA.out _ KB2.out) ?_
  rintro e y3 ⟨rfl, hc⟩
  have KB3 : Hid (Below w.heap.size w y3) := KB2.out.trans ((hc).mono KB2.out.size)
  have L1n : Hid (Lies y3 (w.heap.size) VA 28) := L1.out.below (hc) L1.out.lt
  clear L1
  have L1 := L1n
  clear L1n
  have L2n : Hid (Lies y3 (w.heap.size + 1) VB 28) := L2.out.below (hc) L2.out.lt
  clear L2
  have L2 := L2n
  clear L2n
  clear KB2
  clear hc
  have A : Hid (Lies (y3.alloc (.cells #[.int .i64 0, .string ⟨#[]⟩, .int .u8 0, .int .u8 0, .int .u8 0, .int .u8 0, .int .u8 0, .int .u8 0, .int .u8 0, .int .u8 0, .int .u8 0, .int .u8 0, .int .u8 0, .int .u8 0, .int .u8 0, .int .u8 0, .int .u8 0, .int .u8 0] 28)) y3.heap.size #[.int .i64 0, .string ⟨#[]⟩, .int .u8 0, .int .u8 0, .int .u8 0, .int .u8 0, .int .u8 0, .int .u8 0, .int .u8 0, .int .u8 0, .int .u8 0, .int .u8 0, .int .u8 0, .int .u8 0, .int .u8 0, .int .u8 0, .int .u8 0, .int .u8 0] 28) := Lies.new y3 _ _
  have M1 : Hid (Lies ((y3.alloc (.cells #[.int .i64 0, .string ⟨#[]⟩, .int .u8 0, .int .u8 0, .int .u8 0, .int .u8 0, .int .u8 0, .int .u8 0, .int .u8 0, .int .u8 0, .int .u8 0, .int .u8 0, .int .u8 0, .int .u8 0, .int .u8 0, .int .u8 0, .int .u8 0, .int .u8 0] 28)).setRow y3.heap.size XA) y3.heap.size XA 28) := A.out.row _
  have BB : Hid (Below y3.heap.size y3 ((y3.alloc (.cells #[.int .i64 0, .string ⟨#[]⟩, .int .u8 0, .int .u8 0, .int .u8 0, .int .u8 0, .int .u8 0, .int .u8 0, .int .u8 0, .int .u8 0, .int .u8 0, .int .u8 0, .int .u8 0, .int .u8 0, .int .u8 0, .int .u8 0, .int .u8 0, .int .u8 0] 28)).setRow y3.heap.size XA)) := below_row ((Below.refl _ _).alloc (Nat.le_refl _) _) (Nat.le_refl _) _
  have KB4 : Hid (Below w.heap.size w ((y3.alloc (.cells #[.int .i64 0, .string ⟨#[]⟩, .int .u8 0, .int .u8 0, .int .u8 0, .int .u8 0, .int .u8 0, .int .u8 0, .int .u8 0, .int .u8 0, .int .u8 0, .int .u8 0, .int .u8 0, .int .u8 0, .int .u8 0, .int .u8 0, .int .u8 0, .int .u8 0] 28)).setRow y3.heap.size XA)) := KB3.out.trans ((BB.out).mono KB3.out.size)
  have L1n : Hid (Lies ((y3.alloc (.cells #[.int .i64 0, .string ⟨#[]⟩, .int .u8 0, .int .u8 0, .int .u8 0, .int .u8 0, .int .u8 0, .int .u8 0, .int .u8 0, .int .u8 0, .int .u8 0, .int .u8 0, .int .u8 0, .int .u8 0, .int .u8 0, .int .u8 0, .int .u8 0, .int .u8 0] 28)).setRow y3.heap.size XA) (w.heap.size) VA 28) := L1.out.below (BB.out) L1.out.lt
  clear L1
  have L1 := L1n
  clear L1n
  have L2n : Hid (Lies ((y3.alloc (.cells #[.int .i64 0, .string ⟨#[]⟩, .int .u8 0, .int .u8 0, .int .u8 0, .int .u8 0, .int .u8 0, .int .u8 0, .int .u8 0, .int .u8 0, .int .u8 0, .int .u8 0, .int .u8 0, .int .u8 0, .int .u8 0, .int .u8 0, .int .u8 0, .int .u8 0] 28)).setRow y3.heap.size XA) (w.heap.size + 1) VB 28) := L2.out.below (BB.out) L2.out.lt
  clear L2
  have L2 := L2n
  clear L2n
  clear KB3
  go_upto_region 4 with (refine wpList_store_row rfl 28 _ _ rfl y3.heap.size rfl _ XA rfl 28 A.out (by rw [zx]; exact infoHo) ox.out.2 ox.out.1 rfl ?_)
  generalize hv1 : (y3.alloc (.cells #[.int .i64 0, .string ⟨#[]⟩, .int .u8 0, .int .u8 0, .int .u8 0, .int .u8 0, .int .u8 0, .int .u8 0, .int .u8 0, .int .u8 0, .int .u8 0, .int .u8 0, .int .u8 0, .int .u8 0, .int .u8 0, .int .u8 0, .int .u8 0, .int .u8 0] 28)).setRow y3.heap.size XA = v1 at M1 KB4 L1 L2 ⊢
  clear hv1 A BB
  go_wp2_with (first | (refine wpList_load_rowG (by rfl) 28 _ rfl (w.heap.size + 1) rfl VB 28 _ L2.out Tryz.underlying28 rfl (by rw [zb]; exact infoHo) ?_))
  refine Calls.mono (HAB.out _ KB4.out) ?_
  rintro e y4 ⟨rfl, hc⟩
  have KB5 : Hid (Below w.heap.size w y4) := KB4.out.trans ((hc).mono KB4.out.size)
  have L1n : Hid (Lies y4 (w.heap.size) VA 28) := L1.out.below (hc) L1.out.lt
  clear L1
  have L1 := L1n
  clear L1n
  have L2n : Hid (Lies y4 (w.heap.size + 1) VB 28) := L2.out.below (hc) L2.out.lt
  clear L2
  have L2 := L2n
  clear L2n
  have M1n : Hid (Lies y4 (y3.heap.size) XA 28) := M1.out.below (hc) M1.out.lt
  clear M1
  have M1 := M1n
  clear M1n
  clear KB4
  clear hc
  have A : Hid (Lies (y4.alloc (.cells #[.int .i64 0, .string ⟨#[]⟩, .int .u8 0, .int .u8 0, .int .u8 0, .int .u8 0, .int .u8 0, .int .u8 0, .int .u8 0, .int .u8 0, .int .u8 0, .int .u8 0, .int .u8 0, .int .u8 0, .int .u8 0, .int .u8 0, .int .u8 0, .int .u8 0] 28)) y4.heap.size #[.int .i64 0, .string ⟨#[]⟩, .int .u8 0, .int .u8 0, .int .u8 0, .int .u8 0, .int .u8 0, .int .u8 0, .int .u8 0, .int .u8 0, .int .u8 0, .int .u8 0, .int .u8 0, .int .u8 0, .int .u8 0, .int .u8 0, .int .u8 0, .int .u8 0] 28) := Lies.new y4 _ _
  have M2 : Hid (Lies ((y4.alloc (.cells #[.int .i64 0, .string ⟨#[]⟩, .int .u8 0, .int .u8 0, .int .u8 0, .int .u8 0, .int .u8 0, .int .u8 0, .int .u8 0, .int .u8 0, .int .u8 0, .int .u8 0, .int .u8 0, .int .u8 0, .int .u8 0, .int .u8 0, .int .u8 0, .int .u8 0] 28)).setRow y4.heap.size XB) y4.heap.size XB 28) := A.out.row _
  have BB : Hid (Below y4.heap.size y4 ((y4.alloc (.cells #[.int .i64 0, .string ⟨#[]⟩, .int .u8 0, .int .u8 0, .int .u8 0, .int .u8 0, .int .u8 0, .int .u8 0, .int .u8 0, .int .u8 0, .int .u8 0, .int .u8 0, .int .u8 0, .int .u8 0, .int .u8 0, .int .u8 0, .int .u8 0, .int .u8 0] 28)).setRow y4.heap.size XB)) := below_row ((Below.refl _ _).alloc (Nat.le_refl _) _) (Nat.le_refl _) _
  have KB6 : Hid (Below w.heap.size w ((y4.alloc (.cells #[.int .i64 0, .string ⟨#[]⟩, .int .u8 0, .int .u8 0, .int .u8 0, .int .u8 0, .int .u8 0, .int .u8 0, .int .u8 0, .int .u8 0, .int .u8 0, .int .u8 0, .int .u8 0, .int .u8 0, .int .u8 0, .int .u8 0, .int .u8 0, .int .u8 0] 28)).setRow y4.heap.size XB)) := KB5.out.trans ((BB.out).mono KB5.out.size)
  have L1n : Hid (Lies ((y4.alloc (.cells #[.int .i64 0, .string ⟨#[]⟩, .int .u8 0, .int .u8 0, .int .u8 0, .int .u8 0, .int .u8 0, .int .u8 0, .int .u8 0, .int .u8 0, .int .u8 0, .int .u8 0, .int .u8 0, .int .u8 0, .int .u8 0, .int .u8 0, .int .u8 0, .int .u8 0] 28)).setRow y4.heap.size XB) (w.heap.size) VA 28) := L1.out.below (BB.out) L1.out.lt
  clear L1
  have L1 := L1n
  clear L1n
  have L2n : Hid (Lies ((y4.alloc (.cells #[.int .i64 0, .string ⟨#[]⟩, .int .u8 0, .int .u8 0, .int .u8 0, .int .u8 0, .int .u8 0, .int .u8 0, .int .u8 0, .int .u8 0, .int .u8 0, .int .u8 0, .int .u8 0, .int .u8 0, .int .u8 0, .int .u8 0, .int .u8 0, .int .u8 0] 28)).setRow y4.heap.size XB) (w.heap.size + 1) VB 28) := L2.out.below (BB.out) L2.out.lt
  clear L2
  have L2 := L2n
  clear L2n
  have M1n : Hid (Lies ((y4.alloc (.cells #[.int .i64 0, .string ⟨#[]⟩, .int .u8 0, .int .u8 0, .int .u8 0, .int .u8 0, .int .u8 0, .int .u8 0, .int .u8 0, .int .u8 0, .int .u8 0, .int .u8 0, .int .u8 0, .int .u8 0, .int .u8 0, .int .u8 0, .int .u8 0, .int .u8 0] 28)).setRow y4.heap.size XB) (y3.heap.size) XA 28) := M1.out.below (BB.out) M1.out.lt
  clear M1
  have M1 := M1n
  clear M1n
  clear KB5
  go_upto_region 5 with (refine wpList_store_row rfl 28 _ _ rfl y4.heap.size rfl _ XB rfl 28 A.out (by rw [zy]; exact infoHo) oy.out.2 oy.out.1 rfl ?_)
  generalize hv2 : (y4.alloc (.cells #[.int .i64 0, .string ⟨#[]⟩, .int .u8 0, .int .u8 0, .int .u8 0, .int .u8 0, .int .u8 0, .int .u8 0, .int .u8 0, .int .u8 0, .int .u8 0, .int .u8 0, .int .u8 0, .int .u8 0, .int .u8 0, .int .u8 0, .int .u8 0, .int .u8 0] 28)).setRow y4.heap.size XB = v2 at M2 KB6 L1 L2 M1 ⊢
  clear hv2 A BB
  go_upto_region 5 with fail
  by_cases hee : ea = 0 ∧ eb = 0
  case pos =>
    have e1 : ((ea : Int) != 0) = false := by rw [hee.1]; rfl
    have e2 : ((eb : Int) != 0) = false := by rw [hee.2]; rfl
    have HR2 : Hid (r = decide (x = y)) := by show _ = _; rw [HR.out, if_pos hee]
    clear hee HR
    go_upto_region 7 with fail
    refine wp_region_lit ?_
    refine wpList_load_rowG (by rfl) 28 _ rfl (y3.heap.size) rfl XA 28 _ M1.out Tryz.underlying28 rfl (by rw [zx]; exact infoHo) ?_
    simp only [Act.put, List.setIfInBounds_toArray, List.set_cons_zero, List.set_cons_succ]
    refine wpList_load_rowG (by rfl) 28 _ rfl (y4.heap.size) rfl XB 28 _ M2.out Tryz.underlying28 rfl (by rw [zy]; exact infoHo) ?_
    simp only [Act.put, List.setIfInBounds_toArray, List.set_cons_zero, List.set_cons_succ]
    refine wpList_yieldG (.bool r) (by rfl) ?hy ?_
    case hy => 
      refine Eq.trans (exec_eql_host _ _ _ rfl x y ?_ ?_ hlx hly) (by rw [HR2.out])
      · (show Value.agg XA = _; rw [EX.out]; rfl)
      · (show Value.agg XB = _; rw [EY.out]; rfl)
    simp only [Act.put, List.setIfInBounds_toArray, List.set_cons_zero, List.set_cons_succ]
    refine wpList_yieldG ?_ (by rfl) ?hy ?_
    case hy => (go_simp <;> (first | with_reducible rfl | omega | skip))
    simp only [Act.put, List.setIfInBounds_toArray, List.set_cons_zero, List.set_cons_succ]
    refine wpList_nil ?_
    go_wp2
    go_ret
    exact ⟨rfl, KB6.out⟩
  have HR2 : Hid (r = q) := by show _ = _; rw [HR.out, if_neg hee]
  by_cases h1 : ea = 0
  case neg =>
    have e1 : ((ea : Int) != 0) = true := by rw [bne_iff_ne]; omega
    clear h1 hee HR
    go_upto_region 6 with fail
    refine wp_region_late (fun wx => Below v2.heap.size v2 wx) 8 (by kernel_rfl) (Below.refl _ v2).drew (fun hHeld => ?_)
    refine wpAnyE_tk (i := 0) (d := some 40) (v := ?_) rfl (by kernel_rfl) (by kernel_rfl) (by kernel_rfl) rfl (fun _ _ _ h => h) rfl rfl ?hy (by assumption) ?_
    case hy => (intro w' hSw; (try dsimp only at hSw); go_simp <;> (first | with_reducible rfl | omega | skip))
    simp only [Act.put, List.setIfInBounds_toArray, List.set_cons_zero, List.set_cons_succ]
    refine wpAnyE_tk (i := 1) (d := some 41) (v := .string SA) rfl (by kernel_rfl) (by kernel_rfl) (by kernel_rfl) rfl (fun _ _ _ h => h) rfl rfl ?hy (by assumption) ?_
    case hy => 
      intro w' hSw
      (try dsimp only at hSw)
      have cc : w'.cell? ⟨w.heap.size, 1, none⟩ = some (.string SA) := by rw [(L1.out.below hSw L1.out.lt).cell 1, HA1.out]
      go_simp <;> (first | with_reducible rfl | omega | skip)
    simp only [Act.put, List.setIfInBounds_toArray, List.set_cons_zero, List.set_cons_succ]
    refine wpAnyE_tk (i := 3) (d := some 43) (v := ?_) rfl (by kernel_rfl) (by kernel_rfl) (by kernel_rfl) rfl (fun _ _ _ h => h) rfl rfl ?hy (by assumption) ?_
    case hy => (intro w' hSw; (try dsimp only at hSw); go_simp <;> (first | with_reducible rfl | omega | skip))
    simp only [Act.put, List.setIfInBounds_toArray, List.set_cons_zero, List.set_cons_succ]
    refine wpAnyE_tk (i := 4) (d := some 44) (v := .string SB) rfl (by kernel_rfl) (by kernel_rfl) (by kernel_rfl) rfl (fun _ _ _ h => h) rfl rfl ?hy (by assumption) ?_
    case hy => 
      intro w' hSw
      (try dsimp only at hSw)
      have cc : w'.cell? ⟨w.heap.size + 1, 1, none⟩ = some (.string SB) := by rw [(L2.out.below hSw L2.out.lt).cell 1, HB1.out]
      go_simp <;> (first | with_reducible rfl | omega | skip)
    simp only [Act.put, List.setIfInBounds_toArray, List.set_cons_zero, List.set_cons_succ]
    refine wpAnyE_on (i := 2) (by kernel_rfl) rfl rfl ?_
    go_simp
    refine Calls.mono (HSA.out _ (KB6.out.trans (((Below.refl _ v2).drew).mono KB6.out.size))) ?_
    rintro e y1 ⟨rfl, hc1⟩
    have hx1 : Below v2.heap.size v2 y1 := ((Below.refl _ v2).drew).trans hc1
    refine ⟨hx1, ?_⟩
    clear hc1
    refine wpAnyE_on (i := 5) (by kernel_rfl) rfl rfl ?_
    go_simp
    refine Calls.mono (HSB.out _ (KB6.out.trans ((hx1).mono KB6.out.size))) ?_
    rintro e y2 ⟨rfl, hc2⟩
    have hx2 : Below v2.heap.size v2 y2 := hx1.trans (hc2.mono hx1.size)
    refine ⟨hx2, ?_⟩
    clear hc2
    refine wpAnyE_tk (i := 6) (d := some 46) (v := .bool q) rfl (by kernel_rfl) (by kernel_rfl) (by kernel_rfl) rfl (fun _ _ _ h => h) rfl rfl ?hy (by assumption) ?_
    case hy => (intro w' hSw; (try dsimp only at hSw); go_simp; rw [HSE.out])
    simp only [Act.put, List.setIfInBounds_toArray, List.set_cons_zero, List.set_cons_succ]
    refine wpAnyE_tk (i := 7) (d := some 4) (v := ?_) rfl (by kernel_rfl) (by kernel_rfl) (by kernel_rfl) rfl (fun _ _ _ h => h) rfl rfl ?hy (by assumption) ?_
    case hy => (intro w' hSw; (try dsimp only at hSw); go_simp <;> (first | with_reducible rfl | omega | skip))
    simp only [Act.put, List.setIfInBounds_toArray, List.set_cons_zero, List.set_cons_succ]
    refine wpAnyE_done (by kernel_rfl) ?_ _
    have KB3 : Hid (Below w.heap.size w y2) := KB6.out.trans ((hx2).mono KB6.out.size)
    have L1n : Hid (Lies y2 (w.heap.size) VA 28) := L1.out.below (hx2) L1.out.lt
    clear L1
    have L1 := L1n
    clear L1n
    have L2n : Hid (Lies y2 (w.heap.size + 1) VB 28) := L2.out.below (hx2) L2.out.lt
    clear L2
    have L2 := L2n
    clear L2n
    have hb3 : Hid (Below v2.heap.size v2 y2) := hx2
    clear hHeld hx1 hx2 KB6
    go_wp2
    go_ret
    exact ⟨by rw [HR2.out]; rfl, KB3.out⟩
  case pos =>
    have e1 : ((ea : Int) != 0) = false := by rw [h1]; rfl
    have e2 : ((eb : Int) != 0) = true := by rw [bne_iff_ne]; omega
    clear h1 hee HR
    go_upto_region 6 with fail
    refine wp_region_late (fun wx => Below v2.heap.size v2 wx) 8 (by kernel_rfl) (Below.refl _ v2).drew (fun hHeld => ?_)
    refine wpAnyE_tk (i := 0) (d := some 40) (v := ?_) rfl (by kernel_rfl) (by kernel_rfl) (by kernel_rfl) rfl (fun _ _ _ h => h) rfl rfl ?hy (by assumption) ?_
    case hy => (intro w' hSw; (try dsimp only at hSw); go_simp <;> (first | with_reducible rfl | omega | skip))
    simp only [Act.put, List.setIfInBounds_toArray, List.set_cons_zero, List.set_cons_succ]
    refine wpAnyE_tk (i := 1) (d := some 41) (v := .string SA) rfl (by kernel_rfl) (by kernel_rfl) (by kernel_rfl) rfl (fun _ _ _ h => h) rfl rfl ?hy (by assumption) ?_
    case hy => 
      intro w' hSw
      (try dsimp only at hSw)
      have cc : w'.cell? ⟨w.heap.size, 1, none⟩ = some (.string SA) := by rw [(L1.out.below hSw L1.out.lt).cell 1, HA1.out]
      go_simp <;> (first | with_reducible rfl | omega | skip)
    simp only [Act.put, List.setIfInBounds_toArray, List.set_cons_zero, List.set_cons_succ]
    refine wpAnyE_tk (i := 3) (d := some 43) (v := ?_) rfl (by kernel_rfl) (by kernel_rfl) (by kernel_rfl) rfl (fun _ _ _ h => h) rfl rfl ?hy (by assumption) ?_
    case hy => (intro w' hSw; (try dsimp only at hSw); go_simp <;> (first | with_reducible rfl | omega | skip))
    simp only [Act.put, List.setIfInBounds_toArray, List.set_cons_zero, List.set_cons_succ]
    refine wpAnyE_tk (i := 4) (d := some 44) (v := .string SB) rfl (by kernel_rfl) (by kernel_rfl) (by kernel_rfl) rfl (fun _ _ _ h => h) rfl rfl ?hy (by assumption) ?_
    case hy => 
      intro w' hSw
      (try dsimp only at hSw)
      have cc : w'.cell? ⟨w.heap.size + 1, 1, none⟩ = some (.string SB) := by rw [(L2.out.below hSw L2.out.lt).cell 1, HB1.out]
      go_simp <;> (first | with_reducible rfl | omega | skip)
    simp only [Act.put, List.setIfInBounds_toArray, List.set_cons_zero, List.set_cons_succ]
    refine wpAnyE_on (i := 2) (by kernel_rfl) rfl rfl ?_
    go_simp
    refine Calls.mono (HSA.out _ (KB6.out.trans (((Below.refl _ v2).drew).mono KB6.out.size))) ?_
    rintro e y1 ⟨rfl, hc1⟩
    have hx1 : Below v2.heap.size v2 y1 := ((Below.refl _ v2).drew).trans hc1
    refine ⟨hx1, ?_⟩
    clear hc1
    refine wpAnyE_on (i := 5) (by kernel_rfl) rfl rfl ?_
    go_simp
    refine Calls.mono (HSB.out _ (KB6.out.trans ((hx1).mono KB6.out.size))) ?_
    rintro e y2 ⟨rfl, hc2⟩
    have hx2 : Below v2.heap.size v2 y2 := hx1.trans (hc2.mono hx1.size)
    refine ⟨hx2, ?_⟩
    clear hc2
    refine wpAnyE_tk (i := 6) (d := some 46) (v := .bool q) rfl (by kernel_rfl) (by kernel_rfl) (by kernel_rfl) rfl (fun _ _ _ h => h) rfl rfl ?hy (by assumption) ?_
    case hy => (intro w' hSw; (try dsimp only at hSw); go_simp; rw [HSE.out])
    simp only [Act.put, List.setIfInBounds_toArray, List.set_cons_zero, List.set_cons_succ]
    refine wpAnyE_tk (i := 7) (d := some 4) (v := ?_) rfl (by kernel_rfl) (by kernel_rfl) (by kernel_rfl) rfl (fun _ _ _ h => h) rfl rfl ?hy (by assumption) ?_
    case hy => (intro w' hSw; (try dsimp only at hSw); go_simp <;> (first | with_reducible rfl | omega | skip))
    simp only [Act.put, List.setIfInBounds_toArray, List.set_cons_zero, List.set_cons_succ]
    refine wpAnyE_done (by kernel_rfl) ?_ _
    have KB3 : Hid (Below w.heap.size w y2) := KB6.out.trans ((hx2).mono KB6.out.size)
    have L1n : Hid (Lies y2 (w.heap.size) VA 28) := L1.out.below (hx2) L1.out.lt
    clear L1
    have L1 := L1n
    clear L1n
    have L2n : Hid (Lies y2 (w.heap.size + 1) VB 28) := L2.out.below (hx2) L2.out.lt
    clear L2
    have L2 := L2n
    clear L2n
    have hb3 : Hid (Below v2.heap.size v2 y2) := hx2
    clear hHeld hx1 hx2 KB6
    go_wp2
    go_ret
    exact ⟨by rw [HR2.out]; rfl, KB3.out⟩

theorem rsame_any (a b : Ho) (oka : a.Ok) (okb : b.Ok) (w : World) (hT : Tc w) (sa : a.n.length ≤ 140737488351232) (sb : b.n.length ≤ 140737488351232) :
    Calls Tryz.prog 29 #[hostV a, hostV b] w fun e w' => e = .returned (.bool (same asciiL a b)) ∧ Below w.heap.size w w' := by
  have hl : ∀ x : Ho, x.Ok → (ascii asciiL x).1.a.length = 16 := fun x okx => by
    unfold ascii
    have := okx.len
    split
    · split
      · split
        · exact this
        · rfl
      · split
        · exact this
        · exact this
    · rfl
  refine rsm_any _ _ _ _ a b (ascii asciiL a).1 (ascii asciiL b).1 rfl rfl rfl rfl oka.len okb.len (hl a oka) (hl b okb) sa sb (check a true) (check b true) (ascii asciiL a).2 (ascii asciiL b).2 (same asciiL a b) w (fun wx _ => rcheck_any a oka.len true wx sa) (fun wx _ => rcheck_any b okb.len true wx sb) (fun wx hx => rascii_any a oka wx (hT.below hx) sa) (fun wx hx => rascii_any b okb wx (hT.below hx) sb) (fun h => ?_) (fun h => ?_)
  · cases hr : same asciiL a b
    · rfl
    · obtain ⟨h1, h2, h3, _⟩ := (same_iff asciiL a b).1 hr
      exact absurd ⟨h2, h3, h1⟩ h
  · unfold same
    rw [decide_eq_true h.1, decide_eq_true h.2.1, decide_eq_true h.2.2]
    rfl
end Go.Proofs.YtnlgbopdbihnjaaGreatDoor
