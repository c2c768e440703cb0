/-
  The program's Base64.
-/
import Derived.Test.YtdgepnfgjgbkoaaDoorGrp
import Derived.Deep.DeepAppendRoom
namespace Go.Proofs.YtdgepnfgjgbkoaaDoor
open Go.RowKit

theorem lies_bts {w : World} {g : Nat} {l : List UInt8} {t : TypeId} (h : Lies w g (rowV l) t) : Bts (some ⟨g, 0, none⟩) l w :=
  .inr ⟨g, 0, rfl, h.lt, fun j hj => by rw [Nat.zero_add, h.cell j]; exact rowV_at l j hj⟩
theorem enc_step (l : List UInt8) (k t : Nat) (hk : k % 3 = 0) (ht : k + t ≤ l.length) : e64L (l.take (k + t)) = e64L (l.take k) ++ e64L ((l.drop k).take t) := by
  have e : l.take (k + t) = l.take k ++ (l.drop k).take t := by rw [List.take_add]
  rw [e, e64L_append (k / 3) _ _ (by rw [List.length_take]; omega)]
theorem Bts.drop {g o : Nat} {l : List UInt8} {w : World} (h : Bts (some ⟨g, o, none⟩) l w) (k : Nat) : Bts (some ⟨g, o + k, none⟩) (l.drop k) w := by
  rcases h with rfl | ⟨g', o', e, hg, hr⟩
  · exact .inl (by simp)
  · injection e with e
    injection e with e1 e2
    subst e1 e2
    exact .inr ⟨g, o + k, rfl, hg, fun j hj => by
      rw [List.length_drop] at hj
      rw [Nat.add_assoc, hr (k + j) (by omega), List.getElem_drop]⟩

set_option maxHeartbeats 4000000 in
set_option maxRecDepth 100000 in
theorem b64_any (a : Option Addr) (l : List UInt8) (cap n : Nat) (w : World) (hn : n = l.length) (hb : Bts a l w) (hl : l.length ≤ 140737488355320) (hcap : l.length ≤ cap) (hcap2 : cap ≤ 9223372036854775807) :
    Calls Tryd.prog 88 #[.slice a n cap] w fun e w' => e = .returned (.string ⟨(e64L l).toArray⟩) ∧ Below w.heap.size w w' := by
  obtain ⟨i0, hi, hz0, hz1, hz2⟩ := info_parts info5
  have HB : Hid (Bts a l w) := hb
  have HN : Hid (n = l.length) := hn
  rw [← hn] at hl hcap
  clear hb hn
  go_enter Tryd.func88, Tryd.ntmps88
  go_wp2_with (at_make; refine wpList_make_own _ rfl _ _ 38 rfl w.heap.size 5 i0 (.int .u8 0) 1 Tryd.underlying38 hi hz0 hz1 .i64 .i64 _ ((n + 2) / 3 * 4) rfl (by first | rfl | (push_cast; rfl)) (by omega) (by rw [hz2]; omega) (by unfold maxLen; omega) (Nat.le_refl _) ?_)
  intro w1 hown hgrow
  generalize hC : (n + 2) / 3 * 4 = C at hown ⊢
  have HB1 : Hid (Below w.heap.size w w1) := (Below.refl _ _).grown hgrow (Nat.le_refl _) (fun k h => by cases h)
  have HO1 : Hid (w1.ownsRow w.heap.size 5 1 (.slice (some ⟨w.heap.size, 0, none⟩) 0 C) 0 (cellsB (e64L (l.take 0)))) := hown
  clear hgrow hown
  go_wp2_with fail
  go_loopw [0, 3] (fun x v wr => ∃ (k m : Nat) (y : Option Addr) (c d : Nat), n = k + m ∧ (k % 3 = 0 ∨ m = 0) ∧ x = .slice y m c ∧ (0 < m → m ≤ c ∧ c ≤ 9223372036854775807 ∧ Hid (Bts y (l.drop k) w)) ∧ d = (k + 2) / 3 * 4 ∧ v = .slice (some ⟨w.heap.size, 0, none⟩) d C ∧ Hid (wr.ownsRow w.heap.size 5 1 (.slice (some ⟨w.heap.size, 0, none⟩) d C) d (cellsB (e64L (l.take k)))) ∧ Hid (Below w.heap.size w wr)) (fun x _ _ => sLen x)
  case atStart => exact ⟨0, n, _, _, 0, by omega, .inl rfl, rfl, fun _ => ⟨hcap, hcap2, HB.out⟩, rfl, rfl, HO1, HB1⟩
  case round =>
    clear HO1 HB1
    obtain ⟨k, m, y, c, d, hk, hk3, rfl, hyc, hd, rfl, HO, HBe⟩ := hrel
    by_cases hlt : 0 < m
    · obtain ⟨hmc, hc2, HY⟩ := hyc hlt
      have hk0 : k % 3 = 0 := by omega
      have hml : (l.drop k).length = m := by rw [List.length_drop, ← HN.out]; omega
      obtain ⟨t, ht⟩ : ∃ t, t = min m 3 := ⟨_, rfl⟩
      have ht0 : 0 < t := by omega
      have htm : t ≤ m := by omega
      have ht3 : t ≤ 3 := by omega
      have hmin : min (m : Int) 3 = (t : Int) := by omega
      have HT : Hid (t = 3 ∨ t = m) := by show _ ∨ _; omega
      have HML : Hid ((l.drop k).length = m) := hml
      have HG : Hid (∀ wx : World, Below w.heap.size w wx → Calls Tryd.prog 104 #[.slice y t c] wx fun e w' => e = .returned (.agg (rowV (e64L ((l.drop k).take t)))) ∧ Below wx.heap.size wx w') := fun wx hbx =>
        groupof_any y ((l.drop k).take t) c t wx (by rw [List.length_take, HML.out]; omega) (by rw [List.length_take, HML.out]; omega) (by rw [List.length_take, HML.out]; omega) ((HY.out.below hbx).take t)
      have HE : Hid (e64L (l.take (k + t)) = e64L (l.take k) ++ e64L ((l.drop k).take t)) := enc_step l k t hk0 (by rw [← HN.out]; omega)
      have HEL : Hid ((e64L ((l.drop k).take t)).length = 4) := by show _ = _; rw [e64L_len, List.length_take, HML.out]; omega
      generalize e64L ((l.drop k).take t) = G at HG HE HEL
      obtain ⟨g, o, rfl⟩ : ∃ g o, y = some ⟨g, o, none⟩ := by
        rcases HY.out with h | ⟨g, o, e, _⟩
        · rw [h] at hml
          simp at hml
          omega
        · exact ⟨g, o, e⟩
      have HK : Hid (n = k + m) := hk
      have HD : Hid (d = (k + 2) / 3 * 4) := hd
      have HCC : Hid ((n + 2) / 3 * 4 = C) := hC
      have hroom : d + 4 ≤ C := by omega
      clear hyc hml ht hk hd hC
      go_wp2_with fail
      refine Calls.mono (HG.out _ HBe.out) ?_
      rintro e w2 ⟨rfl, hb2⟩
      have HB2 : Hid (Below w.heap.size w w2) := HBe.out.trans (hb2.mono HBe.out.size)
      have HO2 : Hid (w2.ownsRow w.heap.size 5 1 (.slice (some ⟨w.heap.size, 0, none⟩) d C) d (cellsB (e64L (l.take k)))) := own_below HO.out hb2
      clear hb2 HO HBe HG
      have HLN : Hid (Lies ((w2.alloc (.cells #[.int .u8 0, .int .u8 0, .int .u8 0, .int .u8 0] 128)).setRow w2.heap.size (rowV G)) w2.heap.size (rowV G) 128) := (Lies.new w2 _ _).row _
      have HB3 : Hid (Below w.heap.size w ((w2.alloc (.cells #[.int .u8 0, .int .u8 0, .int .u8 0, .int .u8 0] 128)).setRow w2.heap.size (rowV G))) := below_row (HB2.out.alloc HB2.out.size _) HB2.out.size _
      have HO3 : Hid (((w2.alloc (.cells #[.int .u8 0, .int .u8 0, .int .u8 0, .int .u8 0] 128)).setRow w2.heap.size (rowV G)).ownsRow w.heap.size 5 1 (.slice (some ⟨w.heap.size, 0, none⟩) d C) d (cellsB (e64L (l.take k)))) := by
        refine own_keep (HO2.out.alloc _) (fun q hq => setRow_other _ _ _ _ ?_)
        have := (HO2.out.lt q hq).2
        omega
      go_wp2_with (first
        | refine wpList_store_row rfl 128 _ _ rfl w2.heap.size rfl #[.int .u8 0, .int .u8 0, .int .u8 0, .int .u8 0] (rowV G) rfl 128 (Lies.new w2 _ _) (by rw [rowV_size, HEL.out]; kernel_rfl) (by rw [rowV_size, HEL.out]; rfl) (rowV_one _) rfl ?_
        | (at_builtin; refine wpList_append_own_spare _ rfl _ _ 38 rfl w.heap.size 5 i0 1 Tryd.underlying38 hi hz1 w.heap.size d C _ rfl HO3.out ⟨w2.heap.size, 0, none⟩ 4 4 (cellsB G) rfl (by rw [cellsB_length, HEL.out]) (bts_news (lies_bts HLN.out)) (cellsB_one G) hroom ?_))
      intro w4 hown4 hgrow4
      have HO4 : Hid (w4.ownsRow w.heap.size 5 1 (.slice (some ⟨w.heap.size, 0, none⟩) (d + 4) C) (d + 4) (cellsB (e64L (l.take (k + t))))) := by
        show World.ownsRow _ _ _ _ _ _ _
        rw [HE.out, cellsB_append]
        exact hown4
      have HB4 : Hid (Below w.heap.size w w4) := HB3.out.grown hgrow4 HB3.out.size (fun q hq => by injection hq with hq; omega)
      clear hown4 hgrow4 HO3 HB3 HLN HO2 HB2
      go_wp2
      have hk2 := HK.out
      have hd2 := HD.out
      have ht2 := HT.out
      refine ⟨⟨k + t, m - t, _, c - t, d + 4, by omega, by omega, rfl, fun h => ⟨by omega, by omega, ?_⟩, by omega, rfl, HO4, HB4⟩, ?_⟩
      · rw [if_neg (by omega)]
        have := HY.out.drop t
        rw [List.drop_drop] at this
        exact this
      · rw [sLen_slice, sLen_slice]
        omega
    · have hm0 : m = 0 := by omega
      have HE : Hid (e64L l = e64L (l.take k)) := by
        show _ = _
        rw [List.take_of_length_le (by rw [← HN.out]; omega)]
      have hbk := own_conv HO.out
      clear hyc hd hk hC hm0
      go_wp2
      go_ret
      exact ⟨by rw [HE.out]; rfl, HBe.out⟩
end Go.Proofs.YtdgepnfgjgbkoaaDoor
