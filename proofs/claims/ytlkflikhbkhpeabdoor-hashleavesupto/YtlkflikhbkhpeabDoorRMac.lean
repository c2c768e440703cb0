/-
  The keyed digest, the document's.
-/
import Derived.Test.YtlkflikhbkhpeabDoorRMd5
import Derived.Test.YtlkflikhbkhpeabDoorMacReg
import Derived.Test.YtlkflikhbkhpeabDoorTell
namespace Go.Proofs.YtlkflikhbkhpeabDoor
open Go.RowKit

theorem own_mono {w : World} {B C n : Nat} {v : Value} {xs : List Value} (h : w.ownsRow C 5 1 v n xs) (hB : B ≤ C) : w.ownsRow B 5 1 v n xs := by
  obtain ⟨h1, h2⟩ := h
  refine ⟨h1, ?_⟩
  rcases h2 with h2 | ⟨g, cap, cur, e, hb, hr⟩
  · exact .inl h2
  · exact .inr ⟨g, cap, cur, e, Nat.le_trans hB hb, hr⟩
theorem lies_list {w : World} {g : Nat} {l : List UInt8} {t : TypeId} (h : Lies w g (rowV l) t) : Bts (some ⟨g, 0, none⟩) l w :=
  .inr ⟨g, 0, rfl, h.lt, fun j hj => by rw [Nat.zero_add, h.cell j, rowV_at l j hj]⟩

set_option maxHeartbeats 1000000 in
set_option maxRecDepth 100000 in
theorem rrow_any (a : Option Addr) (l : List UInt8) (cap : Nat) (x : UInt8) (w : World) (h : Bts a l w) (hnc : a = none → cap = 0) (hl : l.length ≤ 140737488355000) :
    Calls Tryd.prog 31 #[.slice a l.length cap, .int .u8 x.toNat] w fun e w' => ∃ v, e = .returned v ∧ w'.ownsRow w.heap.size 5 1 v 64 (cellsB (laid x (keyRow l))) ∧ Below w.heap.size w w' := by
  have HH : Hid (Bts a l w) := h
  have HNC : Hid (a = none → cap = 0) := hnc
  have HLL : Hid (l.length ≤ 140737488355000) := hl
  clear h hnc
  obtain ⟨n, hn⟩ : ∃ n, n = l.length := ⟨_, rfl⟩
  have HN : Hid (n = l.length) := hn
  rw [← hn] at hl
  rw [← hn]
  clear hn
  go_enter Tryd.func31, Tryd.ntmps31
  by_cases h64 : 64 < n
  · have HKB : Hid (md5 l = keyB l) := by
      show _ = _
      unfold keyB
      rw [if_neg (by rw [← HN.out]; omega)]
    go_wp2_with fail
    have hmd := rmd5_any a l cap w HH.out HNC.out HLL.out
    rw [← HN.out] at hmd
    refine hmd.mono ?_
    clear hmd
    rintro e w1 ⟨rfl, hb1⟩
    have HB1 : Hid (Below w.heap.size w w1) := hb1
    clear hb1
    obtain ⟨kb, hkb⟩ : ∃ kb, kb = md5 l := ⟨_, rfl⟩
    have HK16 : Hid (kb.length = 16) := by rw [hkb]; exact md5_length l
    rw [← hkb] at HKB
    rw [← hkb]
    clear hkb
    go_wp2_with (refine wpList_store_row rfl 24 _ _ rfl w1.heap.size rfl _ (rowV kb) rfl 24 (Lies.new w1 _ _) (infoDl _ HK16.out) (by rw [rowV_size, HK16.out]; rfl) (rowV_one _) rfl ?_; refine wpList_gen (fun w2 => Hid (Bts (some ⟨w1.heap.size, 0, none⟩) kb w2) ∧ Hid (Below w.heap.size w w2)) ⟨lies_list ((Lies.new w1 _ _).row _), below_row (HB1.out.alloc HB1.out.size _) HB1.out.size _⟩ ?_; rintro w2 ⟨HK2, HB2⟩)
    have HKL : Hid (16 = kb.length) := HK16.out.symm
    go_loopw [6, 7] (fun u i wr => ∃ k : Nat, k ≤ 64 ∧ i = .int .i64 k ∧ Hid (wr.ownsRow w2.heap.size 5 1 u k (cellsB ((laid x (keyRow l)).take k))) ∧ Hid (Below w2.heap.size w2 wr)) (fun _ i _ => 64 - (intOf i).toNat)
    case atStart => exact ⟨0, by omega, rfl, World.ownsRow_nil _ _ _ _, Below.refl _ _⟩
    case round =>
      obtain ⟨k, hk, rfl, HO, HB⟩ := hrel
      by_cases hlt : k < 64
      · obtain ⟨b, hb⟩ : ∃ b, b = (keyRow l)[k]'(by rw [keyRow_length]; exact hlt) := ⟨_, rfl⟩
        have HST : Hid ((laid x (keyRow l)).take (k + 1) = (laid x (keyRow l)).take k ++ [b ^^^ x]) := by
          show _ = _
          have h' : k < (laid x (keyRow l)).length := by rw [laid_length, keyRow_length]; exact hlt
          rw [List.take_succ_eq_append_getElem h', laid_at x (keyRow l) k (by rw [keyRow_length]; exact hlt), hb]
        have hkr : keyRow l = kb ++ List.replicate (64 - kb.length) 0 := by rw [HKB.out]; rfl
        by_cases hin : k < 16
        · have hin' : k < kb.length := by rw [← HKL.out]; exact hin
          have hbk : b = kb[k] := by rw [hb, List.getElem_of_eq hkr, List.getElem_append_left hin']
          obtain ⟨gk, ok, hA, hgk, hck⟩ := (HK2.out.below HB.out).cell k hin'
          injection hA with hA
          injection hA with hA1 hA2
          subst hA1 hA2
          rw [Nat.zero_add] at hck
          rw [← hbk] at hck
          have e1 := xor8 b x
          obtain ⟨y, hy⟩ : ∃ y, y = b ^^^ x := ⟨_, rfl⟩
          rw [← hy] at e1 HST
          clear hy hb hbk hkr
          go_wp2_with (at_builtin; refine wpList_append_byte rfl _ _ rfl w2.heap.size _ k ((laid x (keyRow l)).take k) rfl (HO.out.alloc _) wr y _ rfl rfl 1 rfl (by omega) HB.out.size ?_; intro v4 w4 hown4 hbel4; have HO4 : Hid (w4.ownsRow w2.heap.size 5 1 v4 (k + 1) (cellsB ((laid x (keyRow l)).take (k + 1)))) := by { rw [HST.out]; exact hown4 }; have HB4 : Hid (Below w2.heap.size w2 w4) := hbel4 _ _ HB.out (Nat.le_refl _); clear hown4 hbel4)
          clear hck e1
          go_roundw
          case rel => exact ⟨k + 1, by omega, by go_num, HO4, HB4⟩
          case measure => simp [intOf]; omega
        · have hin' : kb.length ≤ k := by rw [← HKL.out]; omega
          have hbk : b = 0 := by rw [hb, List.getElem_of_eq hkr, List.getElem_append_right hin', List.getElem_replicate]
          have e1 : bits .xor .u8 0 (x.toNat : Int) = (x.toNat : Int) := by
            have := xor8 0 x
            rw [UInt8.zero_xor] at this
            exact this
          rw [hbk, UInt8.zero_xor] at HST
          clear hb hbk hkr
          go_wp2_with (at_builtin; refine wpList_append_byte rfl _ _ rfl w2.heap.size _ k ((laid x (keyRow l)).take k) rfl (HO.out.alloc _) wr x _ rfl rfl 1 rfl (by omega) HB.out.size ?_; intro v4 w4 hown4 hbel4; have HO4 : Hid (w4.ownsRow w2.heap.size 5 1 v4 (k + 1) (cellsB ((laid x (keyRow l)).take (k + 1)))) := by { rw [HST.out]; exact hown4 }; have HB4 : Hid (Below w2.heap.size w2 w4) := hbel4 _ _ HB.out (Nat.le_refl _); clear hown4 hbel4)
          clear e1
          go_roundw
          case rel => exact ⟨k + 1, by omega, by go_num, HO4, HB4⟩
          case measure => simp [intOf]; omega
      · obtain rfl : k = 64 := by omega
        have hO := HO.out
        rw [List.take_of_length_le (by rw [laid_length, keyRow_length]; omega)] at hO
        have hO2 := own_mono hO HB2.out.size
        have HO3 : Hid (wr.ownsRow w.heap.size 5 1 _ 64 (cellsB (laid x (keyRow l)))) := hO2
        clear hO hO2
        go_wp2
        go_ret
        exact ⟨_, rfl, HO3.out, HB2.out.trans (HB.out.mono HB2.out.size)⟩
  · obtain ⟨kb, hkb⟩ : ∃ kb, kb = l := ⟨_, rfl⟩
    have HKB : Hid (kb = keyB l) := by
      show _ = _
      unfold keyB
      rw [if_pos (by rw [← HN.out]; omega), hkb]
    obtain ⟨KB, hKB⟩ : ∃ KB, KB = n := ⟨_, rfl⟩
    have HKL : Hid (KB = kb.length) := by rw [hKB, hkb]; exact HN
    have hKBs : KB ≤ 64 := by omega
    obtain ⟨w2, hw2⟩ : ∃ w2, w2 = w := ⟨_, rfl⟩
    have HK2 : Hid (Bts a kb w2) := by rw [hw2, hkb]; exact HH
    have HB2 : Hid (Below w.heap.size w w2) := by rw [hw2]; exact Below.refl _ _
    go_wp2_with fail
    rw [← hKB, ← hw2]
    clear hKB hw2 hkb
    go_loopw [6, 7] (fun u i wr => ∃ k : Nat, k ≤ 64 ∧ i = .int .i64 k ∧ Hid (wr.ownsRow w2.heap.size 5 1 u k (cellsB ((laid x (keyRow l)).take k))) ∧ Hid (Below w2.heap.size w2 wr)) (fun _ i _ => 64 - (intOf i).toNat)
    case atStart => exact ⟨0, by omega, rfl, World.ownsRow_nil _ _ _ _, Below.refl _ _⟩
    case round =>
      obtain ⟨k, hk, rfl, HO, HB⟩ := hrel
      by_cases hlt : k < 64
      · obtain ⟨b, hb⟩ : ∃ b, b = (keyRow l)[k]'(by rw [keyRow_length]; exact hlt) := ⟨_, rfl⟩
        have HST : Hid ((laid x (keyRow l)).take (k + 1) = (laid x (keyRow l)).take k ++ [b ^^^ x]) := by
          show _ = _
          have h' : k < (laid x (keyRow l)).length := by rw [laid_length, keyRow_length]; exact hlt
          rw [List.take_succ_eq_append_getElem h', laid_at x (keyRow l) k (by rw [keyRow_length]; exact hlt), hb]
        have hkr : keyRow l = kb ++ List.replicate (64 - kb.length) 0 := by rw [HKB.out]; rfl
        by_cases hin : k < KB
        · have hin' : k < kb.length := by rw [← HKL.out]; exact hin
          have hbk : b = kb[k] := by rw [hb, List.getElem_of_eq hkr, List.getElem_append_left hin']
          obtain ⟨gk, ok, rfl, hgk, hck⟩ := (HK2.out.below HB.out).cell k hin'
          rw [← hbk] at hck
          have e1 := xor8 b x
          obtain ⟨y, hy⟩ : ∃ y, y = b ^^^ x := ⟨_, rfl⟩
          rw [← hy] at e1 HST
          clear hy hb hbk hkr
          go_wp2_with (at_builtin; refine wpList_append_byte rfl _ _ rfl w2.heap.size _ k ((laid x (keyRow l)).take k) rfl (HO.out.alloc _) wr y _ rfl rfl 1 rfl (by omega) HB.out.size ?_; intro v4 w4 hown4 hbel4; have HO4 : Hid (w4.ownsRow w2.heap.size 5 1 v4 (k + 1) (cellsB ((laid x (keyRow l)).take (k + 1)))) := by { rw [HST.out]; exact hown4 }; have HB4 : Hid (Below w2.heap.size w2 w4) := hbel4 _ _ HB.out (Nat.le_refl _); clear hown4 hbel4)
          clear hck e1
          go_roundw
          case rel => exact ⟨k + 1, by omega, by go_num, HO4, HB4⟩
          case measure => simp [intOf]; omega
        · have hin' : kb.length ≤ k := by rw [← HKL.out]; omega
          have hbk : b = 0 := by rw [hb, List.getElem_of_eq hkr, List.getElem_append_right hin', List.getElem_replicate]
          have e1 : bits .xor .u8 0 (x.toNat : Int) = (x.toNat : Int) := by
            have := xor8 0 x
            rw [UInt8.zero_xor] at this
            exact this
          rw [hbk, UInt8.zero_xor] at HST
          clear hb hbk hkr
          go_wp2_with (at_builtin; refine wpList_append_byte rfl _ _ rfl w2.heap.size _ k ((laid x (keyRow l)).take k) rfl (HO.out.alloc _) wr x _ rfl rfl 1 rfl (by omega) HB.out.size ?_; intro v4 w4 hown4 hbel4; have HO4 : Hid (w4.ownsRow w2.heap.size 5 1 v4 (k + 1) (cellsB ((laid x (keyRow l)).take (k + 1)))) := by { rw [HST.out]; exact hown4 }; have HB4 : Hid (Below w2.heap.size w2 w4) := hbel4 _ _ HB.out (Nat.le_refl _); clear hown4 hbel4)
          clear e1
          go_roundw
          case rel => exact ⟨k + 1, by omega, by go_num, HO4, HB4⟩
          case measure => simp [intOf]; omega
      · obtain rfl : k = 64 := by omega
        have hO := HO.out
        rw [List.take_of_length_le (by rw [laid_length, keyRow_length]; omega)] at hO
        have hO2 := own_mono hO HB2.out.size
        have HO3 : Hid (wr.ownsRow w.heap.size 5 1 _ 64 (cellsB (laid x (keyRow l)))) := hO2
        clear hO hO2
        go_wp2
        go_ret
        exact ⟨_, rfl, HO3.out, HB2.out.trans (HB.out.mono HB2.out.size)⟩

set_option maxHeartbeats 1000000 in
set_option maxRecDepth 100000 in
theorem rmac_any (a b : Option Addr) (l m : List UInt8) (ca cb : Nat) (w : World) (ha : Bts a l w) (hb : Bts b m w) (hna : a = none → ca = 0) (hnb : b = none → cb = 0) (hl : l.length ≤ 140737488352000) (hm : m.length ≤ 140737488352000) :
    Calls Tryd.prog 14 #[.slice a l.length ca, .slice b m.length cb] w fun e w' => e = .returned (.agg (rowV (mac l m))) ∧ Below w.heap.size w w' := by
  have HA : Hid (Bts a l w) := ha
  have HBb : Hid (Bts b m w) := hb
  have HNA : Hid (a = none → ca = 0) := hna
  have HNB : Hid (b = none → cb = 0) := hnb
  have HLL : Hid (l.length ≤ 140737488352000) := hl
  have HML : Hid (m.length ≤ 140737488352000) := hm
  clear ha hb hna hnb hl hm
  have HB0 : Hid (Below w.heap.size w (w.alloc (.cells zeroD 24))) := (Below.refl _ _).alloc (Nat.le_refl _) _
  have HL54 : Hid ((laid 54 (keyRow l)).length = 64) := by show _ = _; rw [laid_length, keyRow_length]
  have HL92 : Hid ((laid 92 (keyRow l)).length = 64) := by show _ = _; rw [laid_length, keyRow_length]
  obtain ⟨k1, hk1⟩ : ∃ k1, k1 = laid 54 (keyRow l) := ⟨_, rfl⟩
  obtain ⟨k2, hk2⟩ : ∃ k2, k2 = laid 92 (keyRow l) := ⟨_, rfl⟩
  have HK1 : Hid (k1 = laid 54 (keyRow l)) := hk1
  have HK2 : Hid (k2 = laid 92 (keyRow l)) := hk2
  rw [← hk1] at HL54
  rw [← hk2] at HL92
  clear hk1 hk2
  go_enter Tryd.func14, Tryd.ntmps14
  go_wp2_with fail
  rw [zeroD_spelt]
  refine (rrow_any a l ca 54 _ (HA.out.below HB0.out) HNA.out (by have := HLL.out; omega)).mono ?_
  rintro e w1 ⟨v, rfl, hown, hb1⟩
  rw [← HK1.out] at hown
  have HO1 : Hid (w1.ownsRow (w.alloc (.cells zeroD 24)).heap.size 5 1 v 64 (cellsB k1)) := hown
  have HZ1 : Hid (Lies w1 w.heap.size zeroD 24) := (Lies.new w zeroD 24).below hb1 (by simp)
  have HB1 : Hid (Below w.heap.size w w1) := HB0.out.trans (hb1.mono (by simp))
  have HS1 : Hid ((w.alloc (.cells zeroD 24)).heap.size ≤ w1.heap.size ∧ Below (w.alloc (.cells zeroD 24)).heap.size (w.alloc (.cells zeroD 24)) w1) := ⟨hb1.size, hb1⟩
  clear hown hb1
  go_wp2_with (at_builtin; refine wpList_append_bts rfl _ _ rfl (w.alloc (.cells zeroD 24)).heap.size v 64 k1 rfl HO1.out b m cb rfl (HBb.out.below HB1.out) HNB.out (by have := HML.out; omega) HS1.out.1 ?_; intro v2 w2 hown2 hbel2; have HO2 : Hid (w2.ownsRow (w.alloc (.cells zeroD 24)).heap.size 5 1 v2 (64 + m.length) (cellsB (k1 ++ m))) := hown2; have HS2 : Hid (Below (w.alloc (.cells zeroD 24)).heap.size (w.alloc (.cells zeroD 24)) w2) := hbel2 _ _ HS1.out.2 (Nat.le_refl _); clear hown2 hbel2)
  obtain ⟨a2, c2, rfl, hbt2, hlen2, hn2, hc2, hlt2⟩ := own_bts HO2.out
  have HZ2 : Hid (Lies w2 w.heap.size zeroD 24) := (Lies.new w zeroD 24).below HS2.out (by simp)
  have HB2 : Hid (Below w.heap.size w w2) := HB0.out.trans (HS2.out.mono (by simp))
  have hmd := rmd5_any a2 (k1 ++ m) c2 w2 hbt2 hn2 (by rw [hlen2]; have := HML.out; omega)
  rw [hlen2] at hmd
  refine hmd.mono ?_
  clear hmd hbt2 hlen2 hn2 hc2 hlt2
  rintro e w3 ⟨rfl, hb3⟩
  obtain ⟨inn, hinn⟩ : ∃ inn, inn = md5 (k1 ++ m) := ⟨_, rfl⟩
  have HINN : Hid (inn = md5 (k1 ++ m)) := hinn
  have HI16 : Hid (inn.length = 16) := by rw [hinn]; exact md5_length _
  rw [← hinn]
  clear hinn
  have HZ3 : Hid (Lies w3 w.heap.size zeroD 24) := HZ2.out.below hb3 HZ2.out.lt
  have HB3 : Hid (Below w.heap.size w w3) := HB2.out.trans (hb3.mono HB2.out.size)
  have hs3 : w.heap.size + 1 ≤ w3.heap.size := by have := HZ3.out.lt; omega
  clear hb3 HO1 HO2 HS1 HS2 HZ1 HZ2 HB1 HB2
  go_wp2_with (refine wpList_store_row rfl 24 _ _ rfl w3.heap.size rfl _ (rowV inn) rfl 24 (Lies.new w3 _ _) (infoDl _ HI16.out) (by rw [rowV_size, HI16.out]; rfl) (rowV_one _) rfl ?_; refine wpList_gen (fun w4 => Hid (Lies w4 w3.heap.size (rowV inn) 24) ∧ Hid (Lies w4 w.heap.size zeroD 24) ∧ Hid (Below w.heap.size w w4)) ⟨(Lies.new w3 _ _).row _, (HZ3.out.alloc _).row_other (by omega) _, below_row (HB3.out.alloc HB3.out.size _) HB3.out.size _⟩ ?_; rintro w4 ⟨HM4, HZ4, HB4⟩)
  refine wp_region_late (fun _ => True) 5 (by kernel_rfl) trivial (fun hHeld => ?_)
  refine wpAnyE_take (i := 0) (d := some 11) (v := ?_) rfl (by kernel_rfl) (by kernel_rfl) (by kernel_rfl) (by kernel_rfl) (fun _ _ _ h => h) rfl rfl ?hy (by assumption) ?_
  case hy => (intro w' hSw; (try dsimp only at hSw); go_simp <;> (try with_reducible rfl))
  simp only [Act.put, List.setIfInBounds_toArray, List.set_cons_zero, List.set_cons_succ]
  refine wpAnyE_take (i := 2) (d := some 13) (v := ?_) rfl (by kernel_rfl) (by kernel_rfl) (by kernel_rfl) (by kernel_rfl) (fun _ _ _ h => h) rfl rfl ?hy (by assumption) ?_
  case hy => (intro w' hSw; (try dsimp only at hSw); go_simp <;> (try with_reducible rfl))
  simp only [Act.put, List.setIfInBounds_toArray, List.set_cons_zero, List.set_cons_succ]
  refine wpAnyE_one (i := 1) (by kernel_rfl) rfl rfl ?_
  go_simp
  refine (rrow_any a l ca 92 w4.drew (HA.out.below HB4.out.drew) HNA.out (by have := HLL.out; omega)).mono ?_
  rintro e w5 ⟨v5, rfl, hown5, hb0⟩
  rw [← HK2.out] at hown5
  have hb5 : Below w4.heap.size w4 w5 := ⟨hb0.os, hb0.tape, hb0.output, hb0.size, hb0.block⟩
  clear hb0
  have HM5 : Hid (Lies w5 w3.heap.size (rowV inn) 24) := HM4.out.below hb5 HM4.out.lt
  have HO5 : Hid (w5.ownsRow w4.heap.size 5 1 v5 64 (cellsB k2)) := hown5
  have HS5 : Hid (Below w4.heap.size w4 w5) := hb5
  clear hown5 hb5
  refine wpAnyE_one (i := 3) (by kernel_rfl) rfl rfl ?_
  refine wp_append_bts _ _ rfl w4.heap.size v5 64 k2 rfl HO5.out ⟨w3.heap.size, 0, none⟩ inn 16 16 rfl HI16.out (lies_list HM5.out) (by omega) HS5.out.size _ rfl ?_
  intro v6 w6 hown6 hbel6
  have HS6 : Hid (Below w4.heap.size w4 w6) := hbel6 _ _ HS5.out (Nat.le_refl _)
  obtain ⟨a6, c6, rfl, hbt6, hlen6, hn6, hc6, hlt6⟩ := own_bts hown6
  clear hown6 hbel6
  refine ⟨.inr trivial, ?_⟩
  refine wpAnyE_one (i := 4) (by kernel_rfl) rfl rfl ?_
  go_simp
  have hmd := rmd5_any a6 (k2 ++ inn) c6 w6 hbt6 hn6 (by rw [hlen6]; omega)
  have emac : md5 (k2 ++ inn) = mac l m := by rw [HINN.out, HK1.out, HK2.out]; rfl
  rw [hlen6, emac] at hmd
  refine hmd.mono ?_
  clear hmd hbt6 hlen6 hn6 hc6 hlt6 emac
  rintro e w7 ⟨rfl, hb7⟩
  have hb7' : Below w4.heap.size w4 w7 := HS6.out.trans (hb7.mono HS6.out.size)
  have HZ7 : Hid (Lies w7 w.heap.size zeroD 24) := HZ4.out.below hb7' HZ4.out.lt
  have HB7 : Hid (Below w.heap.size w w7) := HB4.out.trans (hb7'.mono HB4.out.size)
  clear hb7 hb7'
  refine wpAnyE_one (i := 5) (by kernel_rfl) rfl rfl ?_
  refine wp_store_none 24 _ _ rfl w.heap.size (rowV (mac l m)) rfl rfl 24 zeroD HZ7.out (infoDl _ (mac_length l m)) (by rw [rowV_size, mac_length]; rfl) (rowV_one _) rfl ?_
  refine ⟨.inr trivial, wpAnyE_done (by kernel_rfl) ?_ _⟩
  go_wp2_with fail
  refine bodyPost_ret (v := .agg (rowV (mac l m))) ?_ rfl ⟨rfl, below_row HB7.out (Nat.le_refl _) _⟩
  exact results_cell_row rfl _ _ _ 24 _ (0, 0) _ rfl (HZ7.out.row _) Tryd.underlying24 rfl (infoDl _ (mac_length l m))
end Go.Proofs.YtlkflikhbkhpeabDoor
