/-
  A key's row, the statement's own.
-/
import Derived.Test.YtlkflikhbkhpeabDoorMd5
import Derived.Test.YtlkflikhbkhpeabDoorMacReg
import Derived.Test.YtlkflikhbkhpeabDoorTell
namespace Go.Proofs.YtlkflikhbkhpeabDoor
open Go.RowKit

theorem made_row (n : Nat) : madeCells #[Value.int .u8 0] n = rowV (List.replicate n 0) := by
  apply Array.toList_inj.1
  rw [made_zero]
  simp [rowV]
theorem make_lies (w : World) (n : Nat) (hl : n ≤ 281474976710656) :
    ∃ w', (Instr.makeSlice 22 (.int .i64 (n : Int)) (.int .i64 (n : Int))).run Tryd.prog w = .ok (.slice (some ⟨w.heap.size, 0, none⟩) n n) w' ∧ Lies w' w.heap.size (rowV (List.replicate n 0)) 5 ∧ Below w.heap.size w w' := by
  obtain ⟨i0, hi, hz0, hz1, hz2⟩ := info_parts info5
  have hr := run_make (P := Tryd.prog) w 22 5 i0 (.int .u8 0) Tryd.underlying22 hi hz0 .i64 .i64 n n (by omega) (by omega) (by rw [hz2]; omega) (by omega)
  rw [hz1, Nat.mul_one, Int.toNat_natCast] at hr
  refine ⟨_, hr, ?_, (Below.refl _ _).alloc (Nat.le_refl _) _⟩
  show Lies (w.alloc (.cells (madeCells #[Value.int .u8 0] n) 5)) _ _ _
  rw [made_row]
  exact Lies.new w _ _
theorem lies_own {w : World} {B g : Nat} {l : List UInt8} (h : Lies w g (rowV l) 5) (hB : B ≤ g) (hl : l.length ≤ maxLen) : w.ownsRow B 5 1 (.slice (some ⟨g, 0, none⟩) l.length l.length) l.length (cellsB l) :=
  ⟨by rw [cellsB_length]; omega, .inr ⟨g, l.length, rowV l, rfl, hB, h, Nat.le_refl _, hl, by rw [rowV_size]; omega, by rw [rowV, List.toList_toArray, Nat.mul_one, ← cellsB_length l, List.take_length]⟩⟩
/-- The first k bytes are the row's, the others noughts. -/
structure Fd (k : Nat) (c : Array Value) (r : List UInt8) : Prop where
  upto : Upto k c (rowV r)
  rest : ∀ j, k ≤ j → j < 64 → c[j]? = some (.int .u8 0)
theorem Fd.next {k : Nat} {c : Array Value} {r : List UInt8} (h : Fd k c r) (hk : k < r.length) : Fd (k + 1) (c.setIfInBounds k (.int .u8 (r[k].toNat : Int))) r :=
  ⟨h.upto.next (rowV_at r k hk), fun j hj h64 => by rw [Array.getElem?_setIfInBounds_ne (by omega)]; exact h.rest j (by omega) h64⟩
theorem set_twice (c : Array Value) (k : Nat) (u v : Value) : (c.setIfInBounds k u).setIfInBounds k v = c.setIfInBounds k v := by
  apply Array.ext_getElem?
  intro i
  by_cases h : k = i
  · subst h
    simp [Array.getElem?_setIfInBounds]
  · rw [Array.getElem?_setIfInBounds_ne h, Array.getElem?_setIfInBounds_ne h, Array.getElem?_setIfInBounds_ne h]
theorem lies_list' {w : World} {g : Nat} {l : List UInt8} {t : TypeId} (h : Lies w g (rowV l) t) : Bts (some ⟨g, 0, none⟩) l w :=
  .inr ⟨g, 0, rfl, h.lt, fun j hj => by rw [Nat.zero_add, h.cell j, rowV_at l j hj]⟩

set_option maxHeartbeats 1000000 in
set_option maxRecDepth 100000 in
theorem lrow_any (a : Option Addr) (l : List UInt8) (cap : Nat) (x : UInt8) (w : World) (h : Bts a l w) (ht : Tabs w) (hl : l.length ≤ 140737488355000) :
    Calls Tryd.prog 7 #[.slice a l.length cap, .int .u8 x.toNat] w fun e w' => ∃ v, e = .returned v ∧ w'.ownsRow w.heap.size 5 1 v 64 (cellsB (laid x (keyRow l))) ∧ Below w.heap.size w w' := by
  have HH : Hid (Bts a l w) := h
  have HT : Hid (Tabs w) := ht
  have HLL : Hid (l.length ≤ 140737488355000) := hl
  clear h ht
  obtain ⟨n, hn⟩ : ∃ n, n = l.length := ⟨_, rfl⟩
  have HN : Hid (n = l.length) := hn
  have HCOP : Hid (∀ v, Bts a l v → Calls Tryd.prog 9 #[.slice a n cap] v fun e w' => ∃ u, e = .returned u ∧ w'.ownsRow v.heap.size 5 1 u n (cellsB l) ∧ Below v.heap.size v w') := by
    rw [hn]
    exact fun v hv => copied_any a l cap v hv (by have := HLL.out; omega)
  rw [← hn] at hl
  rw [← hn]
  clear hn
  go_enter Tryd.func7, Tryd.ntmps7
  go_wp2_with fail
  refine Calls.mono (HCOP.out w HH.out) ?_
  rintro e w1 ⟨u1, rfl, hown1, hb1⟩
  obtain ⟨a1, c1, rfl, hbt1, hlen1, hn1, hc1, hlt1⟩ := own_bts hown1
  have HR1 : Hid (Bts a1 l w1) := hbt1
  have HB1 : Hid (Below w.heap.size w w1) := hb1
  clear hown1 hb1 hbt1 hlen1 hn1 hc1 hlt1
  by_cases h64 : 64 < n
  · have HKB : Hid (md5 l = keyB l) := by
      show _ = _
      unfold keyB
      rw [if_neg (by rw [← HN.out]; omega)]
    go_wp2_with fail
    refine Calls.mono (HCOP.out w1 (HH.out.below HB1.out)) ?_
    rintro e v2 ⟨u2, rfl, hown2, hb2⟩
    obtain ⟨a2, c2, rfl, hbt2, hlen2, hn2, hc2, hlt2⟩ := own_bts hown2
    have HV2 : Hid (Below w.heap.size w v2) := HB1.out.trans (hb2.mono HB1.out.size)
    have hmd := md5_any a2 l c2 v2 hbt2 (fun ad e => (hlt2 ad e).2.1) (by rw [hlen2]; exact hc2) (HT.out.below HV2.out) (by rw [hlen2]; omega)
    rw [hlen2] at hmd
    have HMD : Hid _ := hmd
    clear hown2 hb2 hbt2 hlen2 hn2 hc2 hlt2 hmd
    go_wp2_with fail
    refine Calls.mono HMD.out ?_
    clear HMD
    rintro e v3 ⟨rfl, hb3⟩
    have HV3 : Hid (Below w.heap.size w v3) := HV2.out.trans (hb3.mono HV2.out.size)
    clear hb3
    obtain ⟨kb, hkb⟩ : ∃ kb, kb = md5 l := ⟨_, rfl⟩
    have HK16 : Hid (kb.length = 16) := by rw [hkb]; exact md5_length l
    rw [← hkb] at HKB
    rw [← hkb]
    clear hkb
    have HKL : Hid (16 = kb.length) := HK16.out.symm
    go_wp2_with (refine wpList_store_row rfl 24 _ _ rfl v3.heap.size rfl _ (rowV kb) rfl 24 (Lies.new v3 _ _) (infoDl _ HK16.out) (by rw [rowV_size, HK16.out]; rfl) (rowV_one _) rfl ?_; refine wpList_gen (fun w2 => Hid (Bts (some ⟨v3.heap.size, 0, none⟩) kb w2) ∧ Hid (Below w.heap.size w w2)) ⟨lies_list' ((Lies.new v3 _ _).row _), below_row (HV3.out.alloc HV3.out.size _) HV3.out.size _⟩ ?_; rintro w2 ⟨HK2, HB2⟩; obtain ⟨w4, hmk, hl4, hb4⟩ := make_lies w2 64 (by omega); have HL4 : Hid (Lies w4 w2.heap.size (rowV (List.replicate 64 0)) 5) := hl4; have HB4 : Hid (Below w2.heap.size w2 w4) := hb4; have hmk' : (Instr.makeSlice 22 (.int .i64 64) (.int .i64 64)).run Tryd.prog w2 = .ok (.slice (some ⟨w2.heap.size, 0, none⟩) 64 64) w4 := hmk; clear hmk hl4 hb4)
    clear hmk'
    go_loopw [21] (fun i wr => ∃ (k : Nat) (c : Array Value), k ≤ 64 ∧ i = .int .i64 k ∧ Hid (Lies wr w2.heap.size c 5) ∧ Hid (Below w2.heap.size w2 wr) ∧ Hid (Fd k c (laid x (keyRow l)))) (fun i _ => 64 - (intOf i).toNat)
    case atStart =>
      refine ⟨0, _, by omega, rfl, HL4, HB4, ⟨by rw [rowV_size, rowV_size, laid_length, keyRow_length]; rfl, fun j h => by omega⟩, fun j _ h64 => ?_⟩
      rw [rowV_at _ j (by rw [List.length_replicate]; exact h64), List.getElem_replicate]
      rfl
    case round =>
      obtain ⟨k, c, hk, rfl, HC, HB, HF⟩ := hrel
      by_cases hlt : k < 64
      · have hkr' : k < (laid x (keyRow l)).length := by rw [laid_length, keyRow_length]; exact hlt
        have HNX : Hid _ := HF.out.next hkr'
        obtain ⟨b, hb⟩ : ∃ b, b = (keyRow l)[k]'(by rw [keyRow_length]; exact hlt) := ⟨_, rfl⟩
        have hla : (laid x (keyRow l))[k] = b ^^^ x := by rw [laid_at x (keyRow l) k (by rw [keyRow_length]; exact hlt), hb]
        rw [hla] at HNX
        have hkr : keyRow l = kb ++ List.replicate (64 - kb.length) 0 := by rw [HKB.out]; rfl
        have hc0 : wr.cell? ⟨w2.heap.size, k, none⟩ = some (.int .u8 0) := (HC.out.cell k).trans (HF.out.rest k (Nat.le_refl _) hlt)
        have hf0 := HC.out.frozen k
        have e1 := xor8 b x
        obtain ⟨y, hy⟩ : ∃ y, y = b ^^^ x := ⟨_, rfl⟩
        rw [← hy] at e1 HNX
        clear hy hla
        by_cases hin : k < 16
        · have hin' : k < kb.length := by rw [← HKL.out]; exact hin
          have hbk : b = kb[k] := by rw [hb, List.getElem_of_eq hkr, List.getElem_append_left hin']
          obtain ⟨gk, ok, hA, hgk, hck⟩ := (HK2.out.below HB.out).cell k hin'
          injection hA with hA
          injection hA with hA1 hA2
          subst hA1 hA2
          rw [Nat.zero_add] at hck
          rw [← hbk] at hck
          clear hb hbk hkr
          go_wp2
          clear hc0 hf0 hck e1
          go_roundw
          case rel =>
            refine ⟨k + 1, _, by omega, by go_num, (HC.out.set k (.int .u8 (b.toNat : Int))).set k _, (HB.out.setCell (by simp) _).setCell (by simp) _, ?_⟩
            rw [set_twice]
            exact HNX
          case measure => simp [intOf]; omega
        · have hin' : kb.length ≤ k := by rw [← HKL.out]; omega
          have hbk : b = 0 := by rw [hb, List.getElem_of_eq hkr, List.getElem_append_right hin', List.getElem_replicate]
          have e2 : bits .xor .u8 0 (x.toNat : Int) = (y.toNat : Int) := by
            rw [hbk] at e1
            exact e1
          clear hb hbk hkr e1
          go_wp2
          clear hc0 hf0 e2
          go_roundw
          case rel => exact ⟨k + 1, _, by omega, by go_num, HC.out.set k _, HB.out.setCell (by simp) _, HNX⟩
          case measure => simp [intOf]; omega
      · obtain rfl : k = 64 := by omega
        obtain rfl := HF.out.upto.all (by rw [rowV_size, laid_length, keyRow_length])
        have hlen : (laid x (keyRow l)).length = 64 := by rw [laid_length, keyRow_length]
        have ho := lies_own HC.out HB2.out.size (by rw [hlen]; unfold maxLen; omega)
        rw [hlen] at ho
        have HO : Hid _ := ho
        clear ho hlen
        go_wp2
        go_ret
        exact ⟨_, rfl, HO.out, HB2.out.trans (HB.out.mono HB2.out.size)⟩
  · obtain ⟨kb, hkb⟩ : ∃ kb, kb = l := ⟨_, rfl⟩
    have HKB : Hid (kb = keyB l) := by
      show _ = _
      unfold keyB
      rw [if_pos (by rw [← HN.out]; omega), hkb]
    have HKL : Hid (n = kb.length) := by rw [hkb]; exact HN
    have HK2 : Hid (Bts a1 kb w1) := by rw [hkb]; exact HR1
    clear hkb
    obtain ⟨w2, hw2⟩ : ∃ w2, w2 = w1 := ⟨_, rfl⟩
    rw [← hw2] at HK2 HB1
    have HB2 : Hid (Below w.heap.size w w2) := HB1
    rw [← hw2]
    clear hw2
    obtain ⟨w4, hmk, hl4, hb4⟩ := make_lies w2 64 (by omega); have HL4 : Hid (Lies w4 w2.heap.size (rowV (List.replicate 64 0)) 5) := hl4; have HB4 : Hid (Below w2.heap.size w2 w4) := hb4; have hmk' : (Instr.makeSlice 22 (.int .i64 64) (.int .i64 64)).run Tryd.prog w2 = .ok (.slice (some ⟨w2.heap.size, 0, none⟩) 64 64) w4 := hmk; clear hmk hl4 hb4
    go_wp2_with fail
    clear hmk'
    go_loopw [21] (fun i wr => ∃ (k : Nat) (c : Array Value), k ≤ 64 ∧ i = .int .i64 k ∧ Hid (Lies wr w2.heap.size c 5) ∧ Hid (Below w2.heap.size w2 wr) ∧ Hid (Fd k c (laid x (keyRow l)))) (fun i _ => 64 - (intOf i).toNat)
    case atStart =>
      refine ⟨0, _, by omega, rfl, HL4, HB4, ⟨by rw [rowV_size, rowV_size, laid_length, keyRow_length]; rfl, fun j h => by omega⟩, fun j _ h64 => ?_⟩
      rw [rowV_at _ j (by rw [List.length_replicate]; exact h64), List.getElem_replicate]
      rfl
    case round =>
      obtain ⟨k, c, hk, rfl, HC, HB, HF⟩ := hrel
      by_cases hlt : k < 64
      · have hkr' : k < (laid x (keyRow l)).length := by rw [laid_length, keyRow_length]; exact hlt
        have HNX : Hid _ := HF.out.next hkr'
        obtain ⟨b, hb⟩ : ∃ b, b = (keyRow l)[k]'(by rw [keyRow_length]; exact hlt) := ⟨_, rfl⟩
        have hla : (laid x (keyRow l))[k] = b ^^^ x := by rw [laid_at x (keyRow l) k (by rw [keyRow_length]; exact hlt), hb]
        rw [hla] at HNX
        have hkr : keyRow l = kb ++ List.replicate (64 - kb.length) 0 := by rw [HKB.out]; rfl
        have hc0 : wr.cell? ⟨w2.heap.size, k, none⟩ = some (.int .u8 0) := (HC.out.cell k).trans (HF.out.rest k (Nat.le_refl _) hlt)
        have hf0 := HC.out.frozen k
        have e1 := xor8 b x
        obtain ⟨y, hy⟩ : ∃ y, y = b ^^^ x := ⟨_, rfl⟩
        rw [← hy] at e1 HNX
        clear hy hla
        by_cases hin : k < n
        · have hin' : k < kb.length := by rw [← HKL.out]; exact hin
          have hbk : b = kb[k] := by rw [hb, List.getElem_of_eq hkr, List.getElem_append_left hin']
          obtain ⟨gk, ok, rfl, hgk, hck⟩ := (HK2.out.below HB.out).cell k hin'
          rw [← hbk] at hck
          clear hb hbk hkr
          go_wp2
          clear hc0 hf0 hck e1
          go_roundw
          case rel =>
            refine ⟨k + 1, _, by omega, by go_num, (HC.out.set k (.int .u8 (b.toNat : Int))).set k _, (HB.out.setCell (by simp) _).setCell (by simp) _, ?_⟩
            rw [set_twice]
            exact HNX
          case measure => simp [intOf]; omega
        · have hin' : kb.length ≤ k := by rw [← HKL.out]; omega
          have hbk : b = 0 := by rw [hb, List.getElem_of_eq hkr, List.getElem_append_right hin', List.getElem_replicate]
          have e2 : bits .xor .u8 0 (x.toNat : Int) = (y.toNat : Int) := by
            rw [hbk] at e1
            exact e1
          clear hb hbk hkr e1
          go_wp2
          clear hc0 hf0 e2
          go_roundw
          case rel => exact ⟨k + 1, _, by omega, by go_num, HC.out.set k _, HB.out.setCell (by simp) _, HNX⟩
          case measure => simp [intOf]; omega
      · obtain rfl : k = 64 := by omega
        obtain rfl := HF.out.upto.all (by rw [rowV_size, laid_length, keyRow_length])
        have hlen : (laid x (keyRow l)).length = 64 := by rw [laid_length, keyRow_length]
        have ho := lies_own HC.out HB2.out.size (by rw [hlen]; unfold maxLen; omega)
        rw [hlen] at ho
        have HO : Hid _ := ho
        clear ho hlen
        go_wp2
        go_ret
        exact ⟨_, rfl, HO.out, HB2.out.trans (HB.out.mono HB2.out.size)⟩
end Go.Proofs.YtlkflikhbkhpeabDoor
