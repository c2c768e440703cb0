/-
  What a rune becomes as text.
-/
import Derived.Test.YtdgepnfgjgbkoaaDoorUtfE
import Derived.Laws.Cover4
import Derived.Laws.Runes
import Derived.WalkKit
import Derived.Below
import Derived.Test.YtdgepnfgjgbkoaaDoorSpan4
import Derived.Test.YtdgepnfgjgbkoaaDoorPureUp
namespace Go.Proofs.YtdgepnfgjgbkoaaDoor

theorem tou8 (x : Int) (n : Nat) (h : x = (n : Int)) : x.toNat.toUInt8 = UInt8.ofNat n := by
  subst h
  rfl
theorem enc_list (r : Nat) : (Utf8.encode (r : Int)).data.toList = Lib.encodeRune (r : Int) := by
  unfold Lib.encodeRune
  by_cases c1 : r < 128
  · have v : Utf8.valid (r : Int) = true := by simp [Utf8.valid]; omega
    have e : (Utf8.encode (r : Int)).data.toList = [UInt8.ofNat r] := by simp [Utf8.encode, v, c1]
    rw [Lib.encodeRuneZ_one (by omega) (by omega), e, List.map_cons, List.map_nil, tou8 _ r rfl]
  by_cases c2 : r < 2048
  · have v : Utf8.valid (r : Int) = true := by simp [Utf8.valid]; omega
    have e : (Utf8.encode (r : Int)).data.toList = [UInt8.ofNat (192 + r / 64), UInt8.ofNat (128 + r % 64)] := by simp [Utf8.encode, v, c1, c2]
    rw [Lib.encodeRuneZ_two (by omega) (by omega), e]
    simp only [List.map_cons, List.map_nil]
    rw [tou8 _ (192 + r / 64) (by omega), tou8 _ (128 + r % 64) (by omega)]
  by_cases hb : (55296 ≤ r ∧ r ≤ 57343) ∨ 1114111 < r
  · have v : Utf8.valid (r : Int) = false := by simp [Utf8.valid]; omega
    rw [Lib.encodeRuneZ_bad (by omega)]
    simp [Utf8.encode, v, Utf8.runeError]
  by_cases c3 : r < 65536
  · have v : Utf8.valid (r : Int) = true := by simp [Utf8.valid]; omega
    have e : (Utf8.encode (r : Int)).data.toList = [UInt8.ofNat (224 + r / 4096), UInt8.ofNat (128 + r / 64 % 64), UInt8.ofNat (128 + r % 64)] := by simp [Utf8.encode, v, c1, c2, c3]
    rw [Lib.encodeRuneZ_three (by omega), e]
    simp only [List.map_cons, List.map_nil]
    rw [tou8 _ (224 + r / 4096) (by omega), tou8 _ (128 + r / 64 % 64) (by omega), tou8 _ (128 + r % 64) (by omega)]
  · have v : Utf8.valid (r : Int) = true := by simp [Utf8.valid]; omega
    have e : (Utf8.encode (r : Int)).data.toList = [UInt8.ofNat (240 + r / 262144), UInt8.ofNat (128 + r / 4096 % 64), UInt8.ofNat (128 + r / 64 % 64), UInt8.ofNat (128 + r % 64)] := by simp [Utf8.encode, v, c1, c2, c3]
    rw [Lib.encodeRuneZ_four (by omega) (by omega), e]
    simp only [List.map_cons, List.map_nil]
    rw [tou8 _ (240 + r / 262144) (by omega), tou8 _ (128 + r / 4096 % 64) (by omega), tou8 _ (128 + r / 64 % 64) (by omega), tou8 _ (128 + r % 64) (by omega)]
theorem rb_go (l : List Nat) : ∀ s : ByteArray, ((l.map fun (n : Nat) => (n : Int)).foldl (fun r n => r ++ Utf8.encode n) s).data.toList = s.data.toList ++ l.flatMap fun (n : Nat) => Lib.encodeRune (n : Int) := by
  induction l with
  | nil => intro s; simp
  | cons n t ih =>
    intro s
    rw [List.map_cons, List.foldl_cons, ih, ByteArray.data_append, Array.toList_append, enc_list, List.flatMap_cons, List.append_assoc]
/-- A text made of runes. -/
theorem rb_list (l : List Nat) : (runesBytes (l.map fun (n : Nat) => (n : Int))).data.toList = l.flatMap fun (n : Nat) => Lib.encodeRune (n : Int) := by
  unfold runesBytes
  rw [rb_go]
  simp
end Go.Proofs.YtdgepnfgjgbkoaaDoor
/-
  Bytes that lie in a row of memory.
-/
namespace Go.Proofs.YtdgepnfgjgbkoaaDoor
open Go.RowKit

/-- The bytes of s lie in block g from place o on. -/
def RowAt (s : ByteArray) (g o : Nat) (w : World) : Prop := ∀ j, (h : j < s.size) → w.cell? ⟨g, o + j, none⟩ = some (.int .u8 (s[j].toNat : Int))

theorem RowAt.below {s : ByteArray} {g o B : Nat} {w w' : World} (h : RowAt s g o w) (hb : Below B w w') (hg : g < B) : RowAt s g o w' := fun j hj =>
  (hb.cell (p := ⟨g, o + j, none⟩) hg).trans (h j hj)
end Go.Proofs.YtdgepnfgjgbkoaaDoor
/-
  The contracts of octet.Span and octet.Bad of bytes.
-/
namespace Go.Proofs.YtdgepnfgjgbkoaaDoor
open Go.RowKit

theorem ret_i64B {a b : Int} (h : a = b) : Ending.returned (.int .i64 a) = .returned (.int .i64 b) := by rw [h]

set_option maxRecDepth 100000 in
set_option maxHeartbeats 400000 in
theorem span_negB (c f : Int) (s : ByteArray) (g o cap : Nat) (w : World) (hf : f < 0) :
    Calls Tryd.prog 86 #[.int .i64 c, .slice (some ⟨g, o, none⟩) s.size cap, .int .i64 f] w fun e w' => e = .returned (.int .i64 f) ∧ w' = w := by
  go_enter Tryd.func86, Tryd.ntmps86
  go_wp2
  go_ret
  exact ⟨rfl, rfl⟩

set_option maxRecDepth 100000 in
set_option maxHeartbeats 400000 in
theorem span_behindB (c f : Int) (s : ByteArray) (g o cap : Nat) (w : World) (hs : s.size ≤ maxLen) (hf : (s.size : Int) ≤ f) :
    Calls Tryd.prog 86 #[.int .i64 c, .slice (some ⟨g, o, none⟩) s.size cap, .int .i64 f] w fun e w' => e = .returned (.int .i64 f) ∧ w' = w := by
  unfold maxLen at hs
  have hn : ¬ f < 0 := by omega
  have hl : ¬ f < (s.size : Int) := by omega
  go_enter Tryd.func86, Tryd.ntmps86
  go_wp2
  refine wp_loop_rounds 1 ?_
  rw [rounds_succ]
  go_wp2
  go_ret
  exact ⟨rfl, rfl⟩

set_option maxRecDepth 100000 in
set_option maxHeartbeats 400000 in
theorem span_inB (c : Int) (f : Nat) (s : ByteArray) (g o cap : Nat) (w : World) (ht : Table w) (hr : RowAt s g o w) (hs : s.size ≤ maxLen) (hf : f ≤ s.size) :
    Calls Tryd.prog 86 #[.int .i64 c, .slice (some ⟨g, o, none⟩) s.size cap, .int .i64 f] w fun e w' => e = .returned (.int .i64 (f + badN c (s.data.toList.drop f))) ∧ w' = w := by
  unfold maxLen at hs
  have HT : Hid (Table w) := ht
  have HR : Hid (RowAt s g o w) := hr
  clear ht hr
  go_enter Tryd.func86, Tryd.ntmps86
  go_wp2
  go_loop [7] (fun i => ∃ m : Nat, m ≤ s.size ∧ i = .int .i64 m ∧ Hid (f + badN c (s.data.toList.drop f) = m + badN c (s.data.toList.drop m))) (fun i => s.size - (intOf i).toNat)
  case atStart => exact ⟨f, hf, rfl, rfl⟩
  case round =>
    obtain ⟨m, hm, rfl, HM⟩ := hrel
    by_cases hlt : m < s.size
    · have hcell := HR.out m hlt
      by_cases hb : isB c (s[m].toNat : Int) = true
      · have HN : Hid (f + badN c (s.data.toList.drop f) = (m + 1) + badN c (s.data.toList.drop (m + 1))) := by
          have := badN_yes c s.data.toList m (by simpa using hlt) hb
          show _ = _
          rw [HM.out, this]; omega
        go_wp2_with (go_at_call 71; refine (is_any _ _ _ HT.out).mono ?_; rintro e w' ⟨rfl, rfl⟩)
        go_round
        case rel => exact ⟨m + 1, by omega, by go_num, HN⟩
        case measure => simp [intOf]; omega
      · have hb' : isB c (s[m].toNat : Int) = false := by simpa using hb
        have HN : Hid (f + badN c (s.data.toList.drop f) = m) := by
          have := badN_no c s.data.toList m (by simpa using hlt) hb'
          show _ = _
          rw [HM.out, this]; omega
        clear hb
        go_wp2_with (go_at_call 71; refine (is_any _ _ _ HT.out).mono ?_; rintro e w' ⟨rfl, rfl⟩)
        go_ret
        exact ⟨ret_i64B (by have := HN.out; omega), rfl⟩
    · have HN : Hid (f + badN c (s.data.toList.drop f) = m) := by
        have := badN_end c s.data.toList m (by simp; omega)
        show _ = _
        rw [HM.out, this]; omega
      go_wp2
      go_ret
      exact ⟨ret_i64B (by have := HN.out; omega), rfl⟩

theorem span_anyB (c f : Int) (s : ByteArray) (g o cap : Nat) (w : World) (ht : Table w) (hr : RowAt s g o w) (hs : s.size ≤ maxLen) :
    Calls Tryd.prog 86 #[.int .i64 c, .slice (some ⟨g, o, none⟩) s.size cap, .int .i64 f] w fun e w' => e = .returned (.int .i64 (spanI c s.data.toList f)) ∧ w' = w := by
  by_cases h0 : f < 0
  · rw [spanI_neg _ _ _ h0]
    exact span_negB c f s g o cap w h0
  · by_cases h1 : (s.size : Int) ≤ f
    · rw [spanI_behind _ _ _ (by simpa using h1)]
      exact span_behindB c f s g o cap w hs h1
    · obtain ⟨n, rfl⟩ := Int.eq_ofNat_of_zero_le (show 0 ≤ f by omega)
      rw [spanI_nat]
      exact span_inB c n s g o cap w ht hr hs (by omega)

set_option maxRecDepth 100000 in
theorem bad_anyB (c : Int) (s : ByteArray) (g o cap : Nat) (w : World) (ht : Table w) (hr : RowAt s g o w) (hs : s.size ≤ maxLen) :
    Calls Tryd.prog 65 #[.int .i64 c, .slice (some ⟨g, o, none⟩) s.size cap] w fun e w' => e = .returned (.int .i64 (badN c s.data.toList)) ∧ w' = w := by
  have hz := spanI_zero c s.data.toList
  go_enter Tryd.func65, Tryd.ntmps65
  go_wp2_with fail
  refine (span_anyB c 0 s g o cap _ ht hr hs).mono ?_
  rintro e w' ⟨rfl, rfl⟩
  go_wp2
  go_ret
  exact ⟨rfl, rfl⟩
end Go.Proofs.YtdgepnfgjgbkoaaDoor
