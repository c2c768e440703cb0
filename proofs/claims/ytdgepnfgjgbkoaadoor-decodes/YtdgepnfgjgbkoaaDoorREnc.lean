/-
  A text in Q, read as the document reads it: the plain part.
-/
import Derived.Test.YtdgepnfgjgbkoaaDoorVa17
import Derived.Test.YtdgepnfgjgbkoaaDoorWu17
import Derived.Test.YtdgepnfgjgbkoaaDoorChk2
import Derived.Test.YtdgepnfgjgbkoaaDoorUtfE
import Derived.Test.YtdgepnfgjgbkoaaDoorChk
namespace Go.Proofs.YtdgepnfgjgbkoaaDoor

/-- What the first two bytes say; below 0: they are no digits. -/
def vH : List UInt8 → Int
  | a :: b :: _ => if 0 ≤ hxI a ∧ 0 ≤ hxI b then 16 * hxI a + hxI b else -1
  | _ => -1
theorem vH_two (a b : UInt8) (t : List UInt8) : vH (a :: b :: t) = if 0 ≤ hxI a ∧ 0 ≤ hxI b then 16 * hxI a + hxI b else -1 := rfl
theorem hx_val (c : UInt8) (h : 0 ≤ hxI c) : hxI c = (hexV c.toNat : Int) := by
  have := u8_all (p := fun c => decide (0 ≤ hxI c → hxI c = (hexV c.toNat : Int))) (by decide +kernel) c
  exact (of_decide_eq_true this) h
theorem vH_hit (l : List UInt8) (k : Nat) (hk : k < l.length) (hc : l[k] = 61) (h : 0 ≤ vH (l.drop (k + 1))) :
    k + 3 ≤ l.length ∧ ∃ x : UInt8, vH (l.drop (k + 1)) = (x.toNat : Int) ∧ uqB k (l.drop k) = ([x] ++ (uqB (k + 3) (l.drop (k + 3))).1, (uqB (k + 3) (l.drop (k + 3))).2) := by
  have e : l.drop (k + 3) = (l.drop (k + 1)).drop 2 := by rw [List.drop_drop]
  have hn : (l.drop (k + 1)).length = l.length - (k + 1) := by rw [List.length_drop]
  rw [List.drop_eq_getElem_cons hk, hc, uqB.eq_def, e]
  generalize l.drop (k + 1) = X at h hn
  match X, h with
  | a :: b :: t, h =>
    simp only [List.length_cons] at hn
    rw [vH_two] at h ⊢
    by_cases h2 : 0 ≤ hxI a ∧ 0 ≤ hxI b
    · rw [if_pos h2]
      have ha := hx_val a h2.1
      have hb := hx_val b h2.2
      have la := (hx_is a).2.1
      have lb := (hx_is b).2.1
      refine ⟨by omega, UInt8.ofNat (hexV a.toNat * 16 + hexV b.toNat), ?_, ?_⟩
      · rw [ha, hb, UInt8.toNat_ofNat']
        omega
      · dsimp only
        rw [if_pos rfl, if_pos ((hx_bad a b).2 h2)]
        rfl
    · rw [if_neg h2] at h
      omega
  | [_], h => exact absurd h (by show ¬ (0 : Int) ≤ -1; decide)
  | [], h => exact absurd h (by show ¬ (0 : Int) ≤ -1; decide)
theorem vH_miss (l : List UInt8) (k : Nat) (hk : k < l.length) (hc : l[k] = 61) (h : vH (l.drop (k + 1)) < 0) : uqB k (l.drop k) = ([], some k) := by
  rw [List.drop_eq_getElem_cons hk, hc, uqB.eq_def]
  generalize l.drop (k + 1) = X at h
  match X, h with
  | a :: b :: t, h =>
    rw [vH_two] at h
    by_cases h2 : 0 ≤ hxI a ∧ 0 ≤ hxI b
    · rw [if_pos h2] at h
      omega
    · dsimp only
      rw [if_pos rfl, if_neg (fun h3 => h2 ((hx_bad a b).1 h3))]
  | [_], h => rfl
  | [], h => rfl
end Go.Proofs.YtdgepnfgjgbkoaaDoor
/-
  The document's name of a charset.
-/
namespace Go.Proofs.YtdgepnfgjgbkoaaDoor
open Go.RowKit

/-- A charset's name, small. -/
def vN (l : List UInt8) : List UInt8 := sml (cutC 42 l).1
theorem cut_take {c : UInt8} {l : List UInt8} {k : Nat} (hk : k < l.length) (hc : l[k] = c) (hn : ∀ j, j < k → ∀ h : j < l.length, l[j] ≠ c) : (cutC c l).1 = l.take k := by
  have e : l = l.take k ++ c :: l.drop (k + 1) := by
    rw [← hc, ← List.drop_eq_getElem_cons hk, List.take_append_drop]
  have hm : c ∉ l.take k := fun h => by
    obtain ⟨j, hj, he⟩ := List.mem_iff_getElem.1 h
    rw [List.length_take] at hj
    rw [List.getElem_take] at he
    exact hn j (by omega) (by omega) he
  have := cutC_hit (l.take k) (l.drop (k + 1)) hm
  rw [← e] at this
  rw [this]
set_option maxRecDepth 100000 in
set_option maxHeartbeats 1000000 in
theorem vname_any (s : ByteArray) (hs : s.size ≤ 4294967000) (w : World) :
    Calls Tryd.prog 30 #[.string s] w fun e w' => e = .returned (.string ⟨(vN s.data.toList).toArray⟩) ∧ Below w.heap.size w w' := by
  have hl : s.data.toList.length = s.size := by rw [Array.length_toList]; rfl
  have HSM : Hid (∀ (t : ByteArray), t.size ≤ 4294967000 → Calls Tryd.prog 54 #[.string t] w fun e w' => e = .returned (.string (smS t)) ∧ Below w.heap.size w w') := fun t h => vsmall_any t w (by unfold maxLen; omega)
  go_enter Tryd.func30, Tryd.ntmps30
  go_wp2_with fail
  go_loopw [3] (fun kv wr => ∃ k : Nat, k ≤ s.size ∧ kv = .int .i64 k ∧ Hid (wr = w) ∧ Hid (∀ j, j < k → ∀ h : j < s.data.toList.length, s.data.toList[j] ≠ 42)) (fun kv _ => s.size - (intOf kv).toNat)
  case atStart => exact ⟨0, by omega, rfl, rfl, fun j h => (by omega)⟩
  case round =>
    obtain ⟨k, hk, rfl, hw, HA⟩ := hrel
    obtain rfl := hw.out
    obtain ⟨wr', hwr'⟩ : ∃ wr' : World, wr' = wr := ⟨_, rfl⟩
    subst hwr'
    clear hw
    by_cases hlt : k < s.size
    · have hlti : (k : Int) < s.size := by omega
      have hkl : k < s.data.toList.length := by omega
      have hsk : s.data.toList[k] = s[k]'hlt := by simp; rfl
      by_cases h42 : s.data.toList[k] = 42
      · have hq : (((s[k]'hlt).toNat : Int) == 42) = true := by rw [← hsk, h42]; rfl
        have HR : Hid (smS (s.extract 0 k) = ⟨(vN s.data.toList).toArray⟩) := by
          show smS _ = _
          unfold smS vN
          rw [cut_take hkl h42 HA.out, ext_list, List.drop_zero]
        have HC := HSM.out (s.extract 0 k) (by rw [ByteArray.size_extract]; omega)
        rw [HR.out] at HC
        clear HSM h42 HA HR
        go_wp2_with fail
        refine HC.mono ?_
        rintro e w1 ⟨rfl, hb1⟩
        go_wp2
        go_ret
        exact ⟨rfl, hb1⟩
      · have hq : (((s[k]'hlt).toNat : Int) == 42) = false := by
          rw [beq_eq_false_iff_ne]
          intro h
          apply h42
          rw [hsk]
          have h9 : (s[k]'hlt).toNat = 42 := by omega
          exact UInt8.toNat_inj.1 h9
        have HAA : Hid (∀ j, j < k + 1 → ∀ h : j < s.data.toList.length, s.data.toList[j] ≠ 42) := fun j hj h => by
          rcases (by omega : j < k ∨ j = k) with h1 | rfl
          · exact HA.out j h1 h
          · exact h42
        clear HSM h42 HA
        go_wp2_with fail
        go_round
        case rel => exact ⟨k + 1, hlt, by go_num, trivial, HAA.out⟩
        case measure => simp [intOf]; omega
    · obtain rfl : k = s.size := by omega
      have HR : Hid (smS s = ⟨(vN s.data.toList).toArray⟩) := by
        show smS _ = _
        unfold smS vN
        have hm : (42 : UInt8) ∉ s.data.toList := fun h => by
          obtain ⟨j, hj, he⟩ := List.mem_iff_getElem.1 h
          exact HA.out j (by omega) hj he
        rw [cutC_miss _ hm]
      have HC := HSM.out s hs
      rw [HR.out] at HC
      clear HSM HA HR
      go_wp2_with fail
      refine HC.mono ?_
      rintro e w1 ⟨rfl, hb1⟩
      go_wp2
      go_ret
      exact ⟨rfl, hb1⟩
end Go.Proofs.YtdgepnfgjgbkoaaDoor
/-
  The document's reading of a rune: the rune whose bytes these are.
-/
namespace Go.Proofs.YtdgepnfgjgbkoaaDoor

/-- What the first byte of n has at its top. -/
def leadN (n : Nat) : Int := if n = 2 then 192 else if n = 3 then 224 else if n = 4 then 240 else 0
def addX (x : Int) (c : UInt8) : Int := 64 * x + (c.toNat : Int) - 128
/-- The number that bytes make. -/
def mkX : List UInt8 → Int
  | [] => 0
  | c :: t => t.foldl addX ((c.toNat : Int) - leadN (t.length + 1))
/-- Are bytes those of a rune? -/
def okX (b : List UInt8) : Prop := isR (mkX b) ∧ Lib.encodeRune (mkX b) = b
instance (b : List UInt8) : Decidable (okX b) := by unfold okX; infer_instance
theorem mkX_enc (r : Int) (h : isR r) : mkX (Lib.encodeRune r) = r := by
  obtain ⟨h0, h1, h2⟩ := h
  unfold Lib.encodeRune
  by_cases c1 : r ≤ 127
  · rw [Lib.encodeRuneZ_one h0 c1]
    simp only [List.map_cons, List.map_nil, mkX, List.foldl_nil, List.length_nil, leadN, u8_of r h0 (by omega)]
    simp
    omega
  by_cases c2 : r ≤ 2047
  · rw [Lib.encodeRuneZ_two (by omega) c2]
    have a1 := u8_of (192 + r / 64) (by omega) (by omega)
    have a2 := u8_of (128 + r % 64) (by omega) (by omega)
    simp only [List.map_cons, List.map_nil, mkX, List.foldl_cons, List.foldl_nil, List.length_cons, List.length_nil, addX, a1, a2, leadN]
    simp
    omega
  by_cases c3 : r ≤ 65535
  · rw [Lib.encodeRuneZ_three (by omega)]
    have a1 := u8_of (224 + r / 4096) (by omega) (by omega)
    have a2 := u8_of (128 + r / 64 % 64) (by omega) (by omega)
    have a3 := u8_of (128 + r % 64) (by omega) (by omega)
    simp only [List.map_cons, List.map_nil, mkX, List.foldl_cons, List.foldl_nil, List.length_cons, List.length_nil, addX, a1, a2, a3, leadN]
    simp
    omega
  · rw [Lib.encodeRuneZ_four (by omega) (by omega)]
    have a1 := u8_of (240 + r / 262144) (by omega) (by omega)
    have a2 := u8_of (128 + r / 4096 % 64) (by omega) (by omega)
    have a3 := u8_of (128 + r / 64 % 64) (by omega) (by omega)
    have a4 := u8_of (128 + r % 64) (by omega) (by omega)
    simp only [List.map_cons, List.map_nil, mkX, List.foldl_cons, List.foldl_nil, List.length_cons, List.length_nil, addX, a1, a2, a3, a4, leadN]
    simp
    omega
theorem okX_one {l : List UInt8} {n : Nat} (hn : n ≤ l.length) (h : okX (l.take n)) : oneN l = some (mkX (l.take n), n) := by
  obtain ⟨h1, h2⟩ := h
  have := oneN_enc (mkX (l.take n)) h1 (l.drop n)
  rw [h2, List.take_append_drop, List.length_take, Nat.min_eq_left hn] at this
  exact this
theorem one_okX {l : List UInt8} {r : Int} {n : Nat} (h : oneN l = some (r, n)) : n ≤ l.length ∧ 1 ≤ n ∧ n ≤ 4 ∧ okX (l.take n) ∧ mkX (l.take n) = r := by
  obtain ⟨h1, h2, h3⟩ := oneN_is h
  obtain ⟨h4, h5, _⟩ := oneN_run l r n h
  have e : l.take n = Lib.encodeRune r := by
    conv => lhs; rw [h3]
    rw [h2, List.take_left]
  have h6 := (Lib.runeCells_le r).2
  rw [Lib.runeCells_length] at h6
  have h7 := mkX_enc r h1
  refine ⟨h4, h5, by omega, ⟨?_, ?_⟩, by rw [e, h7]⟩
  · rw [e, h7]; exact h1
  · rw [e, h7]
theorem mkX_range (b : List UInt8) (h : b.length ≤ 4) : -100000000 ≤ mkX b ∧ mkX b ≤ 100000000 := by
  match b, h with
  | [], _ => simp [mkX]
  | [a], _ => have := a.toNat_lt; simp [mkX, leadN]; omega
  | [a, b], _ => have := a.toNat_lt; have := b.toNat_lt; simp [mkX, leadN, addX]; omega
  | [a, b, c], _ => have := a.toNat_lt; have := b.toNat_lt; have := c.toNat_lt; simp [mkX, leadN, addX]; omega
  | [a, b, c, d], _ => have := a.toNat_lt; have := b.toNat_lt; have := c.toNat_lt; have := d.toNat_lt; simp [mkX, leadN, addX]; omega
end Go.Proofs.YtdgepnfgjgbkoaaDoor
/-
  The document's Is, Write, lead and made.
-/
namespace Go.Proofs.YtdgepnfgjgbkoaaDoor
open Go.RowKit

set_option maxHeartbeats 1000000 in
set_option maxRecDepth 100000 in
theorem dis_any (r : Int) (w : World) : Calls Tryd.prog 92 #[.int .i64 r] w fun e w' => e = .returned (.bool (decide (isR r))) ∧ w' = w := by
  by_cases h1 : 0 ≤ r
  · by_cases h2 : r ≤ 1114111
    · by_cases h3 : r < 55296
      · have HR : Hid (decide (isR r) = true) := decide_eq_true ⟨h1, h2, .inl h3⟩
        go_enter Tryd.func92, Tryd.ntmps92
        go_wp2
        go_ret
        exact ⟨ret_b HR.out.symm, rfl⟩
      · by_cases h4 : 57343 < r
        · have HR : Hid (decide (isR r) = true) := decide_eq_true ⟨h1, h2, .inr h4⟩
          go_enter Tryd.func92, Tryd.ntmps92
          go_wp2
          go_ret
          exact ⟨ret_b HR.out.symm, rfl⟩
        · have HR : Hid (decide (isR r) = false) := decide_eq_false (by unfold isR; omega)
          go_enter Tryd.func92, Tryd.ntmps92
          go_wp2
          go_ret
          exact ⟨ret_b (by rw [HR.out]), rfl⟩
    · have HR : Hid (decide (isR r) = false) := decide_eq_false (by unfold isR; omega)
      go_enter Tryd.func92, Tryd.ntmps92
      go_wp2
      go_ret
      exact ⟨ret_b (by rw [HR.out]), rfl⟩
  · have HR : Hid (decide (isR r) = false) := decide_eq_false (by unfold isR; omega)
    go_enter Tryd.func92, Tryd.ntmps92
    go_wp2
    go_ret
    exact ⟨ret_b (by rw [HR.out]), rfl⟩

theorem u8c (x : Int) (h0 : 0 ≤ x) (h1 : x < 256) : x = ((x.toNat.toUInt8).toNat : Int) := by rw [u8_of x h0 h1]; omega

set_option maxHeartbeats 1000000 in
set_option maxRecDepth 100000 in
theorem dwr_any (r : Int) (h : isR r) (w : World) : Calls Tryd.prog 53 #[.int .i32 r] w fun e w' => e = .returned (.slice (some ⟨w.heap.size, 0, none⟩) (Lib.encodeRune r).length (Lib.encodeRune r).length) ∧ w' = w.alloc (.cells (rowV (Lib.encodeRune r)) 5) := by
  obtain ⟨h0, h1, h2⟩ := h
  unfold Lib.encodeRune
  by_cases c1 : r < 128
  · rw [Lib.encodeRuneZ_one h0 (by omega)]
    have e1 := u8c r h0 (by omega)
    have w1 : IntKind.u8.wrap r = r := by rw [IntKind.wrap_u8]; omega
    have HE : Hid (rowV ([r].map fun x => x.toNat.toUInt8) = #[.int .u8 r]) := by show _ = _; simp [rowV, cellsB]; omega
    have HLN : Hid (([r].map fun x => x.toNat.toUInt8).length = 1) := rfl
    generalize ([r].map fun x => x.toNat.toUInt8) = E at HE HLN ⊢
    clear e1
    go_enter Tryd.func53, Tryd.ntmps53
    go_wp2
    go_ret
    exact ⟨by rw [HLN.out]; rfl, by rw [HE.out]⟩
  by_cases c2 : r < 2048
  · rw [Lib.encodeRuneZ_two (by omega) (by omega)]
    have t1 : r.tdiv 64 = r / 64 := Int.tdiv_eq_ediv_of_nonneg h0
    have t2 : r.tmod 64 = r % 64 := Int.tmod_eq_emod_of_nonneg h0
    have w1 : IntKind.u8.wrap (192 + r / 64) = 192 + r / 64 := by rw [IntKind.wrap_u8]; omega
    have w2 : IntKind.u8.wrap (128 + r % 64) = 128 + r % 64 := by rw [IntKind.wrap_u8]; omega
    have HE : Hid (rowV ([192 + r / 64, 128 + r % 64].map fun x => x.toNat.toUInt8) = #[.int .u8 (192 + r / 64), .int .u8 (128 + r % 64)]) := by show _ = _; simp [rowV, cellsB]; omega
    have HLN : Hid (([192 + r / 64, 128 + r % 64].map fun x => x.toNat.toUInt8).length = 2) := rfl
    generalize ([192 + r / 64, 128 + r % 64].map fun x => x.toNat.toUInt8) = E at HE HLN ⊢
    go_enter Tryd.func53, Tryd.ntmps53
    go_wp2
    go_ret
    exact ⟨by rw [HLN.out]; rfl, by rw [HE.out]⟩
  by_cases c3 : r < 65536
  · rw [Lib.encodeRuneZ_three (by omega)]
    have t1 : r.tdiv 64 = r / 64 := Int.tdiv_eq_ediv_of_nonneg h0
    have t2 : r.tmod 64 = r % 64 := Int.tmod_eq_emod_of_nonneg h0
    have t3 : r.tdiv 4096 = r / 4096 := Int.tdiv_eq_ediv_of_nonneg h0
    have t4 : (r / 64).tmod 64 = r / 64 % 64 := Int.tmod_eq_emod_of_nonneg (by omega)
    have w1 : IntKind.u8.wrap (224 + r / 4096) = 224 + r / 4096 := by rw [IntKind.wrap_u8]; omega
    have w2 : IntKind.u8.wrap (128 + r / 64 % 64) = 128 + r / 64 % 64 := by rw [IntKind.wrap_u8]; omega
    have w3 : IntKind.u8.wrap (128 + r % 64) = 128 + r % 64 := by rw [IntKind.wrap_u8]; omega
    have HE : Hid (rowV ([224 + r / 4096, 128 + r / 64 % 64, 128 + r % 64].map fun x => x.toNat.toUInt8) = #[.int .u8 (224 + r / 4096), .int .u8 (128 + r / 64 % 64), .int .u8 (128 + r % 64)]) := by show _ = _; simp [rowV, cellsB]; omega
    have HLN : Hid (([224 + r / 4096, 128 + r / 64 % 64, 128 + r % 64].map fun x => x.toNat.toUInt8).length = 3) := rfl
    generalize ([224 + r / 4096, 128 + r / 64 % 64, 128 + r % 64].map fun x => x.toNat.toUInt8) = E at HE HLN ⊢
    go_enter Tryd.func53, Tryd.ntmps53
    go_wp2
    go_ret
    exact ⟨by rw [HLN.out]; rfl, by rw [HE.out]⟩
  · rw [Lib.encodeRuneZ_four (by omega) (by omega)]
    have t1 : r.tdiv 64 = r / 64 := Int.tdiv_eq_ediv_of_nonneg h0
    have t2 : r.tmod 64 = r % 64 := Int.tmod_eq_emod_of_nonneg h0
    have t3 : r.tdiv 4096 = r / 4096 := Int.tdiv_eq_ediv_of_nonneg h0
    have t4 : (r / 64).tmod 64 = r / 64 % 64 := Int.tmod_eq_emod_of_nonneg (by omega)
    have t5 : r.tdiv 262144 = r / 262144 := Int.tdiv_eq_ediv_of_nonneg h0
    have t6 : (r / 4096).tmod 64 = r / 4096 % 64 := Int.tmod_eq_emod_of_nonneg (by omega)
    have w1 : IntKind.u8.wrap (240 + r / 262144) = 240 + r / 262144 := by rw [IntKind.wrap_u8]; omega
    have w2 : IntKind.u8.wrap (128 + r / 4096 % 64) = 128 + r / 4096 % 64 := by rw [IntKind.wrap_u8]; omega
    have w3 : IntKind.u8.wrap (128 + r / 64 % 64) = 128 + r / 64 % 64 := by rw [IntKind.wrap_u8]; omega
    have w4 : IntKind.u8.wrap (128 + r % 64) = 128 + r % 64 := by rw [IntKind.wrap_u8]; omega
    have HE : Hid (rowV ([240 + r / 262144, 128 + r / 4096 % 64, 128 + r / 64 % 64, 128 + r % 64].map fun x => x.toNat.toUInt8) = #[.int .u8 (240 + r / 262144), .int .u8 (128 + r / 4096 % 64), .int .u8 (128 + r / 64 % 64), .int .u8 (128 + r % 64)]) := by show _ = _; simp [rowV, cellsB]; omega
    have HLN : Hid (([240 + r / 262144, 128 + r / 4096 % 64, 128 + r / 64 % 64, 128 + r % 64].map fun x => x.toNat.toUInt8).length = 4) := rfl
    generalize ([240 + r / 262144, 128 + r / 4096 % 64, 128 + r / 64 % 64, 128 + r % 64].map fun x => x.toNat.toUInt8) = E at HE HLN ⊢
    go_enter Tryd.func53, Tryd.ntmps53
    go_wp2
    go_ret
    exact ⟨by rw [HLN.out]; rfl, by rw [HE.out]⟩

set_option maxHeartbeats 1000000 in
set_option maxRecDepth 100000 in
theorem dlead_any (n : Nat) (hn : n ≤ 4) (w : World) : Calls Tryd.prog 91 #[.int .i64 n] w fun e w' => e = .returned (.int .i64 (leadN n)) ∧ w' = w.alloc (.cells #[.int .i64 0, .int .i64 0, .int .i64 192, .int .i64 224, .int .i64 240] 3) := by
  match n, hn with
  | 0, _ => go_enter Tryd.func91, Tryd.ntmps91; go_wp2; go_ret; exact ⟨rfl, rfl⟩
  | 1, _ => go_enter Tryd.func91, Tryd.ntmps91; go_wp2; go_ret; exact ⟨rfl, rfl⟩
  | 2, _ => go_enter Tryd.func91, Tryd.ntmps91; go_wp2; go_ret; exact ⟨rfl, rfl⟩
  | 3, _ => go_enter Tryd.func91, Tryd.ntmps91; go_wp2; go_ret; exact ⟨rfl, rfl⟩
  | 4, _ => go_enter Tryd.func91, Tryd.ntmps91; go_wp2; go_ret; exact ⟨rfl, rfl⟩
end Go.Proofs.YtdgepnfgjgbkoaaDoor
/-
  The document's Encode.
-/
namespace Go.Proofs.YtdgepnfgjgbkoaaDoor
open Go.RowKit

theorem bts_new (w : World) (l : List UInt8) : Bts (some ⟨w.heap.size, 0, none⟩) l (w.alloc (.cells (rowV l) 5)) := by
  refine .inr ⟨w.heap.size, 0, rfl, by simp, fun j hj => ?_⟩
  rw [Nat.zero_add, (Lies.new w (rowV l) 5).cell j, rowV_at l j hj]
end Go.Proofs.YtdgepnfgjgbkoaaDoor
