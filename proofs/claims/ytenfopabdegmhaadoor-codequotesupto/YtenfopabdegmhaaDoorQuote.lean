/-
  The program's Quote.
-/
import Derived.Test.YtenfopabdegmhaaDoorQLine
import Derived.Shelf.Bytes.SlCut
namespace Go.Proofs.YtenfopabdegmhaaDoor
open Go.RowKit

theorem idx_crlf (l : List UInt8) : Lib.index l [13, 10] = match crlf l with | none => -1 | some i => (i : Int) := by
  induction l with
  | nil => rfl
  | cons c r ih =>
    unfold Lib.index
    by_cases h : ([13, 10] : List UInt8).isPrefixOf (c :: r) = true
    · rw [if_pos h]
      obtain ⟨t, ht⟩ := List.isPrefixOf_iff_prefix.1 h
      rw [← ht]
      rfl
    · rw [if_neg h]
      have hc : crlf (c :: r) = (crlf r).map (· + 1) := crlf.eq_2 c r (fun tail e1 e2 => h (by subst e1 e2; rfl))
      rw [hc, ih]
      cases crlf r with
      | none => rfl
      | some i =>
        simp only [Option.map_some]
        rw [if_neg (by simp)]
        push_cast
        rfl

/-- bytes.Cut at CR LF. -/
def cutT (p : Option Addr) (n c : Nat) (l : List UInt8) : Value := match crlf l with
  | some i => .tuple #[.slice p i c, Lib.fromV p n c (i + 2), .bool true]
  | none => .tuple #[.slice p n c, .slice none 0 0, .bool false]
theorem cut_any (p : Option Addr) (l : List UInt8) (n c : Nat) (q : Nat) (m : Int) (w : World) (hn : n = l.length) (hb : Bts p l w) (hs : Bts (some ⟨q, 0, none⟩) [13, 10] w) (hp : p = none → c = 0) (hcap : n ≤ c) (hl : n < 4294967281) (hm : w.cell? ⟨0, 0, none⟩ = some (.int .i64 m)) :
    Calls Tryd.prog 16 #[.slice p n c, .slice (some ⟨q, 0, none⟩) 2 2] w fun e w' => e = .returned (cutT p n c l) ∧ ∃ k, w' = w.drewN k := by
  have hbo : ∀ x : List UInt8, Lib.bytesOf (x.map fun b => (b.toNat : Int)) = x := fun x => by
    unfold Lib.bytesOf
    rw [List.map_map]
    conv => rhs; rw [← List.map_id x]
    apply List.map_congr_left
    intro b _
    simp
  have hin : ∀ (a : Option Addr) (x : List UInt8), Bts a x w → Lib.BytesIn w a x.length (x.map fun b => (b.toNat : Int)) := fun a x hx => by
    intro h0
    rcases hx with rfl | ⟨g, o, e, hg, hr⟩
    · simp at h0
    · refine ⟨g, o, e, fun i hi => ?_⟩
      rw [hr i hi, List.getD_eq_getElem?_getD, List.getElem?_map, List.getElem?_eq_getElem hi]
      rfl
  have h := Tryd.bytes_Cut_all p (some ⟨q, 0, none⟩) n c 2 2 (l.map fun b => (b.toNat : Int)) [13, 10] m w (by rw [List.length_map, hn]) rfl
    (fun x hx => by rw [List.mem_map] at hx; obtain ⟨b, _, rfl⟩ := hx; have := b.toNat_lt; omega) (fun y hy => by simp at hy; omega) (by rw [hn]; exact hin p l hb) (hin _ [13, 10] hs) hp hcap hl (by omega) hm
  refine h.mono ?_
  rintro e w' ⟨rfl, hw⟩
  refine ⟨?_, hw⟩
  congr 1
  have e2 : Lib.bytesOf [13, 10] = [13, 10] := rfl
  rw [hbo, e2, idx_crlf]
  unfold cutT Lib.cutV
  cases crlf l with
  | none => rfl
  | some i =>
    simp only
    rw [if_pos (by omega)]
    rfl

/-- What is left of a list. -/
theorem bts_from (p : Option Addr) (n c j : Nat) (l : List UInt8) (w : World) (hb : Bts p l w) (hn : n = l.length) (hc : n ≤ c) : Bts (if c = j then p else p.map (fun x => x.add j)) (l.drop j) w := by
  rcases hb with rfl | ⟨g, o, rfl, hg, hr⟩
  · exact .inl (by simp)
  · by_cases h : l.length ≤ j
    · exact .inl (List.drop_eq_nil_of_le h)
    · rw [if_neg (by omega)]
      refine .inr ⟨g, o + j, by simp [Addr.add_lit], hg, fun i hi => ?_⟩
      rw [List.length_drop] at hi
      rw [Nat.add_assoc, hr (j + i) (by omega), List.getElem_drop]
/-- Two bytes and a mark. -/
theorem crlf_bts (w : World) : Bts (some ⟨w.heap.size, 0, none⟩) [13, 10] (w.alloc (.cells #[.int .u8 13, .int .u8 10] 5 (2, 3))) := const_bts w [13, 10] (2, 3)
/-- What bytes.Cut hands back of a list that lies in the world w. -/
structure CutR (w : World) (a : Option Addr) (n cap : Nat) (l : List UInt8) (i : Nat) (y : Option Addr) (m c : Nat) (mr : Bool) (L1 R : List UInt8) : Prop where
  val : cutT a n cap l = .tuple #[.slice a i cap, .slice y m c, .bool mr]
  len1 : i = L1.length
  fit1 : i ≤ cap
  bts1 : Bts a L1 w
  size : L1.length ≤ l.length
  yes : mr = true → m = R.length ∧ Bts y R w ∧ (y = none → c = 0) ∧ R.length ≤ c ∧ c ≤ cap ∧ quoteL l = qrow 0 L1 ++ 13 :: 10 :: quoteL R ∧ L1.length + 2 + R.length = l.length ∧ (R ≠ [] → ∀ ad, y = some ad → ∀ ae, a = some ae → ad.block = ae.block)
  no : mr = false → quoteL l = qrow 0 L1
theorem cut_spec (w : World) (a : Option Addr) (n cap : Nat) (l : List UInt8) (hn : n = l.length) (hb : Bts a l w) (hnn : a = none → cap = 0) (hcap : n ≤ cap) : ∃ i y m c mr L1 R, CutR w a n cap l i y m c mr L1 R := by
  cases hc : crlf l with
  | none =>
    refine ⟨n, none, 0, 0, false, l, [], ⟨by unfold cutT; rw [hc], hn, hcap, hb, Nat.le_refl _, (fun h => by cases h), fun _ => quote_none l hc⟩⟩
  | some i =>
    have hi := crlf_lt l i hc
    refine ⟨i, _, n - (i + 2), cap - (i + 2), true, l.take i, l.drop (i + 2), ⟨by unfold cutT; rw [hc]; rfl, by rw [List.length_take]; omega, by omega, hb.take i, by rw [List.length_take]; omega, fun _ => ⟨by rw [List.length_drop]; omega, bts_from a n cap (i + 2) l w hb hn hcap, ?_, by rw [List.length_drop]; omega, by omega, quote_some l i hc, by rw [List.length_take, List.length_drop]; omega, ?_⟩, fun h => by cases h⟩⟩
    · intro h
      split at h
      · have := hnn h
        omega
      · cases a with
        | none => have := hnn rfl; omega
        | some ad => cases h
    · intro _ ad h1 ae h2
      subst h2
      split at h1
      · injection h1 with h1
        rw [h1]
      · simp only [Option.map_some, Option.some.injEq] at h1
        rw [← h1]
        unfold Addr.add
        split <;> rfl
def moreLen : Value → Value → Nat
  | .bool true, .slice _ m _ => m + 1
  | _, _ => 0

set_option maxHeartbeats 4000000 in
set_option maxRecDepth 100000 in
theorem quote_any (a : Option Addr) (l : List UInt8) (cap n : Nat) (m : Int) (w : World) (ht : Table w) (hm : w.cell? ⟨0, 0, none⟩ = some (.int .i64 m)) (hn : n = l.length) (hb : Bts a l w) (hnn : a = none → cap = 0) (hcap : l.length ≤ cap) (hcap2 : cap ≤ 9223372036854775807) (hl : l.length ≤ 104857600) :
    Calls Tryd.prog 7 #[.slice a n cap] w fun e w' => e = .returned (.string ⟨(quoteL l).toArray⟩) ∧ Below w.heap.size w w' := by
  obtain ⟨i0, hi, hz0, hz1, hz2⟩ := info_parts info5
  have HT : Hid (Table w) := ht
  have HMX : Hid (w.cell? ⟨0, 0, none⟩ = some (.int .i64 m)) := hm
  have HBT : Hid (Bts a l w) := hb
  have HN : Hid (n = l.length) := hn
  have HTK : Hid (∀ w', Below w.heap.size w w' → Table w') := fun w' h => ht.keep h
  have HG1 : Hid (1 < w.heap.size) := World.block_lt_of_cell? w _ (ht 0 (by omega))
  have HG0 : Hid (0 < w.heap.size) := World.block_lt_of_cell? w _ hm
  have HMK : Hid (∀ w', Below w.heap.size w w' → w'.cell? ⟨0, 0, none⟩ = some (.int .i64 m)) := fun w' h => (h.cell (p := ⟨0, 0, none⟩) HG0.out).trans hm
  have hql := quote_len l
  rw [← hn] at hl hcap hql
  clear ht hm hb hn
  have hcv : ∀ (w : World) (n c : Nat), (convert 22 22 (.slice (some ⟨w.heap.size, 0, none⟩) n c)).run Tryd.prog (w.alloc (.cells #[.int .u8 13, .int .u8 10] 5)) = .ok (.slice (some ⟨w.heap.size, 0, none⟩) n c) (w.alloc (.cells #[.int .u8 13, .int .u8 10] 5 (2, 3))) := fun w n c => Lib.run_convert_bytes_const (P := Tryd.prog) w 22 5 #[.int .u8 13, .int .u8 10] n c Tryd.underlying22 Tryd.underlying5
  go_enter Tryd.func7, Tryd.ntmps7
  go_wp2_with (at_make; refine wpList_make_own _ rfl _ _ 22 rfl w.heap.size 5 i0 (.int .u8 0) 1 Tryd.underlying22 hi hz0 hz1 .i64 .i64 _ n rfl rfl (by omega) (by rw [hz2]; omega) (by unfold maxLen; omega) (Nat.le_refl _) ?_)
  intro w1 hown hgrow
  have HB1 : Hid (Below w.heap.size w w1) := (Below.refl _ _).grown hgrow (Nat.le_refl _) (fun k h => by cases h)
  have HO1 : Hid (w1.ownsRow w.heap.size 5 1 (.slice (some ⟨w.heap.size, 0, none⟩) 0 n) ([] : List UInt8).length (cellsB [])) := hown
  clear hgrow hown
  go_wp2_with fail
  have HB2 : Hid (Below w.heap.size w (w1.alloc (.cells #[.int .u8 13, .int .u8 10] 5 (2, 3)))) := HB1.out.alloc HB1.out.size _
  refine (cut_any a l n cap w1.heap.size m (w1.alloc (.cells #[.int .u8 13, .int .u8 10] 5 (2, 3))) HN.out (HBT.out.below HB2.out) (crlf_bts w1) hnn hcap (by omega) (HMK.out _ HB2.out)).mono ?_
  rintro e w2 ⟨rfl, qq, hw2⟩
  have HB3 : Hid (Below w.heap.size w w2) := by
    rw [hw2]
    exact ⟨HB2.out.os, HB2.out.tape, HB2.out.output, HB2.out.size, HB2.out.block⟩
  have HO3 : Hid (w2.ownsRow w.heap.size 5 1 (.slice (some ⟨w.heap.size, 0, none⟩) 0 n) ([] : List UInt8).length (cellsB [])) := by
    rw [hw2]
    exact HO1.out.alloc _
  clear hw2 HB2 HB1 HO1
  obtain ⟨i, y, m', c', mr, L1, R, HCR⟩ := cut_spec w a n cap l HN.out HBT.out hnn hcap
  rw [HCR.val]
  have HC : Hid (CutR w a n cap l i y m' c' mr L1 R) := HCR
  have HAB : Hid (∀ L : List UInt8, L ≠ [] → Bts a L w → ∀ ad, a = some ad → ad.block < w.heap.size) := fun L hL hb ad e => by
    rcases hb with h | ⟨g, o, e2, hg, _⟩
    · exact absurd h hL
    · rw [e2] at e
      injection e with e
      rw [← e]
      exact hg
  have hs1 := HCR.size
  have hf1 := HCR.fit1
  rw [← HN.out] at hs1
  clear HCR
  go_wp2_with fail
  refine (qline_any w.heap.size _ [] a L1 cap i w2 (HTK.out _ HB3.out) HO3.out HB3.out.size HC.out.len1 (HC.out.bts1.below HB3.out) hf1 hcap2 (fun h => HAB.out L1 h HC.out.bts1) (by simp; omega) HG1.out).mono ?_
  rintro e w3 ⟨v3, rfl, ho3, hb3⟩
  have HO4 : Hid (w3.ownsRow w.heap.size 5 1 v3 (qrow 0 L1).length (cellsB (qrow 0 L1))) := ho3
  have HB4 : Hid (Below w.heap.size w w3) := HB3.out.trans hb3
  clear ho3 hb3 HO3 HB3
  go_wp2_with fail
  go_loopw [3, 5, 6] (fun v x mo wr => ∃ (D R : List UInt8) (y : Option Addr) (k c : Nat) (mr : Bool), mo = .bool mr ∧ x = .slice y k c ∧ Hid (wr.ownsRow w.heap.size 5 1 v D.length (cellsB D)) ∧ Hid (Below w.heap.size w wr) ∧ D.length ≤ 8 * n ∧
      Hid (mr = true → D.length + 8 * R.length + 16 ≤ 8 * n ∧ k = R.length ∧ Bts y R w ∧ (y = none → c = 0) ∧ R.length ≤ c ∧ c ≤ cap ∧ D ++ 13 :: 10 :: quoteL R = quoteL l) ∧ Hid (mr = false → D = quoteL l)) (fun _ x mo _ => moreLen mo x)
  case atStart =>
    refine ⟨qrow 0 L1, R, y, m', c', mr, rfl, rfl, HO4, HB4, ?_, ?_, ?_⟩
    · have := qrow_len L1 0
      omega
    · intro h
      obtain ⟨h1, h2, h3, h4, h5, h6, h7, h8⟩ := HC.out.yes h
      have := qrow_len L1 0
      have hll := HN.out
      exact ⟨by omega, h1, h2, h3, h4, h5, h6.symm⟩
    · intro h
      exact (HC.out.no h).symm
  case round =>
    clear HO4 HB4 hs1 hf1 HC
    obtain ⟨D, R, y, k, c, mr, rfl, rfl, HO, HBe, hdl, HY, HNo⟩ := hrel
    cases mr with
    | false =>
      have HE : Hid (D = quoteL l) := HNo.out rfl
      have hbk := own_conv HO.out
      clear HY HNo
      go_wp2
      go_ret
      exact ⟨by rw [HE.out]; rfl, HBe.out⟩
    | true =>
      obtain ⟨h0, h1, h2, h3, h4, h5, h6⟩ := HY.out rfl
      have HR : Hid (Bts y R w) := h2
      have HK : Hid (k = R.length) := h1
      have HQ : Hid (D ++ 13 :: 10 :: quoteL R = quoteL l) := h6
      rw [← h1] at h4 h0
      clear HY HNo h2 h6 h1
      go_wp2_with fail
      have HB2 : Hid (Below w.heap.size w (wr.alloc (.cells #[.int .u8 13, .int .u8 10] 5 (2, 3)))) := HBe.out.alloc HBe.out.size _
      refine (cut_any y R k c wr.heap.size m (wr.alloc (.cells #[.int .u8 13, .int .u8 10] 5 (2, 3))) HK.out (HR.out.below HB2.out) (crlf_bts wr) h3 h4 (by omega) (HMK.out _ HB2.out)).mono ?_
      rintro e w2 ⟨rfl, qq, hw2⟩
      have HB3 : Hid (Below w.heap.size w w2) := by
        rw [hw2]
        exact ⟨HB2.out.os, HB2.out.tape, HB2.out.output, HB2.out.size, HB2.out.block⟩
      have HO3 : Hid (w2.ownsRow w.heap.size 5 1 u3 D.length (cellsB D)) := by
        rw [hw2]
        exact HO.out.alloc _
      clear hw2 HB2 HBe HO
      obtain ⟨i, y', m', c', mr, L1, R', HCR⟩ := cut_spec w y k c R HK.out HR.out h3 h4
      rw [HCR.val]
      have HC : Hid (CutR w y k c R i y' m' c' mr L1 R') := HCR
      have HYB : Hid (L1 ≠ [] → ∀ ad, y = some ad → ad.block < w.heap.size) := fun hL ad e => by
        rcases HCR.bts1 with h | ⟨g, o, e2, hg, _⟩
        · exact absurd h hL
        · rw [e2] at e
          injection e with e
          rw [← e]
          exact hg
      have hs1 := HCR.size
      have hf1 := HCR.fit1
      rw [← HK.out] at hs1
      clear HCR
      obtain ⟨dl, hdle⟩ : ∃ dl, dl = D.length := ⟨_, rfl⟩
      have HDL : Hid (dl = D.length) := hdle
      rw [← hdle] at h0 hdl HO3
      clear hdle
      go_wp2_with (at_builtin; refine Lib.wpList_append_own_string _ rfl _ _ 22 9 rfl w.heap.size 5 i0 Tryd.underlying22 Tryd.underlying9 hi hz0 hz1 hz2 _ _ _ rfl HO3.out ⟨#[13, 10]⟩ rfl (by unfold maxLen; have h2 : (⟨#[13, 10]⟩ : ByteArray).size = 2 := rfl; omega) (by have h2 : (⟨#[13, 10]⟩ : ByteArray).size = 2 := rfl; omega) HB3.out.size ?_; intro v4 w4 ho4 hg4 _; have HO4 : Hid (w4.ownsRow w.heap.size 5 1 v4 (dl + 2) (cellsB D ++ cellsB [13, 10])) := ho4; have HB4 : Hid (Below w.heap.size w w4) := HB3.out.grown hg4 HB3.out.size (fun q hq => (HO3.out.lt q hq).1); clear ho4 hg4)
      have HO5 : Hid (w4.ownsRow w.heap.size 5 1 v4 (D ++ [13, 10]).length (cellsB (D ++ [13, 10]))) := by
        show World.ownsRow _ _ _ _ _ _ _
        rw [List.length_append, cellsB_append, ← HDL.out]
        exact HO4.out
      refine (qline_any w.heap.size _ (D ++ [13, 10]) y L1 c i w4 (HTK.out _ HB4.out) HO5.out HB4.out.size HC.out.len1 (HC.out.bts1.below HB4.out) hf1 (by omega) HYB.out (by rw [List.length_append, ← HDL.out]; show dl + 2 + _ ≤ _; omega) HG1.out).mono ?_
      rintro e w5 ⟨v5, rfl, ho5, hb5⟩
      have HO6 : Hid (w5.ownsRow w.heap.size 5 1 v5 (D ++ [13, 10] ++ qrow 0 L1).length (cellsB (D ++ [13, 10] ++ qrow 0 L1))) := ho5
      have HB6 : Hid (Below w.heap.size w w5) := HB4.out.trans hb5
      clear ho5 hb5 HO4 HO5 HB4 HO3 HB3
      have hq1 := qrow_len L1 0
      have HLN : Hid ((D ++ [13, 10] ++ qrow 0 L1).length ≤ dl + 2 + 6 * L1.length) := by
        show _ ≤ _
        rw [List.length_append, List.length_append, ← HDL.out]
        show dl + 2 + _ ≤ _
        omega
      go_wp2
      refine ⟨⟨D ++ [13, 10] ++ qrow 0 L1, R', y', m', c', mr, rfl, rfl, HO6, HB6, ?_, ?_, ?_⟩, ?_⟩
      · have := HLN.out
        omega
      · intro h
        obtain ⟨g1, g2, g3, g4, g5, g6, g7, g8⟩ := HC.out.yes h
        have hkk := HK.out
        have := HLN.out
        refine ⟨by omega, g1, g2, g3, g4, by omega, ?_⟩
        rw [← HQ.out, g6]
        simp
      · intro h
        rw [← HQ.out, HC.out.no h]
        simp
      · cases mr with
        | false => exact Nat.succ_pos _
        | true =>
          obtain ⟨g1, g2, g3, g4, g5, g6, g7, g8⟩ := HC.out.yes rfl
          show m' + 1 < k + 1
          have hkk := HK.out
          omega
end Go.Proofs.YtenfopabdegmhaaDoor
