/-
  The program's reading of a sign of quoted-printable text, and Unquote.
-/
import Derived.Test.YtenfopabdegmhaaDoorUq
namespace Go.Proofs.YtenfopabdegmhaaDoor
open Go.RowKit

theorem UqAt.grown {w w' : World} {g B : Nat} {s : ByteArray} {i r : Nat} {b : Bool} {v : Value} {X : List UInt8} (h : UqAt w g B s i r b v X) (hg : w.grownBy w' v.ownBlock) : Lies w' g (uqC s i r b v) 42 := (hg.block g h.lies.lt (fun e => h.ne g e.symm rfl)).trans h.lies
theorem uq_cells {w : World} {g : Nat} {s : ByteArray} {i r : Nat} {b : Bool} {v : Value} (h : Lies w g (uqC s i r b v) 42) : w.cell? ⟨g, 1, none⟩ = some (.int .i64 (i : Int)) ∧ w.cell? ⟨g, 3, none⟩ = some (.bool b) ∧ w.cell? ⟨g, 4, none⟩ = some v ∧ w.frozen? ⟨g, 1, none⟩ = false ∧ w.frozen? ⟨g, 3, none⟩ = false ∧ w.frozen? ⟨g, 4, none⟩ = false :=
  ⟨h.cell 1, h.cell 3, h.cell 4, h.frozen 1, h.frozen 3, h.frozen 4⟩
theorem eq_byte (c : UInt8) (n : Nat) (hn : n < 256) : ((c.toNat : Int) == (n : Int)) = decide (c = UInt8.ofNat n) := by
  rw [Bool.eq_iff_iff]
  simp only [beq_iff_eq, decide_eq_true_eq]
  constructor
  · intro h
    refine UInt8.toNat_inj.1 ?_
    rw [UInt8.toNat_ofNat']
    omega
  · intro h
    rw [h, UInt8.toNat_ofNat']
    omega

set_option maxHeartbeats 4000000 in
set_option maxRecDepth 100000 in
theorem usign_any (g B : Nat) (s : ByteArray) (i r : Nat) (b : Bool) (v : Value) (X : List UInt8) (h0 : UInt8) (w : World) (ht : Table w) (hgcl : 1 < B) (h : UqAt w g B s i r b v X) (hs : s.size ≤ 140737488355000) (hi : i < s.size) (hri : r ≤ i) (hX : X.length ≤ i) (hB : B ≤ g) (hBw : B ≤ w.heap.size)
    (hm : runM q0 (s.data.toList.take i) = some ⟨if b then 1 else 0, i - r, h0, X⟩) :
    Calls Tryd.prog 21 #[.pointer (some ⟨g, 0, none⟩)] w fun e w' => ∃ ok i' r' b' v' X', e = .returned (.bool ok) ∧ Below B w w' ∧ UqAt w' g B s i' r' b' v' X' ∧ (ok = true → i < i') ∧ UqGo s ok i' r' b' X' := by
  obtain ⟨i0, hi0, hz0, hz1, hz2⟩ := info_parts info5
  obtain ⟨c0, c1, c2, c3, c4⟩ := h.cells
  have HH : Hid (UqAt w g B s i r b v X) := h
  have HL : Hid (s.data.toList.length = s.size) := len_list s
  have hil : i < s.data.toList.length := by rw [HL.out]; exact hi
  have HT : Hid (Table w) := ht
  obtain ⟨c, hc⟩ : ∃ c, c = s.data.toList[i] := ⟨_, rfl⟩
  have hix : s[i] = c := by rw [hc, at_list]
  have HIX : Hid (s[i]? = some c) := by
    show s.data[i]? = some c
    rw [Array.getElem?_eq_getElem hi]
    exact congrArg some hix
  obtain ⟨p, hp⟩ : ∃ p, p = i - r := ⟨_, rfl⟩
  rw [← hp] at hm
  have HM : Hid (runM q0 (s.data.toList.take i) = some ⟨if b then 1 else 0, p, h0, X⟩) := hm
  have hk1 : (if b then 1 else 0) ≤ 1 := by split <;> omega
  have hpi : (i : Int) - (r : Int) = (p : Int) := by omega
  have HIS : Hid (∀ wx : World, Table wx → Calls Tryd.prog 32 #[.int .i64 8, .int .u8 (c.toNat : Int)] wx fun e w' => e = .returned (.bool (valB c)) ∧ w' = wx) := fun wx htx => by
    have := is_any 8 (c.toNat : Int) wx htx
    rw [val_is] at this
    exact this
  have HBL : Hid (∀ wx : World, Calls Tryd.prog 31 #[.int .u8 (c.toNat : Int)] wx fun e w' => e = .returned (.bool (blkB c)) ∧ w' = wx) := fun wx => isblank_any c wx
  have e61 : ((c.toNat : Int) == 61) = decide (c = 61) := eq_byte c 61 (by omega)
  have e13 : ((c.toNat : Int) == 13) = decide (c = 13) := eq_byte c 13 (by omega)
  clear h hm ht
  go_enter Tryd.func21, Tryd.ntmps21
  go_wp2_with fail
  go_quiet (fail)
  have hcd : s.data[i] = c := hix
  rw [hcd, ← hp]
  have H1 : Hid (UqAt (w.drewN nq) g B s i r b v X) := HH.out.drewN _
  have HT1 : Hid (Table (w.drewN nq)) := HT.out
  have HB1 : Hid (Below B w (w.drewN nq)) := below_drewN (Below.refl _ _) _
  clear c0 c1 c2 c3 c4 HH HT hcd HIX hix hpi
  generalize w.drewN nq = w1 at H1 HT1 HB1 ⊢
  have HC : Hid (c = s.data.toList[i]) := hc
  have HPR : Hid (p = i - r) := hp
  have hz1' : B ≤ w1.heap.size := Nat.le_trans hBw HB1.out.size
  have HSAY : Hid (∀ (d : UInt8) (w7 : World) (v7 : Value) (k : Bool), (w1.alloc (.cells #[.int .u8 (d.toNat : Int)] 5)).grownBy w7 v.ownBlock → w7.ownsRow B 5 1 v7 (X.length + 1) (cellsB (X ++ [d])) →
      Below B w (((w7.setCell ⟨g, 4, none⟩ v7).setCell ⟨g, 1, none⟩ (.int .i64 ((i : Int) + 1))).setCell ⟨g, 3, none⟩ (.bool k)) ∧ UqAt (((w7.setCell ⟨g, 4, none⟩ v7).setCell ⟨g, 1, none⟩ (.int .i64 ((i : Int) + 1))).setCell ⟨g, 3, none⟩ (.bool k)) g B s (i + 1) r k v7 (X ++ [d])) := fun d w7 v7 k hg ho => by
    have ho8 : w7.ownsRow B 5 1 v7 (X ++ [d]).length (cellsB (X ++ [d])) := by rw [List.length_append]; exact ho
    refine ⟨below_put (below_put (below_put ((HB1.out.alloc hz1' _).grown hg (by simp; omega) (fun q hq => (H1.out.own.lt q hq).1)) hB 4 _) hB 1 _) hB 3 _, ?_⟩
    exact ((((H1.out.alloc _).said hg ho8).setAt (i + 1) _ (by push_cast; rfl)).setBlank k)
  have HONE : Hid (∀ d : UInt8, Bts (some ⟨w1.heap.size, 0, none⟩) [d] (w1.alloc (.cells #[.int .u8 (d.toNat : Int)] 5))) := fun d => .inr ⟨w1.heap.size, 0, rfl, by simp, fun j hj => by
    obtain rfl : j = 0 := by simpa using hj
    simp⟩
  have HGR : Hid (∀ (d : UInt8) (w7 : World), (w1.alloc (.cells #[.int .u8 (d.toNat : Int)] 5)).grownBy w7 v.ownBlock → Lies w7 g (uqC s i r b v) 42) := fun d w7 hg => (H1.out.alloc _).grown hg
  have hza : B ≤ (w1.alloc (.cells #[.int .u8 (c.toNat : Int)] 5)).heap.size := by simp; omega
  have hxa : (w1.alloc (.cells #[.int .u8 (c.toNat : Int)] 5)).ownsRow B 5 1 v X.length (cellsB X) := (H1.out.alloc _).own
  have HXA : Hid _ := hxa
  have HZA : Hid (B ≤ (w1.alloc (.cells #[.int .u8 (c.toNat : Int)] 5)).heap.size) := hza
  clear hc hp hxa hza
  by_cases hV : valB c = true ∧ p ≤ 75
  · obtain ⟨hv, hp75⟩ := hV
    have hbl := (val_not c hv).2.2
    rw [hv] at HIS
    rw [hbl] at HBL
    have hge : (1 : Int) ≤ 76 - (p : Int) := by omega
    have HMM : Hid (runM q0 (s.data.toList.take (i + 1)) = some ⟨0, p + 1, 0, X ++ [c]⟩) := by
      have := m_val HM.out hk1 hil (by rw [← HC.out]; exact hv) hp75
      rw [← HC.out] at this
      exact this
    clear hv hbl e61 e13
    obtain ⟨_, _, _, _, c4⟩ := H1.out.cells
    go_wp2_with (first
      | (go_at_call 31; refine Calls.mono (HBL.out _) ?_; rintro e w1 ⟨rfl, rfl⟩)
      | (go_at_call 32; refine Calls.mono (HIS.out _ HT1.out) ?_; rintro e w1 ⟨rfl, rfl⟩)
      | (at_builtin; refine wpList_append_keep rfl _ _ rfl B v X.length X rfl HXA.out (some ⟨_, 0, none⟩) [c] 1 1 rfl rfl (HONE.out c) (fun e => by cases e) (by omega) HZA.out ?_))
    intro v7 w7 ho7 hg7
    obtain ⟨a7, k7, rfl⟩ := own_shape ho7
    obtain ⟨d1, d3, d4, f1, f3, f4⟩ := uq_cells (HGR.out c w7 hg7)
    have HS7 : Hid _ := HSAY.out c w7 _ false hg7 ho7
    clear ho7 hg7 c4
    go_wp2
    go_ret
    refine ⟨true, i + 1, r, false, _, X ++ [c], rfl, HS7.out.1, HS7.out.2, fun _ => by omega, by omega, fun _ => ⟨by omega, by simp; omega, 0, ?_⟩, fun hf => by (cases hf)⟩
    rw [HMM.out, HPR.out]
    simp
    omega
  cases hv : valB c with
  | true =>
    have hbl := (val_not c hv).2.2
    have n61 := (val_not c hv).2.1
    have n13 := (val_not c hv).1
    have hge : ¬ (1 : Int) ≤ 76 - (p : Int) := fun hh => hV ⟨hv, by omega⟩
    rw [decide_eq_false n61] at e61
    rw [decide_eq_false n13] at e13
    rw [hv] at HIS
    rw [hbl] at HBL
    have HNO : Hid (unqOk s.data.toList = false ∧ unqA s.data.toList = i) := m_no HM.out hk1 hil (by rw [← HC.out]; exact hV) (by rw [← HC.out]; exact (fun hh => by rw [hbl] at hh; exact absurd hh.1 (by decide))) (by rw [← HC.out]; exact (fun hh => n61 hh.1)) (by rw [← HC.out]; exact (fun hh => n13 hh.1))
    obtain ⟨_, _, _, c3, _⟩ := H1.out.cells
    clear hv hbl hV n61 n13
    go_wp2_with (first
          | (go_at_call 31; refine Calls.mono (HBL.out _) ?_; rintro e w1 ⟨rfl, rfl⟩)
          | (go_at_call 32; refine Calls.mono (HIS.out _ HT1.out) ?_; rintro e w1 ⟨rfl, rfl⟩))
    go_ret
    exact ⟨false, i, r, b, v, X, rfl, HB1.out, H1.out, fun hf => by (cases hf), by omega, fun hf => by (cases hf), fun _ => HNO.out⟩
  | false =>
    rw [hv] at HIS
    cases hbl : blkB c with
    | true =>
      have n61 := (blk_not c hbl).2.1
      have n13 := (blk_not c hbl).1
      rw [hbl] at HBL
      by_cases hp74 : p ≤ 74
      · have hge : (2 : Int) ≤ 76 - (p : Int) := by omega
        have HMM : Hid (runM q0 (s.data.toList.take (i + 1)) = some ⟨1, p + 1, 0, X ++ [c]⟩) := by
          have := m_blk HM.out hk1 hil (by rw [← HC.out]; exact hbl) hp74
          rw [← HC.out] at this
          exact this
        clear hv hbl e61 e13 hV n61 n13
        obtain ⟨_, _, _, _, c4⟩ := H1.out.cells
        go_wp2_with (first
          | (go_at_call 31; refine Calls.mono (HBL.out _) ?_; rintro e w1 ⟨rfl, rfl⟩)
          | (go_at_call 32; refine Calls.mono (HIS.out _ HT1.out) ?_; rintro e w1 ⟨rfl, rfl⟩)
          | (at_builtin; refine wpList_append_keep rfl _ _ rfl B v X.length X rfl HXA.out (some ⟨_, 0, none⟩) [c] 1 1 rfl rfl (HONE.out c) (fun e => by cases e) (by omega) HZA.out ?_))
        intro v7 w7 ho7 hg7
        obtain ⟨a7, k7, rfl⟩ := own_shape ho7
        obtain ⟨d1, d3, d4, f1, f3, f4⟩ := uq_cells (HGR.out c w7 hg7)
        have HS7 : Hid _ := HSAY.out c w7 _ true hg7 ho7
        clear ho7 hg7 c4
        go_wp2
        go_ret
        refine ⟨true, i + 1, r, true, _, X ++ [c], rfl, HS7.out.1, HS7.out.2, fun _ => by omega, by omega, fun _ => ⟨by omega, by simp; omega, 0, ?_⟩, fun hf => by (cases hf)⟩
        rw [HMM.out, HPR.out]
        simp
        omega
      · have hge : ¬ (2 : Int) ≤ 76 - (p : Int) := by omega
        rw [decide_eq_false n61] at e61
        rw [decide_eq_false n13] at e13
        have HNO : Hid (unqOk s.data.toList = false ∧ unqA s.data.toList = i) := m_no HM.out hk1 hil (by rw [← HC.out]; exact (fun hh => by rw [hv] at hh; exact absurd hh.1 (by decide))) (by rw [← HC.out]; exact (fun hh => hp74 hh.2)) (by rw [← HC.out]; exact (fun hh => n61 hh.1)) (by rw [← HC.out]; exact (fun hh => n13 hh.1))
        obtain ⟨_, _, _, c3, _⟩ := H1.out.cells
        clear hv hbl hV n61 n13 hp74
        go_wp2_with (first
              | (go_at_call 31; refine Calls.mono (HBL.out _) ?_; rintro e w1 ⟨rfl, rfl⟩)
              | (go_at_call 32; refine Calls.mono (HIS.out _ HT1.out) ?_; rintro e w1 ⟨rfl, rfl⟩))
        go_ret
        exact ⟨false, i, r, b, v, X, rfl, HB1.out, H1.out, fun hf => by (cases hf), by omega, fun hf => by (cases hf), fun _ => HNO.out⟩
    | false =>
      rw [hbl] at HBL
      by_cases h61 : c = 61
      · have n13 : c ≠ 13 := by rw [h61]; decide
        rw [decide_eq_true h61] at e61
        rw [decide_eq_false n13] at e13
        by_cases hp75 : p ≤ 75
        · have hge : (1 : Int) ≤ 76 - (p : Int) := by omega
          have HMM : Hid (runM q0 (s.data.toList.take (i + 1)) = some ⟨2, p + 1, 0, X⟩) := m_eq HM.out hk1 hil (by rw [← HC.out]; exact h61) hp75
          clear hv hbl hV n13 h61 e13
          obtain ⟨_, c1, _, c3, _⟩ := H1.out.cells
          obtain ⟨_, _, _, f1, f3, _⟩ := uq_cells H1.out.lies
          have HB2 : Hid (Below B w ((w1.setCell ⟨g, 1, none⟩ (.int .i64 ((i : Int) + 1))).setCell ⟨g, 3, none⟩ (.bool false))) := below_put (below_put HB1.out hB 1 _) hB 3 _
          have H2 : Hid (UqAt ((w1.setCell ⟨g, 1, none⟩ (.int .i64 ((i : Int) + 1))).setCell ⟨g, 3, none⟩ (.bool false)) g B s (i + 1) r false v X) := (H1.out.setAt (i + 1) _ (by push_cast; rfl)).setBlank false
          have HT2 : Hid (Table ((w1.setCell ⟨g, 1, none⟩ (.int .i64 ((i : Int) + 1))).setCell ⟨g, 3, none⟩ (.bool false))) := by
            intro k hk
            rw [(below_put (below_put (Below.refl _ w1) hB 1 _) hB 3 _).cell (p := ⟨1, k, none⟩) hgcl]
            exact HT1.out k hk
          go_wp2_with (first
            | (go_at_call 31; refine Calls.mono (HBL.out _) ?_; rintro e w1 ⟨rfl, rfl⟩)
            | (go_at_call 32; refine Calls.mono (HIS.out _ HT1.out) ?_; rintro e w1 ⟨rfl, rfl⟩)
            | (go_at_call 33; refine Calls.mono (beq_any g B s (i + 1) r (p + 1) v X 0 _ HT2.out hgcl H2.out hs (by omega) (by omega) (by omega) hB (Nat.le_trans hBw HB2.out.size) (by have := HPR.out; omega) HMM.out _ (by push_cast; omega) (by omega)) ?_))
          rintro e w3 ⟨ok, i', r', v', X', rfl, hb3, hu3, hi3, hgo3⟩
          have HB3 : Hid (Below B w w3) := HB2.out.trans hb3
          have HU3 : Hid (UqAt w3 g B s i' r' false v' X') := hu3
          have HG3 : Hid (UqGo s ok i' r' false X') := hgo3
          clear hb3 hu3 hgo3
          go_wp2
          go_ret
          exact ⟨ok, i', r', false, v', X', rfl, HB3.out, HU3.out, fun _ => by omega, HG3.out⟩
        · have hge : ¬ (1 : Int) ≤ 76 - (p : Int) := by omega
          have HNO : Hid (unqOk s.data.toList = false ∧ unqA s.data.toList = i) := m_no HM.out hk1 hil (by rw [← HC.out]; exact (fun hh => by rw [hv] at hh; exact absurd hh.1 (by decide))) (by rw [← HC.out]; exact (fun hh => by rw [hbl] at hh; exact absurd hh.1 (by decide))) (by rw [← HC.out]; exact (fun hh => hp75 hh.2)) (by rw [← HC.out]; exact (fun hh => n13 hh.1))
          obtain ⟨_, _, _, c3, _⟩ := H1.out.cells
          clear hv hbl hV n13 hp75 h61
          go_wp2_with (first
                | (go_at_call 31; refine Calls.mono (HBL.out _) ?_; rintro e w1 ⟨rfl, rfl⟩)
                | (go_at_call 32; refine Calls.mono (HIS.out _ HT1.out) ?_; rintro e w1 ⟨rfl, rfl⟩))
          go_ret
          exact ⟨false, i, r, b, v, X, rfl, HB1.out, H1.out, fun hf => by (cases hf), by omega, fun hf => by (cases hf), fun _ => HNO.out⟩
      · rw [decide_eq_false h61] at e61
        by_cases h13 : c = 13
        · rw [decide_eq_true h13] at e13
          cases b with
          | true =>
            have HNO : Hid (unqOk s.data.toList = false ∧ unqA s.data.toList = i) := m_no HM.out hk1 hil (by rw [← HC.out]; exact (fun hh => by rw [hv] at hh; exact absurd hh.1 (by decide))) (by rw [← HC.out]; exact (fun hh => by rw [hbl] at hh; exact absurd hh.1 (by decide))) (by rw [← HC.out]; exact (fun hh => h61 hh.1)) (by rw [← HC.out]; exact (fun hh => absurd hh.2 (by decide)))
            obtain ⟨_, _, _, c3, _⟩ := H1.out.cells
            clear hv hbl hV h13 h61
            go_wp2_with (first
                  | (go_at_call 31; refine Calls.mono (HBL.out _) ?_; rintro e w1 ⟨rfl, rfl⟩)
                  | (go_at_call 32; refine Calls.mono (HIS.out _ HT1.out) ?_; rintro e w1 ⟨rfl, rfl⟩))
            go_ret
            exact ⟨false, i, r, true, v, X, rfl, HB1.out, H1.out, fun hf => by (cases hf), by omega, fun hf => by (cases hf), fun _ => HNO.out⟩
          | false =>
            have HMM : Hid _ := m_lf (m_cr HM.out hil (by rw [← HC.out]; exact h13)) (.inl rfl)
            clear hv hbl hV h13 h61
            obtain ⟨_, _, _, c3, c4⟩ := H1.out.cells
            go_wp2_with (first
              | (go_at_call 31; refine Calls.mono (HBL.out _) ?_; rintro e w1 ⟨rfl, rfl⟩)
              | (go_at_call 32; refine Calls.mono (HIS.out _ HT1.out) ?_; rintro e w1 ⟨rfl, rfl⟩)
              | (at_builtin; refine Lib.wpList_append_own_string _ rfl _ _ 22 9 rfl B 5 i0 Tryd.underlying22 Tryd.underlying9 hi0 hz0 hz1 hz2 _ _ _ rfl H1.out.own ⟨#[13, 10]⟩ rfl (by unfold maxLen; have h2 : (⟨#[13, 10]⟩ : ByteArray).size = 2 := rfl; omega) (by have h2 : (⟨#[13, 10]⟩ : ByteArray).size = 2 := rfl; omega) hz1' ?_))
            intro v7 w7 ho7 hg7 _
            have ho8 : w7.ownsRow B 5 1 v7 (X ++ [13, 10]).length (cellsB (X ++ [13, 10])) := by
              rw [List.length_append, cellsB_append]
              exact ho7
            obtain ⟨a7, k7, rfl⟩ := own_shape (n := X.length + 2) ho7
            obtain ⟨d1, d3, d4, f1, f3, f4⟩ := uq_cells (H1.out.grown hg7)
            have H8 : Hid (UqAt (w7.setCell ⟨g, 4, none⟩ (.slice a7 (X.length + 2) k7)) g B s i r false (.slice a7 (X.length + 2) k7) (X ++ [13, 10])) := H1.out.said hg7 ho8
            have HB8 : Hid (Below B w (w7.setCell ⟨g, 4, none⟩ (.slice a7 (X.length + 2) k7))) := below_put (HB1.out.grown hg7 hz1' (fun q hq => (H1.out.own.lt q hq).1)) hB 4 _
            clear ho7 ho8 hg7 c4 c3
            go_wp2_with fail
            refine Calls.mono (endrow_any g B s i r false _ (X ++ [13, 10]) _ H8.out (by omega) hi hB) ?_
            rintro e w9 ⟨rfl, hb9, hu9⟩
            have HB9 : Hid (Below B w w9) := HB8.out.trans hb9
            have HU9 : Hid (UqAt w9 g B s (if s.data.toList[i + 1]? = some 10 then i + 2 else i + 1) (if s.data.toList[i + 1]? = some 10 then i + 2 else r) false (.slice a7 (X.length + 2) k7) (X ++ [13, 10])) := hu9
            clear hb9 hu9
            by_cases h10 : s.data.toList[i + 1]? = some 10
            · have hlt := (List.getElem?_eq_some_iff.1 h10).1
              rw [HL.out] at hlt
              rw [if_pos h10, if_pos h10] at HU9
              have HY : Hid (runM q0 (s.data.toList.take (i + 2)) = some ⟨0, 0, 0, X ++ [13, 10]⟩) := HMM.out.1 h10
              rw [decide_eq_true h10]
              clear HMM h10
              go_wp2
              go_ret
              refine ⟨true, i + 2, i + 2, false, _, X ++ [13, 10], rfl, HB9.out, HU9.out, fun _ => by omega, by omega, fun _ => ⟨by omega, by simp; omega, 0, ?_⟩, fun hf => by (cases hf)⟩
              rw [HY.out]
              simp
            · rw [if_neg h10, if_neg h10] at HU9
              have HY : Hid (unqOk s.data.toList = false ∧ unqA s.data.toList = i + 1) := HMM.out.2 h10 (by rw [HL.out]; omega)
              rw [decide_eq_false h10]
              clear HMM h10
              go_wp2
              go_ret
              exact ⟨false, i + 1, r, false, _, X ++ [13, 10], rfl, HB9.out, HU9.out, fun hf => by (cases hf), by omega, fun hf => by (cases hf), fun _ => HY.out⟩
        · rw [decide_eq_false h13] at e13
          have HNO : Hid (unqOk s.data.toList = false ∧ unqA s.data.toList = i) := m_no HM.out hk1 hil (by rw [← HC.out]; exact (fun hh => by rw [hv] at hh; exact absurd hh.1 (by decide))) (by rw [← HC.out]; exact (fun hh => by rw [hbl] at hh; exact absurd hh.1 (by decide))) (by rw [← HC.out]; exact (fun hh => h61 hh.1)) (by rw [← HC.out]; exact (fun hh => h13 hh.1))
          obtain ⟨_, _, _, c3, _⟩ := H1.out.cells
          clear hv hbl hV h13 h61
          go_wp2_with (first
                | (go_at_call 31; refine Calls.mono (HBL.out _) ?_; rintro e w1 ⟨rfl, rfl⟩)
                | (go_at_call 32; refine Calls.mono (HIS.out _ HT1.out) ?_; rintro e w1 ⟨rfl, rfl⟩))
          go_ret
          exact ⟨false, i, r, b, v, X, rfl, HB1.out, H1.out, fun hf => by (cases hf), by omega, fun hf => by (cases hf), fun _ => HNO.out⟩

/-- What Unquote tells: the error, its place, the bytes. -/
def uE (l : List UInt8) : Nat := if unqOk l = true then 0 else 42
def uA (l : List UInt8) : Nat := if unqOk l = true then 0 else unqA l
def uL (l : List UInt8) : List UInt8 := if unqOk l = true then unqL l else []
theorem u_no {l : List UInt8} {i : Nat} (h : unqOk l = false ∧ unqA l = i) : uE l = 42 ∧ uA l = i ∧ uL l = [] := by
  unfold uE uA uL
  rw [h.1, h.2]
  exact ⟨rfl, rfl, rfl⟩
theorem u_yes {l : List UInt8} {p : Nat} {h : UInt8} {X : List UInt8} (hm : runM q0 l = some ⟨0, p, h, X⟩) : uE l = 0 ∧ uA l = 0 ∧ uL l = X := by
  unfold uE uA uL unqOk unqL
  rw [hm]
  exact ⟨rfl, rfl, rfl⟩
/-- How far: what is left, where reading goes on. -/
def uLeft (n g : Nat) (o : Value) (w : World) : Nat := match o, w.cell? ⟨g, 1, none⟩ with
  | .bool true, some (.int _ k) => n - k.toNat + 1
  | _, _ => 0

set_option maxHeartbeats 4000000 in
set_option maxRecDepth 100000 in
theorem unq_any (s : ByteArray) (w : World) (ht : Table w) (hgcl : 1 < w.heap.size) (hs : s.size ≤ 140737488355000) :
    Calls Tryd.prog 11 #[.string s] w fun e w' => ∃ v, e = .returned (.tuple #[v, .agg #[.int .i64 (uE s.data.toList : Nat), .int .i64 (uA s.data.toList : Nat)]]) ∧
      w'.ownsRow w.heap.size 5 1 v (uL s.data.toList).length (cellsB (uL s.data.toList)) ∧ Below w.heap.size w w' := by
  obtain ⟨i0, hi, hz0, hz1, hz2⟩ := info_parts info5
  have HT : Hid (Table w) := ht
  have HL : Hid (s.data.toList.length = s.size) := len_list s
  clear ht
  go_enter Tryd.func11, Tryd.ntmps11
  go_wp2_with (at_make; refine wpList_make_own _ rfl _ _ 22 rfl (w.heap.size + 1) 5 i0 (.int .u8 0) 1 Tryd.underlying22 hi hz0 hz1 .i64 .i64 _ s.size rfl (by first | rfl | (push_cast; rfl)) (by omega) (by rw [hz2]; omega) (by unfold maxLen; omega) (by simp) ?_)
  intro w1 hown hgrow
  have HB1 : Hid (Below (w.heap.size + 1) (w.alloc (.cells #[.int .i64 0, .int .i64 0] 29)) w1) := (Below.refl _ _).grown hgrow (by simp) (fun k h => by cases h)
  have HO1 : Hid (w1.ownsRow (w.heap.size + 1) 5 1 (.slice (some ⟨w.heap.size + 1, 0, none⟩) 0 s.size) 0 (cellsB [])) := hown
  have hz1' : w.heap.size + 1 ≤ w1.heap.size := by have := HB1.out.size; simpa using this
  clear hown hgrow
  obtain ⟨B, hBe⟩ : ∃ B, B = w.heap.size + 1 := ⟨_, rfl⟩
  rw [← hBe] at HB1 HO1 hz1'
  go_wp2_with fail
  have H2 : Hid (UqAt (w1.alloc (.cells (uqC s 0 0 false (.slice (some ⟨w.heap.size + 1, 0, none⟩) 0 s.size)) 42)) w1.heap.size B s 0 0 false (.slice (some ⟨w.heap.size + 1, 0, none⟩) 0 s.size) []) := ⟨Lies.new w1 _ _, by rw [← hBe]; exact HO1.out.alloc _⟩
  have HB2 : Hid (Below B (w.alloc (.cells #[.int .i64 0, .int .i64 0] 29)) (w1.alloc (.cells (uqC s 0 0 false (.slice (some ⟨w.heap.size + 1, 0, none⟩) 0 s.size)) 42))) := HB1.out.alloc hz1' _
  obtain ⟨g, hge⟩ : ∃ g, g = w1.heap.size := ⟨_, rfl⟩
  rw [← hge] at H2
  have hgB : B ≤ g := by omega
  have HSP : Hid (∀ wr : World, Below B (w.alloc (.cells #[.int .i64 0, .int .i64 0] 29)) wr → Lies wr w.heap.size #[.int .i64 0, .int .i64 0] 29 ∧ Below w.heap.size w wr ∧ B ≤ wr.heap.size ∧ Table wr) := fun wr hb => by
    have h1 : Lies wr w.heap.size #[.int .i64 0, .int .i64 0] 29 := (Lies.new w _ _).below hb (by omega)
    have h2 : Below w.heap.size w wr := ((Below.refl _ w).alloc (Nat.le_refl _) _).trans (hb.mono (by omega))
    refine ⟨h1, h2, by have := hb.size; simp at this; omega, fun k hk => ?_⟩
    rw [h2.cell (p := ⟨1, k, none⟩) hgcl]
    exact HT.out k hk
  have HBE : Hid (B = w.heap.size + 1) := hBe
  rw [← hge]
  clear HB1 HO1 hge
  go_loopw [5] (fun o wr => ∃ ok i r b v X, o = .bool ok ∧ Hid (UqAt wr g B s i r b v X) ∧ Hid (UqGo s ok i r b X) ∧ Hid (Below B (w.alloc (.cells #[.int .i64 0, .int .i64 0] 29)) wr)) (fun o wr => uLeft s.size g o wr)
  case atStart => exact ⟨true, 0, 0, false, _, [], rfl, H2, ⟨by omega, fun _ => ⟨by omega, by simp, 0, rfl⟩, fun hf => by (cases hf)⟩, HB2⟩
  case round =>
    clear H2 HB2
    obtain ⟨ok, i, r, b, v, X, rfl, HU, HG, HB⟩ := hrel
    obtain ⟨c0, c1, c2, c3, c4⟩ := HU.out.cells
    obtain ⟨hsp, hbw, hzr, htr⟩ := HSP.out wr HB.out
    have HSPL : Hid (Lies wr w.heap.size #[.int .i64 0, .int .i64 0] 29) := hsp
    have HBW : Hid (Below w.heap.size w wr) := hbw
    have HTR : Hid (Table wr) := htr
    clear hsp hbw htr
    have s0 := HSPL.out.cell 0
    have s1 := HSPL.out.cell 1
    have t0 := HSPL.out.frozen 0
    have t1 := HSPL.out.frozen 1
    simp only [List.getElem?_toArray, List.getElem?_cons_zero, List.getElem?_cons_succ] at s0 s1
    cases ok with
    | false =>
      have HE : Hid (uE s.data.toList = 42 ∧ uA s.data.toList = i ∧ uL s.data.toList = []) := u_no (HG.out.2.2 rfl)
      go_wp2_with fail
      go_region
      go_wp2
      refine bodyPost_ret (v := .tuple #[.slice none 0 0, .agg #[.int .i64 42, .int .i64 (i : Nat)]]) (by simp [results, Tryd.results11, go_sem, s0, s1]) rfl ⟨_, by rw [HE.out.1, HE.out.2.1]; rfl, by rw [HE.out.2.2]; exact own_nil _ _, ?_⟩
      have hb := below_put (below_put HBW.out (Nat.le_refl _) 0 (.int .i64 42)) (Nat.le_refl _) 1 (.int .i64 (i : Nat))
      exact ⟨hb.os, hb.tape, hb.output, hb.size, hb.block⟩
    | true =>
      have hle := HG.out.1
      obtain ⟨hri, hX, h0, hm⟩ := HG.out.2.1 rfl
      have HM : Hid _ := hm
      clear hm
      by_cases hlt : i < s.size
      · go_wp2_with fail
        refine Calls.mono (usign_any g B s i r b v X h0 wr HTR.out (by omega) HU.out hs hlt hri hX hgB hzr HM.out) ?_
        rintro e w3 ⟨ok', i', r', b', v', X', rfl, hb3, hu3, hi3, hgo3⟩
        have HB3 : Hid (Below B (w.alloc (.cells #[.int .i64 0, .int .i64 0] 29)) w3) := HB.out.trans hb3
        have HU3 : Hid (UqAt w3 g B s i' r' b' v' X') := hu3
        have HG3 : Hid (UqGo s ok' i' r' b' X') := hgo3
        have HI3 : Hid (ok' = true → i < i') := hi3
        have HLT : Hid (uLeft s.size g (.bool ok') w3 < uLeft s.size g (.bool true) wr) := by
          have e1 := HU3.out.cells.2.1
          have h1 := HG3.out.1
          unfold uLeft
          show _ < _
          rw [c1, e1]
          cases ok' with
          | false => simp
          | true =>
            have := hi3 rfl
            simp
            omega
        clear hb3 hu3 hgo3 hi3 c0 c1 c2 c3 c4 s0 s1 t0 t1
        go_wp2
        go_roundw
        case rel => exact ⟨ok', i', r', b', v', X', rfl, HU3, HG3, HB3⟩
        case measure => exact HLT.out
      · obtain rfl : i = s.size := by omega
        cases b with
        | true =>
          have HE : Hid (uE s.data.toList = 42 ∧ uA s.data.toList = s.size ∧ uL s.data.toList = []) := u_no (un_end HM.out HL.out.symm (by simp))
          go_wp2_with fail
          go_region
          go_wp2
          refine bodyPost_ret (v := .tuple #[.slice none 0 0, .agg #[.int .i64 42, .int .i64 (s.size : Nat)]]) (by simp [results, Tryd.results11, go_sem, s0, s1]) rfl ⟨_, by rw [HE.out.1, HE.out.2.1]; rfl, by rw [HE.out.2.2]; exact own_nil _ _, ?_⟩
          have hb := below_put (below_put HBW.out (Nat.le_refl _) 0 (.int .i64 42)) (Nat.le_refl _) 1 (.int .i64 (s.size : Nat))
          exact ⟨hb.os, hb.tape, hb.output, hb.size, hb.block⟩
        | false =>
          have HE : Hid (uE s.data.toList = 0 ∧ uA s.data.toList = 0 ∧ uL s.data.toList = X) := by
            have hm := HM.out
            rw [← HL.out, List.take_length] at hm
            exact u_yes hm
          have HV : Hid (∀ k, v.ownBlock = some k → k ≠ w.heap.size) := fun k hk => by
            have := (HU.out.own.lt k hk).1
            have := HBE.out
            omega
          go_wp2
          refine bodyPost_ret (v := .tuple #[v, .agg #[.int .i64 0, .int .i64 0]]) (by simp [results, Tryd.results11, go_sem, s0, s1]) rfl ⟨_, by rw [HE.out.1, HE.out.2.1]; rfl, ?_, ?_⟩
          · rw [HE.out.2.2]
            refine own_keep (base_le HU.out.own (by have := HBE.out; omega)) (fun k hk => ?_)
            exact (Below.heap_setCell _ _ _ _ (HV.out k hk)).trans (Below.heap_setCell _ _ _ _ (HV.out k hk))
          · have hb := below_put (below_put HBW.out (Nat.le_refl _) 0 (.int .i64 0)) (Nat.le_refl _) 1 (.int .i64 0)
            exact ⟨hb.os, hb.tape, hb.output, hb.size, hb.block⟩
end Go.Proofs.YtenfopabdegmhaaDoor
