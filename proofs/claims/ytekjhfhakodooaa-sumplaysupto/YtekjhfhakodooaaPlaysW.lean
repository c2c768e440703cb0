/-
  The walk of the statement on rows of calls.
-/
import Derived.Test.YtekjhfhakodooaaPlay
namespace Go.Proofs.Ytekjhfhakodooaa.sumPlays
open Go.RowKit

set_option maxRecDepth 100000 in
set_option maxHeartbeats 4000000 in
theorem walk (a : Option Addr) (st : List Stp) (c : Nat) {w : World} (hst : Steps a st w) (sl : st.length ≤ 1048576) (stot : tot st st.length ≤ 1048576) :
    Calls Try.prog 6 #[.slice a st.length c] w fun e w' => e = .returned (.bool true) ∧ Below w.heap.size w w' := by
  have HST : Hid (Steps a st w) := hst
  clear hst
  go_enter Try.func6, Try.ntmps6
  go_wp2_with fail
  refine (new_any _).mono ?_
  rintro e w1 ⟨rfl, hw1⟩
  have HB1 : Hid (Below w.heap.size w w1) := by rw [hw1]; exact (Below.refl _ _).alloc (Nat.le_refl _) _
  have HL1 : Hid (Lies w1 w.heap.size (strm true 0#32 0) 39) := by rw [hw1]; exact Lies.new _ _ _
  clear hw1
  go_wp2_with fail
  refine (new_any _).mono ?_
  rintro e w2 ⟨rfl, hw2⟩
  have hb2 : Below w1.heap.size w1 w2 := by rw [hw2]; exact (Below.refl _ _).alloc (Nat.le_refl _) _
  have HB2 : Hid (Below w.heap.size w w2) := HB1.out.trans (hb2.mono HB1.out.size)
  have HL12 : Hid (Lies w2 w.heap.size (strm true 0#32 0) 39) := HL1.out.below hb2 HL1.out.lt
  have HL2 : Hid (Lies w2 w1.heap.size (strm true 0#32 0) 39) := by rw [hw2]; exact Lies.new _ _ _
  have N12 : Hid (w.heap.size < w1.heap.size) := HL1.out.lt
  clear hw2 hb2 HL1 HB1
  go_wp2_with fail
  refine (new_any _).mono ?_
  rintro e w3 ⟨rfl, hw3⟩
  have hb3 : Below w2.heap.size w2 w3 := by rw [hw3]; exact (Below.refl _ _).alloc (Nat.le_refl _) _
  have HB3 : Hid (Below w.heap.size w w3) := HB2.out.trans (hb3.mono HB2.out.size)
  have HL13 : Hid (Lies w3 w.heap.size (strm true 0#32 0) 39) := HL12.out.below hb3 HL12.out.lt
  have HL23 : Hid (Lies w3 w1.heap.size (strm true 0#32 0) 39) := HL2.out.below hb3 HL2.out.lt
  have HL3 : Hid (Lies w3 w2.heap.size (strm true 0#32 0) 39) := by rw [hw3]; exact Lies.new _ _ _
  have N23 : Hid (w1.heap.size < w2.heap.size) := HL2.out.lt
  clear hw3 hb3 HL12 HL2 HB2
  generalize w1.heap.size = g1 at HL23 N12 N23 ⊢
  generalize w2.heap.size = g2 at HL3 N23 ⊢
  go_wp2_with fail
  obtain ⟨w4, hw4⟩ : ∃ w4, w4 = (w3.alloc (.cells #[.bool false, .int .u32 0, .int .i64 0] 39)).alloc (.cells #[.pointer (some ⟨w.heap.size, 0, none⟩), .pointer (some ⟨g1, 0, none⟩), .pointer (some ⟨g2, 0, none⟩), .pointer none, .pointer (some ⟨w3.heap.size, 0, none⟩)] 36) := ⟨_, rfl⟩
  rw [← hw4]
  have hb4 : Below w3.heap.size w3 w4 := by rw [hw4]; exact ((Below.refl _ _).alloc (Nat.le_refl _) _).alloc (sz1 w3 _) _
  have hg4 : Lies w4 (w3.heap.size + 1) #[.pointer (some ⟨w.heap.size, 0, none⟩), .pointer (some ⟨g1, 0, none⟩), .pointer (some ⟨g2, 0, none⟩), .pointer none, .pointer (some ⟨w3.heap.size, 0, none⟩)] 36 := by rw [hw4]; exact new_one _ _ _ _
  have hz4 : Lies w4 w3.heap.size (strm false 0#32 0) 39 := by rw [hw4]; exact (Lies.new w3 _ _).alloc _
  have N34 : Hid (g2 < w3.heap.size) := HL3.out.lt
  have HG4 : Hid (Lies w4 (w3.heap.size + 1) #[.pointer (some ⟨w.heap.size, 0, none⟩), .pointer (some ⟨g1, 0, none⟩), .pointer (some ⟨g2, 0, none⟩), .pointer none, .pointer (some ⟨w3.heap.size, 0, none⟩)] 36) := hg4
  have HZ4 : Hid (Lies w4 w3.heap.size (strm false 0#32 0) 39) := hz4
  have HA4 : Hid (Lies w4 w.heap.size (strm true 0#32 0) 39 ∧ Lies w4 g1 (strm true 0#32 0) 39 ∧ Lies w4 g2 (strm true 0#32 0) 39) := ⟨HL13.out.below hb4 HL13.out.lt, HL23.out.below hb4 HL23.out.lt, HL3.out.below hb4 HL3.out.lt⟩
  have HB4 : Hid (Below w.heap.size w w4) := HB3.out.trans (hb4.mono HB3.out.size)
  have N03 : Hid (w.heap.size ≤ w3.heap.size) := HB3.out.size
  clear hw4 hb4 hg4 hz4 HL13 HL23 HL3 HB3
  generalize w3.heap.size = g3 at HG4 HZ4 N34 N03 ⊢
  refine (rnew_any _).mono ?_
  rintro e w5 ⟨rfl, hb5⟩
  have HB5 : Hid (Below w4.heap.size w4 w5) := hb5
  clear hb5
  unfold rv
  go_wp2_with fail
  refine (rnew_any _).mono ?_
  rintro e w6 ⟨rfl, hb6⟩
  have HB6 : Hid (Below w4.heap.size w4 w6) := HB5.out.trans (hb6.mono HB5.out.size)
  clear hb6
  unfold rv
  go_wp2_with fail
  refine (rnew_any _).mono ?_
  rintro e w7 ⟨rfl, hb7⟩
  have HB7 : Hid (Below w4.heap.size w4 w7) := HB6.out.trans (hb7.mono HB6.out.size)
  clear hb7
  unfold rv
  go_wp2_with fail
  obtain ⟨w8, hw8⟩ : ∃ w8, w8 = w7.alloc (.cells #[.bool true, .slice none 0 0, .bool true, .slice none 0 0, .bool true, .slice none 0 0, .bool false, .slice none 0 0, .bool false, .slice none 0 0] 42) := ⟨_, rfl⟩
  rw [← hw8]
  have hb8 : Below w4.heap.size w4 w8 := by rw [hw8]; exact HB7.out.alloc HB7.out.size _
  have hwl : Lies w8 w7.heap.size #[.bool true, .slice none 0 0, .bool true, .slice none 0 0, .bool true, .slice none 0 0, .bool false, .slice none 0 0, .bool false, .slice none 0 0] 42 := by rw [hw8]; exact Lies.new _ _ _
  have hwb : w.heap.size ≤ w7.heap.size := Nat.le_trans HB4.out.size HB7.out.size
  have PL0 : Hid (Play w w8 (g3 + 1) w7.heap.size (fun i => match i with | 0 | 1 | 2 => some [] | _ => none)
      (fun i => match i with | 0 => .pointer (some ⟨w.heap.size, 0, none⟩) | 1 => .pointer (some ⟨g1, 0, none⟩) | 2 => .pointer (some ⟨g2, 0, none⟩) | 3 => .pointer none | _ => .pointer (some ⟨g3, 0, none⟩))
      (fun _ => .slice none 0 0) 0 5) := by
    have n1 := N12.out
    have n2 := N23.out
    have n3 := N34.out
    have n0 := N03.out
    have l0 := HA4.out.1.below hb8 HA4.out.1.lt
    have l1 := HA4.out.2.1.below hb8 HA4.out.2.1.lt
    have l2 := HA4.out.2.2.below hb8 HA4.out.2.2.lt
    have l4 := HZ4.out.below hb8 HZ4.out.lt
    refine ⟨HB4.out.trans (hb8.mono HB4.out.size), HG4.out.below hb8 HG4.out.lt, hwl, by omega, hwb, fun i hi _ => ?_, fun i j hi hj hne e => ?_, fun i L hi _ hL => ?_⟩
    · match i, hi with
      | 0, _ => exact ⟨⟨_, rfl, Nat.le_refl _, by rw [more_nil]; exact l0⟩, World.ownsRow_nil _ _ _ _⟩
      | 1, _ => exact ⟨⟨_, rfl, by omega, by rw [more_nil]; exact l1⟩, World.ownsRow_nil _ _ _ _⟩
      | 2, _ => exact ⟨⟨_, rfl, by omega, by rw [more_nil]; exact l2⟩, World.ownsRow_nil _ _ _ _⟩
      | 3, _ => exact ⟨.inl rfl, rfl⟩
      | 4, _ => exact ⟨.inr ⟨_, _, _, rfl, n0, l4⟩, rfl⟩
    · match i, j, hi, hj with
      | 3, _, _, _ => rfl
      | 0, 0, _, _ | 1, 1, _, _ | 2, 2, _, _ | 4, 4, _, _ => exact absurd rfl hne
      | 0, 1, _, _ | 0, 2, _, _ | 0, 4, _, _ | 1, 0, _, _ | 1, 2, _, _ | 1, 4, _, _ | 2, 0, _, _ | 2, 1, _, _ | 2, 4, _, _ | 4, 0, _, _ | 4, 1, _, _ | 4, 2, _, _ =>
        exfalso
        simp at e <;> omega
      | 0, 3, _, _ | 1, 3, _, _ | 2, 3, _, _ | 4, 3, _, _ => simp at e
    · match i, hi with
      | 0, _ => cases hL; exact Nat.le_refl _
      | 1, _ => cases hL; exact Nat.le_refl _
      | 2, _ => cases hL; exact Nat.le_refl _
      | 3, _ => cases hL
      | 4, _ => cases hL
  clear hb8 hwl hwb hw8 HB5 HB6 HB7 HB4 HA4 HZ4 HG4 N12 N23 N34 N03
  generalize (fun i : Nat => (match i with | 0 | 1 | 2 => some [] | _ => none : Option (List UInt8))) = s0 at PL0
  generalize (fun i : Nat => (match i with | 0 => .pointer (some ⟨w.heap.size, 0, none⟩) | 1 => .pointer (some ⟨g1, 0, none⟩) | 2 => .pointer (some ⟨g2, 0, none⟩) | 3 => .pointer none | _ => .pointer (some ⟨g3, 0, none⟩) : Value)) = p0 at PL0
  generalize (fun _ : Nat => (Value.slice none 0 0)) = b0 at PL0
  generalize g3 + 1 = gb at PL0 ⊢
  generalize w7.heap.size = wb at PL0 ⊢
  go_loopw [29] (fun i wr => ∃ (k : Nat) (s : Nat → Option (List UInt8)) (p b : Nat → Value), k ≤ st.length ∧ i = .int .i64 k ∧ Hid (Play w wr gb wb s p b (tot st k) 5)) (fun i _ => st.length - (intOf i).toNat)
  case atStart => exact ⟨0, s0, p0, b0, by omega, rfl, PL0⟩
  case round =>
    obtain ⟨k, s, p, b, hk, rfl, PL⟩ := hrel
    by_cases hlt : k < st.length
    · obtain ⟨g, o, rfl, hg, hc0, hc1, hc2, hc3, hbt, hzn⟩ : ∃ g o, a = some ⟨g, o, none⟩ ∧ g < w.heap.size ∧ w.cell? ⟨g, o + k * 4, none⟩ = some (.int .i64 st[k].kind) ∧ w.cell? ⟨g, o + k * 4 + 1, none⟩ = some (.int .i64 st[k].who) ∧ w.cell? ⟨g, o + k * 4 + 2, none⟩ = some (.int .i64 st[k].to) ∧
          w.cell? ⟨g, o + k * 4 + 3, none⟩ = some (.slice st[k].ap st[k].bytes.length st[k].cp) ∧ Bts st[k].ap st[k].bytes w ∧ (st[k].ap = none → st[k].cp = 0) := by
        rcases HST.out with h | ⟨g, o, e, hg, hr⟩
        · rw [h] at hlt
          exact absurd hlt (by simp)
        · exact ⟨g, o, e, hg, (hr k hlt).1, (hr k hlt).2.1, (hr k hlt).2.2.1, (hr k hlt).2.2.2.1, (hr k hlt).2.2.2.2.1, (hr k hlt).2.2.2.2.2⟩
      have HT : Hid (tot st (k + 1) = tot st k + st[k].bytes.length) := tot_next st k hlt
      have HT2 : Hid (tot st (k + 1) ≤ 1048576) := Nat.le_trans (tot_le st (k + 1)) stot
      obtain ⟨x, hx⟩ : ∃ x, x = st[k] := ⟨_, rfl⟩
      rw [← hx] at hc0 hc1 hc2 hc3 hbt hzn HT
      clear hx
      obtain ⟨kind, who, to, ap, P, cp⟩ := x
      have c0 : wr.cell? ⟨g, o + k * 4, none⟩ = some (.int .i64 kind) := (PL.out.below.cell (p := ⟨g, o + k * 4, none⟩) hg).trans hc0
      have c1 : wr.cell? ⟨g, o + k * 4 + 1, none⟩ = some (.int .i64 who) := (PL.out.below.cell (p := ⟨g, o + k * 4 + 1, none⟩) hg).trans hc1
      have c2 : wr.cell? ⟨g, o + k * 4 + 2, none⟩ = some (.int .i64 to) := (PL.out.below.cell (p := ⟨g, o + k * 4 + 2, none⟩) hg).trans hc2
      have c3 : wr.cell? ⟨g, o + k * 4 + 3, none⟩ = some (.slice ap P.length cp) := (PL.out.below.cell (p := ⟨g, o + k * 4 + 3, none⟩) hg).trans hc3
      have HP : Hid (Bts ap P w) := hbt
      have HPN : Hid (ap = none → cp = 0) := hzn
      clear hc0 hc1 hc2 hc3 hbt hzn hg
      go_wp2_with fail
      obtain ⟨ls, hls⟩ : ∃ ls, ls = wr.heap.size := ⟨_, rfl⟩
      obtain ⟨v1, hv1⟩ : ∃ v1, v1 = wr.alloc (.cells #[.int .i64 kind, .int .i64 who, .int .i64 to, .slice ap P.length cp] 46) := ⟨_, rfl⟩
      have LS : Hid (Lies v1 ls #[.int .i64 kind, .int .i64 who, .int .i64 to, .slice ap P.length cp] 46) := by rw [hv1, hls]; exact Lies.new _ _ _
      have PL1 : Hid (Play w v1 gb wb s p b (tot st k) 5) := by rw [hv1]; exact PL.out.next ((Below.refl _ _).alloc (Nat.le_refl _) _)
      rw [← hls, ← hv1]
      clear hls hv1 c0 c1 c2 c3 PL
      have d1 : v1.cell? ⟨ls, 1, none⟩ = some (.int .i64 who) := LS.out.cell 1
      have d2 : v1.cell? ⟨ls, 2, none⟩ = some (.int .i64 to) := LS.out.cell 2
      go_region_held3 (fun w' => w'.cell? ⟨ls, 1, none⟩ = some (.int .i64 who) ∧ w'.cell? ⟨ls, 2, none⟩ = some (.int .i64 to)) (first | exact ⟨d1, d2⟩)
        (first
          | (go_at_call 19; refine (slot_any who _).mono ?_; rintro e w' ⟨⟨i, hi, rfl⟩, rfl⟩)
          | (go_at_call 19; refine (slot_any to _).mono ?_; rintro e w' ⟨⟨t, ht, rfl⟩, rfl⟩))
      rename_i hHeld
      clear hHeld d1 d2
      obtain ⟨v2, hv2⟩ : ∃ v2, v2 = v1.drew := ⟨_, rfl⟩
      rw [← hv2]
      have LS2 : Hid (Lies v2 ls #[.int .i64 kind, .int .i64 who, .int .i64 to, .slice ap P.length cp] 46) := by rw [hv2]; exact LS.out.drew
      have PL2 : Hid (Play w v2 gb wb s p b (tot st k) 5) := by rw [hv2]; exact PL1.out.drew
      clear hv2 LS PL1
      have rw2 := PL2.out.row i hi (by omega)
      obtain ⟨pq, hpq⟩ : ∃ pq, p i = .pointer pq := by
        cases hsi : s i with
        | some L => rw [hsi] at rw2; obtain ⟨⟨g, e, _⟩, _⟩ := rw2; exact ⟨_, e⟩
        | none => rw [hsi] at rw2; rcases rw2.1 with e | ⟨g, _, _, e, _⟩ <;> exact ⟨_, e⟩
      obtain ⟨ab, nb, cbb, hbi⟩ : ∃ ab nb cbb, b i = .slice ab nb cbb := by
        cases hsi : s i with
        | some L => rw [hsi] at rw2; obtain ⟨a', c', e, _⟩ := own_slice rw2.2; exact ⟨_, _, _, e⟩
        | none => rw [hsi] at rw2; exact ⟨_, _, _, rw2.2⟩
      obtain ⟨is, his⟩ : ∃ is, is = (s i).isSome := ⟨_, rfl⟩
      have q0 : v2.cell? ⟨gb, i, none⟩ = some (.pointer pq) := (PL2.out.got.cell i).trans (by rw [gotA_at p i hi, hpq])
      have q1 : v2.cell? ⟨wb, i * 2, none⟩ = some (.bool is) := (PL2.out.want.cell (i * 2)).trans (by rw [wantA_is s b i hi, his])
      have q2 : v2.cell? ⟨wb, i * 2 + 1, none⟩ = some (.slice ab nb cbb) := (PL2.out.want.cell (i * 2 + 1)).trans (by rw [wantA_b s b i hi, hbi])
      have HPQ : Hid (p i = .pointer pq) := hpq
      have HBI : Hid (b i = .slice ab nb cbb) := hbi
      have HIS : Hid (is = (s i).isSome) := his
      have i1 : (i : Int) < 5 := by omega
      have HK : Hid (∀ w', Below v2.heap.size v2 w' → w'.cell? ⟨gb, i, none⟩ = some (.pointer pq) ∧ w'.cell? ⟨wb, i * 2, none⟩ = some (.bool is) ∧ w'.cell? ⟨wb, i * 2 + 1, none⟩ = some (.slice ab nb cbb)) := fun w' hb =>
        ⟨(hb.cell (p := ⟨gb, i, none⟩) PL2.out.got.lt).trans q0, (hb.cell (p := ⟨wb, i * 2, none⟩) PL2.out.want.lt).trans q1, (hb.cell (p := ⟨wb, i * 2 + 1, none⟩) PL2.out.want.lt).trans q2⟩
      clear rw2 hpq hbi his
      go_wp2_with fail
      go_region_held3 (fun w' => w'.cell? ⟨gb, i, none⟩ = some (.pointer pq) ∧ w'.cell? ⟨wb, i * 2, none⟩ = some (.bool is) ∧ w'.cell? ⟨wb, i * 2 + 1, none⟩ = some (.slice ab nb cbb))
        (first | exact ⟨q0, q1, q2⟩ | exact HK.out _ (by repeat (first | exact Below.refl _ _ | apply Below.drew | refine Below.alloc ?_ (by simp) _ | refine Below.setCell ?_ (by simp) _)))
        (fail)
      rename_i hHeld
      clear hHeld HK
      obtain ⟨v3, hv3⟩ : ∃ v3, v3 = (v2.alloc (.cells #[.bool is, .slice ab nb cbb] 42)).drew := ⟨_, rfl⟩
      rw [← hv3]
      have hb3 : Below v2.heap.size v2 v3 := by rw [hv3]; exact ((Below.refl _ _).alloc (Nat.le_refl _) _).drew
      have LS3 : Hid (Lies v3 ls #[.int .i64 kind, .int .i64 who, .int .i64 to, .slice ap P.length cp] 46) := LS2.out.below hb3 LS2.out.lt
      have PL3 : Hid (Play w v3 gb wb s p b (tot st k) 5) := PL2.out.next hb3
      have LW3 : Hid (Lies v3 v2.heap.size #[.bool is, .slice ab nb cbb] 42) := by rw [hv3]; exact (Lies.new _ _ _).drew
      have NWL : Hid (wb < v2.heap.size) := PL2.out.want.lt
      clear hv3 hb3 LS2 PL2 q0 q1 q2
      generalize v2.heap.size = lw at LW3 NWL ⊢
      have HT3 : Hid (tot st k ≤ tot st (k + 1)) := by have := HT.out; show _ ≤ _; omega
      have HPL : Hid (P.length ≤ 1048576) := by have := HT.out; have := HT2.out; show _ ≤ _; omega
      have kc : v3.cell? ⟨ls, 0, none⟩ = some (.int .i64 kind) := LS3.out.cell 0
      have pc : v3.cell? ⟨ls, 3, none⟩ = some (.slice ap P.length cp) := LS3.out.cell 3
      have l0 : v3.cell? ⟨lw, 0, none⟩ = some (.bool is) := LW3.out.cell 0
      have l1 : v3.cell? ⟨lw, 1, none⟩ = some (.slice ab nb cbb) := LW3.out.cell 1
      have row3 := PL3.out.row i hi (by omega)
      cases hsi : s i with
      | some L =>
        rw [hsi] at row3
        obtain ⟨⟨gg, egg, hgg, hlg⟩, hog⟩ := row3
        obtain rfl : pq = some ⟨gg, 0, none⟩ := by have := HPQ.out.symm.trans egg; injection this
        obtain rfl : is = true := by have := HIS.out; rw [hsi] at this; exact this
        rw [HBI.out] at hog
        obtain ⟨a', c', e', hz', hbt', _⟩ := own_slice hog
        injection e' with e1 e2 e3
        subst e1 e2 e3
        have HOG : Hid (v3.ownsRow w.heap.size 5 1 (.slice ab L.length cbb) L.length (cellsB L)) := hog
        have HLG : Hid (Lies v3 gg (strm true (more 0#32 L) L.length) 39) := hlg
        have HBT : Hid (Bts ab L v3) := hbt'
        have HSI : Hid (s i = some L) := hsi
        have HGG : Hid (w.heap.size ≤ gg) := hgg
        have HLL : Hid (L.length + P.length ≤ 1048576) := by
          have := PL3.out.small i L hi (by omega) hsi
          have := HT.out
          have := HT2.out
          show _ ≤ _
          omega
        have ML : Hid (L.length ≤ maxLen) := by have := HLL.out; show _ ≤ _; unfold maxLen; omega
        have MP : Hid (P.length ≤ maxLen) := by have := HLL.out; show _ ≤ _; unfold maxLen; omega
        clear egg hgg hlg hog hz' hbt' hsi
        by_cases hk0 : kind = 0
        · subst hk0
          go_wp2_with fail
          refine (write_any gg (more 0#32 L) L.length ap P cp v3 HLG.out (HP.out.below PL3.out.below) MP.out (by omega) (by have := HLL.out; omega)).mono ?_
          rintro e v4 ⟨rfl, hs4, hbut⟩
          have PL4 : Hid (Play w v4 gb wb s p b (tot st k) i) := PL3.out.but hi HPQ.out hbut
          have LS4 : Hid (Lies v4 ls #[.int .i64 0, .int .i64 who, .int .i64 to, .slice ap P.length cp] 46) := hbut.lies LS3.out (fun e => by have := LS3.out; rw [e] at this; exact absurd (lies_kind this HLG.out) (by decide))
          have LW4 : Hid (Lies v4 lw #[.bool true, .slice ab L.length cbb] 42) := hbut.lies LW3.out (fun e => by have := LW3.out; rw [e] at this; exact absurd (lies_kind this HLG.out) (by decide))
          have HS4 : Hid (Lies v4 gg (strm true (more 0#32 (L ++ P)) (L ++ P).length) 39) := by
            rw [more_append, List.length_append]
            exact hs4
          have HO4 : Hid (v4.ownsRow w.heap.size 5 1 (.slice ab L.length cbb) L.length (cellsB L)) := own_keep HOG.out (fun q hq => hbut.block q (World.ownsRow.lt HOG.out q hq).2 (own_apart HOG.out HLG.out (by decide) q hq))
          have pc4 : v4.cell? ⟨ls, 3, none⟩ = some (.slice ap P.length cp) := LS4.out.cell 3
          have l04 : v4.cell? ⟨lw, 0, none⟩ = some (.bool true) := LW4.out.cell 0
          have l14 : v4.cell? ⟨lw, 1, none⟩ = some (.slice ab L.length cbb) := LW4.out.cell 1
          clear hs4 hbut kc pc l0 l1
          go_wp2_with fail
          refine (rwrite_any (.slice ab L.length cbb) L P ap cp w.heap.size v4 HO4.out (HP.out.below PL4.out.below) HPN.out HLL.out).mono ?_
          rintro e v5 ⟨v', rfl, ho5, hb5⟩
          obtain ⟨a5, c5, rfl, _, _, _⟩ := own_slice ho5
          have PL5 : Hid (Play w v5 gb wb s p b (tot st k) i) := PL4.out.next hb5
          have HR5 : Hid (RowSt v5 w.heap.size (some (L ++ P)) (p i) (.slice a5 (L ++ P).length c5)) := ⟨⟨gg, HPQ.out, HGG.out, HS4.out.below hb5 HS4.out.lt⟩, own_base ho5 PL4.out.below.size⟩
          obtain ⟨N, hN⟩ : ∃ N, N = (L ++ P).length := ⟨_, rfl⟩
          have HN : Hid (N = (L ++ P).length) := hN
          rw [← hN] at HR5
          rw [← hN]
          clear hN ho5 hb5
          have z0 : v5.cell? ⟨wb, i * 2, none⟩ = some (.bool (s i).isSome) := (PL5.out.want.cell (i * 2)).trans (wantA_is s b i hi)
          have z1 : v5.cell? ⟨wb, i * 2 + 1, none⟩ = some (b i) := (PL5.out.want.cell (i * 2 + 1)).trans (wantA_b s b i hi)
          have y0 := PL5.out.want.frozen (i * 2)
          have y1 := PL5.out.want.frozen (i * 2 + 1)
          generalize (s i).isSome = sv at z0
          generalize b i = bvv at z1
          have z1' : (v5.setCell ⟨wb, i * 2, none⟩ (.bool true)).cell? ⟨wb, i * 2 + 1, none⟩ = some bvv := (World.cell?_setCell_other _ _ _ _ (by intro e; injection e with e1 e2; omega)).trans z1
          unfold rv
          go_wp2
          clear z0 z1 z1' y0 y1
          go_roundw
          case rel => exact ⟨k + 1, upd s i (some (L ++ P)), p, upd b i (.slice a5 N c5), by omega, by go_num, PL5.out.put hi (.inl rfl) HT3.out (some (L ++ P)) _ HR5.out (fun M e => by injection e with e; subst e; have := PL5.out.small; have h1 := PL3.out.small i L hi (by omega) HSI.out; have h2 := HT.out; rw [List.length_append]; omega)⟩
          case measure => simp [intOf]; omega
        have kb0 : (kind == 0) = false := by simpa using hk0
        clear hk0
        by_cases hk1 : kind = 1
        · subst hk1
          have HK : Hid (∀ w', Below v3.heap.size v3 w' → w'.cell? ⟨lw, 0, none⟩ = some (.bool true) ∧ w'.cell? ⟨lw, 1, none⟩ = some (.slice ab L.length cbb)) := fun w' hb => ⟨(hb.cell (p := ⟨lw, 0, none⟩) LW3.out.lt).trans l0, (hb.cell (p := ⟨lw, 1, none⟩) LW3.out.lt).trans l1⟩
          go_wp2_with fail
          go_region_held3 (fun w' => w'.cell? ⟨lw, 0, none⟩ = some (.bool true) ∧ w'.cell? ⟨lw, 1, none⟩ = some (.slice ab L.length cbb)) (first | exact ⟨l0, l1⟩ | exact HK.out _ (Below.refl _ v3).drew | exact HK.out _ hb9)
            (first
              | (go_at_call 22; refine (sum_any gg (more 0#32 L) L.length _ HLG.out.drew).mono ?_; rintro e w9 ⟨rfl, rfl⟩)
              | (go_at_call 23; refine (rsum_any ab L cbb _ (HBT.out.below (Below.refl _ v3).drew) ML.out).mono ?_; rintro e w9 ⟨rfl, hb9'⟩; have hb9 : Below v3.heap.size v3 w9 := ⟨hb9'.os, hb9'.tape, hb9'.output, hb9'.size, hb9'.block⟩; clear hb9'))
          rename_i hHeld
          clear hHeld HK kc pc l0 l1
          have PL9 : Hid (Play w w9 gb wb s p b (tot st k) 5) := PL3.out.next hb9
          go_wp2
          go_roundw
          case rel => exact ⟨k + 1, s, p, b, by omega, by go_num, PL9.out.up HT3.out⟩
          case measure => simp [intOf]; omega
        have kb1 : (kind == 1) = false := by simpa using hk1
        clear hk1
        by_cases hk2 : kind = 2
        · subst hk2
          have HK : Hid (∀ w', Below v3.heap.size v3 w' → w'.cell? ⟨lw, 0, none⟩ = some (.bool true) ∧ w'.cell? ⟨lw, 1, none⟩ = some (.slice ab L.length cbb)) := fun w' hb => ⟨(hb.cell (p := ⟨lw, 0, none⟩) LW3.out.lt).trans l0, (hb.cell (p := ⟨lw, 1, none⟩) LW3.out.lt).trans l1⟩
          go_wp2_with fail
          go_region_held3 (fun w' => w'.cell? ⟨lw, 0, none⟩ = some (.bool true) ∧ w'.cell? ⟨lw, 1, none⟩ = some (.slice ab L.length cbb)) (first | exact ⟨l0, l1⟩ | exact HK.out _ (Below.refl _ v3).drew | exact HK.out _ hb9)
            (first
              | (go_at_call 24; refine (len_any gg (more 0#32 L) L.length _ HLG.out.drew).mono ?_; rintro e w9 ⟨rfl, rfl⟩))
          rename_i hHeld
          clear hHeld HK kc pc l0 l1
          have PL9 : Hid (Play w v3.drew gb wb s p b (tot st k) 5) := PL3.out.drew
          go_wp2
          go_roundw
          case rel => exact ⟨k + 1, s, p, b, by omega, by go_num, PL9.out.up HT3.out⟩
          case measure => simp [intOf]; omega
        have kb2 : (kind == 2) = false := by simpa using hk2
        clear hk2
        by_cases hk3 : kind = 3
        · subst hk3
          go_wp2_with fail
          refine (reset_any gg (more 0#32 L) L.length v3 HLG.out).mono ?_
          rintro e v4 ⟨rfl, hs4, hbut⟩
          have PL4 : Hid (Play w v4 gb wb s p b (tot st k) i) := PL3.out.but hi HPQ.out hbut
          have LW4 : Hid (Lies v4 lw #[.bool true, .slice ab L.length cbb] 42) := hbut.lies LW3.out (fun e => by have := LW3.out; rw [e] at this; exact absurd (lies_kind this HLG.out) (by decide))
          have HS4 : Hid (Lies v4 gg (strm true 0#32 0) 39) := hs4
          have l04 : v4.cell? ⟨lw, 0, none⟩ = some (.bool true) := LW4.out.cell 0
          have l14 : v4.cell? ⟨lw, 1, none⟩ = some (.slice ab L.length cbb) := LW4.out.cell 1
          clear hs4 hbut kc pc l0 l1
          go_wp2_with fail
          refine (rreset_any true _ v4).mono ?_
          rintro e v5 ⟨rfl, hb5⟩
          have PL5 : Hid (Play w v5 gb wb s p b (tot st k) i) := PL4.out.next hb5
          have HR5 : Hid (RowSt v5 w.heap.size (some []) (p i) (.slice none 0 0)) := ⟨⟨gg, HPQ.out, HGG.out, by rw [more_nil]; exact HS4.out.below hb5 HS4.out.lt⟩, World.ownsRow_nil _ _ _ _⟩
          clear hb5
          have z0 : v5.cell? ⟨wb, i * 2, none⟩ = some (.bool (s i).isSome) := (PL5.out.want.cell (i * 2)).trans (wantA_is s b i hi)
          have z1 : v5.cell? ⟨wb, i * 2 + 1, none⟩ = some (b i) := (PL5.out.want.cell (i * 2 + 1)).trans (wantA_b s b i hi)
          have y0 := PL5.out.want.frozen (i * 2)
          have y1 := PL5.out.want.frozen (i * 2 + 1)
          generalize (s i).isSome = sv at z0
          generalize b i = bvv at z1
          have z1' : (v5.setCell ⟨wb, i * 2, none⟩ (.bool true)).cell? ⟨wb, i * 2 + 1, none⟩ = some bvv := (World.cell?_setCell_other _ _ _ _ (by intro e; injection e with e1 e2; omega)).trans z1
          unfold rv
          go_wp2
          clear z0 z1 z1' y0 y1
          go_roundw
          case rel => exact ⟨k + 1, upd s i (some []), p, upd b i (.slice none 0 0), by omega, by go_num, PL5.out.put hi (.inl rfl) HT3.out (some []) _ HR5.out (fun M e => by injection e with e; subst e; exact Nat.zero_le _)⟩
          case measure => simp [intOf]; omega
        have kb3 : (kind == 3) = false := by simpa using hk3
        clear hk3
        by_cases hk4 : kind = 4
        · subst hk4
          by_cases h3 : t < 3
          · have h3' : (t : Int) < 3 := by omega
            have FAR : Hid (∀ j, j < 5 → Value.pointer (some ⟨v3.heap.size, 0, none⟩) = p j → Value.pointer (some ⟨v3.heap.size, 0, none⟩) = .pointer none) := fun j hj e => by
              obtain ⟨_, cs, hl⟩ := (PL3.out.row j hj (by omega)).kind e.symm
              exact absurd hl.lt (Nat.lt_irrefl _)
            go_wp2_with fail
            clear kc pc
            refine (copy_any gg (more 0#32 L) L.length v3 HLG.out).mono ?_
            rintro e v4 ⟨rfl, hs4, hb4⟩
            have HS4 : Hid (Lies v4 v3.heap.size (strm true (more 0#32 L) L.length) 39) := hs4
            have PL4 : Hid (Play w v4 gb wb s p b (tot st k) 5) := PL3.out.next hb4
            have LW4 : Hid (Lies v4 lw #[.bool true, .slice ab L.length cbb] 42) := LW3.out.below hb4 LW3.out.lt
            have HO4 : Hid (v4.ownsRow w.heap.size 5 1 (.slice ab L.length cbb) L.length (cellsB L)) := own_keep HOG.out (fun q hq => hb4.block q (World.ownsRow.lt HOG.out q hq).2)
            have HV3 : Hid (w.heap.size ≤ v3.heap.size) := PL3.out.below.size
            clear hs4 hb4 l0 l1
            generalize v3.heap.size = gn at FAR HS4 HV3 ⊢
            have l0 : v4.cell? ⟨lw, 0, none⟩ = some (.bool true) := LW4.out.cell 0
            have l1 : v4.cell? ⟨lw, 1, none⟩ = some (.slice ab L.length cbb) := LW4.out.cell 1
            have x0 : v4.cell? ⟨gb, t, none⟩ = some (p t) := (PL4.out.got.cell t).trans (gotA_at p t ht)
            have xf := PL4.out.got.frozen t
            generalize p t = ppi at x0
            obtain ⟨v6, hv6⟩ : ∃ v6, v6 = v4.setCell ⟨gb, t, none⟩ (.pointer (some ⟨gn, 0, none⟩)) := ⟨_, rfl⟩
            have PL6 : Hid (Play w v6 gb wb s (upd p t (.pointer (some ⟨gn, 0, none⟩))) b (tot st k) t) := by rw [hv6]; exact PL4.out.point ht _ (fun j hj _ e => FAR.out j hj e)
            have HR6 : Hid (RowSt v6 w.heap.size (some L) (upd p t (.pointer (some ⟨gn, 0, none⟩)) t) (.slice ab L.length cbb)) := by
              rw [upd_same]
              refine ⟨⟨gn, rfl, HV3.out, ?_⟩, ?_⟩
              · rw [hv6]
                exact HS4.out.set_other (fun e => by have k1 := HS4.out; rw [e] at k1; exact absurd (lies_kind k1 PL4.out.got) (by decide)) _
              · rw [hv6]
                exact own_keep HO4.out (fun q hq => Below.heap_setCell _ _ _ _ (own_apart HO4.out PL4.out.got (by decide) q hq))
            have HV6 : Hid (v6 = v4.setCell ⟨gb, t, none⟩ (.pointer (some ⟨gn, 0, none⟩))) := hv6
            have z0 : v6.cell? ⟨wb, t * 2, none⟩ = some (.bool (s t).isSome) := (PL6.out.want.cell (t * 2)).trans (wantA_is s b t ht)
            have z1 : v6.cell? ⟨wb, t * 2 + 1, none⟩ = some (b t) := (PL6.out.want.cell (t * 2 + 1)).trans (wantA_b s b t ht)
            have y0 := PL6.out.want.frozen (t * 2)
            have y1 := PL6.out.want.frozen (t * 2 + 1)
            generalize (s t).isSome = sv at z0
            generalize b t = bvv at z1
            have z1' : (v6.setCell ⟨wb, t * 2, none⟩ (.bool true)).cell? ⟨wb, t * 2 + 1, none⟩ = some bvv := (World.cell?_setCell_other _ _ _ _ (by intro e; injection e with e1 e2; omega)).trans z1
            rw [hv6] at z0 z1 z1' y0 y1
            have LWX : Hid (∀ w' : World, (w'.heap[lw]? = v4.heap[lw]?) → w'.cell? ⟨lw, 0, none⟩ = some (.bool true) ∧ w'.cell? ⟨lw, 1, none⟩ = some (.slice ab L.length cbb)) := fun w' hb => ⟨(World.cell?_of_block (w := v4) (a := ⟨lw, 0, none⟩) hb).trans l0, (World.cell?_of_block (w := v4) (a := ⟨lw, 1, none⟩) hb).trans l1⟩
            have NL1 : Hid (lw ≠ gb) := fun e => by have k1 := LW4.out; rw [e] at k1; exact absurd (lies_kind k1 PL4.out.got) (by decide)
            have NL2 : Hid (lw ≠ wb) := by have := NWL.out; show _ ≠ _; omega
            have i2 : (t : Int) < 5 := by omega
            clear hv6
            go_wp2_with fail
            go_region_held3 (fun w' => w'.cell? ⟨lw, 0, none⟩ = some (.bool true) ∧ w'.cell? ⟨lw, 1, none⟩ = some (.slice ab L.length cbb)) (first | exact ⟨l0, l1⟩ | exact LWX.out _ (Below.heap_setCell _ _ _ _ NL1.out) | exact LWX.out _ ((Below.heap_setCell _ _ _ _ NL2.out).trans ((Below.heap_setCell _ _ _ _ NL2.out).trans (Below.heap_setCell _ _ _ _ NL1.out))))
              (fail)
            rename_i hHeld
            clear hHeld z0 z1 z1' y0 y1 x0 xf l0 l1 LWX
            go_wp2
            go_roundw
            case rel => exact ⟨k + 1, upd s t (some L), upd p t (.pointer (some ⟨gn, 0, none⟩)), upd b t (.slice ab L.length cbb), by omega, by go_num, by have := (PL6.out.put ht (.inl rfl) HT3.out (some L) _ HR6.out (fun M e => by injection e with e; subst e; exact Nat.le_trans (PL3.out.small i L hi (by omega) HSI.out) HT3.out)).drew; rw [HV6.out] at this; exact this⟩
            case measure => simp [intOf]; omega
          · have h3' : ¬ (t : Int) < 3 := by omega
            have FAR : Hid (∀ j, j < 5 → Value.pointer (some ⟨v3.heap.size, 0, none⟩) = p j → Value.pointer (some ⟨v3.heap.size, 0, none⟩) = .pointer none) := fun j hj e => by
              obtain ⟨_, cs, hl⟩ := (PL3.out.row j hj (by omega)).kind e.symm
              exact absurd hl.lt (Nat.lt_irrefl _)
            go_wp2_with fail
            clear kc pc
            refine (copy_any gg (more 0#32 L) L.length v3 HLG.out).mono ?_
            rintro e v4 ⟨rfl, hs4, hb4⟩
            have HS4 : Hid (Lies v4 v3.heap.size (strm true (more 0#32 L) L.length) 39) := hs4
            have PL4 : Hid (Play w v4 gb wb s p b (tot st k) 5) := PL3.out.next hb4
            have LW4 : Hid (Lies v4 lw #[.bool true, .slice ab L.length cbb] 42) := LW3.out.below hb4 LW3.out.lt
            have HO4 : Hid (v4.ownsRow w.heap.size 5 1 (.slice ab L.length cbb) L.length (cellsB L)) := own_keep HOG.out (fun q hq => hb4.block q (World.ownsRow.lt HOG.out q hq).2)
            have HV3 : Hid (w.heap.size ≤ v3.heap.size) := PL3.out.below.size
            clear hs4 hb4 l0 l1
            generalize v3.heap.size = gn at FAR HS4 HV3 ⊢
            have l0 : v4.cell? ⟨lw, 0, none⟩ = some (.bool true) := LW4.out.cell 0
            have l1 : v4.cell? ⟨lw, 1, none⟩ = some (.slice ab L.length cbb) := LW4.out.cell 1
            go_wp2_with fail
            go_roundw
            case rel => exact ⟨k + 1, s, p, b, by omega, by go_num, PL4.out.up HT3.out⟩
            case measure => simp [intOf]; omega
        have kb4 : (kind == 4) = false := by simpa using hk4
        clear hk4
        by_cases hk5 : kind = 5
        · subst hk5
          by_cases h3 : i < 3
          · have h3' : (i : Int) < 3 := by omega
            have FAR : Hid (∀ j, j < 5 → Value.pointer (some ⟨v3.heap.size, 0, none⟩) = p j → Value.pointer (some ⟨v3.heap.size, 0, none⟩) = .pointer none) := fun j hj e => by
              obtain ⟨_, cs, hl⟩ := (PL3.out.row j hj (by omega)).kind e.symm
              exact absurd hl.lt (Nat.lt_irrefl _)
            clear kc pc l0 l1
            have kc5 : v3.cell? ⟨ls, 0, none⟩ = some (.int .i64 5) := LS3.out.cell 0
            go_wp2_with fail
            refine (new_any v3).mono ?_
            rintro e v4 ⟨rfl, hw4⟩
            have hb4 : Below v3.heap.size v3 v4 := by rw [hw4]; exact (Below.refl _ _).alloc (Nat.le_refl _) _
            have HS4 : Hid (Lies v4 v3.heap.size (strm true 0#32 0) 39) := by rw [hw4]; exact Lies.new _ _ _
            have PL4 : Hid (Play w v4 gb wb s p b (tot st k) 5) := PL3.out.next hb4
            have HV3 : Hid (w.heap.size ≤ v3.heap.size) := PL3.out.below.size
            clear hw4 hb4 kc5
            generalize v3.heap.size = gn at FAR HS4 HV3 ⊢
            go_wp2_with fail
            refine (rnew_any v4).mono ?_
            rintro e v5 ⟨rfl, hb5⟩
            have PL5 : Hid (Play w v5 gb wb s p b (tot st k) 5) := PL4.out.next hb5
            have HS5 : Hid (Lies v5 gn (strm true 0#32 0) 39) := HS4.out.below hb5 HS4.out.lt
            clear hb5
            have x0 : v5.cell? ⟨gb, i, none⟩ = some (p i) := (PL5.out.got.cell i).trans (gotA_at p i hi)
            have xf := PL5.out.got.frozen i
            generalize p i = ppi at x0
            have NGW : Hid (gb ≠ wb) := fun e => by have k1 := PL5.out.got; rw [e] at k1; exact absurd (lies_kind k1 PL5.out.want) (by decide)
            obtain ⟨v6, hv6⟩ : ∃ v6, v6 = v5.setCell ⟨gb, i, none⟩ (.pointer (some ⟨gn, 0, none⟩)) := ⟨_, rfl⟩
            have PL6 : Hid (Play w v6 gb wb s (upd p i (.pointer (some ⟨gn, 0, none⟩))) b (tot st k) i) := by rw [hv6]; exact PL5.out.point hi _ (fun j hj _ e => FAR.out j hj e)
            have HR5 : Hid (RowSt v6 w.heap.size (some []) (upd p i (.pointer (some ⟨gn, 0, none⟩)) i) (.slice none 0 0)) := by
              rw [upd_same]
              refine ⟨⟨gn, rfl, HV3.out, ?_⟩, World.ownsRow_nil _ _ _ _⟩
              rw [more_nil, hv6]
              exact HS5.out.set_other (fun e => by have k1 := HS5.out; rw [e] at k1; exact absurd (lies_kind k1 PL5.out.got) (by decide)) _
            have HV6 : Hid (v6 = v5.setCell ⟨gb, i, none⟩ (.pointer (some ⟨gn, 0, none⟩))) := hv6
            have z0 : v6.cell? ⟨wb, i * 2, none⟩ = some (.bool (s i).isSome) := (PL6.out.want.cell (i * 2)).trans (wantA_is s b i hi)
            have z1 : v6.cell? ⟨wb, i * 2 + 1, none⟩ = some (b i) := (PL6.out.want.cell (i * 2 + 1)).trans (wantA_b s b i hi)
            have y0 := PL6.out.want.frozen (i * 2)
            have y1 := PL6.out.want.frozen (i * 2 + 1)
            generalize (s i).isSome = sv at z0
            generalize b i = bvv at z1
            have z1' : (v6.setCell ⟨wb, i * 2, none⟩ (.bool true)).cell? ⟨wb, i * 2 + 1, none⟩ = some bvv := (World.cell?_setCell_other _ _ _ _ (by intro e; injection e with e1 e2; omega)).trans z1
            rw [hv6] at z0 z1 z1' y0 y1
            clear hv6
            unfold rv
            go_wp2
            clear z0 z1 z1' y0 y1 x0 xf
            go_roundw
            case rel => exact ⟨k + 1, upd s i (some []), upd p i (.pointer (some ⟨gn, 0, none⟩)), upd b i (.slice none 0 0), by omega, by go_num, by have := PL6.out.put hi (.inl rfl) HT3.out (some []) _ HR5.out (fun M e => by injection e with e; subst e; exact Nat.zero_le _); rw [HV6.out] at this; exact this⟩
            case measure => simp [intOf]; omega
          · have h3' : ¬ (i : Int) < 3 := by omega
            go_wp2_with fail
            go_roundw
            case rel => exact ⟨k + 1, s, p, b, by omega, by go_num, PL3.out.up HT3.out⟩
            case measure => simp [intOf]; omega
        have kb5 : (kind == 5) = false := by simpa using hk5
        clear hk5
        go_wp2_with fail
        go_roundw
        case rel => exact ⟨k + 1, s, p, b, by omega, by go_num, PL3.out.up HT3.out⟩
        case measure => simp [intOf]; omega
      | none =>
        rw [hsi] at row3
        obtain ⟨rfl, rfl, rfl⟩ : ab = none ∧ nb = 0 ∧ cbb = 0 := by have := HBI.out.symm.trans row3.2; injection this with e1 e2 e3; exact ⟨e1, e2, e3⟩
        obtain rfl : is = false := by have := HIS.out; rw [hsi] at this; exact this
        have HNO : Hid (NoStream (.pointer pq) v3) := by have := RowSt.no row3; rw [HPQ.out] at this; exact this
        have HRO : Hid (RowSt v3 w.heap.size none (p i) (.slice none 0 0)) := by rw [HBI.out] at row3; exact row3
        have HSI : Hid (s i = none) := hsi
        clear row3 hsi
        by_cases hk0 : kind = 0
        · subst hk0
          go_wp2_with fail
          refine (write_no _ _ v3 HNO.out).mono ?_
          rintro e v4 ⟨rfl, hw⟩
          rw [hw]
          clear hw v4
          go_wp2_with fail
          refine (rwrite_no _ v3).mono ?_
          rintro e v5 ⟨rfl, hb5⟩
          have PL5 : Hid (Play w v5 gb wb s p b (tot st k) 5) := PL3.out.next hb5
          have HR5 : Hid (RowSt v5 w.heap.size none (p i) (.slice none 0 0)) := HRO.out.keep (fun _ e => hb5.block _ ((HRO.out.kind e).2.elim (fun _ hl => hl.lt))) (fun _ e => by cases e)
          clear hb5
          have z0 : v5.cell? ⟨wb, i * 2, none⟩ = some (.bool (s i).isSome) := (PL5.out.want.cell (i * 2)).trans (wantA_is s b i hi)
          have z1 : v5.cell? ⟨wb, i * 2 + 1, none⟩ = some (b i) := (PL5.out.want.cell (i * 2 + 1)).trans (wantA_b s b i hi)
          have y0 := PL5.out.want.frozen (i * 2)
          have y1 := PL5.out.want.frozen (i * 2 + 1)
          generalize (s i).isSome = sv at z0
          generalize b i = bvv at z1
          have z1' : (v5.setCell ⟨wb, i * 2, none⟩ (.bool false)).cell? ⟨wb, i * 2 + 1, none⟩ = some bvv := (World.cell?_setCell_other _ _ _ _ (by intro e; injection e with e1 e2; omega)).trans z1
          unfold rv
          go_wp2
          clear z0 z1 z1' y0 y1
          go_roundw
          case rel => exact ⟨k + 1, upd s i none, p, upd b i (.slice none 0 0), by omega, by go_num, PL5.out.put hi (.inr rfl) HT3.out none _ HR5.out (fun M e => by cases e)⟩
          case measure => simp [intOf]; omega
        have kb0 : (kind == 0) = false := by simpa using hk0
        clear hk0
        by_cases hk1 : kind = 1
        · subst hk1
          have HK : Hid (∀ w', Below v3.heap.size v3 w' → w'.cell? ⟨lw, 0, none⟩ = some (.bool false) ∧ w'.cell? ⟨lw, 1, none⟩ = some (.slice none 0 0)) := fun w' hb => ⟨(hb.cell (p := ⟨lw, 0, none⟩) LW3.out.lt).trans l0, (hb.cell (p := ⟨lw, 1, none⟩) LW3.out.lt).trans l1⟩
          go_wp2_with fail
          go_region_held3 (fun w' => w'.cell? ⟨lw, 0, none⟩ = some (.bool false) ∧ w'.cell? ⟨lw, 1, none⟩ = some (.slice none 0 0)) (first | exact ⟨l0, l1⟩ | exact HK.out _ (Below.refl _ v3).drew | exact HK.out _ hb9)
            (first
              | (go_at_call 22; refine (sum_no _ v3.drew HNO.out).mono ?_; rintro e w9 ⟨rfl, rfl⟩)
              | (go_at_call 23; refine (rsum_no _ _).mono ?_; rintro e w9 ⟨rfl, hb9'⟩; have hb9 : Below v3.heap.size v3 w9 := ⟨hb9'.os, hb9'.tape, hb9'.output, hb9'.size, hb9'.block⟩; clear hb9'))
          rename_i hHeld
          clear hHeld HK kc pc l0 l1
          have PL9 : Hid (Play w w9 gb wb s p b (tot st k) 5) := PL3.out.next hb9
          go_wp2
          go_roundw
          case rel => exact ⟨k + 1, s, p, b, by omega, by go_num, PL9.out.up HT3.out⟩
          case measure => simp [intOf]; omega
        have kb1 : (kind == 1) = false := by simpa using hk1
        clear hk1
        by_cases hk2 : kind = 2
        · subst hk2
          have HK : Hid (∀ w', Below v3.heap.size v3 w' → w'.cell? ⟨lw, 0, none⟩ = some (.bool false) ∧ w'.cell? ⟨lw, 1, none⟩ = some (.slice none 0 0)) := fun w' hb => ⟨(hb.cell (p := ⟨lw, 0, none⟩) LW3.out.lt).trans l0, (hb.cell (p := ⟨lw, 1, none⟩) LW3.out.lt).trans l1⟩
          go_wp2_with fail
          go_region_held3 (fun w' => w'.cell? ⟨lw, 0, none⟩ = some (.bool false) ∧ w'.cell? ⟨lw, 1, none⟩ = some (.slice none 0 0)) (first | exact ⟨l0, l1⟩ | exact HK.out _ (Below.refl _ v3).drew | exact HK.out _ hb9)
            (first
              | (go_at_call 24; refine (len_no _ v3.drew HNO.out).mono ?_; rintro e w9 ⟨rfl, rfl⟩))
          rename_i hHeld
          clear hHeld HK kc pc l0 l1
          have PL9 : Hid (Play w v3.drew gb wb s p b (tot st k) 5) := PL3.out.drew
          go_wp2
          go_roundw
          case rel => exact ⟨k + 1, s, p, b, by omega, by go_num, PL9.out.up HT3.out⟩
          case measure => simp [intOf]; omega
        have kb2 : (kind == 2) = false := by simpa using hk2
        clear hk2
        by_cases hk3 : kind = 3
        · subst hk3
          go_wp2_with fail
          refine (reset_no _ v3 HNO.out).mono ?_
          rintro e v4 ⟨rfl, hw⟩
          rw [hw]
          clear hw v4
          go_wp2_with fail
          refine (rreset_any false _ v3).mono ?_
          rintro e v5 ⟨rfl, hb5⟩
          have PL5 : Hid (Play w v5 gb wb s p b (tot st k) 5) := PL3.out.next hb5
          have HR5 : Hid (RowSt v5 w.heap.size none (p i) (.slice none 0 0)) := HRO.out.keep (fun _ e => hb5.block _ ((HRO.out.kind e).2.elim (fun _ hl => hl.lt))) (fun _ e => by cases e)
          clear hb5
          have z0 : v5.cell? ⟨wb, i * 2, none⟩ = some (.bool (s i).isSome) := (PL5.out.want.cell (i * 2)).trans (wantA_is s b i hi)
          have z1 : v5.cell? ⟨wb, i * 2 + 1, none⟩ = some (b i) := (PL5.out.want.cell (i * 2 + 1)).trans (wantA_b s b i hi)
          have y0 := PL5.out.want.frozen (i * 2)
          have y1 := PL5.out.want.frozen (i * 2 + 1)
          generalize (s i).isSome = sv at z0
          generalize b i = bvv at z1
          have z1' : (v5.setCell ⟨wb, i * 2, none⟩ (.bool false)).cell? ⟨wb, i * 2 + 1, none⟩ = some bvv := (World.cell?_setCell_other _ _ _ _ (by intro e; injection e with e1 e2; omega)).trans z1
          unfold rv
          go_wp2
          clear z0 z1 z1' y0 y1
          go_roundw
          case rel => exact ⟨k + 1, upd s i none, p, upd b i (.slice none 0 0), by omega, by go_num, PL5.out.put hi (.inr rfl) HT3.out none _ HR5.out (fun M e => by cases e)⟩
          case measure => simp [intOf]; omega
        have kb3 : (kind == 3) = false := by simpa using hk3
        clear hk3
        by_cases hk4 : kind = 4
        · subst hk4
          by_cases h3 : t < 3
          · have h3' : (t : Int) < 3 := by omega
            go_wp2_with fail
            clear kc pc
            refine (copy_no _ v3 HNO.out).mono ?_
            rintro e v4 ⟨rfl, hw4⟩
            have PL4 : Hid (Play w v4 gb wb s p b (tot st k) 5) := by rw [hw4]; exact PL3.out
            have LW4 : Hid (Lies v4 lw #[.bool false, .slice none 0 0] 42) := by rw [hw4]; exact LW3.out
            clear hw4 l0 l1
            have l0 : v4.cell? ⟨lw, 0, none⟩ = some (.bool false) := LW4.out.cell 0
            have l1 : v4.cell? ⟨lw, 1, none⟩ = some (.slice none 0 0) := LW4.out.cell 1
            have x0 : v4.cell? ⟨gb, t, none⟩ = some (p t) := (PL4.out.got.cell t).trans (gotA_at p t ht)
            have xf := PL4.out.got.frozen t
            generalize p t = ppi at x0
            obtain ⟨v6, hv6⟩ : ∃ v6, v6 = v4.setCell ⟨gb, t, none⟩ (.pointer none) := ⟨_, rfl⟩
            have PL6 : Hid (Play w v6 gb wb s (upd p t (.pointer none)) b (tot st k) t) := by rw [hv6]; exact PL4.out.point ht _ (fun _ _ _ _ => rfl)
            have HR6 : Hid (RowSt v6 w.heap.size none (upd p t (.pointer none) t) (.slice none 0 0)) := by
              rw [upd_same]
              exact ⟨.inl rfl, rfl⟩
            have HV6 : Hid (v6 = v4.setCell ⟨gb, t, none⟩ (.pointer none)) := hv6
            have z0 : v6.cell? ⟨wb, t * 2, none⟩ = some (.bool (s t).isSome) := (PL6.out.want.cell (t * 2)).trans (wantA_is s b t ht)
            have z1 : v6.cell? ⟨wb, t * 2 + 1, none⟩ = some (b t) := (PL6.out.want.cell (t * 2 + 1)).trans (wantA_b s b t ht)
            have y0 := PL6.out.want.frozen (t * 2)
            have y1 := PL6.out.want.frozen (t * 2 + 1)
            generalize (s t).isSome = sv at z0
            generalize b t = bvv at z1
            have z1' : (v6.setCell ⟨wb, t * 2, none⟩ (.bool false)).cell? ⟨wb, t * 2 + 1, none⟩ = some bvv := (World.cell?_setCell_other _ _ _ _ (by intro e; injection e with e1 e2; omega)).trans z1
            rw [hv6] at z0 z1 z1' y0 y1
            have LWX : Hid (∀ w' : World, (w'.heap[lw]? = v4.heap[lw]?) → w'.cell? ⟨lw, 0, none⟩ = some (.bool false) ∧ w'.cell? ⟨lw, 1, none⟩ = some (.slice none 0 0)) := fun w' hb => ⟨(World.cell?_of_block (w := v4) (a := ⟨lw, 0, none⟩) hb).trans l0, (World.cell?_of_block (w := v4) (a := ⟨lw, 1, none⟩) hb).trans l1⟩
            have NL1 : Hid (lw ≠ gb) := fun e => by have k1 := LW4.out; rw [e] at k1; exact absurd (lies_kind k1 PL4.out.got) (by decide)
            have NL2 : Hid (lw ≠ wb) := by have := NWL.out; show _ ≠ _; omega
            have i2 : (t : Int) < 5 := by omega
            clear hv6
            go_wp2_with fail
            go_region_held3 (fun w' => w'.cell? ⟨lw, 0, none⟩ = some (.bool false) ∧ w'.cell? ⟨lw, 1, none⟩ = some (.slice none 0 0)) (first | exact ⟨l0, l1⟩ | exact LWX.out _ (Below.heap_setCell _ _ _ _ NL1.out) | exact LWX.out _ ((Below.heap_setCell _ _ _ _ NL2.out).trans ((Below.heap_setCell _ _ _ _ NL2.out).trans (Below.heap_setCell _ _ _ _ NL1.out))))
              (fail)
            rename_i hHeld
            clear hHeld z0 z1 z1' y0 y1 x0 xf l0 l1 LWX
            go_wp2
            go_roundw
            case rel => exact ⟨k + 1, upd s t none, upd p t (.pointer none), upd b t (.slice none 0 0), by omega, by go_num, by have := (PL6.out.put ht (.inl rfl) HT3.out none _ HR6.out (fun M e => by cases e)).drew; rw [HV6.out] at this; exact this⟩
            case measure => simp [intOf]; omega
          · have h3' : ¬ (t : Int) < 3 := by omega
            go_wp2_with fail
            clear kc pc
            refine (copy_no _ v3 HNO.out).mono ?_
            rintro e v4 ⟨rfl, hw4⟩
            have PL4 : Hid (Play w v4 gb wb s p b (tot st k) 5) := by rw [hw4]; exact PL3.out
            have LW4 : Hid (Lies v4 lw #[.bool false, .slice none 0 0] 42) := by rw [hw4]; exact LW3.out
            clear hw4 l0 l1
            have l0 : v4.cell? ⟨lw, 0, none⟩ = some (.bool false) := LW4.out.cell 0
            have l1 : v4.cell? ⟨lw, 1, none⟩ = some (.slice none 0 0) := LW4.out.cell 1
            go_wp2_with fail
            go_roundw
            case rel => exact ⟨k + 1, s, p, b, by omega, by go_num, PL4.out.up HT3.out⟩
            case measure => simp [intOf]; omega
        have kb4 : (kind == 4) = false := by simpa using hk4
        clear hk4
        by_cases hk5 : kind = 5
        · subst hk5
          by_cases h3 : i < 3
          · have h3' : (i : Int) < 3 := by omega
            have FAR : Hid (∀ j, j < 5 → Value.pointer (some ⟨v3.heap.size, 0, none⟩) = p j → Value.pointer (some ⟨v3.heap.size, 0, none⟩) = .pointer none) := fun j hj e => by
              obtain ⟨_, cs, hl⟩ := (PL3.out.row j hj (by omega)).kind e.symm
              exact absurd hl.lt (Nat.lt_irrefl _)
            clear kc pc l0 l1
            have kc5 : v3.cell? ⟨ls, 0, none⟩ = some (.int .i64 5) := LS3.out.cell 0
            go_wp2_with fail
            refine (new_any v3).mono ?_
            rintro e v4 ⟨rfl, hw4⟩
            have hb4 : Below v3.heap.size v3 v4 := by rw [hw4]; exact (Below.refl _ _).alloc (Nat.le_refl _) _
            have HS4 : Hid (Lies v4 v3.heap.size (strm true 0#32 0) 39) := by rw [hw4]; exact Lies.new _ _ _
            have PL4 : Hid (Play w v4 gb wb s p b (tot st k) 5) := PL3.out.next hb4
            have HV3 : Hid (w.heap.size ≤ v3.heap.size) := PL3.out.below.size
            clear hw4 hb4 kc5
            generalize v3.heap.size = gn at FAR HS4 HV3 ⊢
            go_wp2_with fail
            refine (rnew_any v4).mono ?_
            rintro e v5 ⟨rfl, hb5⟩
            have PL5 : Hid (Play w v5 gb wb s p b (tot st k) 5) := PL4.out.next hb5
            have HS5 : Hid (Lies v5 gn (strm true 0#32 0) 39) := HS4.out.below hb5 HS4.out.lt
            clear hb5
            have x0 : v5.cell? ⟨gb, i, none⟩ = some (p i) := (PL5.out.got.cell i).trans (gotA_at p i hi)
            have xf := PL5.out.got.frozen i
            generalize p i = ppi at x0
            have NGW : Hid (gb ≠ wb) := fun e => by have k1 := PL5.out.got; rw [e] at k1; exact absurd (lies_kind k1 PL5.out.want) (by decide)
            obtain ⟨v6, hv6⟩ : ∃ v6, v6 = v5.setCell ⟨gb, i, none⟩ (.pointer (some ⟨gn, 0, none⟩)) := ⟨_, rfl⟩
            have PL6 : Hid (Play w v6 gb wb s (upd p i (.pointer (some ⟨gn, 0, none⟩))) b (tot st k) i) := by rw [hv6]; exact PL5.out.point hi _ (fun j hj _ e => FAR.out j hj e)
            have HR5 : Hid (RowSt v6 w.heap.size (some []) (upd p i (.pointer (some ⟨gn, 0, none⟩)) i) (.slice none 0 0)) := by
              rw [upd_same]
              refine ⟨⟨gn, rfl, HV3.out, ?_⟩, World.ownsRow_nil _ _ _ _⟩
              rw [more_nil, hv6]
              exact HS5.out.set_other (fun e => by have k1 := HS5.out; rw [e] at k1; exact absurd (lies_kind k1 PL5.out.got) (by decide)) _
            have HV6 : Hid (v6 = v5.setCell ⟨gb, i, none⟩ (.pointer (some ⟨gn, 0, none⟩))) := hv6
            have z0 : v6.cell? ⟨wb, i * 2, none⟩ = some (.bool (s i).isSome) := (PL6.out.want.cell (i * 2)).trans (wantA_is s b i hi)
            have z1 : v6.cell? ⟨wb, i * 2 + 1, none⟩ = some (b i) := (PL6.out.want.cell (i * 2 + 1)).trans (wantA_b s b i hi)
            have y0 := PL6.out.want.frozen (i * 2)
            have y1 := PL6.out.want.frozen (i * 2 + 1)
            generalize (s i).isSome = sv at z0
            generalize b i = bvv at z1
            have z1' : (v6.setCell ⟨wb, i * 2, none⟩ (.bool true)).cell? ⟨wb, i * 2 + 1, none⟩ = some bvv := (World.cell?_setCell_other _ _ _ _ (by intro e; injection e with e1 e2; omega)).trans z1
            rw [hv6] at z0 z1 z1' y0 y1
            clear hv6
            unfold rv
            go_wp2
            clear z0 z1 z1' y0 y1 x0 xf
            go_roundw
            case rel => exact ⟨k + 1, upd s i (some []), upd p i (.pointer (some ⟨gn, 0, none⟩)), upd b i (.slice none 0 0), by omega, by go_num, by have := PL6.out.put hi (.inl rfl) HT3.out (some []) _ HR5.out (fun M e => by injection e with e; subst e; exact Nat.zero_le _); rw [HV6.out] at this; exact this⟩
            case measure => simp [intOf]; omega
          · have h3' : ¬ (i : Int) < 3 := by omega
            go_wp2_with fail
            go_roundw
            case rel => exact ⟨k + 1, s, p, b, by omega, by go_num, PL3.out.up HT3.out⟩
            case measure => simp [intOf]; omega
        have kb5 : (kind == 5) = false := by simpa using hk5
        clear hk5
        go_wp2_with fail
        go_roundw
        case rel => exact ⟨k + 1, s, p, b, by omega, by go_num, PL3.out.up HT3.out⟩
        case measure => simp [intOf]; omega
    · obtain rfl : k = st.length := by omega
      go_wp2_with fail
      go_loopw [132] (fun i wr => ∃ (k : Nat), k ≤ 5 ∧ i = .int .i64 k ∧ Hid (Play w wr gb wb s p b (tot st st.length) 5)) (fun i _ => 5 - (intOf i).toNat)
      case atStart => exact ⟨0, by omega, rfl, PL⟩
      case round =>
        obtain ⟨i, hi5, rfl, PL2⟩ := hrel
        by_cases hi : i < 5
        · obtain ⟨v2, hv2⟩ : ∃ v2, v2 = wr := ⟨_, rfl⟩
          rw [← hv2]
          rw [← hv2] at PL2
          clear hv2
          have rw2 := PL2.out.row i hi (by omega)
          obtain ⟨pq, hpq⟩ : ∃ pq, p i = .pointer pq := by
            cases hsi : s i with
            | some L => rw [hsi] at rw2; obtain ⟨⟨g, e, _⟩, _⟩ := rw2; exact ⟨_, e⟩
            | none => rw [hsi] at rw2; rcases rw2.1 with e | ⟨g, _, _, e, _⟩ <;> exact ⟨_, e⟩
          obtain ⟨ab, nb, cbb, hbi⟩ : ∃ ab nb cbb, b i = .slice ab nb cbb := by
            cases hsi : s i with
            | some L => rw [hsi] at rw2; obtain ⟨a', c', e, _⟩ := own_slice rw2.2; exact ⟨_, _, _, e⟩
            | none => rw [hsi] at rw2; exact ⟨_, _, _, rw2.2⟩
          obtain ⟨is, his⟩ : ∃ is, is = (s i).isSome := ⟨_, rfl⟩
          have q1 : v2.cell? ⟨wb, i * 2, none⟩ = some (.bool is) := (PL2.out.want.cell (i * 2)).trans (by rw [wantA_is s b i hi, his])
          have q2 : v2.cell? ⟨wb, i * 2 + 1, none⟩ = some (.slice ab nb cbb) := (PL2.out.want.cell (i * 2 + 1)).trans (by rw [wantA_b s b i hi, hbi])
          have HPQ : Hid (p i = .pointer pq) := hpq
          have HBI : Hid (b i = .slice ab nb cbb) := hbi
          have HIS : Hid (is = (s i).isSome) := his
          have i1 : (i : Int) < 5 := by omega
          clear rw2 hpq hbi his
          go_wp2_with fail
          obtain ⟨v3, hv3⟩ : ∃ v3, v3 = v2.alloc (.cells #[.bool is, .slice ab nb cbb] 42) := ⟨_, rfl⟩
          rw [← hv3]
          have hb3 : Below v2.heap.size v2 v3 := by rw [hv3]; exact (Below.refl _ _).alloc (Nat.le_refl _) _
          have PL3 : Hid (Play w v3 gb wb s p b (tot st st.length) 5) := PL2.out.next hb3
          have LW3 : Hid (Lies v3 v2.heap.size #[.bool is, .slice ab nb cbb] 42) := by rw [hv3]; exact Lies.new _ _ _
          clear hv3 hb3 PL2 q1 q2
          generalize v2.heap.size = lw at LW3 ⊢
          have q0 : v3.cell? ⟨gb, i, none⟩ = some (.pointer pq) := (PL3.out.got.cell i).trans (by rw [gotA_at p i hi, HPQ.out])
          have l0 : v3.cell? ⟨lw, 0, none⟩ = some (.bool is) := LW3.out.cell 0
          have l1 : v3.cell? ⟨lw, 1, none⟩ = some (.slice ab nb cbb) := LW3.out.cell 1
          have HK : Hid (∀ w', Below v3.heap.size v3 w' → w'.cell? ⟨gb, i, none⟩ = some (.pointer pq) ∧ w'.cell? ⟨lw, 0, none⟩ = some (.bool is) ∧ w'.cell? ⟨lw, 1, none⟩ = some (.slice ab nb cbb)) := fun w' hb =>
            ⟨(hb.cell (p := ⟨gb, i, none⟩) PL3.out.got.lt).trans q0, (hb.cell (p := ⟨lw, 0, none⟩) LW3.out.lt).trans l0, (hb.cell (p := ⟨lw, 1, none⟩) LW3.out.lt).trans l1⟩
          have row3 := PL3.out.row i hi (by omega)
          cases hsi : s i with
          | some L =>
            rw [hsi] at row3
            obtain ⟨⟨gg, egg, hgg, hlg⟩, hog⟩ := row3
            obtain rfl : pq = some ⟨gg, 0, none⟩ := by have := HPQ.out.symm.trans egg; injection this
            obtain rfl : is = true := by have := HIS.out; rw [hsi] at this; exact this
            rw [HBI.out] at hog
            obtain ⟨a', c', e', hz', hbt', _⟩ := own_slice hog
            injection e' with e1 e2 e3
            subst e1 e2 e3
            have HLG : Hid (Lies v3 gg (strm true (more 0#32 L) L.length) 39) := hlg
            have HBT : Hid (Bts ab L v3) := hbt'
            have HSI : Hid (s i = some L) := hsi
            have ML : Hid (L.length ≤ maxLen) := by have := PL3.out.small i L hi (by omega) hsi; show _ ≤ _; unfold maxLen; omega
            have ML2 : Hid ((L.length : Int) + (([] : List UInt8).length : Int) < 9223372036854775808) := by have := PL3.out.small i L hi (by omega) hsi; show _ < _; simp; omega
            have HKB : Hid (∀ w9 w10, Below v3.heap.size v3 w9 → But gg w9 w10 → w10.cell? ⟨gb, i, none⟩ = some (.pointer (some ⟨gg, 0, none⟩)) ∧ w10.cell? ⟨lw, 0, none⟩ = some (.bool true) ∧ w10.cell? ⟨lw, 1, none⟩ = some (.slice ab L.length cbb)) := fun w9 w10 hb hbut => by
              obtain ⟨k0, k1, k2⟩ := HK.out w9 hb
              have ng : gb ≠ gg := fun e => by have k1 := PL3.out.got; rw [e] at k1; exact absurd (lies_kind k1 HLG.out) (by decide)
              have nl : lw ≠ gg := fun e => by have k1 := LW3.out; rw [e] at k1; exact absurd (lies_kind k1 HLG.out) (by decide)
              have hg := PL3.out.got.below hb PL3.out.got.lt
              have hw := LW3.out.below hb LW3.out.lt
              exact ⟨(World.cell?_of_block (w := w9) (a := ⟨gb, i, none⟩) (hbut.block gb hg.lt ng)).trans k0, (World.cell?_of_block (w := w9) (a := ⟨lw, 0, none⟩) (hbut.block lw hw.lt nl)).trans k1, (World.cell?_of_block (w := w9) (a := ⟨lw, 1, none⟩) (hbut.block lw hw.lt nl)).trans k2⟩
            clear egg hgg hlg hog hz' hbt' hsi
            go_wp2_with fail
            go_region_held3 (fun w' => w'.cell? ⟨gb, i, none⟩ = some (.pointer (some ⟨gg, 0, none⟩)) ∧ w'.cell? ⟨lw, 0, none⟩ = some (.bool true) ∧ w'.cell? ⟨lw, 1, none⟩ = some (.slice ab L.length cbb)) (first | exact hS10 | exact HK.out _ hb9 | exact HK.out _ (Below.refl _ v3).drew)
              (first
                | (go_at_call 22; refine (sum_any gg (more 0#32 L) L.length _ HLG.out.drew).mono ?_; rintro e w9 ⟨rfl, rfl⟩)
                | (go_at_call 23; refine (rsum_any ab L cbb _ (HBT.out.below (Below.refl _ v3).drew) ML.out).mono ?_; rintro e w9 ⟨rfl, hb9'⟩; have hb9 : Below v3.heap.size v3 w9 := ⟨hb9'.os, hb9'.tape, hb9'.output, hb9'.size, hb9'.block⟩; clear hb9')
                | (go_at_call 24; refine (len_any gg (more 0#32 L) L.length _ (HLG.out.below hb9 HLG.out.lt)).mono ?_; rintro e w10 ⟨rfl, rfl⟩)
                | (go_at_call 20; refine (write_any gg (more 0#32 L) L.length none [] 0 _ (HLG.out.below hb9 HLG.out.lt) (.inl rfl) (Nat.zero_le _) (Int.natCast_nonneg _) ML2.out).mono ?_; rintro e w10 ⟨rfl, hs10, hbut⟩; have hS10 := HKB.out _ w10 hb9 hbut))
            rename_i hHeld
            have PL10 : Hid (Play w w10 gb wb s p b (tot st st.length) 5) := (PL3.out.next hb9).same hi HPQ.out hbut HSI.out (by rw [more_nil] at hs10; simpa using hs10)
            clear hHeld HK HKB q0 l0 l1 hs10 hbut hb9 hS10
            go_wp2
            go_roundw
            case rel => exact ⟨i + 1, by omega, by go_num, PL10⟩
            case measure => simp [intOf]; omega
          | none =>
            rw [hsi] at row3
            obtain ⟨rfl, rfl, rfl⟩ : ab = none ∧ nb = 0 ∧ cbb = 0 := by have := HBI.out.symm.trans row3.2; injection this with e1 e2 e3; exact ⟨e1, e2, e3⟩
            obtain rfl : is = false := by have := HIS.out; rw [hsi] at this; exact this
            have HNO : Hid (∀ w', Below v3.heap.size v3 w' → NoStream (.pointer pq) w') := fun w' hb => by
              have := RowSt.no row3
              rw [HPQ.out] at this
              rcases this with e | ⟨g, x, n, e, hl⟩
              · exact .inl e
              · exact .inr ⟨g, x, n, e, hl.below hb hl.lt⟩
            clear row3 hsi
            go_wp2_with fail
            go_region_held3 (fun w' => w'.cell? ⟨gb, i, none⟩ = some (.pointer pq) ∧ w'.cell? ⟨lw, 0, none⟩ = some (.bool false) ∧ w'.cell? ⟨lw, 1, none⟩ = some (.slice none 0 0)) (first | exact HK.out _ hb9 | exact HK.out _ (Below.refl _ v3).drew)
              (first
                | (go_at_call 22; refine (sum_no _ v3.drew (HNO.out _ (Below.refl _ v3).drew)).mono ?_; rintro e w9 ⟨rfl, rfl⟩)
                | (go_at_call 23; refine (rsum_no _ _).mono ?_; rintro e w9 ⟨rfl, hb9'⟩; have hb9 : Below v3.heap.size v3 w9 := ⟨hb9'.os, hb9'.tape, hb9'.output, hb9'.size, hb9'.block⟩; clear hb9')
                | (go_at_call 24; refine (len_no _ _ (HNO.out _ hb9)).mono ?_; rintro e w10 ⟨rfl, rfl⟩)
                | (go_at_call 20; refine (write_no _ _ _ (HNO.out _ hb9)).mono ?_; rintro e w10 ⟨rfl, rfl⟩))
            rename_i hHeld
            have PL10 : Hid (Play w _ gb wb s p b (tot st st.length) 5) := PL3.out.next hb9
            clear hHeld HK HNO q0 l0 l1 hb9
            go_wp2
            go_roundw
            case rel => exact ⟨i + 1, by omega, by go_num, PL10⟩
            case measure => simp [intOf]; omega
        · obtain rfl : i = 5 := by omega
          go_wp2_with fail
          refine (wakes_any _).mono ?_
          rintro e w9 ⟨rfl, hb9⟩
          go_wp2
          go_ret
          exact ⟨rfl, PL2.out.below.trans (hb9.mono PL2.out.below.size)⟩
end Go.Proofs.Ytekjhfhakodooaa.sumPlays
