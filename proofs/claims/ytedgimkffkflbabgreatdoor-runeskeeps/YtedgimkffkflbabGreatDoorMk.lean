/-
  The program's marks: how many marked places stand ahead of one, and where the one of a number stands.
-/
import Derived.Test.YtedgimkffkflbabGreatDoorShf
import Derived.Test.YtedgimkffkflbabGreatDoorLow
namespace Go.Proofs.YtedgimkffkflbabGreatDoor
open Go.RowKit

/-- Marks of N places lie in block g. -/
def MkAt (w : World) (g N : Nat) (f : Nat → Int) : Prop := ∃ cs : List Int, cs.length = N + 1 ∧ Lies w g (cellsN .i32 cs).toArray 21 ∧ ∀ k, 1 ≤ k → k ≤ N → cs[k]? = some (ent f k)
/-- Marks are nought or one. -/
def F01 (f : Nat → Int) : Prop := (∀ j, 0 ≤ f j) ∧ ∀ j, f j ≤ 1
theorem MkAt.lt {w : World} {g N : Nat} {f : Nat → Int} (h : MkAt w g N f) : g < w.heap.size := by
  obtain ⟨_, _, h, _⟩ := h
  exact h.lt
theorem MkAt.keep {w w' : World} {g N : Nat} {f : Nat → Int} (h : MkAt w g N f) (e : w'.heap[g]? = w.heap[g]?) : MkAt w' g N f := by
  obtain ⟨cs, h1, h2, h3⟩ := h
  exact ⟨cs, h1, e.trans h2, h3⟩
theorem MkAt.below {w w' : World} {g N B : Nat} {f : Nat → Int} (h : MkAt w g N f) (hb : Below B w w') (hg : g < B) : MkAt w' g N f := h.keep (hb.block g hg)
theorem MkAt.ext {w : World} {g N : Nat} {f f' : Nat → Int} (h : MkAt w g N f) (e : ∀ j, j < N → f j = f' j) : MkAt w g N f' := by
  obtain ⟨cs, h1, h2, h3⟩ := h
  refine ⟨cs, h1, h2, fun k hk1 hk2 => ?_⟩
  rw [h3 k hk1 hk2]
  have := lowb_le k
  simp only [ent]
  rw [pre_ext f f' k (fun j hj => e j (by omega)), pre_ext f f' (k - lowb k) (fun j hj => e j (by omega))]
theorem cellsN_cell {w : World} {g : Nat} {cs : List Int} {t : TypeId} (h : Lies w g (cellsN .i32 cs).toArray t) (k : Nat) (x : Int) (hx : cs[k]? = some x) : w.cell? ⟨g, k, none⟩ = some (.int .i32 x) := by
  rw [h.cell k]
  simp [cellsN, hx]
theorem cellsN_set {w : World} {g : Nat} {cs : List Int} {t : TypeId} (h : Lies w g (cellsN .i32 cs).toArray t) (k : Nat) (x : Int) : Lies (w.setCell ⟨g, k, none⟩ (.int .i32 x)) g (cellsN .i32 (cs.set k x)).toArray t := by
  have := h.set k (.int .i32 x)
  rw [List.setIfInBounds_toArray] at this
  have e : (cellsN .i32 cs).set k (.int .i32 x) = cellsN .i32 (cs.set k x) := by simp [cellsN, List.map_set]
  rw [e] at this
  exact this
theorem F01.put {f : Nat → Int} (h : F01 f) (at' : Nat) (by' : Int) (h0 : 0 ≤ f at' + by') (h1 : f at' + by' ≤ 1) : F01 (put1 f at' by') := by
  refine ⟨fun j => ?_, fun j => ?_⟩
  · unfold put1
    split
    · rename_i e; subst e; exact h0
    · exact h.1 j
  · unfold put1
    split
    · rename_i e; subst e; exact h1
    · exact h.2 j

set_option maxHeartbeats 1000000 in
set_option maxRecDepth 100000 in
theorem mfor_any (n : Nat) (w : World) (hn : n ≤ 1073741824) :
    Calls Tryz.prog 46 #[.int .i64 n] w fun e w' => e = .returned (.slice (some ⟨w.heap.size, 0, none⟩) (n + 1) (n + 1)) ∧ Below w.heap.size w w' ∧ MkAt w' w.heap.size n (fun _ => 0) ∧ w'.heap.size = w.heap.size + 1 := by
  obtain ⟨w3, hmk, hown3, b3, hsz3⟩ := make_roomN w 81 21 4 .i32 Tryz.underlying81 infoR (by omega) (n + 1) (n + 1) ((n : Int) + 1) ((n : Int) + 1) (by push_cast; rfl) (by push_cast; rfl) (by omega) (by omega) w.heap.size (Nat.le_refl _)
  have HM : Hid (MkAt w3 w.heap.size n (fun _ => 0)) := by
    obtain ⟨h1, ⟨h2, _⟩ | ⟨g, cap, cur, hv, hB, hg, hcap, _, hs, ht⟩⟩ := hown3
    · cases h2
    · injection hv with e1 e2 e3
      injection e1 with e1
      injection e1 with e1 e4
      subst e1 e3
      refine ⟨List.replicate (n + 1) 0, by simp, ?_, fun k hk1 hk2 => ?_⟩
      · have : cur = (cellsN .i32 (List.replicate (n + 1) 0)).toArray := by
          apply Array.ext'
          show cur.toList = cellsN .i32 (List.replicate (n + 1) 0)
          rw [← ht, Nat.mul_one, List.take_of_length_le (by simp; omega)]
        rw [← this]
        exact hg
      · rw [ent_zero, List.getElem?_replicate, if_pos (by omega)]
  have HB : Hid (Below w.heap.size w w3) := b3
  clear hown3 b3
  go_enter Tryz.func46, Tryz.ntmps46
  go_wp2
  go_ret
  exact ⟨rfl, HB.out, HM.out, hsz3⟩

set_option maxHeartbeats 1000000 in
set_option maxRecDepth 100000 in
theorem ahead_any (g N at' : Nat) (f : Nat → Int) (w : World) (h : MkAt w g N f) (hf : F01 f) (hN : N ≤ 1073741824) (ha : at' ≤ N) :
    Calls Tryz.prog 51 #[.slice (some ⟨g, 0, none⟩) (N + 1) (N + 1), .int .i64 at'] w fun e w' => e = .returned (.int .i64 (pre f at')) ∧ w' = w := by
  obtain ⟨cs, hl, hL, he⟩ := h
  have HC : Hid (∀ k, 1 ≤ k → k ≤ N → w.cell? ⟨g, k, none⟩ = some (.int .i32 (ent f k))) := fun k h1 h2 => cellsN_cell hL k _ (he k h1 h2)
  have HF : Hid (F01 f) := hf
  have hg := hL.lt
  clear hL he hl hf
  go_enter Tryz.func51, Tryz.ntmps51
  go_wp2
  go_loop [5, 6] (fun n k => ∃ (c : Nat) (m : Int), k = .int .i64 c ∧ n = .int .i64 m ∧ c ≤ at' ∧ Hid (m + pre f c = pre f at')) (fun _ k => (intOf k).toNat)
  case atStart => exact ⟨at', 0, rfl, rfl, Nat.le_refl _, by show _ = _; omega⟩
  case round =>
    obtain ⟨c, m, rfl, rfl, hc, HM⟩ := hrel
    have hm0 := pre_mono f HF.out.1 (a := 0) (b := c) (by omega)
    have hm1 := pre_le f HF.out.2 at'
    have hm2 := pre_le f HF.out.2 c
    have hm3 := HM.out
    have hm4 := pre_mono f HF.out.1 (a := c) (b := at') hc
    simp only [pre] at hm0
    by_cases h0 : 0 < c
    · have hcell := HC.out c h0 (by omega)
      have hb := bits_pred c h0 (by omega)
      have hr := ent_range f HF.out.1 HF.out.2 c
      have hlp := lowb_pos h0
      have hle := lowb_le c
      have HN : Hid ((m + ent f c) + pre f (c - lowb c) = pre f at') := by show _ = _; unfold ent; omega
      have hw : IntKind.i64.wrap (m + ent f c) = m + ent f c := by rw [IntKind.wrap_i64]; omega
      clear hm3 HM
      go_wp2
      go_round
      case rel => exact ⟨c - lowb c, m + ent f c, rfl, rfl, by omega, HN⟩
      case measure => simp [intOf]; omega
    · obtain rfl : c = 0 := by omega
      have HR : Hid (m = pre f at') := by
        have := HM.out
        simp only [pre] at this
        show _ = _
        omega
      clear hm3 HM
      go_wp2
      go_ret
      exact ⟨ret_i64 HR.out, rfl⟩

set_option maxHeartbeats 1000000 in
set_option maxRecDepth 100000 in
theorem add_any (g N at' : Nat) (by' : Int) (f : Nat → Int) (w : World) (h : MkAt w g N f) (hf : F01 f) (hf' : F01 (put1 f at' by')) (hN : N ≤ 1073741824) (ha : at' < N) :
    Calls Tryz.prog 48 #[.slice (some ⟨g, 0, none⟩) (N + 1) (N + 1), .int .i64 at', .int .i32 by'] w fun e w' => e = .returned (.tuple #[]) ∧ But g w w' ∧ MkAt w' g N (put1 f at' by') := by
  obtain ⟨cs, hl, hL, he⟩ := h
  have HF : Hid (F01 f) := hf
  have HF' : Hid (F01 (put1 f at' by')) := hf'
  have HL : Hid (Lies w g (cellsN .i32 cs).toArray 21) := hL
  have HE : Hid (∀ k, 1 ≤ k → k ≤ N → cs[k]? = some (if k < at' + 1 then ent (put1 f at' by') k else ent f k)) := fun k h1 h2 => by
    rw [he k h1 h2]
    by_cases e : k < at' + 1
    · rw [if_pos e, ent_other f at' by' k (.inl (by omega))]
    · rw [if_neg e]
  clear hL he hf hf'
  go_enter Tryz.func48, Tryz.ntmps48
  go_wp2
  go_loopw [6] (fun k wr => ∃ (c : Nat) (ds : List Int), k = .int .i64 c ∧ at' < c ∧ c ≤ 2147483649 ∧ Hid (c - lowb c ≤ at') ∧ ds.length = N + 1 ∧ Hid (Lies wr g (cellsN .i32 ds).toArray 21) ∧ Hid (∀ k, 1 ≤ k → k ≤ N → ds[k]? = some (if k < c then ent (put1 f at' by') k else ent f k)) ∧ Hid (But g w wr)) (fun k _ => N + 1 - (intOf k).toNat)
  case atStart => exact ⟨at' + 1, cs, by go_num, by omega, by omega, (cover_start at').1, hl, HL, HE, But.refl _ _⟩
  case round =>
    obtain ⟨c, ds, rfl, hc0, hcm, HC, hdl, HL1, HE1, HB⟩ := hrel
    have hg := HL1.out.lt
    by_cases hcN : c ≤ N
    · have hd := HE1.out c (by omega) hcN
      rw [if_neg (by omega)] at hd
      have hcell := cellsN_cell HL1.out c _ hd
      have hfr := HL1.out.frozen c
      have hr := ent_range f HF.out.1 HF.out.2 c
      have hr' := ent_range _ HF'.out.1 HF'.out.2 c
      have hcv := ent_cover f at' by' c HC.out hc0
      rw [hcv] at hr'
      have hb := bits_low c (by omega)
      have hlp := lowb_pos (k := c) (by omega)
      have hle := lowb_le c
      have hw : IntKind.i32.wrap (ent f c + by') = ent f c + by' := by rw [IntKind.wrap_i32]; omega
      have HL2 : Hid (Lies (wr.setCell ⟨g, c, none⟩ (.int .i32 (ent f c + by'))) g (cellsN .i32 (ds.set c (ent f c + by'))).toArray 21) := cellsN_set HL1.out c _
      have HB2 : Hid (But g w (wr.setCell ⟨g, c, none⟩ (.int .i32 (ent f c + by')))) := HB.out.set c _
      have HC2 : Hid ((c + lowb c) - lowb (c + lowb c) ≤ at') := (cover_next HC.out hc0).1
      have HE2 : Hid (∀ k, 1 ≤ k → k ≤ N → (ds.set c (ent f c + by'))[k]? = some (if k < c + lowb c then ent (put1 f at' by') k else ent f k)) := fun k h1 h2 => by
        by_cases e : k = c
        · subst e
          rw [List.getElem?_set_self (by omega), if_pos (by omega), hcv]
        · rw [List.getElem?_set_ne (Ne.symm e), HE1.out k h1 h2]
          by_cases e1 : k < c
          · rw [if_pos e1, if_pos (by omega)]
          · by_cases e2 : k < c + lowb c
            · rw [if_neg e1, if_pos e2, ent_other f at' by' k (.inr (cover_between hc0 (by omega) e2))]
            · rw [if_neg e1, if_neg e2]
      clear hd hcv HE1 HL1 HB HC
      go_wp2
      go_roundw
      case rel => exact ⟨c + lowb c, _, by go_num, by omega, by omega, HC2, by rw [List.length_set]; exact hdl, HL2, HE2, HB2⟩
      case measure => simp [intOf]; omega
    · go_wp2
      go_end0
      refine ⟨rfl, HB.out, ds, hdl, HL1.out, fun k h1 h2 => ?_⟩
      rw [HE1.out k h1 h2, if_pos (by omega)]

set_option maxHeartbeats 1000000 in
set_option maxRecDepth 100000 in
theorem addall_any (g N : Nat) (w : World) (h : MkAt w g N (fun _ => 0)) (hN : N ≤ 1073741824) :
    Calls Tryz.prog 66 #[.slice (some ⟨g, 0, none⟩) (N + 1) (N + 1)] w fun e w' => e = .returned (.tuple #[]) ∧ But g w w' ∧ MkAt w' g N (fun _ => 1) := by
  obtain ⟨cs, hl, hL, he⟩ := h
  have HL : Hid (Lies w g (cellsN .i32 cs).toArray 21) := hL
  clear hL he
  go_enter Tryz.func66, Tryz.ntmps66
  go_wp2
  go_loopw [5] (fun k wr => ∃ (c : Nat) (ds : List Int), k = .int .i64 c ∧ c ≤ N + 1 ∧ ds.length = N + 1 ∧ Hid (Lies wr g (cellsN .i32 ds).toArray 21) ∧ Hid (∀ k, k < c → ds[k]? = some (lowb k : Int)) ∧ Hid (But g w wr)) (fun k _ => N + 1 - (intOf k).toNat)
  case atStart => exact ⟨0, cs, rfl, by omega, hl, HL, fun k hk => by omega, But.refl _ _⟩
  case round =>
    obtain ⟨c, ds, rfl, hc, hdl, HL1, HE1, HB⟩ := hrel
    have hg := HL1.out.lt
    by_cases hcN : c < N + 1
    · have hd : ds[c]? = some ds[c] := List.getElem?_eq_getElem (by omega)
      have hcell := cellsN_cell HL1.out c _ hd
      have hfr := HL1.out.frozen c
      have hb := bits_low c (by omega)
      have hle := lowb_le c
      have hw : IntKind.i32.wrap (lowb c : Int) = lowb c := by rw [IntKind.wrap_i32]; omega
      have HL2 : Hid (Lies (wr.setCell ⟨g, c, none⟩ (.int .i32 (lowb c : Int))) g (cellsN .i32 (ds.set c (lowb c : Int))).toArray 21) := cellsN_set HL1.out c _
      have HB2 : Hid (But g w (wr.setCell ⟨g, c, none⟩ (.int .i32 (lowb c : Int)))) := HB.out.set c _
      have HE2 : Hid (∀ k, k < c + 1 → (ds.set c (lowb c : Int))[k]? = some (lowb k : Int)) := fun k hk => by
        by_cases e : k = c
        · subst e
          rw [List.getElem?_set_self (by omega)]
        · rw [List.getElem?_set_ne (Ne.symm e), HE1.out k (by omega)]
      clear hd HE1 HL1 HB
      go_wp2
      go_roundw
      case rel => exact ⟨c + 1, _, by go_num, by omega, by rw [List.length_set]; exact hdl, HL2, HE2, HB2⟩
      case measure => simp [intOf]; omega
    · go_wp2
      go_end0
      refine ⟨rfl, HB.out, ds, hdl, HL1.out, fun k h1 h2 => ?_⟩
      rw [HE1.out k (by omega), ent_one]

set_option maxHeartbeats 1000000 in
set_option maxRecDepth 100000 in
theorem widest_any (n : Nat) (h0 : 1 ≤ n) (hn : n ≤ 2147483648) (w : World) :
    Calls Tryz.prog 81 #[.int .i64 n] w fun e w' => (∃ a : Nat, e = .returned (.int .i64 ((2 ^ a : Nat) : Int)) ∧ 2 ^ a ≤ n ∧ n < 2 ^ (a + 1)) ∧ w' = w := by
  have hd : (n : Int).tdiv 2 = ((n / 2 : Nat) : Int) := by
    rw [Int.tdiv_eq_ediv_of_nonneg (by omega)]
    omega
  go_enter Tryz.func81, Tryz.ntmps81
  go_wp2
  go_loop [3] (fun v => ∃ (a : Nat) (x : Nat), v = .int .i64 x ∧ Hid (x = 2 ^ a) ∧ 1 ≤ x ∧ x ≤ n) (fun v => n - (intOf v).toNat)
  case atStart => exact ⟨0, 1, rfl, rfl, by omega, h0⟩
  case round =>
    obtain ⟨a, x, rfl, HX, h1, hx⟩ := hrel
    by_cases hle : x ≤ n / 2
    · have hle' : (x : Int) ≤ ((n / 2 : Nat) : Int) := by omega
      have HX2 : Hid (x * 2 = 2 ^ (a + 1)) := by show _ = _; rw [Nat.pow_succ, HX.out]
      go_wp2
      go_round
      case rel => exact ⟨a + 1, x * 2, by go_num, HX2, by omega, by omega⟩
      case measure => simp [intOf]; omega
    · have hle' : ¬ (x : Int) ≤ ((n / 2 : Nat) : Int) := by omega
      go_wp2
      go_ret
      refine ⟨⟨a, ret_i64 (by rw [HX.out]; simp), by rw [← HX.out]; exact hx, ?_⟩, rfl⟩
      rw [Nat.pow_succ, ← HX.out]
      omega

set_option maxHeartbeats 2000000 in
set_option maxRecDepth 100000 in
theorem find_any (g N : Nat) (n0 : Int) (f : Nat → Int) (w : World) (h : MkAt w g N f) (hf : F01 f) (hN : N ≤ 1073741824) (h0 : 0 ≤ n0) (h1 : n0 < pre f N) :
    Calls Tryz.prog 68 #[.slice (some ⟨g, 0, none⟩) (N + 1) (N + 1), .int .i64 n0] w fun e w' => (∃ at' : Nat, e = .returned (.int .i64 at') ∧ at' < N ∧ f at' = 1 ∧ pre f at' = n0) ∧ w' = w := by
  obtain ⟨cs, hl, hL, he⟩ := h
  have HC : Hid (∀ k, 1 ≤ k → k ≤ N → w.cell? ⟨g, k, none⟩ = some (.int .i32 (ent f k))) := fun k h1 h2 => cellsN_cell hL k _ (he k h1 h2)
  have HF : Hid (F01 f) := hf
  have HN0 : Hid (n0 < pre f N) := h1
  have hg := hL.lt
  have hn0 : n0 < N := Int.lt_of_lt_of_le h1 (pre_le f hf.2 N)
  clear hL he hl hf h1
  go_enter Tryz.func68, Tryz.ntmps68
  go_wp2_with fail
  refine (widest_any (N + 1) (by omega) (by omega) w).mono ?_
  rintro e w1 ⟨⟨a, rfl, ha1, ha2⟩, rfl⟩
  have HW : Hid (FindAt f N n0 0 (2 ^ a)) := by
    refine ⟨Nat.zero_le _, h0, .inr ⟨a, rfl, Nat.dvd_zero _, .inl (by omega)⟩⟩
  have hwb : 2 ^ a ≤ 2147483648 := by omega
  generalize 2 ^ a = W at HW hwb ha1 ⊢
  clear ha2
  go_wp2
  go_loop [1, 5, 6] (fun n at' wd => ∃ (c m x : Nat) (n' : Int), at' = .int .i64 c ∧ wd = .int .i64 x ∧ n = .int .i64 n' ∧ Hid (FindAt f N n0 c x) ∧ Hid (n' = n0 - pre f c) ∧ x ≤ 2147483648 ∧ c ≤ N) (fun _ _ wd => (intOf wd).toNat)
  case atStart => exact ⟨0, 0, W, n0, rfl, rfl, rfl, HW, by show _ = _; simp [pre], hwb, Nat.zero_le _⟩
  case round =>
    obtain ⟨c, _, x, n', rfl, rfl, rfl, HA, HNN, hx, hc⟩ := hrel
    have hp0 := pre_mono f HF.out.1 (a := 0) (b := c) (by omega)
    simp only [pre] at hp0
    have hp1 := HA.out.2.1
    have hp2 := HNN.out
    by_cases hx0 : 0 < x
    · have hd : (x : Int).tdiv 2 = ((x / 2 : Nat) : Int) := by
        rw [Int.tdiv_eq_ediv_of_nonneg (by omega)]
        omega
      by_cases hk : c + x ≤ N
      · have hcell := HC.out (c + x) (by omega) hk
        have hent := find_entry HA.out hx0
        have hr := ent_range f HF.out.1 HF.out.2 (c + x)
        by_cases hle : ent f (c + x) ≤ n'
        · have HA2 : Hid (FindAt f N n0 (c + x) (x / 2)) := find_go HA.out hx0 hk (by omega)
          have HN2 : Hid (n' - ent f (c + x) = n0 - pre f (c + x)) := by show _ = _; omega
          have hw : IntKind.i64.wrap (n' - ent f (c + x)) = n' - ent f (c + x) := by rw [IntKind.wrap_i64]; omega
          clear hent hp2 HA HNN
          go_wp2
          go_round
          case rel => exact ⟨c + x, 0, x / 2, n' - ent f (c + x), by go_num, by first | rfl | go_num, rfl, HA2, HN2, by omega, hk⟩
          case measure => simp [intOf]; omega
        · have HA2 : Hid (FindAt f N n0 c (x / 2)) := find_stay HA.out hx0 (.inr (by omega))
          clear hent hp2 HA
          go_wp2
          go_round
          case rel => exact ⟨c, 0, x / 2, n', rfl, by first | rfl | go_num, rfl, HA2, HNN, by omega, hc⟩
          case measure => simp [intOf]; omega
      · have HA2 : Hid (FindAt f N n0 c (x / 2)) := find_stay HA.out hx0 (.inl (by omega))
        clear hp2 HA
        go_wp2
        go_round
        case rel => exact ⟨c, 0, x / 2, n', rfl, by first | rfl | go_num, rfl, HA2, HNN, by omega, hc⟩
        case measure => simp [intOf]; omega
    · obtain rfl : x = 0 := by omega
      have HR := find_end HA.out HF.out.2 HF.out.1 HN0.out
      have HR' : Hid (c < N ∧ f c = 1 ∧ pre f c = n0) := HR
      clear HR hp2
      go_wp2
      go_ret
      exact ⟨⟨c, rfl, HR'.out⟩, rfl⟩
end Go.Proofs.YtedgimkffkflbabGreatDoor
