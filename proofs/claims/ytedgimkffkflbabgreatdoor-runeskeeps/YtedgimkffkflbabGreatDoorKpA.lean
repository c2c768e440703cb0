/-
  Lists with room behind them, copies of bytes, bytes held against bytes.
-/
import Derived.Test.YtedgimkffkflbabGreatDoorClR
import Derived.Test.YtedgimkffkflbabGreatDoorConst4
import Derived.Test.YtedgimkffkflbabGreatDoorShf
import Derived.Test.YtedgimkffkflbabGreatDoorIs4
import Derived.Laws.CopyOwn
namespace Go.Proofs.YtedgimkffkflbabGreatDoor
open Go.RowKit

set_option maxHeartbeats 1000000 in
set_option maxRecDepth 100000 in
theorem eqbN_any (a b : Option Addr) (l m : List Int) (ca cb : Nat) (w : World) (ha : Nts .u8 a l w) (hb : Nts .u8 b m w) (hl : l.length ≤ 9223372036854775806) :
    Calls Tryz.prog 24 #[.slice a l.length ca, .slice b m.length cb] w fun e w' => e = .returned (.bool (decide (l = m))) ∧ ∃ q, w' = w.drewN q := by
  by_cases hlen : l.length = m.length
  · have HA : Hid (Nts .u8 a l w) := ha
    have HB : Hid (Nts .u8 b m w) := hb
    have q : (((l.length : Nat) : Int) != ((m.length : Nat) : Int)) = false := by simp; omega
    have HL : Hid (l.length = m.length) := hlen
    clear ha hb hlen
    go_enter Tryz.func24, Tryz.ntmps24
    go_wp2
    go_loopw [13] (fun i wr => ∃ k q : Nat, i = .int .i64 k ∧ wr = w.drewN q ∧ k ≤ l.length ∧ Hid (l.take k = m.take k)) (fun i _ => l.length - (intOf i).toNat)
    case atStart => exact ⟨0, 0, rfl, rfl, Nat.zero_le _, by show _ = _; simp⟩
    case round =>
      obtain ⟨k, q1, rfl, rfl, hk, HT⟩ := hrel
      by_cases hlk : k < l.length
      · have hmk : k < m.length := by rw [← HL.out]; exact hlk
        obtain ⟨g1, o1, rfl, hg1, c1⟩ := HA.out.cell k hlk
        obtain ⟨g2, o2, rfl, hg2, c2⟩ := HB.out.cell k hmk
        have h1' : (k : Int) < (l.length : Int) := by omega
        have h2' : (k : Int) < (m.length : Int) := by omega
        by_cases he : l[k] = m[k]
        · have HT2 : Hid (l.take (k + 1) = m.take (k + 1)) := take_eq_succ HT.out hlk hmk he
          have hq : (l[k] != m[k]) = false := by simp [he]
          clear he
          go_wp2_with fail
          go_region
          all_goals go_wp2
          all_goals go_roundw
          all_goals first
            | exact ⟨k + 1, q1 + 1, by go_num, rfl, by omega, HT2⟩
            | (simp [intOf]; omega)
        · have HN : Hid (l ≠ m) := fun e => he (by simp only [e])
          have hq : (l[k] != m[k]) = true := by simp [he]
          clear he
          go_wp2_with fail
          go_region
          all_goals go_wp2
          all_goals go_ret
          all_goals exact ⟨ret_b (decide_eq_false HN.out).symm, q1 + 1, rfl⟩
      · have HE : Hid (l = m) := by
          have := HT.out
          rw [List.take_of_length_le (by omega), List.take_of_length_le (by have := HL.out; omega)] at this
          exact this
        go_wp2
        go_ret
        exact ⟨ret_b (decide_eq_true HE.out).symm, q1, rfl⟩
  · have q : (((l.length : Nat) : Int) != ((m.length : Nat) : Int)) = true := by simp; omega
    have HN : Hid (l ≠ m) := fun e => hlen (by rw [e])
    clear ha hb hlen
    go_enter Tryz.func24, Tryz.ntmps24
    go_wp2
    go_ret
    exact ⟨ret_b (decide_eq_false HN.out).symm, 0, rfl⟩

theorem bts_nts {a : Option Addr} {l : List UInt8} {w : World} (h : Bts a l w) : Nts .u8 a (lowR l) w := by
  rcases h with rfl | ⟨g, o, e, hg, hr⟩
  · exact .inl rfl
  · refine .inr ⟨g, o, e, hg, fun j hj => ?_⟩
    unfold lowR at hj ⊢
    rw [List.length_map] at hj
    rw [hr j hj, List.getElem_map]
theorem lowR_inj : ∀ (a b : List UInt8), lowR a = lowR b → a = b := by
  intro a
  induction a with
  | nil => intro b h; cases b with
    | nil => rfl
    | cons y t => simp [lowR] at h
  | cons x t ih => intro b h; cases b with
    | nil => simp [lowR] at h
    | cons y t' =>
      unfold lowR at h
      rw [List.map_cons, List.map_cons] at h
      injection h with h1 h2
      have : x = y := UInt8.toNat.inj (by omega)
      rw [this, ih t' h2]
theorem eqb_any (a b : Option Addr) (l m : List UInt8) (ca cb : Nat) (w : World) (ha : Bts a l w) (hb : Bts b m w) (hl : l.length ≤ 9223372036854775806) :
    Calls Tryz.prog 24 #[.slice a l.length ca, .slice b m.length cb] w fun e w' => e = .returned (.bool (decide (l = m))) ∧ ∃ q, w' = w.drewN q := by
  have h1 : (lowR l).length = l.length := by simp [lowR]
  have h2 : (lowR m).length = m.length := by simp [lowR]
  have := eqbN_any a b (lowR l) (lowR m) ca cb w (bts_nts ha) (bts_nts hb) (by omega)
  rw [h1, h2] at this
  have e : decide (lowR l = lowR m) = decide (l = m) := by
    by_cases h : l = m
    · rw [decide_eq_true h, decide_eq_true (by rw [h])]
    · rw [decide_eq_false h, decide_eq_false (fun x => h (lowR_inj _ _ x))]
  rw [e] at this
  exact this
theorem clb_nil (cap : Nat) (w : World) : Calls Tryz.prog 54 #[.slice none 0 cap] w fun e w' => e = .returned (.slice none 0 0) ∧ w' = w := by
  have q := Lib.run_eql_slice_nil (P := Tryz.prog) w 23 5 none 0 cap 0 0 Tryz.underlying23
  go_enter Tryz.func54, Tryz.ntmps54
  go_wp2
  go_ret
  exact ⟨rfl, rfl⟩
theorem clb_some (ad : Addr) (l : List UInt8) (cap n : Nat) (hn : n = l.length) (w : World) (h : Bts (some ad) l w) (hl : n ≤ 140737488355328) :
    Calls Tryz.prog 54 #[.slice (some ad) n cap] w fun e w' => ∃ v, e = .returned v ∧ w'.ownsRow w.heap.size 5 1 v n (cellsB l) ∧ Below w.heap.size w w' := by
  obtain ⟨i0, hi, hz0, hz1, hz2⟩ := info_parts info5
  have HH : Hid (Bts (some ad) l w) := h
  have HN : Hid (n = l.length) := hn
  clear h hn
  have q := Lib.run_eql_slice_nil (P := Tryz.prog) w 23 5 (some ad) n cap 0 0 Tryz.underlying23
  go_enter Tryz.func54, Tryz.ntmps54
  go_wp2_with (at_builtin; refine wpList_append_own _ rfl _ _ 23 rfl w.heap.size 5 i0 (.int .u8 0) 1 1 Tryz.underlying23 hi hz0 hz1 hz2 rfl (by decide) _ 0 [] rfl (World.ownsRow_made w #[] 0 (Nat.le_refl _) (by unfold maxLen; omega) rfl) ad n cap (cellsB l) rfl (by rw [cellsB_length, HN.out]; omega) ?c1 (cellsB_one l) ?c3 ?c4 ?c5 ?_)
  case c1 => exact bts_news (HH.out.below ((Below.refl _ _).alloc (Nat.le_refl _) _))
  case c3 => unfold maxLen; omega
  case c4 => omega
  case c5 => simp
  intro v' w1 hown hgrow _
  have R : Hid (w1.ownsRow w.heap.size 5 1 v' n (cellsB l)) := by
    show w1.ownsRow _ _ _ _ _ _
    simpa using hown
  have HB : Hid (Below w.heap.size w w1) := ((Below.refl _ _).alloc (Nat.le_refl _) _).grown hgrow (by simp) (fun q hq => by simp [Value.ownBlock] at hq; omega)
  clear hown hgrow q
  go_wp2
  go_ret
  exact ⟨_, rfl, R, HB⟩
theorem clb_any (a : Option Addr) (l : List UInt8) (cap n : Nat) (hn : n = l.length) (w : World) (h : Bts a l w) (hl : n ≤ 140737488355328) :
    Calls Tryz.prog 54 #[.slice a n cap] w fun e w' => ∃ v, e = .returned v ∧ w'.ownsRow w.heap.size 5 1 v n (cellsB l) ∧ Below w.heap.size w w' := by
  cases a with
  | some ad => exact clb_some ad l cap n hn w h hl
  | none =>
    obtain rfl := bts_none h
    subst hn
    refine (clb_nil cap w).mono ?_
    rintro e w' ⟨rfl, rfl⟩
    exact ⟨_, rfl, ⟨rfl, .inl ⟨rfl, rfl⟩⟩, Below.refl _ _⟩

/-- The same numbers, and 80 places behind them. -/
def roomI (l : List Int) (k : Nat) : List Int := l ++ List.replicate k 165
def roomU (l : List UInt8) (k : Nat) : List UInt8 := l ++ List.replicate k 165
theorem roomI_succ (l : List Int) (k : Nat) : roomI l (k + 1) = roomI l k ++ [165] := by unfold roomI; rw [List.replicate_succ', List.append_assoc]
theorem roomU_succ (l : List UInt8) (k : Nat) : roomU l (k + 1) = roomU l k ++ [165] := by unfold roomU; rw [List.replicate_succ', List.append_assoc]
set_option maxHeartbeats 2000000 in
set_option maxRecDepth 100000 in
theorem roomR_any (a : Option Addr) (l : List Int) (cap n : Nat) (hn : n = l.length) (w : World) (h : Nts .i32 a l w) (hl : n ≤ 1073741824) :
    Calls Tryz.prog 12 #[.slice a n cap] w fun e w' => ∃ v, e = .returned v ∧ w'.ownsRow w.heap.size 21 1 v (n + 80) (cellsN .i32 (roomI l 80)) ∧ Below w.heap.size w w' := by
  have HC : Hid (Calls Tryz.prog 17 #[.slice a n cap] w fun e w' => ∃ v, e = .returned v ∧ w'.ownsRow w.heap.size 21 1 v n (cellsN .i32 l) ∧ Below w.heap.size w w') := by
    rw [hn]
    exact clr_any a l cap w h (by omega)
  clear h hn
  go_enter Tryz.func12, Tryz.ntmps12
  go_wp2_with fail
  refine HC.out.mono ?_
  rintro e w1 ⟨v1, rfl, o1, b1⟩
  have HO1 : Hid (w1.ownsRow w.heap.size 21 1 v1 (n + 0) (cellsN .i32 (roomI l 0))) := by
    show World.ownsRow _ _ _ _ _ _ _
    unfold roomI
    rw [List.replicate_zero, List.append_nil]
    exact o1
  have HB1 : Hid (Below w.heap.size w w1) := b1
  clear o1 b1 HC
  go_wp2_with fail
  go_loopw [3, 6] (fun v iv wr => ∃ k : Nat, iv = .int .i64 k ∧ k ≤ 80 ∧ Hid (wr.ownsRow w.heap.size 21 1 v (n + k) (cellsN .i32 (roomI l k))) ∧ Hid (Below w.heap.size w wr)) (fun _ iv _ => 80 - (intOf iv).toNat)
  case atStart => exact ⟨0, rfl, Nat.zero_le _, HO1, HB1⟩
  case round =>
    clear HO1 HB1
    obtain ⟨k, rfl, hk, HO, HB⟩ := hrel
    have hsz := HB.out.size
    by_cases hk8 : k < 80
    · have hki : (k : Int) < 80 := by omega
      go_wp2_with (at_builtin; refine wpList_append_num rfl _ _ 22 21 4 .i32 Tryz.underlying22 infoR (by omega) rfl w.heap.size _ (n + k) (roomI l k) rfl (HO.out.alloc _) ⟨wr.heap.size, 0, none⟩ 165 1 rfl (one_nts wr 21 .i32 165) (by omega) (by simp; omega) ?_; intro v4 w4 hown4 hgrow4)
      have HO4 : Hid (w4.ownsRow w.heap.size 21 1 v4 (n + (k + 1)) (cellsN .i32 (roomI l (k + 1)))) := by
        show World.ownsRow _ _ _ _ _ _ _
        rw [roomI_succ]
        exact hown4
      have HB4 : Hid (Below w.heap.size w w4) := (HB.out.alloc hsz _).grown hgrow4 (by simp; omega) (fun q hq => (HO.out.lt q hq).1)
      clear hown4 hgrow4
      go_wp2
      go_roundw
      case rel => exact ⟨k + 1, by go_num, by omega, HO4, HB4⟩
      case measure => simp [intOf]; omega
    · obtain rfl : k = 80 := by omega
      go_wp2
      go_ret
      exact ⟨_, rfl, HO.out, HB.out⟩
set_option maxHeartbeats 2000000 in
set_option maxRecDepth 100000 in
theorem roomB_any (a : Option Addr) (l : List UInt8) (cap n : Nat) (hn : n = l.length) (w : World) (h : Bts a l w) (hl : n ≤ 1073741824) :
    Calls Tryz.prog 18 #[.slice a n cap] w fun e w' => ∃ v, e = .returned v ∧ w'.ownsRow w.heap.size 5 1 v (n + 80) (cellsB (roomU l 80)) ∧ Below w.heap.size w w' := by
  have HC : Hid (Calls Tryz.prog 54 #[.slice a n cap] w fun e w' => ∃ v, e = .returned v ∧ w'.ownsRow w.heap.size 5 1 v n (cellsB l) ∧ Below w.heap.size w w') := clb_any a l cap n hn w h (by omega)
  clear h hn
  go_enter Tryz.func18, Tryz.ntmps18
  go_wp2_with fail
  refine HC.out.mono ?_
  rintro e w1 ⟨v1, rfl, o1, b1⟩
  have HO1 : Hid (w1.ownsRow w.heap.size 5 1 v1 (n + 0) (cellsB (roomU l 0))) := by
    show World.ownsRow _ _ _ _ _ _ _
    unfold roomU
    rw [List.replicate_zero, List.append_nil]
    exact o1
  have HB1 : Hid (Below w.heap.size w w1) := b1
  clear o1 b1 HC
  go_wp2_with fail
  go_loopw [3, 6] (fun v iv wr => ∃ k : Nat, iv = .int .i64 k ∧ k ≤ 80 ∧ Hid (wr.ownsRow w.heap.size 5 1 v (n + k) (cellsB (roomU l k))) ∧ Hid (Below w.heap.size w wr)) (fun _ iv _ => 80 - (intOf iv).toNat)
  case atStart => exact ⟨0, rfl, Nat.zero_le _, HO1, HB1⟩
  case round =>
    clear HO1 HB1
    obtain ⟨k, rfl, hk, HO, HB⟩ := hrel
    have hsz := HB.out.size
    by_cases hk8 : k < 80
    · have hki : (k : Int) < 80 := by omega
      go_wp2_with (at_builtin; refine wpList_append_byte rfl _ _ rfl w.heap.size _ (n + k) (roomU l k) rfl (HO.out.alloc _) wr 165 _ rfl rfl 1 rfl (by omega) hsz ?_; intro v4 w4 ho4 hb4)
      have HO4 : Hid (w4.ownsRow w.heap.size 5 1 v4 (n + (k + 1)) (cellsB (roomU l (k + 1)))) := by
        show World.ownsRow _ _ _ _ _ _ _
        rw [roomU_succ]
        exact ho4
      have HB4 : Hid (Below w.heap.size w w4) := hb4 _ _ HB.out (Nat.le_refl _)
      clear ho4 hb4
      go_wp2
      go_roundw
      case rel => exact ⟨k + 1, by go_num, by omega, HO4, HB4⟩
      case measure => simp [intOf]; omega
    · obtain rfl : k = 80 := by omega
      go_wp2
      go_ret
      exact ⟨_, rfl, HO.out, HB.out⟩
end Go.Proofs.YtedgimkffkflbabGreatDoor
