/-
  A few answers, reckoned.
-/
import Derived.Test.YtedgimkffkflbabGreatDoorDec
import Derived.Test.YtedgimkffkflbabGreatDoorPun
import Derived.Test.YtedgimkffkflbabGreatDoorUnp
import Derived.Test.YtedgimkffkflbabGreatDoorShf
import Derived.Test.YtedgimkffkflbabGreatDoorBase
import Derived.Lib.SlBytesConst
namespace Go.Proofs.YtedgimkffkflbabGreatDoor

theorem decR_enc (l : List Int) (h : ∀ r ∈ l, isR r) (b : List UInt8) (e : encL l = b) : decR b = l ∧ decE b = #[.int .i64 0, .int .i64 0] := by
  subst e
  obtain ⟨h1, h2⟩ := decL_encL l h
  unfold decR decE
  rw [h2, if_neg (by omega), if_neg (by omega), h1]
  exact ⟨rfl, rfl⟩
theorem wk1 : decR [97, 195, 169] = [97, 233] ∧ decE [97, 195, 169] = #[.int .i64 0, .int .i64 0] := decR_enc [97, 233] (by decide) _ (by decide)
theorem wk2 : encT [97, 8364] = ⟨#[97, 226, 130, 172]⟩ ∧ encE [97, 8364] = #[.int .i64 0, .int .i64 0] := by
  have h : noR [97, 8364] = 2 := by decide
  have e : encL [97, 8364] = [97, 226, 130, 172] := by decide
  unfold encT encE
  rw [h, e]
  exact ⟨rfl, rfl⟩
theorem dg745 : digs 745 0 72 = [107, 118, 97] := by
  rw [digs_more (by decide), digs_more (by decide), digs_last (by decide)]
  decide
theorem ord1 (l : List Int) (k : Nat) (h : wideK l l.length = [k]) : ordW l = [k] := by
  unfold ordW
  rw [h]
  simp
/-- One wide rune. -/
theorem pun1 (l : List Int) (k S : Nat) (h : wideK l l.length = [k]) (hs : stp l (lowF l l.length) 128 0 (lowB l l.length).length k = S) (hS : S ≤ 2147483647) : punD l = some (digs S 0 72) := by
  unfold punD
  rw [ord1 l k h, punL, hs, if_neg (by omega), Int.toNat_natCast]
  simp [punL]
theorem pun_out (l : List Int) (d b : List UInt8) (h : noR l = l.length) (hd : punD l = some d) (hb : punH l ++ d = b) : punT l = ⟨b.toArray⟩ ∧ punE l = 0 := by
  unfold punT punE
  rw [h, hd, if_neg (by omega), if_neg (by omega)]
  subst hb
  exact ⟨rfl, rfl⟩
theorem wk3 : punT [98, 252, 99, 104, 101, 114] = ⟨#[98, 99, 104, 101, 114, 45, 107, 118, 97]⟩ ∧ punE [98, 252, 99, 104, 101, 114] = 0 :=
  pun_out _ _ _ (by decide) (pun1 _ 1 745 (by decide) (by decide) (by decide)) (by rw [dg745]; decide)
theorem wk4 : unpT [110, 51, 104] = [9731] ∧ unpE [110, 51, 104] = (0, 0) := by decide +kernel
end Go.Proofs.YtedgimkffkflbabGreatDoor
/-
  The library's Equal and Clone of lists of runes.
-/
namespace Go.Proofs.YtedgimkffkflbabGreatDoor
open Go.RowKit

theorem take_eq_succ {l m : List Int} {k : Nat} (h : l.take k = m.take k) (h1 : k < l.length) (h2 : k < m.length) (e : l[k] = m[k]) : l.take (k + 1) = m.take (k + 1) := by
  rw [List.take_succ_eq_append_getElem h1, List.take_succ_eq_append_getElem h2, h, e]

set_option maxHeartbeats 1000000 in
set_option maxRecDepth 100000 in
theorem eqr_any (a b : Option Addr) (l m : List Int) (ca cb : Nat) (w : World) (ha : Nts .i32 a l w) (hb : Nts .i32 b m w) (hl : l.length ≤ 9223372036854775806) :
    Calls Tryz.prog 11 #[.slice a l.length ca, .slice b m.length cb] w fun e w' => e = .returned (.bool (decide (l = m))) ∧ ∃ q, w' = w.drewN q := by
  by_cases hlen : l.length = m.length
  · have HA : Hid (Nts .i32 a l w) := ha
    have HB : Hid (Nts .i32 b m w) := hb
    have q : (((l.length : Nat) : Int) != ((m.length : Nat) : Int)) = false := by simp; omega
    have HL : Hid (l.length = m.length) := hlen
    clear ha hb hlen
    go_enter Tryz.func11, Tryz.ntmps11
    go_wp2
    go_loopw [13] (fun i wr => ∃ k q : Nat, i = .int .i64 k ∧ wr = w.drewN q ∧ k ≤ l.length ∧ Hid (l.take k = m.take k)) (fun i _ => l.length - (intOf i).toNat)
    case atStart => exact ⟨0, 0, rfl, rfl, Nat.zero_le _, by show _ = _; simp⟩
    case round =>
      obtain ⟨k, q1, rfl, rfl, hk, HT⟩ := hrel
      by_cases hlk : k < l.length
      · have hmk : k < m.length := by rw [← HL.out]; exact hlk
        obtain ⟨g1, o1, rfl, hg1, c1⟩ := HA.out.cell k hlk
        obtain ⟨g2, o2, rfl, hg2, c2⟩ := HB.out.cell k hmk
        have h1' : (k : Int) < (l.length : Int) := by omega
        have h2' : (k : Int) < (m.length : Int) := by omega
        by_cases he : l[k] = m[k]
        · have HT2 : Hid (l.take (k + 1) = m.take (k + 1)) := take_eq_succ HT.out hlk hmk he
          have hq : (l[k] != m[k]) = false := by simp [he]
          clear he
          go_wp2_with fail
          go_region
          all_goals go_wp2
          all_goals go_roundw
          all_goals first
            | exact ⟨k + 1, q1 + 1, by go_num, rfl, by omega, HT2⟩
            | (simp [intOf]; omega)
        · have HN : Hid (l ≠ m) := fun e => he (by simp only [e])
          have hq : (l[k] != m[k]) = true := by simp [he]
          clear he
          go_wp2_with fail
          go_region
          all_goals go_wp2
          all_goals go_ret
          all_goals exact ⟨ret_b (decide_eq_false HN.out).symm, q1 + 1, rfl⟩
      · have HE : Hid (l = m) := by
          have := HT.out
          rw [List.take_of_length_le (by omega), List.take_of_length_le (by have := HL.out; omega)] at this
          exact this
        go_wp2
        go_ret
        exact ⟨ret_b (decide_eq_true HE.out).symm, q1, rfl⟩
  · have q : (((l.length : Nat) : Int) != ((m.length : Nat) : Int)) = true := by simp; omega
    have HN : Hid (l ≠ m) := fun e => hlen (by rw [e])
    clear ha hb hlen
    go_enter Tryz.func11, Tryz.ntmps11
    go_wp2
    go_ret
    exact ⟨ret_b (decide_eq_false HN.out).symm, 0, rfl⟩
end Go.Proofs.YtedgimkffkflbabGreatDoor
/-
  Lists of constant bytes.
-/
namespace Go.Proofs.YtedgimkffkflbabGreatDoor
open Go.RowKit

/-- Bytes that have just been laid, marked or not. -/
theorem const_bts (w : World) (l : List UInt8) (fr : Nat × Nat) : Bts (some ⟨w.heap.size, 0, none⟩) l (w.alloc (.cells (rowV l) 5 fr)) :=
  .inr ⟨w.heap.size, 0, rfl, by simp, fun j hj => by rw [Nat.zero_add, cell_of_row _ _ j _ 5 fr (heap_alloc_last w _)]; exact rowV_at l j hj⟩
end Go.Proofs.YtedgimkffkflbabGreatDoor
