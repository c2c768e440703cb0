/-
  A few answers, reckoned.
-/
import Derived.Test.YtedgimkffkflbaaDoorDec
import Derived.Test.YtedgimkffkflbaaDoorPun
import Derived.Test.YtedgimkffkflbaaDoorUnp
namespace Go.Proofs.YtedgimkffkflbaaDoor

theorem decR_enc (l : List Int) (h : ∀ r ∈ l, isR r) (b : List UInt8) (e : encL l = b) : decR b = l ∧ decE b = #[.int .i64 0, .int .i64 0] := by
  subst e
  obtain ⟨h1, h2⟩ := decL_encL l h
  unfold decR decE
  rw [h2, if_neg (by omega), if_neg (by omega), h1]
  exact ⟨rfl, rfl⟩
theorem wk1 : decR [97, 195, 169] = [97, 233] ∧ decE [97, 195, 169] = #[.int .i64 0, .int .i64 0] := decR_enc [97, 233] (by decide) _ (by decide)
theorem wk2 : encT [97, 8364] = ⟨#[97, 226, 130, 172]⟩ ∧ encE [97, 8364] = #[.int .i64 0, .int .i64 0] := by
  have h : noR [97, 8364] = 2 := by decide
  have e : encL [97, 8364] = [97, 226, 130, 172] := by decide
  unfold encT encE
  rw [h, e]
  exact ⟨rfl, rfl⟩
theorem dg745 : digs 745 0 72 = [107, 118, 97] := by
  rw [digs_more (by decide), digs_more (by decide), digs_last (by decide)]
  decide
theorem ord1 (l : List Int) (k : Nat) (h : wideK l l.length = [k]) : ordW l = [k] := by
  unfold ordW
  rw [h]
  simp
/-- One wide rune. -/
theorem pun1 (l : List Int) (k S : Nat) (h : wideK l l.length = [k]) (hs : stp l (lowF l l.length) 128 0 (lowB l l.length).length k = S) (hS : S ≤ 2147483647) : punD l = some (digs S 0 72) := by
  unfold punD
  rw [ord1 l k h, punL, hs, if_neg (by omega), Int.toNat_natCast]
  simp [punL]
theorem pun_out (l : List Int) (d b : List UInt8) (h : noR l = l.length) (hd : punD l = some d) (hb : punH l ++ d = b) : punT l = ⟨b.toArray⟩ ∧ punE l = 0 := by
  unfold punT punE
  rw [h, hd, if_neg (by omega), if_neg (by omega)]
  subst hb
  exact ⟨rfl, rfl⟩
theorem wk3 : punT [98, 252, 99, 104, 101, 114] = ⟨#[98, 99, 104, 101, 114, 45, 107, 118, 97]⟩ ∧ punE [98, 252, 99, 104, 101, 114] = 0 :=
  pun_out _ _ _ (by decide) (pun1 _ 1 745 (by decide) (by decide) (by decide)) (by rw [dg745]; decide)
theorem wk4 : unpT [110, 51, 104] = [9731] ∧ unpE [110, 51, 104] = (0, 0) := by decide +kernel
end Go.Proofs.YtedgimkffkflbaaDoor
