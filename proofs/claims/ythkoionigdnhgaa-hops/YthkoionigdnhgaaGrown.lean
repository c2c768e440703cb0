/-
  Worlds that have grown, one behind the other.
-/
import Derived.Test.YthkoionigdnhgaaBase
namespace Go.Proofs.Ythkoionigdnhgaa
open Go.RowKit

theorem grown_on {w w1 w2 : World} {row row2 : Option Nat} (h1 : w.grownBy w1 row) (h2 : w1.grownBy w2 row2) (h : ∀ k, row2 = some k → some k = row ∨ w.heap.size ≤ k) : w.grownBy w2 row :=
  ⟨h2.os.trans h1.os, h2.tape.trans h1.tape, h2.output.trans h1.output, Nat.le_trans h1.size h2.size, fun k hk hne => (h2.block k (Nat.lt_of_lt_of_le hk h1.size) (fun e => by
    rcases h k e.symm with h' | h'
    · exact hne h'
    · omega)).trans (h1.block k hk hne)⟩
theorem two_alloc {w w' : World} (a b : Obj) {r : Option Nat} (h : ((w.alloc a).alloc b).grownBy w' r) : w.grownBy w' r :=
  grown_on (grown_on (World.grownBy_alloc w a r) (World.grownBy_alloc _ b r) (fun _ h => .inl h.symm)) h (fun _ h => .inl h.symm)
theorem base_le {w : World} {base base' e size n : Nat} {v : Value} {xs : List Value} (h : w.ownsRow base e size v n xs) (hb : base' ≤ base) : w.ownsRow base' e size v n xs := by
  obtain ⟨h1, h2⟩ := h
  refine ⟨h1, ?_⟩
  rcases h2 with h2 | ⟨g, cap, cur, hv, hg, r⟩
  · exact .inl h2
  · exact .inr ⟨g, cap, cur, hv, by omega, r⟩
theorem bcell {W w1 : World} (hb : Below W.heap.size W w1) : (∀ b o, b < W.heap.size → w1.cell? ⟨b, o, none⟩ = W.cell? ⟨b, o, none⟩) ∧ (∀ b o, b < W.heap.size → w1.frozen? ⟨b, o, none⟩ = W.frozen? ⟨b, o, none⟩) :=
  ⟨fun b o h => hb.cell (p := ⟨b, o, none⟩) h, fun b o h => hb.frozen (p := ⟨b, o, none⟩) h⟩
theorem own_conv {w : World} {base n : Nat} {v : Value} {l : List UInt8} (h : w.ownsRow base 5 1 v n (cellsB l)) : (convert 22 9 v).run Try.prog w = .ok (.string ⟨l.toArray⟩) w := by
  obtain ⟨a, cap, rfl, hb, hl, _⟩ := own_bts h
  subst hl
  exact bts_back hb cap
end Go.Proofs.Ythkoionigdnhgaa
