/-
  Items of a body; bytes of a list that lie apart from a reader.
-/
import Derived.Test.YthnjbnhmdjpfpaaSt14
namespace Go.Proofs.Ythnjbnhmdjpfpaa
open Go.RowKit

def imK : Im → Int
  | .no => 0
  | .body _ => 3
  | .fin _ _ => 4
def imY : Im → Int
  | .fin y _ => y
  | _ => 0
def imH : Im → Bool
  | .fin _ h => h
  | _ => false
def imB : Im → List UInt8
  | .body l => l
  | _ => []
/-- An item whose bytes are v. -/
def imC (i : Im) (v : Value) : Array Value := #[.int .i64 (imK i), .string ⟨#[]⟩, v, .int .i64 (imY i), .bool (imH i)]
def imV (i : Im) (v : Value) : Value := .agg (imC i v)
/-- Bytes are no reader's cells. -/
theorem bts_rd {w : World} {g o b t a : Nat} {s : Ds} {l : List UInt8} (h : Bts (some ⟨g, o, none⟩) l w) (h0 : 0 < l.length) (x : Rd w b t a s) : g ≠ b := by
  rintro rfl
  rcases h with e | ⟨g', o', e, _, hrow⟩
  · rw [e] at h0; cases h0
  · cases e
    have h1 := hrow 0 h0
    obtain ⟨c0, c1, c2, c3, c4, c5, c6, c7⟩ := x.cells
    have hx := Lies.cell x (o + 0)
    rw [hx] at h1
    rcases (by omega : o = 0 ∨ o = 1 ∨ o = 2 ∨ o = 3 ∨ o = 4 ∨ o = 5 ∨ o = 6 ∨ o = 7 ∨ 8 ≤ o) with rfl | rfl | rfl | rfl | rfl | rfl | rfl | rfl | ho
    all_goals first | (cases h1; done) | skip
    rw [Array.getElem?_eq_none (by simp [rdC]; omega)] at h1
    cases h1
/-- Where a reader may stand behind a byte. -/
theorem Ds.stp_p (t : Nat) (s : Ds) (c : UInt8) : 1 ≤ (s.stp t c).p ∧ (s.stp t c).p ≤ 6 := by
  have h : ∀ x : Ds, 1 ≤ (x.inn t c).p ∧ (x.inn t c).p ≤ 6 := fun x => by
    unfold inn mid tl
    split <;> simp
  unfold stp
  split
  · split
    · simp
    · exact h s
  · split
    · split
      · simp
      · exact h s
    · split
      · split
        · simp
        · exact h _
      · split
        · split
          · simp [tl]
          · exact h _
        · exact h s
/-- What a Take leaves behind. -/
structure Tkn (w : World) (b t a : Nat) (i : Im) (s : Ds) (v : Value) (w' : World) : Prop where
  ow : w'.ownsRow 0 5 1 v (imB i).length (cellsB (imB i))
  nw : ∀ k, v.ownBlock = some k → w.heap.size ≤ k
  rd : Rd w' b t a s
  ch : Chg (fun k => k = b) w w'
theorem own_none (w : World) : w.ownsRow 0 5 1 (.slice none 0 0) 0 [] := ⟨rfl, .inl ⟨rfl, rfl⟩⟩
theorem dtake_fin (b t a n : Nat) (i : Im) (s : Ds) (v : Value) (R : Nat × List UInt8 × Ds) (hi : imOf a R.2.1 R.2.2 = i) (hs : stOf R.2.1 R.2.2 = s) (hn : R.1 = n) (w wr V : World) (tmps : Array Value) (hV : V = ((((wr.setCell ⟨w.heap.size, 0, none⟩ (.int .i64 (imK i))).setCell ⟨w.heap.size, 1, none⟩ (.string ⟨#[]⟩)).setCell ⟨w.heap.size, 2, none⟩ v).setCell ⟨w.heap.size, 3, none⟩ (.int .i64 (imY i))).setCell ⟨w.heap.size, 4, none⟩ (.bool (imH i))) (h0 : Lies wr w.heap.size zit 50) (ho : wr.ownsRow 0 5 1 v (imB i).length (cellsB (imB i))) (hv : ∀ k, v.ownBlock = some k → w.heap.size < k) (hx : Rd wr b t a s) (hb : b < w.heap.size) (hc : Chg (fun k => k = b) w wr) (hp : tmps.getD 4 undef = .int .i64 (n : Int)) (hr : tmps.getD 5 undef = .pointer (some ⟨w.heap.size, 0, none⟩)) :
    bodyPost Try.prog Try.f39 (fun e w' => ∃ v, e = .returned (.tuple #[.int .i64 (R.1 : Int), imV (imOf a R.2.1 R.2.2) v]) ∧ Tkn w b t a (imOf a R.2.1 R.2.2) (stOf R.2.1 R.2.2) v w') .ret { tmps := tmps, defers := [] } V := by
  have hl : Lies V w.heap.size (imC i v) 50 := by subst hV; exact ((((h0.set 0 _).set 1 _).set 2 _).set 3 _).set 4 _
  have hB : But w.heap.size wr V := by subst hV; exact (((((But.refl _ _).set _ _).set _ _).set _ _).set _ _).set _ _
  clear hV
  rw [hi, hs, hn]
  refine res_vc rfl w.heap.size 50 (imC i v) _ _ hp hr hl Try.underlying50 rfl (by rw [infoIT]; rfl) ⟨v, rfl, ?_, ?_, ?_, ?_⟩
  · exact own_keep ho (fun k e => hB.block k (ho.lt k e).2 (fun h => by have := hv k e; omega))
  · exact fun k e => Nat.le_of_lt (hv k e)
  · exact hx.keep (hB.block b hx.lt (by omega))
  · exact hc.then (hB.chg (F := fun k => k = w.heap.size) rfl) (fun i e => .inr (by omega))
end Go.Proofs.Ythnjbnhmdjpfpaa
