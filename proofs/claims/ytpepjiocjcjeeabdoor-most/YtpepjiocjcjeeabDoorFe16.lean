/-
  Fields in memory; the document's Same.
-/
import Derived.Test.YtpepjiocjcjeeabDoorFa16
import Derived.Laws.StructEq
import Derived.Deep.QuietTactic
import Derived.BigQuiet
namespace Go.Proofs.YtpepjiocjcjeeabDoor
open Go.RowKit

structure Fd where
  name : List UInt8
  body : List UInt8
def fdC (p : Fd) : Array Value := #[.string (tx p.name), .string (tx p.body)]
def cellsF (l : List Fd) : List Value := l.flatMap fun p => (fdC p).toList
theorem cellsF_append (x y : List Fd) : cellsF (x ++ y) = cellsF x ++ cellsF y := List.flatMap_append
theorem cellsF_one (p : Fd) : cellsF [p] = (fdC p).toList := by simp [cellsF]
theorem infoF16 : (Tryd.prog.info? 32).map (fun i => (i.zero, i.size, i.bytes)) = some (some (.agg #[.string ⟨#[]⟩, .string ⟨#[]⟩]), 2, 32) := by kernel_rfl
theorem infoI16 : (Tryd.prog.info? 3).map (fun i => (i.zero, i.size, i.bytes)) = some (some (.int .i64 0), 1, 8) := by kernel_rfl
/-- The fields l lie where a points. -/
def Fds (a : Option Addr) (l : List Fd) (w : World) : Prop := l = [] ∨ ∃ g o, a = some ⟨g, o, none⟩ ∧ g < w.heap.size ∧ ∀ j u, (cellsF l)[j]? = some u → w.cell? ⟨g, o + j, none⟩ = some u
theorem Fds.below {a : Option Addr} {l : List Fd} {w w' : World} (h : Fds a l w) (hb : Below w.heap.size w w') : Fds a l w' := by
  rcases h with h | ⟨g, o, e, hg, hr⟩
  · exact .inl h
  · exact .inr ⟨g, o, e, Nat.lt_of_lt_of_le hg hb.size, fun j u hj => (hb.cell (p := ⟨g, o + j, none⟩) hg).trans (hr j u hj)⟩
theorem Fds.drewN {a : Option Addr} {l : List Fd} {w : World} (h : Fds a l w) (n : Nat) : Fds a l (w.drewN n) := h
theorem cellsF_length : ∀ l : List Fd, (cellsF l).length = 2 * l.length
  | [] => rfl
  | p :: r => by
    have e : cellsF (p :: r) = (fdC p).toList ++ cellsF r := rfl
    rw [e, List.length_append, cellsF_length r]
    show 2 + 2 * r.length = 2 * (r.length + 1)
    omega
theorem cellsF_at : ∀ (l : List Fd) (i : Nat) (h : i < l.length), (cellsF l)[i * 2]? = some (.string (tx l[i].name)) ∧ (cellsF l)[i * 2 + 1]? = some (.string (tx l[i].body))
  | p :: r, 0, _ => ⟨rfl, rfl⟩
  | p :: r, i + 1, h => by
    have ih := cellsF_at r i (by simpa using h)
    have e : cellsF (p :: r) = (fdC p).toList ++ cellsF r := rfl
    have e3 : (fdC p).toList.length = 2 := rfl
    rw [e, List.getElem?_append_right (by rw [e3]; omega), List.getElem?_append_right (by rw [e3]; omega), e3]
    rw [show (i + 1) * 2 - 2 = i * 2 by omega, show (i + 1) * 2 + 1 - 2 = i * 2 + 1 by omega]
    exact ih
theorem Fds.at {a : Option Addr} {l : List Fd} {w : World} (h : Fds a l w) (i : Nat) (hi : i < l.length) : ∃ g o, a = some ⟨g, o, none⟩ ∧ w.cell? ⟨g, o + i * 2, none⟩ = some (.string (tx l[i].name)) ∧ w.cell? ⟨g, o + i * 2 + 1, none⟩ = some (.string (tx l[i].body)) := by
  rcases h with rfl | ⟨g, o, e, _, hr⟩
  · simp at hi
  · obtain ⟨h0, h1⟩ := cellsF_at l i hi
    exact ⟨g, o, e, hr _ _ h0, by rw [Nat.add_assoc]; exact hr _ _ h1⟩
theorem cellsF_oneC (l : List Fd) : ∀ u ∈ cellsF l, u.oneCell' = true := by
  intro u hu
  unfold cellsF at hu
  rw [List.mem_flatMap] at hu
  obtain ⟨p, _, h⟩ := hu
  simp [fdC] at h
  rcases h with rfl | rfl <;> rfl
theorem fds_news {ad : Addr} {l : List Fd} {w : World} (h : Fds (some ad) l w) : ∀ j u, (cellsF l)[j]? = some u → w.cell? (ad.add j) = some u := by
  intro j u hj
  rcases h with rfl | ⟨g, o, e, _, hr⟩
  · simp [cellsF] at hj
  · injection e with e
    subst e
    rw [Addr.add_lit]
    exact hr j u hj
theorem fds_none {l : List Fd} {w : World} (h : Fds none l w) : l = [] := by
  rcases h with h | ⟨g, o, e, _⟩
  · exact h
  · cases e
theorem own_fds {w : World} {B : Nat} {v : Value} {l : List Fd} (h : w.ownsRow B 32 2 v l.length (cellsF l)) : ∃ a cap, v = .slice a l.length cap ∧ Fds a l w ∧ (a = none → cap = 0) ∧ l.length ≤ cap := by
  obtain ⟨h1, h2⟩ := id h
  rcases h2 with ⟨rfl, h0⟩ | ⟨g, cap, cur, rfl, hB, hg, hr⟩
  · have := List.eq_nil_of_length_eq_zero h0
    subst this
    exact ⟨none, 0, rfl, .inl rfl, fun _ => rfl, Nat.le_refl _⟩
  · refine ⟨_, cap, rfl, .inr ⟨g, 0, rfl, (h.lt g rfl).2, fun j u hj => ?_⟩, fun e => (by cases e), hr.1⟩
    rw [Nat.zero_add]
    have hjl : j < (cellsF l).length := by
      rcases Nat.lt_or_ge j (cellsF l).length with h' | h'
      · exact h'
      · rw [List.getElem?_eq_none h'] at hj; cases hj
    rw [cellsF_length] at hjl
    rw [h.cellAt j (by omega)]
    exact hj
end Go.Proofs.YtpepjiocjcjeeabDoor
