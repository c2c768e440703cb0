/-
  Fields in memory; the document's Same.
-/
import Derived.Test.YtpepjiocjcjeeabDoorFa16
import Derived.Laws.StructEq
import Derived.Deep.QuietTactic
import Derived.BigQuiet
import Derived.Test.YtpepjiocjcjeeabDoorFqP
namespace Go.Proofs.YtpepjiocjcjeeabDoor
open Go.RowKit

structure Fd where
  name : List UInt8
  body : List UInt8
def fdC (p : Fd) : Array Value := #[.string (tx p.name), .string (tx p.body)]
def cellsF (l : List Fd) : List Value := l.flatMap fun p => (fdC p).toList
theorem cellsF_append (x y : List Fd) : cellsF (x ++ y) = cellsF x ++ cellsF y := List.flatMap_append
theorem cellsF_one (p : Fd) : cellsF [p] = (fdC p).toList := by simp [cellsF]
theorem infoF16 : (Tryd.prog.info? 32).map (fun i => (i.zero, i.size, i.bytes)) = some (some (.agg #[.string ⟨#[]⟩, .string ⟨#[]⟩]), 2, 32) := by kernel_rfl
theorem infoI16 : (Tryd.prog.info? 3).map (fun i => (i.zero, i.size, i.bytes)) = some (some (.int .i64 0), 1, 8) := by kernel_rfl
/-- The fields l lie where a points. -/
def Fds (a : Option Addr) (l : List Fd) (w : World) : Prop := l = [] ∨ ∃ g o, a = some ⟨g, o, none⟩ ∧ g < w.heap.size ∧ ∀ j u, (cellsF l)[j]? = some u → w.cell? ⟨g, o + j, none⟩ = some u
theorem Fds.below {a : Option Addr} {l : List Fd} {w w' : World} (h : Fds a l w) (hb : Below w.heap.size w w') : Fds a l w' := by
  rcases h with h | ⟨g, o, e, hg, hr⟩
  · exact .inl h
  · exact .inr ⟨g, o, e, Nat.lt_of_lt_of_le hg hb.size, fun j u hj => (hb.cell (p := ⟨g, o + j, none⟩) hg).trans (hr j u hj)⟩
theorem Fds.drewN {a : Option Addr} {l : List Fd} {w : World} (h : Fds a l w) (n : Nat) : Fds a l (w.drewN n) := h
theorem cellsF_length : ∀ l : List Fd, (cellsF l).length = 2 * l.length
  | [] => rfl
  | p :: r => by
    have e : cellsF (p :: r) = (fdC p).toList ++ cellsF r := rfl
    rw [e, List.length_append, cellsF_length r]
    show 2 + 2 * r.length = 2 * (r.length + 1)
    omega
theorem cellsF_at : ∀ (l : List Fd) (i : Nat) (h : i < l.length), (cellsF l)[i * 2]? = some (.string (tx l[i].name)) ∧ (cellsF l)[i * 2 + 1]? = some (.string (tx l[i].body))
  | p :: r, 0, _ => ⟨rfl, rfl⟩
  | p :: r, i + 1, h => by
    have ih := cellsF_at r i (by simpa using h)
    have e : cellsF (p :: r) = (fdC p).toList ++ cellsF r := rfl
    have e3 : (fdC p).toList.length = 2 := rfl
    rw [e, List.getElem?_append_right (by rw [e3]; omega), List.getElem?_append_right (by rw [e3]; omega), e3]
    rw [show (i + 1) * 2 - 2 = i * 2 by omega, show (i + 1) * 2 + 1 - 2 = i * 2 + 1 by omega]
    exact ih
theorem Fds.at {a : Option Addr} {l : List Fd} {w : World} (h : Fds a l w) (i : Nat) (hi : i < l.length) : ∃ g o, a = some ⟨g, o, none⟩ ∧ w.cell? ⟨g, o + i * 2, none⟩ = some (.string (tx l[i].name)) ∧ w.cell? ⟨g, o + i * 2 + 1, none⟩ = some (.string (tx l[i].body)) := by
  rcases h with rfl | ⟨g, o, e, _, hr⟩
  · simp at hi
  · obtain ⟨h0, h1⟩ := cellsF_at l i hi
    exact ⟨g, o, e, hr _ _ h0, by rw [Nat.add_assoc]; exact hr _ _ h1⟩
theorem cellsF_oneC (l : List Fd) : ∀ u ∈ cellsF l, u.oneCell' = true := by
  intro u hu
  unfold cellsF at hu
  rw [List.mem_flatMap] at hu
  obtain ⟨p, _, h⟩ := hu
  simp [fdC] at h
  rcases h with rfl | rfl <;> rfl
theorem fds_news {ad : Addr} {l : List Fd} {w : World} (h : Fds (some ad) l w) : ∀ j u, (cellsF l)[j]? = some u → w.cell? (ad.add j) = some u := by
  intro j u hj
  rcases h with rfl | ⟨g, o, e, _, hr⟩
  · simp [cellsF] at hj
  · injection e with e
    subst e
    rw [Addr.add_lit]
    exact hr j u hj
theorem fds_none {l : List Fd} {w : World} (h : Fds none l w) : l = [] := by
  rcases h with h | ⟨g, o, e, _⟩
  · exact h
  · cases e
theorem own_fds {w : World} {B : Nat} {v : Value} {l : List Fd} (h : w.ownsRow B 32 2 v l.length (cellsF l)) : ∃ a cap, v = .slice a l.length cap ∧ Fds a l w ∧ (a = none → cap = 0) ∧ l.length ≤ cap := by
  obtain ⟨h1, h2⟩ := id h
  rcases h2 with ⟨rfl, h0⟩ | ⟨g, cap, cur, rfl, hB, hg, hr⟩
  · have := List.eq_nil_of_length_eq_zero h0
    subst this
    exact ⟨none, 0, rfl, .inl rfl, fun _ => rfl, Nat.le_refl _⟩
  · refine ⟨_, cap, rfl, .inr ⟨g, 0, rfl, (h.lt g rfl).2, fun j u hj => ?_⟩, fun e => (by cases e), hr.1⟩
    rw [Nat.zero_add]
    have hjl : j < (cellsF l).length := by
      rcases Nat.lt_or_ge j (cellsF l).length with h' | h'
      · exact h'
      · rw [List.getElem?_eq_none h'] at hj; cases hj
    rw [cellsF_length] at hjl
    rw [h.cellAt j (by omega)]
    exact hj
end Go.Proofs.YtpepjiocjcjeeabDoor
/-
  A round of the document's Fold, told plainly.
-/
namespace Go.Proofs.YtpepjiocjcjeeabDoor

/-- What is told when the rows have been joined. -/
def foldE (nm : List UInt8) : Option (List UInt8) → Nat × Fd
  | none => (160, ⟨[], []⟩)
  | some b => (0, ⟨nm, b⟩)
/-- The document's Fold stands at b, a octets ahead, with o joined. -/
def StR (R : Nat × Fd) (nm l : List UInt8) (mo b a : Nat) (o : List UInt8) : Prop :=
  ∃ (ap : Nat) (out : List UInt8), a = (if 0 < b then 0 else ap) ∧ o = (if 0 < b then out ++ [13, 10] else out) ∧ R = foldE nm (foldR l (rwsF l mo a b) ap out)
theorem str_start {R : Nat × Fd} {nm l : List UInt8} {mo a : Nat} (h : R = foldE nm (foldR l (cuts l a mo) a [])) : StR R nm l mo 0 a [] :=
  ⟨a, [], rfl, rfl, by rw [h, cuts_is]⟩
theorem str_step {R : Nat × Fd} {nm l : List UInt8} {mo b a : Nat} {o : List UInt8} (h : StR R nm l mo b a o) (hb : b ≤ l.length) (h0 : b < l.length ∨ l.length = 0) :
    (998 < a + rowD l mo a b - b ∧ R = (160, ⟨[], []⟩)) ∨
    (¬ 998 < a + rowD l mo a b - b ∧ rowD l mo a b = l.length ∧ R = (0, ⟨nm, o ++ stE l b (rowD l mo a b)⟩)) ∨
    (¬ 998 < a + rowD l mo a b - b ∧ b < rowD l mo a b ∧ rowD l mo a b < l.length ∧ StR R nm l mo (rowD l mo a b) 0 (o ++ stE l b (rowD l mo a b) ++ [13, 10])) := by
  obtain ⟨ap, out, ha, ho, hR⟩ := h
  rcases rwsF_step l mo a b hb h0 with ⟨e1, e2⟩ | ⟨e1, e2, e3⟩
  · rw [e2, foldR] at hR
    simp only [← ha, ← ho] at hR
    rw [e1]
    by_cases hg : 998 < a + l.length - b
    · rw [if_pos hg] at hR
      exact .inl ⟨hg, hR⟩
    · rw [if_neg hg] at hR
      exact .inr (.inl ⟨hg, rfl, hR⟩)
  · rw [e3, foldR] at hR
    simp only [← ha, ← ho] at hR
    by_cases hg : 998 < a + rowD l mo a b - b
    · rw [if_pos hg] at hR
      exact .inl ⟨hg, hR⟩
    · rw [if_neg hg] at hR
      have hp : 0 < rowD l mo a b := by omega
      exact .inr (.inr ⟨hg, e1, e2, a, o ++ stE l b (rowD l mo a b), by rw [if_pos hp], by rw [if_pos hp], hR⟩)
theorem jbs_fin (l : List UInt8) (b i : Nat) (h : l.length ≤ i) : jbs l b i = jbs l b l.length := by
  unfold jbs
  rw [jts_stay l l.length i h (fun j h2 _ => by
    cases hj : jtB l j with
    | false => rfl
    | true => exact absurd (jt_lt hj).2 (by omega))]
theorem fst_fin (l : List UInt8) (b i : Nat) (h : l.length ≤ i) : fstJ l b i = fstJ l b l.length := by
  unfold fstJ
  rw [jbs_fin l b i h]
theorem lst_fin (l : List UInt8) (most a b i : Nat) (h : l.length ≤ i) : lstJ l most a b i = lstJ l most a b l.length := by
  unfold lstJ
  rw [jbs_fin l b i h]
theorem fst_new (l : List UInt8) (b : Nat) : fstJ l b (b + 1) = none := by
  unfold fstJ
  rw [jbs_start]
  rfl
theorem lst_new (l : List UInt8) (most a b : Nat) : lstJ l most a b (b + 1) = none := by
  unfold lstJ
  rw [jbs_start]
  rfl
theorem fst_no {l : List UInt8} {b i : Nat} (h : b < i) (hj : jtB l i = false) : fstJ l b (i + 1) = fstJ l b i := by
  rw [fstJ_succ l b i h, hj]; rfl
theorem lst_no {l : List UInt8} {most a b i : Nat} (h : b < i) (hj : jtB l i = false) : lstJ l most a b (i + 1) = lstJ l most a b i := by
  rw [lstJ_succ l most a b i h, hj]; rfl
theorem fst_some {l : List UInt8} {b i f : Nat} (h : b < i) (hf : fstJ l b i = some f) : fstJ l b (i + 1) = some f := by
  rw [fstJ_succ l b i h, hf]; split <;> rfl
theorem fst_none {l : List UInt8} {b i : Nat} (h : b < i) (hj : jtB l i = true) (hf : fstJ l b i = none) : fstJ l b (i + 1) = some i := by
  rw [fstJ_succ l b i h, hj, hf]; rfl
theorem lst_fit {l : List UInt8} {most a b i : Nat} (h : b < i) (hj : jtB l i = true) (hf : a + i - b ≤ most) : lstJ l most a b (i + 1) = some i := by
  have h2 : fitB most a b i = true := by unfold fitB; rw [decide_eq_true_eq]; omega
  rw [lstJ_succ l most a b i h, hj, h2]; rfl
theorem lst_far {l : List UInt8} {most a b i : Nat} (h : b < i) (hf : ¬ a + i - b ≤ most) : lstJ l most a b (i + 1) = lstJ l most a b i := by
  have h2 : fitB most a b i = false := by unfold fitB; rw [decide_eq_false_iff_not]; omega
  rw [lstJ_succ l most a b i h, h2, Bool.and_false]; rfl
theorem rowD_near {l : List UInt8} {most a b : Nat} (hb : b ≤ l.length) (h : ¬ most < a + l.length - b) : rowD l most a b = l.length := by
  unfold rowD
  rw [if_neg (by omega)]
theorem rowD_none {l : List UInt8} {most a b : Nat} (h : fstJ l b l.length = none) : rowD l most a b = l.length := by
  unfold rowD
  rw [h]
  split <;> rfl
theorem rowD_one {l : List UInt8} {most a b f : Nat} (hb : b ≤ l.length) (h : most < a + l.length - b) (hf : fstJ l b l.length = some f) (hl : lstJ l most a b l.length = none) : rowD l most a b = f := by
  unfold rowD
  rw [if_pos (by omega), hf, hl]
  exact Nat.max_eq_left (Nat.zero_le _)
theorem rowD_two {l : List UInt8} {most a b f g : Nat} (hb : b ≤ l.length) (h : most < a + l.length - b) (hf : fstJ l b l.length = some f) (hl : lstJ l most a b l.length = some g) : rowD l most a b = max f g := by
  unfold rowD
  rw [if_pos (by omega), hf, hl]
  rfl
end Go.Proofs.YtpepjiocjcjeeabDoor
