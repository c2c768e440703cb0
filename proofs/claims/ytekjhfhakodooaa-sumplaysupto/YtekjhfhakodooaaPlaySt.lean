/-
  What the statement on rows of calls holds in its hands: five streams, the program's and the document's.
-/
import Derived.Test.YtekjhfhakodooaaRStream
import Derived.Test.YtekjhfhakodooaaStreamm
namespace Go.Proofs.Ytekjhfhakodooaa
open Go.RowKit

def upd {α : Type} (f : Nat → α) (i : Nat) (x : α) : Nat → α := fun k => if k = i then x else f k
theorem upd_same {α : Type} (f : Nat → α) (i : Nat) (x : α) : upd f i x i = x := by simp [upd]
theorem upd_other {α : Type} (f : Nat → α) {i k : Nat} (x : α) (h : k ≠ i) : upd f i x k = f k := by simp [upd, h]

def gotA (p : Nat → Value) : Array Value := #[p 0, p 1, p 2, p 3, p 4]
def wantA (s : Nat → Option (List UInt8)) (b : Nat → Value) : Array Value := #[.bool (s 0).isSome, b 0, .bool (s 1).isSome, b 1, .bool (s 2).isSome, b 2, .bool (s 3).isSome, b 3, .bool (s 4).isSome, b 4]

theorem gotA_at (p : Nat → Value) (i : Nat) (h : i < 5) : (gotA p)[i]? = some (p i) := by
  match i, h with
  | 0, _ => rfl
  | 1, _ => rfl
  | 2, _ => rfl
  | 3, _ => rfl
  | 4, _ => rfl
theorem gotA_set (p : Nat → Value) (i : Nat) (h : i < 5) (v : Value) : (gotA p).setIfInBounds i v = gotA (upd p i v) := by
  match i, h with
  | 0, _ => rfl
  | 1, _ => rfl
  | 2, _ => rfl
  | 3, _ => rfl
  | 4, _ => rfl
theorem wantA_is (s : Nat → Option (List UInt8)) (b : Nat → Value) (i : Nat) (h : i < 5) : (wantA s b)[i * 2]? = some (.bool (s i).isSome) := by
  match i, h with
  | 0, _ => rfl
  | 1, _ => rfl
  | 2, _ => rfl
  | 3, _ => rfl
  | 4, _ => rfl
theorem wantA_b (s : Nat → Option (List UInt8)) (b : Nat → Value) (i : Nat) (h : i < 5) : (wantA s b)[i * 2 + 1]? = some (b i) := by
  match i, h with
  | 0, _ => rfl
  | 1, _ => rfl
  | 2, _ => rfl
  | 3, _ => rfl
  | 4, _ => rfl
theorem wantA_set (s : Nat → Option (List UInt8)) (b : Nat → Value) (i : Nat) (h : i < 5) (x : Option (List UInt8)) (v : Value) :
    ((wantA s b).setIfInBounds (i * 2) (.bool x.isSome)).setIfInBounds (i * 2 + 1) v = wantA (upd s i x) (upd b i v) := by
  match i, h with
  | 0, _ => rfl
  | 1, _ => rfl
  | 2, _ => rfl
  | 3, _ => rfl
  | 4, _ => rfl

/-- One stream, the program's and the document's. -/
def RowSt (w : World) (B : Nat) : Option (List UInt8) → Value → Value → Prop
  | some L, p, b => (∃ g, p = .pointer (some ⟨g, 0, none⟩) ∧ B ≤ g ∧ Lies w g (strm true (more 0#32 L) L.length) 39) ∧ w.ownsRow B 5 1 b L.length (cellsB L)
  | none, p, b => (p = .pointer none ∨ ∃ g x n, p = .pointer (some ⟨g, 0, none⟩) ∧ B ≤ g ∧ Lies w g (strm false x n) 39) ∧ b = .slice none 0 0

theorem RowSt.no {w : World} {B : Nat} {p b : Value} (h : RowSt w B none p b) : NoStream p w := by
  rcases h.1 with h | ⟨g, x, n, e, _, hl⟩
  · exact .inl h
  · exact .inr ⟨g, x, n, e, hl⟩
theorem RowSt.keep {w w' : World} {B : Nat} {s : Option (List UInt8)} {p b : Value} (h : RowSt w B s p b)
    (hp : ∀ g, p = .pointer (some ⟨g, 0, none⟩) → w'.heap[g]? = w.heap[g]?) (hb : ∀ k, b.ownBlock = some k → w'.heap[k]? = w.heap[k]?) : RowSt w' B s p b := by
  cases s with
  | some L =>
    obtain ⟨⟨g, e, hg, hl⟩, ho⟩ := h
    exact ⟨⟨g, e, hg, (hp g e).trans hl⟩, own_keep ho hb⟩
  | none =>
    obtain ⟨h1, h2⟩ := h
    refine ⟨?_, h2⟩
    rcases h1 with h1 | ⟨g, x, n, e, hg, hl⟩
    · exact .inl h1
    · exact .inr ⟨g, x, n, e, hg, (hp g e).trans hl⟩
/-- The blocks of a row: a stream's is of the kind of streams, the bytes' of that of bytes. -/
theorem RowSt.kind {w : World} {B : Nat} {s : Option (List UInt8)} {p b : Value} (h : RowSt w B s p b) {g : Nat} (e : p = .pointer (some ⟨g, 0, none⟩)) : B ≤ g ∧ ∃ cs, Lies w g cs 39 := by
  cases s with
  | some L =>
    obtain ⟨⟨g', e', hg, hl⟩, _⟩ := h
    rw [e] at e'
    injection e' with e'; injection e' with e'; injection e' with e'
    subst e'
    exact ⟨hg, _, hl⟩
  | none =>
    rcases h.1 with h1 | ⟨g', x, n, e', hg, hl⟩
    · rw [e] at h1
      cases h1
    · rw [e] at e'
      injection e' with e'; injection e' with e'; injection e' with e'
      subst e'
      exact ⟨hg, _, hl⟩
theorem RowSt.bytes {w : World} {B : Nat} {s : Option (List UInt8)} {p b : Value} (h : RowSt w B s p b) {k : Nat} (e : b.ownBlock = some k) : ∃ cs, Lies w k cs 5 := by
  cases s with
  | some L =>
    obtain ⟨_, ho⟩ := h
    rcases ho.2 with ⟨rfl, _⟩ | ⟨g, cap, cur, rfl, _, hg, _⟩
    · cases e
    · injection e with e
      subst e
      exact ⟨cur, hg⟩
  | none =>
    rw [h.2] at e
    cases e
theorem lies_kind {w : World} {g t u : Nat} {cs ds : Array Value} (h : Lies w g cs t) (k : Lies w g ds u) : t = u := by
  have := h.symm.trans k
  injection this with e
  injection e

/-- The five streams (but for the one at x, if x is below 5). -/
structure Play (w0 w : World) (gb wb : Nat) (s : Nat → Option (List UInt8)) (p b : Nat → Value) (T x : Nat) : Prop where
  below : Below w0.heap.size w0 w
  got : Lies w gb (gotA p) 36
  want : Lies w wb (wantA s b) 42
  hgb : w0.heap.size ≤ gb
  hwb : w0.heap.size ≤ wb
  row : ∀ i, i < 5 → i ≠ x → RowSt w w0.heap.size (s i) (p i) (b i)
  apart : ∀ i j, i < 5 → j < 5 → i ≠ j → p i = p j → p i = .pointer none
  small : ∀ i L, i < 5 → i ≠ x → s i = some L → L.length ≤ T

theorem Play.next {w0 w w' : World} {gb wb T x : Nat} {s : Nat → Option (List UInt8)} {p b : Nat → Value} (h : Play w0 w gb wb s p b T x) (hb : Below w.heap.size w w') : Play w0 w' gb wb s p b T x :=
  ⟨h.below.trans (hb.mono h.below.size), h.got.below hb h.got.lt, h.want.below hb h.want.lt, h.hgb, h.hwb,
   fun i hi hx => (h.row i hi hx).keep (fun _ e => hb.block _ (((h.row i hi hx).kind e).2.elim (fun _ hl => hl.lt))) (fun _ e => hb.block _ (((h.row i hi hx).bytes e).elim (fun _ hl => hl.lt))),
   h.apart, h.small⟩
theorem Play.drew {w0 w : World} {gb wb T x : Nat} {s : Nat → Option (List UInt8)} {p b : Nat → Value} (h : Play w0 w gb wb s p b T x) : Play w0 w.drew gb wb s p b T x := h.next (Below.refl _ w).drew
/-- The stream at i turned. -/
theorem Play.but {w0 w w' : World} {gb wb T i g : Nat} {s : Nat → Option (List UInt8)} {p b : Nat → Value} (h : Play w0 w gb wb s p b T 5) (hi : i < 5) (e : p i = .pointer (some ⟨g, 0, none⟩)) (hb : But g w w') : Play w0 w' gb wb s p b T i := by
  obtain ⟨hB, cs, hl⟩ := (h.row i hi (by omega)).kind e
  refine ⟨h.below.trans (hb.below hB h.below.size), hb.lies h.got (fun e2 => ?_), hb.lies h.want (fun e2 => ?_), h.hgb, h.hwb, fun j hj hx => ?_, h.apart, fun j L hj _ => h.small j L hj (by omega)⟩
  · subst e2
    exact absurd (lies_kind h.got hl) (by decide)
  · subst e2
    exact absurd (lies_kind h.want hl) (by decide)
  · have r := h.row j hj (by omega)
    refine r.keep (fun k ek => ?_) (fun k ek => ?_)
    · obtain ⟨_, cs', hl'⟩ := r.kind ek
      refine hb.block k hl'.lt (fun e3 => ?_)
      subst e3
      have := h.apart j i hj hi hx (ek.trans e.symm)
      rw [ek] at this
      cases this
    · obtain ⟨cs', hl'⟩ := r.bytes ek
      refine hb.block k hl'.lt (fun e3 => ?_)
      subst e3
      exact absurd (lies_kind hl' hl) (by decide)
/-- The stream at i turned, to what is told as ever. -/
theorem Play.same {w0 w w' : World} {gb wb T i g : Nat} {s : Nat → Option (List UInt8)} {p b : Nat → Value} {L : List UInt8} (h : Play w0 w gb wb s p b T 5) (hi : i < 5) (e : p i = .pointer (some ⟨g, 0, none⟩)) (hb : But g w w')
    (hs : s i = some L) (hl : Lies w' g (strm true (more 0#32 L) L.length) 39) : Play w0 w' gb wb s p b T 5 := by
  have k := h.but hi e hb
  obtain ⟨hB, _, hlg⟩ := (h.row i hi (by omega)).kind e
  refine ⟨k.below, k.got, k.want, k.hgb, k.hwb, fun j hj _ => ?_, k.apart, fun j L hj _ => h.small j L hj (by omega)⟩
  by_cases e2 : j = i
  · subst e2
    have r := h.row j hi (by omega)
    rw [hs] at r ⊢
    refine ⟨⟨g, e, hB, hl⟩, own_keep r.2 (fun q hq => ?_)⟩
    obtain ⟨cs', hl'⟩ := RowSt.bytes (s := some L) r hq
    refine hb.block q hl'.lt (fun e3 => ?_)
    subst e3
    exact absurd (lies_kind hl' hlg) (by decide)
  · exact k.row j hj e2
/-- The document's stream at i laid anew. -/
theorem Play.put {w0 w : World} {gb wb T T' i x : Nat} {s : Nat → Option (List UInt8)} {p b : Nat → Value} (h : Play w0 w gb wb s p b T x) (hi : i < 5) (hx : x = i ∨ x = 5) (hT : T ≤ T') (s' : Option (List UInt8)) (v : Value)
    (hr : RowSt w w0.heap.size s' (p i) v) (hs : ∀ L, s' = some L → L.length ≤ T') :
    Play w0 ((w.setCell ⟨wb, i * 2, none⟩ (.bool s'.isSome)).setCell ⟨wb, i * 2 + 1, none⟩ v) gb wb (upd s i s') p (upd b i v) T' 5 := by
  have keep : ∀ k, k ≠ wb → ((w.setCell ⟨wb, i * 2, none⟩ (.bool s'.isSome)).setCell ⟨wb, i * 2 + 1, none⟩ v).heap[k]? = w.heap[k]? := fun k hk => (Below.heap_setCell _ _ _ _ hk).trans (Below.heap_setCell _ _ _ _ hk)
  have rk : ∀ {s q c}, RowSt w w0.heap.size s q c → RowSt ((w.setCell ⟨wb, i * 2, none⟩ (.bool s'.isSome)).setCell ⟨wb, i * 2 + 1, none⟩ v) w0.heap.size s q c := fun {s q c} r =>
    r.keep (fun k ek => keep k (fun e => by subst e; exact absurd (lies_kind h.want (r.kind ek).2.choose_spec) (by decide))) (fun k ek => keep k (fun e => by subst e; exact absurd (lies_kind h.want (r.bytes ek).choose_spec) (by decide)))
  refine ⟨(h.below.setCell h.hwb _).setCell h.hwb _, (keep gb (fun e => by have k := h.got; rw [e] at k; exact absurd (lies_kind k h.want) (by decide))).trans h.got, ?_, h.hgb, h.hwb, fun j hj _ => ?_, h.apart, fun j L hj _ hL => ?_⟩
  · have := (h.want.set (i * 2) (.bool s'.isSome)).set (i * 2 + 1) v
    rw [wantA_set s b i hi] at this
    exact this
  · by_cases e : j = i
    · subst e
      rw [upd_same, upd_same]
      exact rk hr
    · rw [upd_other _ _ e, upd_other _ _ e]
      exact rk (h.row j hj (by omega))
  · by_cases e : j = i
    · subst e
      rw [upd_same] at hL
      exact hs L hL
    · rw [upd_other _ _ e] at hL
      exact Nat.le_trans (h.small j L hj (by omega) hL) hT
/-- The program's stream at i laid anew. -/
theorem Play.point {w0 w : World} {gb wb T i : Nat} {s : Nat → Option (List UInt8)} {p b : Nat → Value} (h : Play w0 w gb wb s p b T 5) (hi : i < 5) (q : Value) (hq : ∀ j, j < 5 → j ≠ i → q = p j → q = .pointer none) :
    Play w0 (w.setCell ⟨gb, i, none⟩ q) gb wb s (upd p i q) b T i := by
  have keep : ∀ k, k ≠ gb → (w.setCell ⟨gb, i, none⟩ q).heap[k]? = w.heap[k]? := fun k hk => Below.heap_setCell _ _ _ _ hk
  refine ⟨h.below.setCell h.hgb _, ?_, (keep wb (fun e => by have k := h.want; rw [e] at k; exact absurd (lies_kind k h.got) (by decide))).trans h.want, h.hgb, h.hwb, fun j hj hx => ?_, fun j k hj hk hne e => ?_, fun j L hj _ => h.small j L hj (by omega)⟩
  · have := h.got.set i q
    rw [gotA_set p i hi] at this
    exact this
  · rw [upd_other _ _ hx]
    have r := h.row j hj (by omega)
    exact r.keep (fun k ek => keep k (fun e => by subst e; exact absurd (lies_kind h.got (r.kind ek).2.choose_spec) (by decide))) (fun k ek => keep k (fun e => by subst e; exact absurd (lies_kind h.got (r.bytes ek).choose_spec) (by decide)))
  · by_cases e1 : j = i
    · subst e1
      rw [upd_same] at e ⊢
      rw [upd_other _ _ (Ne.symm hne)] at e
      exact hq k hk (Ne.symm hne) e
    · rw [upd_other _ _ e1] at e ⊢
      by_cases e2 : k = i
      · subst e2
        rw [upd_same] at e
        rw [e]
        exact hq j hj e1 e.symm
      · rw [upd_other _ _ e2] at e
        exact h.apart j k hj hk hne e
end Go.Proofs.Ytekjhfhakodooaa
