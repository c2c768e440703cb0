/-
  Two readers of the program's and two of the document's, side by side: what they hold.
-/
import Derived.Test.YtenfopabdegmhaaRFeed4
import Derived.Test.YtenfopabdegmhaaFeed
import Derived.Test.YtenfopabdegmhaaClose
import Derived.Test.YtenfopabdegmhaaLent4
import Derived.Test.YtenfopabdegmhaaSpoil
namespace Go.Proofs.Ytenfopabdegmhaa
open Go.RowKit

/-- What Feed leaves and tells, of a reader that may be spoilt. -/
def fE (t : List UInt8) (e : Nat) (b : List UInt8) : Nat := if e = 0 then rdE t b else e
def fT (t : List UInt8) (e : Nat) (b : List UInt8) : List UInt8 := if e = 0 then rdT t b else t
def fL (t : List UInt8) (e : Nat) (b : List UInt8) : List UInt8 := if e = 0 then rdL t b else []
theorem fT_le (t : List UInt8) (e : Nat) (b : List UInt8) : (fT t e b).length ≤ t.length + b.length := by
  unfold fT
  split
  · have h1 := noCr_le b
    have h2 : ((noCr b).take (okN (stD 0 t) (noCr b))).length ≤ (noCr b).length := List.length_take_le' _ _
    unfold rdT
    rw [List.length_append]
    omega
  · omega
theorem fL_le (t : List UInt8) (e : Nat) (b : List UInt8) : (fL t e b).length ≤ 3 + b.length := by
  unfold fL
  split
  · have h1 := held_le t b
    have h2 := decL_le (heldG t b)
    rw [rdL_held]
    omega
  · simp
theorem drewN_below (w : World) (k : Nat) : Below w.heap.size w (w.drewN k) := ⟨rfl, rfl, rfl, Nat.le_refl _, fun _ _ => rfl⟩

theorem feed_all (g : Nat) (t : List UInt8) (e0 : Nat) (a : Option Addr) (b : List UInt8) (cap n : Nat) (w : World) (hr : RdAt w g t e0) (hn : n = b.length) (hb : Bts a b w) (hl : b.length ≤ 140737488355200) (hne : b ≠ [] → ∀ ad, a = some ad → ad.block ≠ g) :
    Calls Try.prog 17 #[.pointer (some ⟨g, 0, none⟩), .slice a n cap] w fun e w' => ∃ v, e = .returned (.tuple #[v, .int .i64 (fE t e0 b : Nat)]) ∧
      w'.ownsRow w.heap.size 5 1 v (fL t e0 b).length (cellsB (fL t e0 b)) ∧ RdAt w' g (fT t e0 b) (fE t e0 b) ∧ But g w w' := by
  unfold fE fT fL
  by_cases he : e0 = 0
  · subst he
    simp only [if_true]
    exact feed_any g t a b cap n w hr hn hb hl hne
  · simp only [if_neg he]
    refine (feed_spoilt g t e0 he _ w hr).mono ?_
    rintro e w' ⟨rfl, k, rfl⟩
    exact ⟨_, rfl, own_nil _ _, hr.below (drewN_below w k), But.of_below (drewN_below w k)⟩
theorem rrfeed_all (B g : Nat) (t : List UInt8) (e0 : Nat) (v : Value) (a : Option Addr) (b : List UInt8) (cap n : Nat) (w : World) (hr : RrAt w B g t e0 v) (hB : B ≤ w.heap.size) (hn : n = b.length) (hb : Bts a b w) (hab : b ≠ [] → ∀ ad, a = some ad → ad.block < B) (hgB : B ≤ g) (hl : t.length + b.length ≤ 140737488355200) :
    Calls Try.prog 19 #[.pointer (some ⟨g, 0, none⟩), .slice a n cap] w fun e w' => ∃ vo v', e = .returned (.tuple #[vo, .int .i64 (fE t e0 b : Nat)]) ∧ w'.ownsRow w.heap.size 5 1 vo (fL t e0 b).length (cellsB (fL t e0 b)) ∧ RrAt w' B g (fT t e0 b) (fE t e0 b) v' ∧
      (∀ k, v'.ownBlock = some k → v.ownBlock = some k ∨ w.heap.size ≤ k) ∧ Ap vo v' ∧ But2 g (if e0 = 0 then v.ownBlock else none) w w' := by
  unfold fE fT fL
  by_cases he : e0 = 0
  · subst he
    simp only [if_true]
    exact rrfeed_any B g t v a b cap n w hr hB hn hb hab hgB hl
  · simp only [if_neg he]
    refine (rrfeed_spoilt B g t e0 he v _ w hr).mono ?_
    rintro e w' ⟨rfl, k, rfl⟩
    exact ⟨_, v, rfl, own_nil _ _, hr.below (drewN_below w k), fun k h => .inl h, Ap.none _ _ _, ⟨rfl, rfl, rfl, Nat.le_refl _, fun _ _ _ _ => rfl⟩⟩

theorem But2.belowB {g B : Nat} {r : Option Nat} {a b : World} (h : But2 g r a b) (hB : B ≤ a.heap.size) (hg : B ≤ g) (hr : ∀ k, r = some k → B ≤ k) : Below B a b :=
  ⟨h.os, h.tape, h.output, h.size, fun k hk => h.block k (by omega) (by omega) (fun e => by have := hr k e.symm; omega)⟩
theorem bts_blk {v : World} {a : Option Addr} {l : List UInt8} (h : Bts a l v) : l ≠ [] → ∀ ad, a = some ad → ad.block < v.heap.size := by
  intro hl ad e
  rcases h with h | ⟨g, o, e2, hg, _⟩
  · exact absurd h hl
  · rw [e2] at e
    injection e with e
    rw [← e]
    exact hg
theorem fE_zero (t : List UInt8) (e : Nat) (b : List UInt8) (h : fE t e b = 0) : e = 0 := by
  unfold fE at h
  split at h
  · assumption
  · exact h
/-- A function, turned at one place. -/
def upd {α : Type} (f : Nat → α) (i : Nat) (x : α) : Nat → α := fun j => if j = i then x else f j
theorem upd_at {α : Type} (f : Nat → α) (i : Nat) (x : α) : upd f i x i = x := if_pos rfl
theorem upd_ne {α : Type} (f : Nat → α) (i : Nat) (x : α) (j : Nat) (h : j ≠ i) : upd f i x j = f j := if_neg h
/-- All that the statement's loop holds. -/
structure Ls (w wr : World) (gl gm : Nat) (p q : Nat → Nat) (T : Nat → List UInt8) (e : Nat → Nat) (V : Nat → Value) (vl vw : Value) (D : List UInt8) : Prop where
  bel : Below w.heap.size w wr
  la : Lies wr gl #[.pointer (some ⟨p 0, 0, none⟩), .pointer (some ⟨p 1, 0, none⟩)] 38
  ma : Lies wr gm #[.pointer (some ⟨q 0, 0, none⟩), .pointer (some ⟨q 1, 0, none⟩)] 40
  rd : ∀ i, i < 2 → RdAt wr (p i) (T i) (e i)
  rr : ∀ i, i < 2 → RrAt wr w.heap.size (q i) (T i) (e i) (V i)
  pne : ∀ i j, i < 2 → j < 2 → i ≠ j → p i ≠ p j
  qne : ∀ i j, i < 2 → j < 2 → i ≠ j → q i ≠ q j
  vap : ∀ i j, i < 2 → j < 2 → i ≠ j → Ap (V i) (V j)
  ge : w.heap.size ≤ gl ∧ w.heap.size ≤ gm ∧ ∀ i, i < 2 → w.heap.size ≤ p i ∧ w.heap.size ≤ q i
  ol : wr.ownsRow w.heap.size 5 1 vl D.length (cellsB D)
  ow : wr.ownsRow w.heap.size 5 1 vw D.length (cellsB D)
  lw : Ap vl vw
  lV : ∀ i, i < 2 → Ap vl (V i) ∧ Ap vw (V i)
theorem Ls.below {w wr : World} {gl gm : Nat} {p q : Nat → Nat} {T : Nat → List UInt8} {e : Nat → Nat} {V : Nat → Value} {vl vw : Value} {D : List UInt8} {wr' : World} (h : Ls w wr gl gm p q T e V vl vw D) (hb : Below wr.heap.size wr wr') : Ls w wr' gl gm p q T e V vl vw D :=
  ⟨h.bel.trans (hb.mono h.bel.size), h.la.below hb h.la.lt, h.ma.below hb h.ma.lt, fun i hi => (h.rd i hi).below hb, fun i hi => (h.rr i hi).below hb, h.pne, h.qne, h.vap, h.ge, own_below h.ol hb, own_below h.ow hb, h.lw, h.lV⟩
theorem Ls.lcell {w wr : World} {gl gm : Nat} {p q : Nat → Nat} {T : Nat → List UInt8} {e : Nat → Nat} {V : Nat → Value} {vl vw : Value} {D : List UInt8} (h : Ls w wr gl gm p q T e V vl vw D) (i : Nat) (hi : i < 2) : wr.cell? ⟨gl, i, none⟩ = some (.pointer (some ⟨p i, 0, none⟩)) := by
  match i, hi with
  | 0, _ => exact h.la.cell 0
  | 1, _ => exact h.la.cell 1
theorem Ls.mcell {w wr : World} {gl gm : Nat} {p q : Nat → Nat} {T : Nat → List UInt8} {e : Nat → Nat} {V : Nat → Value} {vl vw : Value} {D : List UInt8} (h : Ls w wr gl gm p q T e V vl vw D) (i : Nat) (hi : i < 2) : wr.cell? ⟨gm, i, none⟩ = some (.pointer (some ⟨q i, 0, none⟩)) := by
  match i, hi with
  | 0, _ => exact h.ma.cell 0
  | 1, _ => exact h.ma.cell 1
theorem Ls.rdk {w wr : World} {gl gm : Nat} {p q : Nat → Nat} {T : Nat → List UInt8} {e : Nat → Nat} {V : Nat → Value} {vl vw : Value} {D : List UInt8} (h : Ls w wr gl gm p q T e V vl vw D) (i : Nat) (hi : i < 2) : ∃ cs, Lies wr (p i) cs 48 := by
  obtain ⟨_, x, y, z, hl, _⟩ := h.rd i hi
  exact ⟨_, hl⟩
/-- After a feeding. -/
theorem Ls.fed {w wr : World} {gl gm : Nat} {p q : Nat → Nat} {T : Nat → List UInt8} {e : Nat → Nat} {V : Nat → Value} {vl vw : Value} {D : List UInt8} {w1 w2 w4 : World} {i gin S0 e' : Nat} {T' D' : List UInt8} {V' vo vp : Value} {R : Option Nat} (h : Ls w wr gl gm p q T e V vl vw D) (hi : i < 2) (hR : ∀ k, R = some k → e i = 0 ∧ (V i).ownBlock = some k) (he : e' = 0 → e i = 0)
    (s0 : wr.heap.size ≤ gin) (s1 : gin < S0) (s2 : S0 ≤ w1.heap.size) (s3 : w1.heap.size ≤ w2.heap.size) (s4 : w2.heap.size ≤ w4.heap.size)
    (r1 : RrAt w1 w.heap.size (q i) T' e' V') (b1 : ∀ k, V'.ownBlock = some k → (V i).ownBlock = some k ∨ S0 ≤ k) (o1 : w1.ownsRow S0 5 1 vo D'.length (cellsB D')) (ap1 : Ap vo V')
    (r2 : RdAt w2 (p i) T' e') (o2 : w2.ownsRow w1.heap.size 5 1 vp D'.length (cellsB D'))
    (c0 : ∀ k, k < wr.heap.size → k ≠ q i → some k ≠ R → k ≠ p i → some k ≠ vl.ownBlock → w4.heap[k]? = wr.heap[k]?)
    (c1 : ∀ k, k < w1.heap.size → k ≠ p i → k ≠ gin → some k ≠ vl.ownBlock → w4.heap[k]? = w1.heap[k]?)
    (c2 : ∀ k, k < w2.heap.size → k ≠ gin → some k ≠ vl.ownBlock → w4.heap[k]? = w2.heap[k]?) (hb : Below w.heap.size w w4) :
    Ls w w4 gl gm p q (upd T i T') (upd e i e') (upd V i V') vp vo D' := by
  have hsz := h.bel.size
  obtain ⟨cp, hpk⟩ := h.rdk i hi
  have hqk := (h.rr i hi).lies
  have hpw : p i < wr.heap.size := hpk.lt
  have hqw : q i < wr.heap.size := hqk.lt
  have vlk : ∀ k, vl.ownBlock = some k → k < wr.heap.size := fun k hk => (h.ol.lt k hk).2
  -- a block of another kind is none of those that turn
  have far : ∀ k cs t, Lies wr k cs t → t ≠ 5 → t ≠ 48 → t ≠ 69 → w4.heap[k]? = wr.heap[k]? := fun k cs t hl h5 h1 h2 => by
    refine c0 k hl.lt (fun e => ?_) (fun e => ?_) (fun e => ?_) (fun e => ?_)
    · subst e; exact h2 (lies_kind hl hqk)
    · obtain ⟨e0, e1⟩ := hR k e.symm
      exact own_apart ((h.rr i hi).own e0).2 hl h5 k e1 rfl
    · subst e; exact h1 (lies_kind hl hpk)
    · exact own_apart h.ol hl h5 k e.symm rfl
  have hnp : ∀ k, V'.ownBlock = some k → k ≠ gin ∧ some k ≠ vl.ownBlock := fun k hk => by
    rcases b1 k hk with h1 | h1
    · have h2 := ((h.rr i hi).blk k h1).2
      exact ⟨by omega, fun e => ((h.lV i hi).1 k e.symm) h1⟩
    · exact ⟨by omega, fun e => by have := vlk k e.symm; omega⟩
  have hq4 : w4.heap[q i]? = w1.heap[q i]? := by
    refine c1 (q i) r1.lies.lt (fun e => ?_) (by omega) (fun e => ?_)
    · rw [e] at hqk
      exact absurd (lies_kind hqk hpk) (by decide)
    · exact own_apart h.ol hqk (by decide) _ e.symm rfl
  have hp4 : w4.heap[p i]? = w2.heap[p i]? := c2 (p i) r2.lt (by omega) (fun e => own_apart h.ol hpk (by decide) _ e.symm rfl)
  have hvo : ∀ k, vo.ownBlock = some k → S0 ≤ k ∧ k < w1.heap.size := fun k hk => o1.lt k hk
  have hvp : ∀ k, vp.ownBlock = some k → w1.heap.size ≤ k ∧ k < w2.heap.size := fun k hk => o2.lt k hk
  refine ⟨hb, (far _ _ _ h.la (by decide) (by decide) (by decide)).trans h.la, (far _ _ _ h.ma (by decide) (by decide) (by decide)).trans h.ma, fun j hj => ?_, fun j hj => ?_, h.pne, h.qne, fun j k hj hk hne => ?_, h.ge, ?_, ?_, ?_, fun j hj => ?_⟩
  · by_cases hji : j = i
    · subst hji
      rw [upd_at, upd_at]
      exact r2.of hp4
    · rw [upd_ne _ _ _ _ hji, upd_ne _ _ _ _ hji]
      obtain ⟨cj, hjk⟩ := h.rdk j hj
      refine (h.rd j hj).of (c0 _ hjk.lt (fun e => ?_) (fun e => ?_) (h.pne j i hj hi hji) (fun e => ?_))
      · rw [e] at hjk
        exact absurd (lies_kind hjk hqk) (by decide)
      · obtain ⟨e0, e1⟩ := hR _ e.symm
        exact own_apart ((h.rr i hi).own e0).2 hjk (by decide) _ e1 rfl
      · exact own_apart h.ol hjk (by decide) _ e.symm rfl
  · by_cases hji : j = i
    · subst hji
      rw [upd_at, upd_at, upd_at]
      refine r1.of (by omega) hq4 (fun e0 k hk => ?_)
      obtain ⟨n1, n2⟩ := hnp k hk
      refine c1 k (r1.blk k hk).2 (fun e => ?_) n1 n2
      subst e
      rcases b1 _ hk with h1 | h1
      · exact own_apart ((h.rr j hj).own (he e0)).2 hpk (by decide) _ h1 rfl
      · omega
    · rw [upd_ne _ _ _ _ hji, upd_ne _ _ _ _ hji, upd_ne _ _ _ _ hji]
      have hjl := (h.rr j hj).lies
      refine (h.rr j hj).of (by omega) (c0 _ hjl.lt (h.qne j i hj hi hji) (fun e => ?_) (fun e => ?_) (fun e => ?_)) (fun e0 k hk => c0 k ((h.rr j hj).blk k hk).2 (fun e => ?_) (fun e => ?_) (fun e => ?_) (fun e => ?_))
      · obtain ⟨e0, e1⟩ := hR _ e.symm
        exact own_apart ((h.rr i hi).own e0).2 hjl (by decide) _ e1 rfl
      · rw [e] at hjl
        exact absurd (lies_kind hjl hpk) (by decide)
      · exact own_apart h.ol hjl (by decide) _ e.symm rfl
      · exact own_apart ((h.rr j hj).own e0).2 hqk (by decide) k hk e
      · obtain ⟨_, e1⟩ := hR _ e.symm
        exact h.vap j i hj hi hji k hk e1
      · exact own_apart ((h.rr j hj).own e0).2 hpk (by decide) k hk e
      · exact (h.lV j hj).1 k e.symm hk
  · by_cases hji : j = i
    · subst hji
      rw [upd_at, upd_ne _ _ _ _ (Ne.symm hne)]
      intro g hg hgk
      rcases b1 g hg with h1 | h1
      · exact h.vap j k hj hk hne g h1 hgk
      · have := ((h.rr k hk).blk g hgk).2
        omega
    · rw [upd_ne _ _ _ _ hji]
      by_cases hki : k = i
      · subst hki
        rw [upd_at]
        intro g hg hgk
        rcases b1 g hgk with h1 | h1
        · exact h.vap j k hj hk hne g hg h1
        · have := ((h.rr j hj).blk g hg).2
          omega
      · rw [upd_ne _ _ _ _ hki]
        exact h.vap j k hj hk hne
  · refine own_keep (base_le o2 (by omega)) (fun k hk => ?_)
    have := hvp k hk
    exact c2 k this.2 (by omega) (fun e => by have := vlk k e.symm; omega)
  · refine own_keep (base_le o1 (by omega)) (fun k hk => ?_)
    have := hvo k hk
    exact c1 k this.2 (by omega) (by omega) (fun e => by have := vlk k e.symm; omega)
  · intro k hk hk2
    have h1 := hvp k hk
    have h2 := hvo k hk2
    omega
  · by_cases hji : j = i
    · subst hji
      rw [upd_at]
      refine ⟨fun k hk hk2 => ?_, ap1⟩
      have h1 := hvp k hk
      have h2 := (r1.blk k hk2).2
      omega
    · rw [upd_ne _ _ _ _ hji]
      refine ⟨fun k hk hk2 => ?_, fun k hk hk2 => ?_⟩
      · have h1 := hvp k hk
        have h2 := ((h.rr j hj).blk k hk2).2
        omega
      · have h1 := hvo k hk
        have h2 := ((h.rr j hj).blk k hk2).2
        omega
theorem la_set {v : World} {g t : Nat} {p : Nat → Nat} (h : Lies v g #[.pointer (some ⟨p 0, 0, none⟩), .pointer (some ⟨p 1, 0, none⟩)] t) (i P : Nat) (hi : i < 2) : Lies (v.setCell ⟨g, i, none⟩ (.pointer (some ⟨P, 0, none⟩))) g #[.pointer (some ⟨upd p i P 0, 0, none⟩), .pointer (some ⟨upd p i P 1, 0, none⟩)] t := by
  match i, hi with
  | 0, _ => exact h.set 0 _
  | 1, _ => exact h.set 1 _
/-- A new reader on both sides. -/
theorem Ls.new {w wr : World} {gl gm : Nat} {p q : Nat → Nat} {T : Nat → List UInt8} {e : Nat → Nat} {V : Nat → Value} {vl vw : Value} {D : List UInt8} {w4 : World} {i P Q : Nat} (h : Ls w wr gl gm p q T e V vl vw D) (hi : i < 2) (hP : wr.heap.size ≤ P) (hQ : wr.heap.size ≤ Q) (hs : wr.heap.size ≤ w4.heap.size)
    (la : Lies w4 gl #[.pointer (some ⟨upd p i P 0, 0, none⟩), .pointer (some ⟨upd p i P 1, 0, none⟩)] 38) (ma : Lies w4 gm #[.pointer (some ⟨upd q i Q 0, 0, none⟩), .pointer (some ⟨upd q i Q 1, 0, none⟩)] 40)
    (r1 : RdAt w4 P [] 0) (r2 : RrAt w4 w.heap.size Q [] 0 (.slice none 0 0)) (c : ∀ k, k < wr.heap.size → k ≠ gl → k ≠ gm → w4.heap[k]? = wr.heap[k]?) (hb : Below w.heap.size w w4) :
    Ls w w4 gl gm (upd p i P) (upd q i Q) (upd T i []) (upd e i 0) (upd V i (.slice none 0 0)) vl vw D := by
  have hsz := h.bel.size
  have hpw : ∀ j, j < 2 → p j < wr.heap.size := fun j hj => (h.rd j hj).lt
  have hqw : ∀ j, j < 2 → q j < wr.heap.size := fun j hj => (h.rr j hj).lies.lt
  have hown : ∀ {B n : Nat} {v : Value} {xs : List Value}, wr.ownsRow B 5 1 v n xs → w4.ownsRow B 5 1 v n xs := fun ho => own_keep ho (fun k hk => c k (ho.lt k hk).2 (own_apart ho h.la (by decide) k hk) (own_apart ho h.ma (by decide) k hk))
  refine ⟨hb, la, ma, fun j hj => ?_, fun j hj => ?_, fun j k hj hk hne => ?_, fun j k hj hk hne => ?_, fun j k hj hk hne => ?_, ⟨h.ge.1, h.ge.2.1, fun j hj => ?_⟩, hown h.ol, hown h.ow, h.lw, fun j hj => ?_⟩
  · by_cases hji : j = i
    · subst hji
      rw [upd_at, upd_at, upd_at]
      exact r1
    · rw [upd_ne _ _ _ _ hji, upd_ne _ _ _ _ hji, upd_ne _ _ _ _ hji]
      obtain ⟨cj, hjk⟩ := h.rdk j hj
      refine (h.rd j hj).of (c _ hjk.lt (fun e => ?_) (fun e => ?_))
      · rw [e] at hjk
        exact absurd (lies_kind hjk h.la) (by decide)
      · rw [e] at hjk
        exact absurd (lies_kind hjk h.ma) (by decide)
  · by_cases hji : j = i
    · subst hji
      rw [upd_at, upd_at, upd_at, upd_at]
      exact r2
    · rw [upd_ne _ _ _ _ hji, upd_ne _ _ _ _ hji, upd_ne _ _ _ _ hji, upd_ne _ _ _ _ hji]
      have hjl := (h.rr j hj).lies
      refine (h.rr j hj).of hs (c _ hjl.lt (fun e => ?_) (fun e => ?_)) (fun e0 k hk => c k ((h.rr j hj).blk k hk).2 (own_apart ((h.rr j hj).own e0).2 h.la (by decide) k hk) (own_apart ((h.rr j hj).own e0).2 h.ma (by decide) k hk))
      · rw [e] at hjl
        exact absurd (lies_kind hjl h.la) (by decide)
      · rw [e] at hjl
        exact absurd (lies_kind hjl h.ma) (by decide)
  · by_cases hji : j = i
    · subst hji
      rw [upd_at, upd_ne _ _ _ _ (Ne.symm hne)]
      have := hpw k hk
      omega
    · rw [upd_ne _ _ _ _ hji]
      by_cases hki : k = i
      · subst hki
        rw [upd_at]
        have := hpw j hj
        omega
      · rw [upd_ne _ _ _ _ hki]
        exact h.pne j k hj hk hne
  · by_cases hji : j = i
    · subst hji
      rw [upd_at, upd_ne _ _ _ _ (Ne.symm hne)]
      have := hqw k hk
      omega
    · rw [upd_ne _ _ _ _ hji]
      by_cases hki : k = i
      · subst hki
        rw [upd_at]
        have := hqw j hj
        omega
      · rw [upd_ne _ _ _ _ hki]
        exact h.qne j k hj hk hne
  · by_cases hji : j = i
    · subst hji
      rw [upd_at]
      exact Ap.none _ _ _
    · rw [upd_ne _ _ _ _ hji]
      by_cases hki : k = i
      · subst hki
        rw [upd_at]
        exact (Ap.none _ _ _).symm
      · rw [upd_ne _ _ _ _ hki]
        exact h.vap j k hj hk hne
  · by_cases hji : j = i
    · subst hji
      rw [upd_at, upd_at]
      omega
    · rw [upd_ne _ _ _ _ hji, upd_ne _ _ _ _ hji]
      exact h.ge.2.2 j hj
  · by_cases hji : j = i
    · subst hji
      rw [upd_at]
      exact ⟨(Ap.none _ _ _).symm, (Ap.none _ _ _).symm⟩
    · rw [upd_ne _ _ _ _ hji]
      exact h.lV j hj
end Go.Proofs.Ytenfopabdegmhaa
