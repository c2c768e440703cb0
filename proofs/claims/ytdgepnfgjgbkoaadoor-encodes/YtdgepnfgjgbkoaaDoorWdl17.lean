/-
  Decode: what it has in memory, and what a word turns.
-/
import Derived.Test.YtdgepnfgjgbkoaaDoorWr17
import Derived.Test.YtdgepnfgjgbkoaaDoorWm17
import Derived.Test.YtdgepnfgjgbkoaaDoorScP
namespace Go.Proofs.YtdgepnfgjgbkoaaDoor
open Go.RowKit Go.Shelf

attribute [local go_sem] Oper.semAt_some

def Fb (B : Nat) (w : World) (k : Nat) : Prop := B ≤ k ∧ ∃ cur, w.heap[k]? = some (.cells cur 5 (0, 0))
theorem Fb.no {B g t : Nat} {w : World} {cs : Array Value} (h : Lies w g cs t) (ht : t ≠ 5) : ¬ Fb B w g := fun ⟨_, _, e⟩ => ht (lies_kind h e)
/-- What a word turns the text into. -/
structure Dst (l : List UInt8) (k : Nat) (out : List UInt8) (done : Nat) (j : Bool) : Prop where
  all : decW l = dcS l ((wdsA l).drop k) out done j
  ord : ordW l.length done ((wdsA l).drop k)
  le : done ≤ l.length
  len : out.length ≤ 4 * done
theorem Dst.start (l : List UInt8) : Dst l 0 [] 0 false := ⟨rfl, wdsA_ord l, Nat.zero_le _, Nat.zero_le _⟩
/-- What Decode has in memory while it goes through the words. -/
structure Dw (w : World) (s : ByteArray) (b : Nat) (W : World) (v : Value) (out : List UInt8) (done : Nat) (j : Bool) : Prop where
  s0 : Lies W w.heap.size #[.string s] 9
  r0 : Lies W (w.heap.size + 1) #[.string ⟨#[]⟩] 9
  p0 : Lies W (w.heap.size + 1 + 1) #[.int .i64 0, .int .i64 0] 25
  o0 : Lies W b #[v] 38
  d0 : Lies W (b + 1) #[.int .i64 (done : Int)] 3
  j0 : Lies W (b + 1 + 1) #[.bool j] 4
  g0 : Lies W (b + 1 + 1 + 1) #[.string s] 9
  own : W.ownsRow w.heap.size 5 1 v out.length (cellsB out)
  be : Below w.heap.size w W
  wb : w.heap.size + 3 < b
theorem Dw.turn {w : World} {s : ByteArray} {b : Nat} {W W' : World} {v : Value} {out : List UInt8} {done : Nat} {j : Bool} {C : Nat} (h : Dw w s b W v out done j) (hC : w.heap.size ≤ C) {row : Option Nat} (hg : W.grownBy W' row) (hr : ∀ r, row = some r → C ≤ r ∧ ∃ o : Obj, W.heap[r]? = some o ∧ o.isCells = false) : Dw w s b W' v out done j :=
  have hr' := fun r e => (hr r e).2
  ⟨lies_turn h.s0 hg hr', lies_turn h.r0 hg hr', lies_turn h.p0 hg hr', lies_turn h.o0 hg hr', lies_turn h.d0 hg hr', lies_turn h.j0 hg hr', lies_turn h.g0 hg hr', own_turn h.own hg hr', below_turn h.be hC (Nat.le_refl _) hg hr, h.wb⟩
/-- How Decode leaves at a word that can't be read. -/
structure Dx (w : World) (W : World) (e a : Nat) : Prop where
  r0 : Lies W (w.heap.size + 1) #[.string ⟨#[]⟩] 9
  p0 : Lies W (w.heap.size + 1 + 1) #[.int .i64 (e : Int), .int .i64 (a : Int)] 25
  be : Below w.heap.size w W
theorem Dx.turn {w : World} {W W' : World} {e a : Nat} {C : Nat} (h : Dx w W e a) (hC : w.heap.size ≤ C) {row : Option Nat} (hg : W.grownBy W' row) (hr : ∀ r, row = some r → C ≤ r ∧ ∃ o : Obj, W.heap[r]? = some o ∧ o.isCells = false) : Dx w W' e a :=
  have hr' := fun r e => (hr r e).2
  ⟨lies_turn h.r0 hg hr', lies_turn h.p0 hg hr', below_turn h.be hC (Nat.le_refl _) hg hr⟩
/-- A word's two ends. -/
def wfk (l : List UInt8) (k : Nat) : Nat := ((wdsA l).getD k (0, 0)).1
def wtk (l : List UInt8) (k : Nat) : Nat := ((wdsA l).getD k (0, 0)).2
theorem vsW_k (l : List UInt8) (k : Nat) (hk : k < (vsW l).length) : (vsW l)[k] = #[.int .i64 (wfk l k : Int), .int .i64 (wtk l k : Int)] ∧ (wdsA l).drop k = (wfk l k, wtk l k) :: (wdsA l).drop (k + 1) := by
  have hk' : k < (wdsA l).length := by unfold vsW at hk; rw [List.length_map] at hk; exact hk
  constructor
  · have h5 : (vsW l)[k]? = some #[.int .i64 (wfk l k : Int), .int .i64 (wtk l k : Int)] := by
      unfold vsW wfk wtk
      rw [List.getElem?_map, List.getD_eq_getElem?_getD, List.getElem?_eq_getElem hk']
      rfl
    rw [List.getElem?_eq_getElem hk] at h5
    exact Option.some.inj h5
  · rw [List.drop_eq_getElem_cons hk']
    unfold wfk wtk
    rw [List.getD_eq_getElem?_getD, List.getElem?_eq_getElem hk']
    rfl
theorem chg_rowF {F : Nat → Prop} {B n : Nat} {w w1 w2 : World} {u : Value} {xs : List Value} (hF : ∀ k, Fb B w k → F k) (h : Chg F w w1) (ho : w1.ownsRow B 5 1 u n xs) (hg : w1.grownBy w2 u.ownBlock) : Chg F w w2 :=
  h.grown hg (fun k hk => by
    rcases Nat.lt_or_ge k w.heap.size with hlt | hge
    · left
      by_cases hf : F k
      · exact hf
      · rcases ho.2 with ⟨rfl, _⟩ | ⟨g, cap, cur, rfl, hB, hc, _⟩
        · cases hk
        · cases hk
          exact hF _ ⟨hB, cur, (h.block _ hlt hf).symm.trans hc⟩
    · exact .inr hge)
/-- What a round of Decode may turn. -/
def FW (w : World) (b : Nat) (W : World) (k : Nat) : Prop := Fb w.heap.size W k ∨ k = b ∨ k = b + 1 ∨ k = b + 1 + 1 ∨ k = w.heap.size + 1 ∨ k = w.heap.size + 1 + 1
theorem Dw.keep {w : World} {s : ByteArray} {b : Nat} {W W' : World} {v : Value} {out : List UInt8} {done : Nat} {j : Bool} (H : Dw w s b W v out done j) (C : Nat) (h : Chg (FW w b W) W W') : KeepsFrom C W W' ∧ Kg (· = b + 1 + 1 + 1) W W' ∧ Below w.heap.size w W' ∧
    Lies W' w.heap.size #[.string s] 9 ∧ Lies W' (b + 1 + 1 + 1) #[.string s] 9 := by
  have hwb := H.wb
  have hn3 : ¬ FW w b W (b + 1 + 1 + 1) := by
    rintro (h | h | h | h | h | h)
    · exact Fb.no H.g0 (by decide) h
    all_goals omega
  have hn0 : ¬ FW w b W w.heap.size := by
    rintro (h | h | h | h | h | h)
    · exact Fb.no H.s0 (by decide) h
    all_goals omega
  refine ⟨keeps_cells h (fun i hi => ?_), Kg.of_chg h (fun i hi e => by subst e; exact hn3 hi), H.be.trans (h.to_below H.be.size (fun i hi => ?_)), h.lies H.s0 hn0, h.lies H.g0 hn3⟩
  · rcases hi with ⟨_, cur, hi⟩ | rfl | rfl | rfl | rfl | rfl
    · exact ⟨_, hi, rfl⟩
    · exact ⟨_, H.o0, rfl⟩
    · exact ⟨_, H.d0, rfl⟩
    · exact ⟨_, H.j0, rfl⟩
    · exact ⟨_, H.r0, rfl⟩
    · exact ⟨_, H.p0, rfl⟩
  · rcases hi with hi | hi | hi | hi | hi | hi
    · exact hi.1
    all_goals omega
theorem lat_len : ∀ b : List UInt8, (b.flatMap fun c => Lib.encodeRune (c.toNat : Int)).length ≤ 2 * b.length
  | [] => by simp
  | c :: t => by
    have ih := lat_len t
    have hc := c.toNat_lt
    have h2 : (Lib.encodeRune (c.toNat : Int)).length ≤ 2 := by
      unfold Lib.encodeRune
      by_cases h : c.toNat < 128
      · rw [Lib.encodeRuneZ_one (by omega) (by omega)]
        simp
      · rw [Lib.encodeRuneZ_two (by omega) (by omega)]
        simp
    rw [List.flatMap_cons, List.length_append, List.length_cons]
    omega
theorem mn_len (f t : Nat) (p : List UInt8 × Bool × List UInt8) : (mnW f t p).1.length ≤ 2 * p.2.2.length := by
  by_cases h : csNo (cutC 42 p.1).1 = 0
  · rw [mn_cs h]
    simp
  by_cases h2 : reE p.2.1 p.2.2 = 0
  · have hr := reR_le p.2.1 p.2.2
    cases h3 : csT (csNo (cutC 42 p.1).1) (reR p.2.1 p.2.2) with
    | none => rw [mn_no h h2 h3]; simp
    | some x =>
      rw [mn_ok h h2 h3]
      unfold csT at h3
      have hl := lat_len (reR p.2.1 p.2.2)
      by_cases e1 : csNo (cutC 42 p.1).1 = 1
      · rw [if_pos e1] at h3
        split at h3
        · injection h3 with h3
          subst h3
          dsimp only
          omega
        · cases h3
      rw [if_neg e1] at h3
      by_cases e2 : csNo (cutC 42 p.1).1 = 2
      · rw [if_pos e2] at h3
        split at h3
        · injection h3 with h3
          subst h3
          dsimp only
          omega
        · cases h3
      rw [if_neg e2] at h3
      split at h3
      · injection h3 with h3
        subst h3
        dsimp only
        omega
      · cases h3
  · rw [mn_err h h2]
    simp
theorem pW_len {w : List UInt8} {p : List UInt8 × Bool × List UInt8} (h : pW w = some p) : p.1.length + p.2.2.length + 6 ≤ w.length := by
  by_cases hb : badN 12 w < w.length
  · rw [pW_bad hb] at h
    cases h
  by_cases h5 : (pcs 4 w).length = 5
  · obtain ⟨a, cs, cd, tx, e, hp⟩ := five h5
    rw [pW_five hb a cs cd tx e hp] at h
    split at h
    · rename_i hc
      injection h with h
      subst h
      have ht := pcs_tot 4 w
      rw [hp, hc.1, hc.2.2.1] at ht
      simp only [List.map_cons, List.map_nil, List.sum_cons, List.sum_nil, List.length_cons, List.length_nil] at ht ⊢
      have hcd : 1 ≤ cd.length := by
        rcases hc.2.2.2 with h | h
        · have := congrArg List.length h
          simp [upL] at this
          omega
        · have := congrArg List.length h
          simp [upL] at this
          omega
      omega
    · cases h
  · rw [pW_not h5] at h
    cases h
theorem Dst.none {l : List UInt8} {k : Nat} {out : List UInt8} {done : Nat} {j : Bool} (h : Dst l k out done j) {f t : Nat} (hd : (wdsA l).drop k = (f, t) :: (wdsA l).drop (k + 1)) (hp : pW (cutW l f t) = Option.none) : Dst l (k + 1) out done false := by
  have ha := h.all
  have ho := h.ord
  rw [hd] at ha ho
  refine ⟨?_, ordW_le ho.2.2.2 (by have := ho.1; have := ho.2.1; omega), h.le, h.len⟩
  rw [ha, dcS]
  simp only [hp]
theorem Dst.err {l : List UInt8} {k : Nat} {out : List UInt8} {done : Nat} {j : Bool} (h : Dst l k out done j) {f t : Nat} (hd : (wdsA l).drop k = (f, t) :: (wdsA l).drop (k + 1)) {p : List UInt8 × Bool × List UInt8} (hp : pW (cutW l f t) = some p) (he : (mnW f t p).2.1 ≠ 0) : decW l = ([], (mnW f t p).2.1, (mnW f t p).2.2) := by
  have ha := h.all
  rw [hd, dcS] at ha
  simp only [hp] at ha
  rw [ha, if_pos he]
theorem Dst.some {l : List UInt8} {k : Nat} {out : List UInt8} {done : Nat} {j : Bool} (h : Dst l k out done j) {f t : Nat} (hd : (wdsA l).drop k = (f, t) :: (wdsA l).drop (k + 1)) {p : List UInt8 × Bool × List UInt8} (hp : pW (cutW l f t) = Option.some p) (he : (mnW f t p).2.1 = 0) :
    Dst l (k + 1) ((if j then out else out ++ cutW l done f) ++ (mnW f t p).1) t true := by
  have ha := h.all
  have ho := h.ord
  rw [hd] at ha ho
  have o1 := ho.1
  have o2 := ho.2.1
  have o3 := ho.2.2.1
  refine ⟨?_, ho.2.2.2, o3, ?_⟩
  · rw [ha, dcS]
    simp only [hp]
    rw [if_neg (by rw [he]; simp)]
  · have h1 := mn_len f t p
    have h2 := pW_len hp
    have h3 := h.len
    have h4 := cutW_len l done f (by omega)
    rw [cutW_len l f t o3] at h2
    rw [List.length_append]
    split
    · omega
    · rw [List.length_append]
      omega
end Go.Proofs.YtdgepnfgjgbkoaaDoor
