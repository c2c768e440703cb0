/-
  Unfold.
-/
import Derived.Test.YthkoionigdnhgabGreatDoorFb16
import Derived.Test.YthkoionigdnhgabGreatDoorPureUp
import Derived.OrdersIn
import Derived.TacticsIn
import Derived.RangeFuncIn
import Derived.RangeFuncCalls
namespace Go.Proofs.YthkoionigdnhgabGreatDoor
open Go.RowKit Go.Shelf

attribute [local go_sem] Oper.semAt_some

/-- What Unfold has in memory while it goes through the folds. -/
structure Uw (w : World) (s : ByteArray) (b : Nat) (k : Nat) (W : World) (v : Value) (out : List UInt8) (f : Nat) : Prop where
  s0 : Lies W w.heap.size #[.string s] 9
  o0 : Lies W b #[v] 53
  f0 : Lies W (b + 1) #[.int .i64 (f : Int)] 3
  g0 : Lies W (b + 2) #[.string s] 9
  own : W.ownsRow w.heap.size 5 1 v out.length (cellsB out)
  uf : Ufs s.data.toList k out f
  be : Below w.heap.size w W
  wb : w.heap.size < b
theorem lies_turn {W W' : World} {g t : Nat} {cs : Array Value} {row : Option Nat} (h : Lies W g cs t) (hg : W.grownBy W' row) (hr : ∀ r, row = some r → ∃ o : Obj, W.heap[r]? = some o ∧ o.isCells = false) : Lies W' g cs t := (grownBy_keeps_cells hg hr h rfl).trans h
theorem own_turn {W W' : World} {B n : Nat} {v : Value} {xs : List Value} {row : Option Nat} (h : W.ownsRow B 5 1 v n xs) (hg : W.grownBy W' row) (hr : ∀ r, row = some r → ∃ o : Obj, W.heap[r]? = some o ∧ o.isCells = false) : W'.ownsRow B 5 1 v n xs := own_keep h (fun k hk => by
  rcases h.2 with ⟨rfl, _⟩ | ⟨g, cap, cur, rfl, hB, hc, _⟩
  · cases hk
  · cases hk
    exact grownBy_keeps_cells hg hr hc rfl)
theorem below_turn {w W W' : World} {B C : Nat} {row : Option Nat} (h : Below B w W) (hB : B ≤ C) (hw : B ≤ w.heap.size) (hg : W.grownBy W' row) (hr : ∀ r, row = some r → C ≤ r ∧ ∃ o : Obj, W.heap[r]? = some o ∧ o.isCells = false) : Below B w W' := h.grown hg (Nat.le_trans hw h.size) (fun q hq => Nat.le_trans hB (hr q hq).1)
theorem Uw.turn {w : World} {s : ByteArray} {b k : Nat} {W W' : World} {v : Value} {out : List UInt8} {f C : Nat} (h : Uw w s b k W v out f) (hC : w.heap.size ≤ C) {row : Option Nat} (hg : W.grownBy W' row) (hr : ∀ r, row = some r → C ≤ r ∧ ∃ o : Obj, W.heap[r]? = some o ∧ o.isCells = false) : Uw w s b k W' v out f :=
  have hr' := fun r e => (hr r e).2
  ⟨lies_turn h.s0 hg hr', lies_turn h.o0 hg hr', lies_turn h.f0 hg hr', lies_turn h.g0 hg hr', own_turn h.own hg hr', h.uf, below_turn h.be hC (Nat.le_refl _) hg hr, h.wb⟩
theorem keeps_cells {B : Nat} {F : Nat → Prop} {W W' : World} (h : Chg F W W') (hF : ∀ k, F k → ∃ o : Obj, W.heap[k]? = some o ∧ o.isCells = true) : KeepsFrom B W W' :=
  ⟨h.size, fun k o _ ho hc => (h.block k (Array.getElem?_eq_some_iff.1 ho).1 (fun f => by
    obtain ⟨o', h1, h2⟩ := hF k f
    rw [ho] at h1
    cases h1
    rw [hc] at h2
    cases h2)).trans ho⟩
theorem Fb6.later {B k : Nat} {W W' : World} (h : Fb6 B W' k) (hb : Below W.heap.size W W') : Fb6 B W k ∨ W.heap.size ≤ k := by
  rcases Nat.lt_or_ge k W.heap.size with hlt | hge
  · obtain ⟨h1, cur, h2⟩ := h
    rw [hb.block k hlt] at h2
    exact .inl ⟨h1, cur, h2⟩
  · exact .inr hge
theorem Uw.step {w : World} {s : ByteArray} {b k : Nat} {W : World} {v : Value} {out : List UInt8} {f : Nat} (h : Uw w s b k W v out f) (C p : Nat) (w3 : World) (v3 : Value) (hl : Laid (W.alloc (.cells #[.string (s.extract f p)] 9)).drew w.heap.size (out ++ catT [s.extract f p]) w3 v3)
    (hu : Ufs s.data.toList (k + 1) (out ++ stE s.data.toList f p) (p + 2)) :
    w3.cell? ⟨b, 0, none⟩ = some v ∧ w3.frozen? ⟨b, 0, none⟩ = false ∧ w3.cell? ⟨b + 1, 0, none⟩ = some (.int .i64 (f : Int)) ∧ w3.frozen? ⟨b + 1, 0, none⟩ = false ∧ w3.cell? ⟨w.heap.size, 0, none⟩ = some (.string s) ∧
    Uw w s b (k + 1) ((w3.setCell ⟨b, 0, none⟩ v3).setCell ⟨b + 1, 0, none⟩ (.int .i64 ((p + 2 : Nat) : Int))) v3 (out ++ stE s.data.toList f p) (p + 2) ∧
    KeepsFrom C W ((w3.setCell ⟨b, 0, none⟩ v3).setCell ⟨b + 1, 0, none⟩ (.int .i64 ((p + 2 : Nat) : Int))) ∧ Kg (· = b + 2) W ((w3.setCell ⟨b, 0, none⟩ v3).setCell ⟨b + 1, 0, none⟩ (.int .i64 ((p + 2 : Nat) : Int))) := by
  have hb6 : Below W.heap.size W (W.alloc (.cells #[.string (s.extract f p)] 9)).drew := ((Below.refl _ _).alloc (Nat.le_refl _) _).drew
  have hc3 : Chg (Fb6 w.heap.size W) W w3 := (Chg.of_below hb6).then hl.chg (fun i hi => hi.later hb6)
  have hwb := h.wb
  have l0 := hc3.lies h.s0 (Fb6.no h.s0 (by decide))
  have l1 := hc3.lies h.o0 (Fb6.no h.o0 (by decide))
  have l2 := hc3.lies h.f0 (Fb6.no h.f0 (by decide))
  have l3 := hc3.lies h.g0 (Fb6.no h.g0 (by decide))
  have hcat : catT [s.extract f p] = stE s.data.toList f p := by
    simp [catT, stE, List.drop_take]
  have hX : Chg (fun k => Fb6 w.heap.size W k ∨ k = b ∨ k = b + 1) W ((w3.setCell ⟨b, 0, none⟩ v3).setCell ⟨b + 1, 0, none⟩ (.int .i64 ((p + 2 : Nat) : Int))) := ((hc3.mono (fun _ hi => .inl hi)).set (p := ⟨b, 0, none⟩) (.inl (.inr (.inl rfl))) v3).set (p := ⟨b + 1, 0, none⟩) (.inl (.inr (.inr rfl))) _
  refine ⟨l1.cell 0, l1.frozen 0, l2.cell 0, l2.frozen 0, l0.cell 0, ⟨?_, ?_, ?_, ?_, ?_, hu, ?_, hwb⟩, keeps_cells hX (fun i hi => ?_), Kg.of_chg hX (fun i hi e => ?_)⟩
  · exact (l0.set_other (a := ⟨b, 0, none⟩) (by dsimp only; omega) v3).set_other (a := ⟨b + 1, 0, none⟩) (by dsimp only; omega) _
  · exact (l1.set 0 v3).set_other (a := ⟨b + 1, 0, none⟩) (by dsimp only; omega) _
  · exact (l2.set_other (a := ⟨b, 0, none⟩) (by dsimp only; omega) v3).set 0 _
  · exact (l3.set_other (a := ⟨b, 0, none⟩) (by dsimp only; omega) v3).set_other (a := ⟨b + 1, 0, none⟩) (by dsimp only; omega) _
  · have ho := hl.own
    rw [hcat] at ho
    refine own_keep ho (fun i hi => ?_)
    have n1 : i ≠ b := own_apart ho l1 (by decide) i hi
    have n2 : i ≠ b + 1 := own_apart ho l2 (by decide) i hi
    exact (Below.heap_setCell _ _ _ _ n2).trans (Below.heap_setCell _ _ _ _ n1)
  · exact (h.be.trans ((hX.to_below h.be.size (fun i hi => by
      rcases hi with hi | rfl | rfl
      · exact hi.1
      · omega
      · omega))))
  · rcases hi with ⟨_, cur, hi⟩ | rfl | rfl
    · exact ⟨_, hi, rfl⟩
    · exact ⟨_, h.o0, rfl⟩
    · exact ⟨_, h.f0, rfl⟩
  · subst e
    rcases hi with hi | hi | hi
    · exact Fb6.no h.g0 (by decide) hi
    · omega
    · omega
end Go.Proofs.YthkoionigdnhgabGreatDoor
