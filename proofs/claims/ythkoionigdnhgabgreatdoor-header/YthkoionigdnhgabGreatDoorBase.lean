/-
  Rows of bytes in memory, and rows of bytes that a call makes for itself.
-/
import Derived.Test.YthkoionigdnhgabGreatDoorRowl
import Derived.OwnWalk
import Derived.Laws.OwnMore
import Derived.Laws.Cover1
import Derived.Laws.IdiomStrings
import Derived.Laws.AppendOwnNone
import Derived.ArgAppend
import Derived.Lib.AppendStr
import Derived.Laws.StructEq
namespace Go.Proofs.YthkoionigdnhgabGreatDoor
open Go.RowKit

theorem ret_i64 {a b : Int} (h : a = b) : Ending.returned (.int .i64 a) = .returned (.int .i64 b) := by rw [h]
/-- The bytes l lie in block g from place o on. -/
def RowL (l : List UInt8) (g o : Nat) (w : World) : Prop := ∀ j, (h : j < l.length) → w.cell? ⟨g, o + j, none⟩ = some (.int .u8 (l[j].toNat : Int))
/-- A list's address and what lies there. -/
def Bts (a : Option Addr) (l : List UInt8) (w : World) : Prop := l = [] ∨ ∃ g o, a = some ⟨g, o, none⟩ ∧ g < w.heap.size ∧ RowL l g o w

theorem Bts.below {a : Option Addr} {l : List UInt8} {w w' : World} (h : Bts a l w) (hb : Below w.heap.size w w') : Bts a l w' := by
  rcases h with h | ⟨g, o, e, hg, hr⟩
  · exact .inl h
  · exact .inr ⟨g, o, e, Nat.lt_of_lt_of_le hg hb.size, fun j hj => (hb.cell (p := ⟨g, o + j, none⟩) hg).trans (hr j hj)⟩
theorem Bts.nil (a : Option Addr) (w : World) : Bts a [] w := .inl rfl
theorem Bts.cell {a : Option Addr} {l : List UInt8} {w : World} (h : Bts a l w) (k : Nat) (hk : k < l.length) : ∃ g o, a = some ⟨g, o, none⟩ ∧ g < w.heap.size ∧ w.cell? ⟨g, o + k, none⟩ = some (.int .u8 (l[k].toNat : Int)) := by
  rcases h with rfl | ⟨g, o, e, hg, hr⟩
  · simp at hk
  · exact ⟨g, o, e, hg, hr k hk⟩

/-- Bytes as cells. -/
def cellsB (l : List UInt8) : List Value := l.map fun b => Value.int .u8 (b.toNat : Int)
theorem cellsB_length (l : List UInt8) : (cellsB l).length = l.length := by simp [cellsB]
theorem cellsB_append (l r : List UInt8) : cellsB (l ++ r) = cellsB l ++ cellsB r := by simp [cellsB]
theorem cellsB_at (l : List UInt8) (j : Nat) (h : j < l.length) : (cellsB l)[j]? = some (.int .u8 (l[j].toNat : Int)) := by simp [cellsB, List.getElem?_eq_getElem h]
theorem cellsB_one (l : List UInt8) : ∀ v ∈ cellsB l, v.oneCell' = true := by
  intro v hv
  simp only [cellsB, List.mem_map] at hv
  obtain ⟨b, _, rfl⟩ := hv
  rfl
/-- Bytes as an array. -/
def rowV (l : List UInt8) : Array Value := (cellsB l).toArray
theorem rowV_at (l : List UInt8) (j : Nat) (h : j < l.length) : (rowV l)[j]? = some (.int .u8 (l[j].toNat : Int)) := by
  rw [rowV, List.getElem?_toArray, cellsB_at l j h]

theorem info5 : (Tryz.prog.info? 5).map (fun i => (i.zero, i.size, i.bytes)) = some (some (.int .u8 0), 1, 1) := by kernel_rfl
/-- A row that the call made, as a list of bytes. -/
theorem own_bts {w : World} {base n : Nat} {v : Value} {l : List UInt8} (h : w.ownsRow base 5 1 v n (cellsB l)) : ∃ a cap, v = .slice a n cap ∧ Bts a l w ∧ l.length = n ∧ (a = none → cap = 0) ∧ n ≤ cap ∧ ∀ ad, a = some ad → base ≤ ad.block ∧ ad.block < w.heap.size ∧ ad.off = 0 ∧ ad.spot = none := by
  obtain ⟨h1, h2⟩ := id h
  have hl : l.length = n := by rw [cellsB_length] at h1; omega
  rcases h2 with ⟨rfl, h0⟩ | ⟨g, cap, cur, rfl, hb, hg, hcap, _⟩
  · exact ⟨none, 0, by rw [h0], .inl (List.eq_nil_of_length_eq_zero (hl.trans h0)), hl, fun _ => rfl, by omega, fun ad e => by cases e⟩
  · refine ⟨_, cap, rfl, .inr ⟨g, 0, rfl, (Array.getElem?_eq_some_iff.1 hg).1, fun j hj => ?_⟩, hl, (fun e => by cases e), hcap, fun ad e => ?_⟩
    · have := h.cellAt j (by omega)
      rw [Nat.zero_add, this, cellsB_at l j hj]
    · injection e with e
      subst e
      exact ⟨hb, (Array.getElem?_eq_some_iff.1 hg).1, rfl, rfl⟩
theorem bts_news {ad : Addr} {l : List UInt8} {w : World} (h : Bts (some ad) l w) : ∀ j u, (cellsB l)[j]? = some u → w.cell? (ad.add j) = some u := by
  intro j u hu
  have hj : j < l.length := by
    have := (List.getElem?_eq_some_iff.1 hu).1
    simpa [cellsB] using this
  obtain ⟨g, o, e, _, hc⟩ := h.cell j hj
  injection e with e
  subst e
  rw [Addr.add_lit, hc, ← hu, cellsB_at l j hj]
theorem Bts.take {a : Option Addr} {l : List UInt8} {w : World} (h : Bts a l w) (n : Nat) : Bts a (l.take n) w := by
  rcases h with rfl | ⟨g, o, e, hg, hr⟩
  · exact .inl (by simp)
  · exact .inr ⟨g, o, e, hg, fun j hj => by rw [List.length_take] at hj; rw [hr j (by omega), List.getElem_take]⟩
theorem bts_none {l : List UInt8} {w : World} (h : Bts none l w) : l = [] := by
  rcases h with h | ⟨g, o, e, _⟩
  · exact h
  · cases e
theorem wpList_append_bts {ops : Array Oper} {rest : List Oper} {o : Oper} {a : Act} {w : World} {Q : Exit → Act → World → Prop} (hgd : o.guard = none) (s x : Operand)
    (ho : o.op = .call { callee := .builtin .append, args := #[s, x], argTypes := #[53, 53] }) (base : Nat) (v : Value) (n : Nat) (xs : List UInt8) (hs : a.eval s = v) (hown : w.ownsRow base 5 1 v n (cellsB xs))
    (sp : Option Addr) (l : List UInt8) (c : Nat) (hx : a.eval x = .slice sp l.length c) (hb : Bts sp l w) (hnc : sp = none → c = 0) (hbytes : n + l.length ≤ 140737488355328) (hbase : base ≤ w.heap.size)
    (h : ∀ v' w', w'.ownsRow base 5 1 v' (n + l.length) (cellsB (xs ++ l)) → (∀ B w0, Below B w0 w → B ≤ base → Below B w0 w') → wpList Tryz.prog ops Q rest (a.put o.dst v') w') : wpList Tryz.prog ops Q (o :: rest) a w := by
  obtain ⟨i0, hi, hz0, hz1, hz2⟩ := info_parts info5
  cases sp with
  | none =>
    obtain rfl := bts_none hb
    obtain rfl := hnc rfl
    refine wpList_append_own_none hgd s x 53 ho base 5 i0 1 Tryz.underlying53 hi v n _ hs hown hx ?_
    exact h v w (by simpa using hown) (fun _ _ hb _ => hb)
  | some ad =>
    refine wpList_append_own _ hgd s x 53 ho base 5 i0 (.int .u8 0) 1 1 Tryz.underlying53 hi hz0 hz1 hz2 rfl (by decide) v n _ hs hown ad l.length c (cellsB l) hx (by rw [cellsB_length]; omega) (bts_news hb) (cellsB_one l) (by unfold maxLen; omega) (by omega) hbase ?_
    intro v' w' hown' hgrow _
    exact h v' w' (by rw [cellsB_append]; exact hown') (fun B w0 hb hB => hb.grown hgrow (by omega) (fun q hq => Nat.le_trans hB (hown.lt q hq).1))
/-- One byte more. -/
theorem wpList_append_byte {ops : Array Oper} {rest : List Oper} {o : Oper} {a : Act} {w : World} {Q : Exit → Act → World → Prop} (hgd : o.guard = none) (s x : Operand)
    (ho : o.op = .call { callee := .builtin .append, args := #[s, x], argTypes := #[53, 53] }) (base : Nat) (v : Value) (n : Nat) (xs : List UInt8) (hs : a.eval s = v) (hown : w.ownsRow base 5 1 v n (cellsB xs))
    (w0 : World) (b : UInt8) (y : Int) (hy : y = (b.toNat : Int)) (hw : w = w0.alloc (.cells #[.int .u8 y] 5)) (c : Nat) (hx : a.eval x = .slice (some ⟨w0.heap.size, 0, none⟩) 1 c) (hbytes : n + 1 ≤ 140737488355328) (hbase : base ≤ w0.heap.size)
    (h : ∀ v' w', w'.ownsRow base 5 1 v' (n + 1) (cellsB (xs ++ [b])) → (∀ B w1, Below B w1 w0 → B ≤ base → Below B w1 w') → wpList Tryz.prog ops Q rest (a.put o.dst v') w') : wpList Tryz.prog ops Q (o :: rest) a w := by
  subst hw hy
  refine wpList_append_bts hgd s x ho base v n xs hs hown (some ⟨w0.heap.size, 0, none⟩) [b] c hx ?_ (fun e => by cases e) (by simpa using hbytes) (by simp; omega) ?_
  · exact .inr ⟨w0.heap.size, 0, rfl, by simp, fun j hj => by
      obtain rfl : j = 0 := by simpa using hj
      simp⟩
  · intro v' w' ho' hb'
    exact h v' w' ho' (fun B w1 hb1 hB => hb' B w1 (hb1.alloc (by omega) _) hB)
theorem lies_kind {w : World} {g t u : Nat} {cs ds : Array Value} (h : Lies w g cs t) (k : Lies w g ds u) : t = u := by
  have := h.symm.trans k
  injection this with e
  injection e
theorem own_keep {w w' : World} {B n : Nat} {v : Value} {xs : List Value} (h : w.ownsRow B 5 1 v n xs) (hb : ∀ k, v.ownBlock = some k → w'.heap[k]? = w.heap[k]?) : w'.ownsRow B 5 1 v n xs := by
  obtain ⟨h1, h2⟩ := h
  refine ⟨h1, ?_⟩
  rcases h2 with h2 | ⟨g, cap, cur, rfl, hB, hg, hr⟩
  · exact .inl h2
  · exact .inr ⟨g, cap, cur, rfl, hB, by rw [hb g rfl]; exact hg, hr⟩
theorem own_below {w w' : World} {B n : Nat} {v : Value} {xs : List Value} (h : w.ownsRow B 5 1 v n xs) (hb : Below w.heap.size w w') : w'.ownsRow B 5 1 v n xs := own_keep h (fun k hk => hb.block k (h.lt k hk).2)
/-- A row of bytes and a block of another kind are apart. -/
theorem own_apart {w : World} {B n g t : Nat} {v : Value} {xs : List Value} {cs : Array Value} (h : w.ownsRow B 5 1 v n xs) (hl : Lies w g cs t) (ht : t ≠ 5) : ∀ k, v.ownBlock = some k → k ≠ g := by
  intro k hk e
  subst e
  rcases h.2 with ⟨rfl, _⟩ | ⟨g', cap, cur, rfl, hB, hg, _⟩
  · cases hk
  · injection hk with hk
    subst hk
    exact ht (lies_kind hl hg)
theorem wpList_append_keep {ops : Array Oper} {rest : List Oper} {o : Oper} {a : Act} {w : World} {Q : Exit → Act → World → Prop} (hgd : o.guard = none) (s x : Operand)
    (ho : o.op = .call { callee := .builtin .append, args := #[s, x], argTypes := #[53, 53] }) (base : Nat) (v : Value) (n : Nat) (xs : List UInt8) (hs : a.eval s = v) (hown : w.ownsRow base 5 1 v n (cellsB xs))
    (sp : Option Addr) (l : List UInt8) (m c : Nat) (hx : a.eval x = .slice sp m c) (hm : m = l.length) (hb : Bts sp l w) (hnc : sp = none → c = 0) (hbytes : n + m ≤ 140737488355328) (hbase : base ≤ w.heap.size)
    (h : ∀ v' w', w'.ownsRow base 5 1 v' (n + m) (cellsB (xs ++ l)) → w.grownBy w' v.ownBlock → wpList Tryz.prog ops Q rest (a.put o.dst v') w') : wpList Tryz.prog ops Q (o :: rest) a w := by
  obtain ⟨i0, hi, hz0, hz1, hz2⟩ := info_parts info5
  subst hm
  cases sp with
  | none =>
    obtain rfl := bts_none hb
    obtain rfl := hnc rfl
    refine wpList_append_own_none hgd s x 53 ho base 5 i0 1 Tryz.underlying53 hi v n _ hs hown hx ?_
    exact h v w (by simpa using hown) (World.grownBy.refl w _)
  | some ad =>
    refine wpList_append_own _ hgd s x 53 ho base 5 i0 (.int .u8 0) 1 1 Tryz.underlying53 hi hz0 hz1 hz2 rfl (by decide) v n _ hs hown ad l.length c (cellsB l) hx (by rw [cellsB_length]; omega) (bts_news hb) (cellsB_one l) (by unfold maxLen; omega) (by omega) hbase ?_
    intro v' w' hown' hgrow _
    exact h v' w' (by rw [cellsB_append]; exact hown') hgrow
/-- A block holds a row of bytes, and room behind it. -/
structure Rw (w : World) (g cap : Nat) (l : List UInt8) : Prop where
  ex : ∃ cur, w.heap[g]? = some (.cells cur 5 (0, 0)) ∧ l.length ≤ cap ∧ cur.size = cap ∧ cur.toList.take l.length = cellsB l
theorem Rw.of {w w' : World} {g cap : Nat} {l : List UInt8} (h : Rw w g cap l) (e : w'.heap[g]? = w.heap[g]?) : Rw w' g cap l := by
  obtain ⟨cur, h1, h2⟩ := h.ex
  exact ⟨cur, e.trans h1, h2⟩
theorem Rw.lt {w : World} {g cap : Nat} {l : List UInt8} (h : Rw w g cap l) : g < w.heap.size := by
  obtain ⟨cur, h1, _⟩ := h.ex
  exact (Array.getElem?_eq_some_iff.1 h1).1
theorem Rw.cap {w : World} {g cap : Nat} {l : List UInt8} (h : Rw w g cap l) : l.length ≤ cap := by
  obtain ⟨cur, _, h1, _⟩ := h.ex
  exact h1
theorem Rw.below {w w' : World} {g cap : Nat} {l : List UInt8} (h : Rw w g cap l) (hb : Below w.heap.size w w') : Rw w' g cap l := h.of (hb.block g h.lt)
theorem Rw.cell {w : World} {g cap : Nat} {l : List UInt8} (h : Rw w g cap l) (k : Nat) (hk : k < l.length) : w.cell? ⟨g, k, none⟩ = some (.int .u8 (l[k].toNat : Int)) := by
  obtain ⟨cur, h1, h2, h3, h4⟩ := h.ex
  have e := congrArg (fun x => x[k]?) h4
  simp only [List.getElem?_take, if_pos hk, cellsB_at l k hk, Array.getElem?_toList] at e
  exact (Lies.cell h1 k).trans e
theorem Rw.frozen {w : World} {g cap : Nat} {l : List UInt8} (h : Rw w g cap l) (k : Nat) : w.frozen? ⟨g, k, none⟩ = false := by
  obtain ⟨cur, h1, _⟩ := h.ex
  exact Lies.frozen h1 k
theorem Rw.bts {w : World} {g cap : Nat} {l : List UInt8} (h : Rw w g cap l) (k : Nat) : Bts (some ⟨g, 0, none⟩) (l.take k) w := by
  refine .inr ⟨g, 0, rfl, h.lt, fun j hj => ?_⟩
  rw [Nat.zero_add]
  have hj' : j < l.length := by rw [List.length_take] at hj; omega
  rw [List.getElem_take]
  exact h.cell j hj'
theorem Rw.all {w : World} {g cap : Nat} {l : List UInt8} (h : Rw w g cap l) : Bts (some ⟨g, 0, none⟩) l w := by
  have := h.bts l.length
  rwa [List.take_length] at this
theorem Rw.set {w : World} {g cap : Nat} {l : List UInt8} (h : Rw w g cap l) (k : Nat) (x : UInt8) : Rw (w.setCell ⟨g, k, none⟩ (.int .u8 (x.toNat : Int))) g cap (l.set k x) := by
  obtain ⟨cur, h1, h2, h3, h4⟩ := h.ex
  refine ⟨cur.setIfInBounds k (.int .u8 (x.toNat : Int)), Lies.set h1 k _, by rw [List.length_set]; exact h2, by rw [Array.size_setIfInBounds]; exact h3, ?_⟩
  rw [List.length_set, Array.toList_setIfInBounds, List.take_set, h4]
  simp [cellsB]
theorem Rw.other {w : World} {g q cap : Nat} {l : List UInt8} (h : Rw w g cap l) (hne : g ≠ q) (k : Nat) (v : Value) : Rw (w.setCell ⟨q, k, none⟩ v) g cap l := h.of (Below.heap_setCell _ _ _ _ hne)
theorem bts_back {a : Option Addr} {l : List UInt8} {w : World} (h : Bts a l w) (c : Nat) : (convert 53 9 (.slice a l.length c)).run Tryz.prog w = .ok (.string ⟨l.toArray⟩) w := by
  cases a with
  | none =>
    obtain rfl := bts_none h
    exact run_convert_bytes_nil w 53 5 Tryz.underlying53 Tryz.underlying5 0 c 9 Tryz.underlying9
  | some ad =>
    refine run_convert_bytes_back (P := Tryz.prog) w 53 9 5 ad c l Tryz.underlying53 Tryz.underlying5 Tryz.underlying9 (fun j hj => ?_)
    have := bts_news h j (.int .u8 (l[j].toNat : Int)) (cellsB_at l j hj)
    simpa using this
/-- Nothing but block g has turned; more may lie behind. -/
structure But (g : Nat) (w w' : World) : Prop where
  os : w'.os = w.os
  tape : w'.tape = w.tape
  output : w'.output = w.output
  size : w.heap.size ≤ w'.heap.size
  block : ∀ k, k < w.heap.size → k ≠ g → w'.heap[k]? = w.heap[k]?

theorem But.refl (g : Nat) (w : World) : But g w w := ⟨rfl, rfl, rfl, Nat.le_refl _, fun _ _ _ => rfl⟩
theorem But.trans {g : Nat} {a b c : World} (h : But g a b) (k : But g b c) : But g a c :=
  ⟨k.os.trans h.os, k.tape.trans h.tape, k.output.trans h.output, Nat.le_trans h.size k.size, fun j hj hne => (k.block j (Nat.lt_of_lt_of_le hj h.size) hne).trans (h.block j hj hne)⟩
theorem But.set {g : Nat} {w w' : World} (h : But g w w') (j : Nat) (v : Value) : But g w (w'.setCell ⟨g, j, none⟩ v) :=
  ⟨h.os, h.tape, h.output, by rw [World.size_setCell]; exact h.size, fun k hk hne => (Below.heap_setCell _ _ _ _ hne).trans (h.block k hk hne)⟩
theorem But.row {g : Nat} {w w' : World} (h : But g w w') (cs : Array Value) : But g w (w'.setRow g cs) :=
  ⟨h.os, h.tape, h.output, by simp [World.setRow]; exact h.size, fun k hk hne => (setRow_other _ _ _ _ hne).trans (h.block k hk hne)⟩
theorem But.below {g B : Nat} {w w' : World} (h : But g w w') (hB : B ≤ g) (hs : B ≤ w.heap.size) : Below B w w' :=
  ⟨h.os, h.tape, h.output, h.size, fun k hk => h.block k (by omega) (by omega)⟩
theorem But.of_below {g : Nat} {w w' : World} (h : Below w.heap.size w w') : But g w w' := ⟨h.os, h.tape, h.output, h.size, fun k hk _ => h.block k hk⟩
theorem But.lies {g k : Nat} {w w' : World} {cs : Array Value} {t : TypeId} (h : But g w w') (hl : Lies w k cs t) (hne : k ≠ g) : Lies w' k cs t := (h.block k hl.lt hne).trans hl
theorem But.bts {g : Nat} {a : Option Addr} {l : List UInt8} {w w' : World} (h : But g w w') (hb : Bts a l w) (hne : ∀ ad, a = some ad → ad.block ≠ g) : Bts a l w' := by
  rcases hb with hb | ⟨b, o, e, hb, hr⟩
  · exact .inl hb
  · exact .inr ⟨b, o, e, Nat.lt_of_lt_of_le hb h.size, fun j hj => (World.cell?_of_block (w := w) (a := ⟨b, o + j, none⟩) (h.block b hb (hne _ e))).trans (hr j hj)⟩
end Go.Proofs.YthkoionigdnhgabGreatDoor
