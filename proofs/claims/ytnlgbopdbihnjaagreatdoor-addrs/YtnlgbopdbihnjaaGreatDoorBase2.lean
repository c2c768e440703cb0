/-
  Rows of bytes in memory, and rows of bytes that a call makes for itself.
-/
import Derived.Test.YtnlgbopdbihnjaaGreatDoorRowl
import Derived.OwnWalk
import Derived.Laws.OwnMore
import Derived.Laws.Cover1
import Derived.Laws.IdiomStrings
import Derived.Laws.AppendOwnNone
import Derived.ArgAppend
import Derived.Lib.AppendStr
import Derived.Laws.StructEq
import Derived.WalkKit
import Derived.WalkSpells
import Derived.Below
namespace Go.Proofs.YtnlgbopdbihnjaaGreatDoor
open Go.RowKit

theorem ret_i64 {a b : Int} (h : a = b) : Ending.returned (.int .i64 a) = .returned (.int .i64 b) := by rw [h]
theorem ret_b {a b : Bool} (h : a = b) : Ending.returned (.bool a) = .returned (.bool b) := by rw [h]
/-- The bytes l lie in block g from place o on. -/
def RowL (l : List UInt8) (g o : Nat) (w : World) : Prop := ∀ j, (h : j < l.length) → w.cell? ⟨g, o + j, none⟩ = some (.int .u8 (l[j].toNat : Int))
/-- A list's address and what lies there. -/
def Bts (a : Option Addr) (l : List UInt8) (w : World) : Prop := l = [] ∨ ∃ g o, a = some ⟨g, o, none⟩ ∧ g < w.heap.size ∧ RowL l g o w

theorem Bts.below {a : Option Addr} {l : List UInt8} {w w' : World} (h : Bts a l w) (hb : Below w.heap.size w w') : Bts a l w' := by
  rcases h with h | ⟨g, o, e, hg, hr⟩
  · exact .inl h
  · exact .inr ⟨g, o, e, Nat.lt_of_lt_of_le hg hb.size, fun j hj => (hb.cell (p := ⟨g, o + j, none⟩) hg).trans (hr j hj)⟩
theorem Bts.belowB {a : Option Addr} {l : List UInt8} {B : Nat} {w w' : World} (h : Bts a l w) (hB : w.heap.size ≤ B) (hb : Below B w w') : Bts a l w' := h.below (hb.mono hB)
theorem Bts.nil (a : Option Addr) (w : World) : Bts a [] w := .inl rfl
theorem Bts.cell {a : Option Addr} {l : List UInt8} {w : World} (h : Bts a l w) (k : Nat) (hk : k < l.length) : ∃ g o, a = some ⟨g, o, none⟩ ∧ g < w.heap.size ∧ w.cell? ⟨g, o + k, none⟩ = some (.int .u8 (l[k].toNat : Int)) := by
  rcases h with rfl | ⟨g, o, e, hg, hr⟩
  · simp at hk
  · exact ⟨g, o, e, hg, hr k hk⟩

/-- Bytes as cells. -/
def cellsB (l : List UInt8) : List Value := l.map fun b => Value.int .u8 (b.toNat : Int)
theorem cellsB_length (l : List UInt8) : (cellsB l).length = l.length := by simp [cellsB]
theorem cellsB_append (l r : List UInt8) : cellsB (l ++ r) = cellsB l ++ cellsB r := by simp [cellsB]
theorem cellsB_at (l : List UInt8) (j : Nat) (h : j < l.length) : (cellsB l)[j]? = some (.int .u8 (l[j].toNat : Int)) := by simp [cellsB, List.getElem?_eq_getElem h]
theorem cellsB_one (l : List UInt8) : ∀ v ∈ cellsB l, v.oneCell' = true := by
  intro v hv
  simp only [cellsB, List.mem_map] at hv
  obtain ⟨b, _, rfl⟩ := hv
  rfl
/-- Bytes as an array. -/
def rowV (l : List UInt8) : Array Value := (cellsB l).toArray
theorem rowV_size (l : List UInt8) : (rowV l).size = l.length := by simp [rowV, cellsB]
theorem rowV_one (l : List UInt8) : (rowV l).all (·.oneCell') = true := all_oneCell_toArray (cellsB_one l)
theorem rowV_at (l : List UInt8) (j : Nat) (h : j < l.length) : (rowV l)[j]? = some (.int .u8 (l[j].toNat : Int)) := by
  rw [rowV, List.getElem?_toArray, cellsB_at l j h]

theorem info5 : (Tryz.prog.info? 5).map (fun i => (i.zero, i.size, i.bytes)) = some (some (.int .u8 0), 1, 1) := by kernel_rfl
theorem made_zero (n : Nat) : (madeCells #[Value.int .u8 0] n).toList = cellsB (List.replicate n 0) := by
  apply List.ext_getElem?
  intro i
  by_cases h : i < n
  · simp [madeCells, cellsB, h, Nat.mod_one]
  · rw [List.getElem?_eq_none (by simp [madeCells]; omega), List.getElem?_eq_none (by simp [cellsB]; omega)]

/-- A row that the call made, as a list of bytes. -/
theorem own_bts {w : World} {base n : Nat} {v : Value} {l : List UInt8} (h : w.ownsRow base 5 1 v n (cellsB l)) : ∃ a cap, v = .slice a n cap ∧ Bts a l w ∧ l.length = n ∧ (a = none → cap = 0) ∧ n ≤ cap ∧ ∀ ad, a = some ad → base ≤ ad.block ∧ ad.block < w.heap.size ∧ ad.off = 0 ∧ ad.spot = none := by
  obtain ⟨h1, h2⟩ := id h
  have hl : l.length = n := by rw [cellsB_length] at h1; omega
  rcases h2 with ⟨rfl, h0⟩ | ⟨g, cap, cur, rfl, hb, hg, hcap, _⟩
  · exact ⟨none, 0, by rw [h0], .inl (List.eq_nil_of_length_eq_zero (hl.trans h0)), hl, fun _ => rfl, by omega, fun ad e => by cases e⟩
  · refine ⟨_, cap, rfl, .inr ⟨g, 0, rfl, (Array.getElem?_eq_some_iff.1 hg).1, fun j hj => ?_⟩, hl, (fun e => by cases e), hcap, fun ad e => ?_⟩
    · have := h.cellAt j (by omega)
      rw [Nat.zero_add, this, cellsB_at l j hj]
    · injection e with e
      subst e
      exact ⟨hb, (Array.getElem?_eq_some_iff.1 hg).1, rfl, rfl⟩
theorem bts_news {ad : Addr} {l : List UInt8} {w : World} (h : Bts (some ad) l w) : ∀ j u, (cellsB l)[j]? = some u → w.cell? (ad.add j) = some u := by
  intro j u hu
  have hj : j < l.length := by
    have := (List.getElem?_eq_some_iff.1 hu).1
    simpa [cellsB] using this
  obtain ⟨g, o, e, _, hc⟩ := h.cell j hj
  injection e with e
  subst e
  rw [Addr.add_lit, hc, ← hu, cellsB_at l j hj]
theorem Bts.take {a : Option Addr} {l : List UInt8} {w : World} (h : Bts a l w) (n : Nat) : Bts a (l.take n) w := by
  rcases h with rfl | ⟨g, o, e, hg, hr⟩
  · exact .inl (by simp)
  · exact .inr ⟨g, o, e, hg, fun j hj => by rw [List.length_take] at hj; rw [hr j (by omega), List.getElem_take]⟩
theorem bts_none {l : List UInt8} {w : World} (h : Bts none l w) : l = [] := by
  rcases h with h | ⟨g, o, e, _⟩
  · exact h
  · cases e
/-- One byte that has just been laid, as the appends read it. -/
theorem one_new {w : World} {t : TypeId} (v : Value) : ∀ j u, [v][j]? = some u → (w.alloc (.cells #[v] t)).cell? ((⟨w.heap.size, 0, none⟩ : Addr).add j) = some u := by
  intro j u hj
  match j, hj with
  | 0, hj => simp at hj; subst hj; simp [Addr.add]
theorem one_one {x : Int} : ∀ u ∈ [Value.int .u8 x], u.oneCell' = true := by
  intro u hu
  simp at hu
  subst hu
  rfl

/-- A row with room behind it. -/
theorem make_room (w : World) (n c : Nat) (x y : Int) (hx : x = (n : Int)) (hy : y = (c : Int)) (hc : n ≤ c) (hl : c ≤ 281474976710656) (base : Nat) (hb : base ≤ w.heap.size) :
    ∃ w', (Instr.makeSlice 88 (.int .i64 x) (.int .i64 y)).run Tryz.prog w = .ok (.slice (some ⟨w.heap.size, 0, none⟩) n c) w' ∧
      w'.ownsRow base 5 1 (.slice (some ⟨w.heap.size, 0, none⟩) n c) n (cellsB (List.replicate n 0)) ∧ Below w.heap.size w w' := by
  subst hx hy
  obtain ⟨i0, hi, hz0, hz1, hz2⟩ := info_parts info5
  have hr := run_make (P := Tryz.prog) w 88 5 i0 (.int .u8 0) Tryz.underlying88 hi hz0 .i64 .i64 n c (by omega) (by omega) (by rw [hz2]; omega) (by omega)
  rw [hz1, Nat.mul_one, Int.toNat_natCast, Int.toNat_natCast] at hr
  refine ⟨_, hr, ?_, (Below.refl _ _).alloc (Nat.le_refl _) _⟩
  refine ⟨by rw [cellsB_length]; simp, .inr ⟨w.heap.size, c, _, rfl, hb, heap_alloc_last w _, hc, by unfold maxLen; omega, by rw [size_madeCells, Nat.mul_one], ?_⟩⟩
  show ((madeCells #[Value.int .u8 0] c).toList).take (n * 1) = _
  rw [made_zero, Nat.mul_one]
  simp [cellsB, Nat.min_eq_left hc]

theorem wpList_append_bts {ops : Array Oper} {rest : List Oper} {o : Oper} {a : Act} {w : World} {Q : Exit → Act → World → Prop} (hgd : o.guard = none) (s x : Operand)
    (ho : o.op = .call { callee := .builtin .append, args := #[s, x], argTypes := #[88, 88] }) (base : Nat) (v : Value) (n : Nat) (xs : List UInt8) (hs : a.eval s = v) (hown : w.ownsRow base 5 1 v n (cellsB xs))
    (sp : Option Addr) (l : List UInt8) (c : Nat) (hx : a.eval x = .slice sp l.length c) (hb : Bts sp l w) (hnc : sp = none → c = 0) (hbytes : n + l.length ≤ 140737488355328) (hbase : base ≤ w.heap.size)
    (h : ∀ v' w', w'.ownsRow base 5 1 v' (n + l.length) (cellsB (xs ++ l)) → (∀ B w0, Below B w0 w → B ≤ base → Below B w0 w') → wpList Tryz.prog ops Q rest (a.put o.dst v') w') : wpList Tryz.prog ops Q (o :: rest) a w := by
  obtain ⟨i0, hi, hz0, hz1, hz2⟩ := info_parts info5
  cases sp with
  | none =>
    obtain rfl := bts_none hb
    obtain rfl := hnc rfl
    refine wpList_append_own_none hgd s x 88 ho base 5 i0 1 Tryz.underlying88 hi v n _ hs hown hx ?_
    exact h v w (by simpa using hown) (fun _ _ hb _ => hb)
  | some ad =>
    refine wpList_append_own _ hgd s x 88 ho base 5 i0 (.int .u8 0) 1 1 Tryz.underlying88 hi hz0 hz1 hz2 rfl (by decide) v n _ hs hown ad l.length c (cellsB l) hx (by rw [cellsB_length]; omega) (bts_news hb) (cellsB_one l) (by unfold maxLen; omega) (by omega) hbase ?_
    intro v' w' hown' hgrow _
    exact h v' w' (by rw [cellsB_append]; exact hown') (fun B w0 hb hB => hb.grown hgrow (by omega) (fun q hq => Nat.le_trans hB (hown.lt q hq).1))
/-- One byte more. -/
theorem wpList_append_byte {ops : Array Oper} {rest : List Oper} {o : Oper} {a : Act} {w : World} {Q : Exit → Act → World → Prop} (hgd : o.guard = none) (s x : Operand)
    (ho : o.op = .call { callee := .builtin .append, args := #[s, x], argTypes := #[88, 88] }) (base : Nat) (v : Value) (n : Nat) (xs : List UInt8) (hs : a.eval s = v) (hown : w.ownsRow base 5 1 v n (cellsB xs))
    (w0 : World) (b : UInt8) (y : Int) (hy : y = (b.toNat : Int)) (hw : w = w0.alloc (.cells #[.int .u8 y] 5)) (c : Nat) (hx : a.eval x = .slice (some ⟨w0.heap.size, 0, none⟩) 1 c) (hbytes : n + 1 ≤ 140737488355328) (hbase : base ≤ w0.heap.size)
    (h : ∀ v' w', w'.ownsRow base 5 1 v' (n + 1) (cellsB (xs ++ [b])) → (∀ B w1, Below B w1 w0 → B ≤ base → Below B w1 w') → wpList Tryz.prog ops Q rest (a.put o.dst v') w') : wpList Tryz.prog ops Q (o :: rest) a w := by
  subst hw hy
  refine wpList_append_bts hgd s x ho base v n xs hs hown (some ⟨w0.heap.size, 0, none⟩) [b] c hx ?_ (fun e => by cases e) (by simpa using hbytes) (by simp; omega) ?_
  · exact .inr ⟨w0.heap.size, 0, rfl, by simp, fun j hj => by
      obtain rfl : j = 0 := by simpa using hj
      simp⟩
  · intro v' w' ho' hb'
    exact h v' w' ho' (fun B w1 hb1 hB => hb' B w1 (hb1.alloc (by omega) _) hB)
theorem lies_kind {w : World} {g t u : Nat} {cs ds : Array Value} (h : Lies w g cs t) (k : Lies w g ds u) : t = u := by
  have := h.symm.trans k
  injection this with e
  injection e
theorem own_keep {w w' : World} {B n : Nat} {v : Value} {xs : List Value} (h : w.ownsRow B 5 1 v n xs) (hb : ∀ k, v.ownBlock = some k → w'.heap[k]? = w.heap[k]?) : w'.ownsRow B 5 1 v n xs := by
  obtain ⟨h1, h2⟩ := h
  refine ⟨h1, ?_⟩
  rcases h2 with h2 | ⟨g, cap, cur, rfl, hB, hg, hr⟩
  · exact .inl h2
  · exact .inr ⟨g, cap, cur, rfl, hB, by rw [hb g rfl]; exact hg, hr⟩
theorem own_below {w w' : World} {B n : Nat} {v : Value} {xs : List Value} (h : w.ownsRow B 5 1 v n xs) (hb : Below w.heap.size w w') : w'.ownsRow B 5 1 v n xs := own_keep h (fun k hk => hb.block k (h.lt k hk).2)
/-- A row of bytes and a block of another kind are apart. -/
theorem own_apart {w : World} {B n g t : Nat} {v : Value} {xs : List Value} {cs : Array Value} (h : w.ownsRow B 5 1 v n xs) (hl : Lies w g cs t) (ht : t ≠ 5) : ∀ k, v.ownBlock = some k → k ≠ g := by
  intro k hk e
  subst e
  rcases h.2 with ⟨rfl, _⟩ | ⟨g', cap, cur, rfl, hB, hg, _⟩
  · cases hk
  · injection hk with hk
    subst hk
    exact ht (lies_kind hl hg)
theorem wpList_append_keep {ops : Array Oper} {rest : List Oper} {o : Oper} {a : Act} {w : World} {Q : Exit → Act → World → Prop} (hgd : o.guard = none) (s x : Operand)
    (ho : o.op = .call { callee := .builtin .append, args := #[s, x], argTypes := #[88, 88] }) (base : Nat) (v : Value) (n : Nat) (xs : List UInt8) (hs : a.eval s = v) (hown : w.ownsRow base 5 1 v n (cellsB xs))
    (sp : Option Addr) (l : List UInt8) (m c : Nat) (hx : a.eval x = .slice sp m c) (hm : m = l.length) (hb : Bts sp l w) (hnc : sp = none → c = 0) (hbytes : n + m ≤ 140737488355328) (hbase : base ≤ w.heap.size)
    (h : ∀ v' w', w'.ownsRow base 5 1 v' (n + m) (cellsB (xs ++ l)) → w.grownBy w' v.ownBlock → wpList Tryz.prog ops Q rest (a.put o.dst v') w') : wpList Tryz.prog ops Q (o :: rest) a w := by
  obtain ⟨i0, hi, hz0, hz1, hz2⟩ := info_parts info5
  subst hm
  cases sp with
  | none =>
    obtain rfl := bts_none hb
    obtain rfl := hnc rfl
    refine wpList_append_own_none hgd s x 88 ho base 5 i0 1 Tryz.underlying88 hi v n _ hs hown hx ?_
    exact h v w (by simpa using hown) (World.grownBy.refl w _)
  | some ad =>
    refine wpList_append_own _ hgd s x 88 ho base 5 i0 (.int .u8 0) 1 1 Tryz.underlying88 hi hz0 hz1 hz2 rfl (by decide) v n _ hs hown ad l.length c (cellsB l) hx (by rw [cellsB_length]; omega) (bts_news hb) (cellsB_one l) (by unfold maxLen; omega) (by omega) hbase ?_
    intro v' w' hown' hgrow _
    exact h v' w' (by rw [cellsB_append]; exact hown') hgrow
/-- A block holds a row of bytes, and room behind it. -/
structure Rw (w : World) (g cap : Nat) (l : List UInt8) : Prop where
  ex : ∃ cur, w.heap[g]? = some (.cells cur 5 (0, 0)) ∧ l.length ≤ cap ∧ cur.size = cap ∧ cur.toList.take l.length = cellsB l
theorem Rw.of {w w' : World} {g cap : Nat} {l : List UInt8} (h : Rw w g cap l) (e : w'.heap[g]? = w.heap[g]?) : Rw w' g cap l := by
  obtain ⟨cur, h1, h2⟩ := h.ex
  exact ⟨cur, e.trans h1, h2⟩
theorem Rw.lt {w : World} {g cap : Nat} {l : List UInt8} (h : Rw w g cap l) : g < w.heap.size := by
  obtain ⟨cur, h1, _⟩ := h.ex
  exact (Array.getElem?_eq_some_iff.1 h1).1
theorem Rw.cap {w : World} {g cap : Nat} {l : List UInt8} (h : Rw w g cap l) : l.length ≤ cap := by
  obtain ⟨cur, _, h1, _⟩ := h.ex
  exact h1
theorem Rw.below {w w' : World} {g cap : Nat} {l : List UInt8} (h : Rw w g cap l) (hb : Below w.heap.size w w') : Rw w' g cap l := h.of (hb.block g h.lt)
theorem Rw.cell {w : World} {g cap : Nat} {l : List UInt8} (h : Rw w g cap l) (k : Nat) (hk : k < l.length) : w.cell? ⟨g, k, none⟩ = some (.int .u8 (l[k].toNat : Int)) := by
  obtain ⟨cur, h1, h2, h3, h4⟩ := h.ex
  have e := congrArg (fun x => x[k]?) h4
  simp only [List.getElem?_take, if_pos hk, cellsB_at l k hk, Array.getElem?_toList] at e
  exact (Lies.cell h1 k).trans e
theorem Rw.frozen {w : World} {g cap : Nat} {l : List UInt8} (h : Rw w g cap l) (k : Nat) : w.frozen? ⟨g, k, none⟩ = false := by
  obtain ⟨cur, h1, _⟩ := h.ex
  exact Lies.frozen h1 k
theorem Rw.bts {w : World} {g cap : Nat} {l : List UInt8} (h : Rw w g cap l) (k : Nat) : Bts (some ⟨g, 0, none⟩) (l.take k) w := by
  refine .inr ⟨g, 0, rfl, h.lt, fun j hj => ?_⟩
  rw [Nat.zero_add]
  have hj' : j < l.length := by rw [List.length_take] at hj; omega
  rw [List.getElem_take]
  exact h.cell j hj'
theorem Rw.all {w : World} {g cap : Nat} {l : List UInt8} (h : Rw w g cap l) : Bts (some ⟨g, 0, none⟩) l w := by
  have := h.bts l.length
  rwa [List.take_length] at this
theorem Rw.fore {w : World} {g cap : Nat} {l m : List UInt8} (h : Rw w g cap (l ++ m)) : Bts (some ⟨g, 0, none⟩) l w := by
  have := h.bts l.length
  rwa [List.take_left] at this
theorem Rw.set {w : World} {g cap : Nat} {l : List UInt8} (h : Rw w g cap l) (k : Nat) (x : UInt8) : Rw (w.setCell ⟨g, k, none⟩ (.int .u8 (x.toNat : Int))) g cap (l.set k x) := by
  obtain ⟨cur, h1, h2, h3, h4⟩ := h.ex
  refine ⟨cur.setIfInBounds k (.int .u8 (x.toNat : Int)), Lies.set h1 k _, by rw [List.length_set]; exact h2, by rw [Array.size_setIfInBounds]; exact h3, ?_⟩
  rw [List.length_set, Array.toList_setIfInBounds, List.take_set, h4]
  simp [cellsB]
theorem Rw.other {w : World} {g q cap : Nat} {l : List UInt8} (h : Rw w g cap l) (hne : g ≠ q) (k : Nat) (v : Value) : Rw (w.setCell ⟨q, k, none⟩ v) g cap l := h.of (Below.heap_setCell _ _ _ _ hne)
theorem own_rw {w : World} {B n : Nat} {v : Value} {l : List UInt8} (h : w.ownsRow B 5 1 v n (cellsB l)) (h0 : 0 < n) : ∃ g cap, v = .slice (some ⟨g, 0, none⟩) n cap ∧ B ≤ g ∧ Rw w g cap l := by
  obtain ⟨h1, h2⟩ := h
  have hl : l.length = n := by rw [cellsB_length] at h1; omega
  rcases h2 with ⟨_, e⟩ | ⟨g, cap, cur, rfl, hb, hg, hcap, _, hs, ht⟩
  · omega
  · exact ⟨g, cap, rfl, hb, cur, hg, by omega, by omega, by rw [hl]; simpa using ht⟩
theorem bts_back {a : Option Addr} {l : List UInt8} {w : World} (h : Bts a l w) (c : Nat) : (convert 88 9 (.slice a l.length c)).run Tryz.prog w = .ok (.string ⟨l.toArray⟩) w := by
  cases a with
  | none =>
    obtain rfl := bts_none h
    exact run_convert_bytes_nil w 88 5 Tryz.underlying88 Tryz.underlying5 0 c 9 Tryz.underlying9
  | some ad =>
    refine run_convert_bytes_back (P := Tryz.prog) w 88 9 5 ad c l Tryz.underlying88 Tryz.underlying5 Tryz.underlying9 (fun j hj => ?_)
    have := bts_news h j (.int .u8 (l[j].toNat : Int)) (cellsB_at l j hj)
    simpa using this
/-- Nothing but block g has turned; more may lie behind. -/
structure But (g : Nat) (w w' : World) : Prop where
  os : w'.os = w.os
  tape : w'.tape = w.tape
  output : w'.output = w.output
  size : w.heap.size ≤ w'.heap.size
  block : ∀ k, k < w.heap.size → k ≠ g → w'.heap[k]? = w.heap[k]?

theorem But.refl (g : Nat) (w : World) : But g w w := ⟨rfl, rfl, rfl, Nat.le_refl _, fun _ _ _ => rfl⟩
theorem But.trans {g : Nat} {a b c : World} (h : But g a b) (k : But g b c) : But g a c :=
  ⟨k.os.trans h.os, k.tape.trans h.tape, k.output.trans h.output, Nat.le_trans h.size k.size, fun j hj hne => (k.block j (Nat.lt_of_lt_of_le hj h.size) hne).trans (h.block j hj hne)⟩
theorem But.set {g : Nat} {w w' : World} (h : But g w w') (j : Nat) (v : Value) : But g w (w'.setCell ⟨g, j, none⟩ v) :=
  ⟨h.os, h.tape, h.output, by rw [World.size_setCell]; exact h.size, fun k hk hne => (Below.heap_setCell _ _ _ _ hne).trans (h.block k hk hne)⟩
theorem But.row {g : Nat} {w w' : World} (h : But g w w') (cs : Array Value) : But g w (w'.setRow g cs) :=
  ⟨h.os, h.tape, h.output, by simp [World.setRow]; exact h.size, fun k hk hne => (setRow_other _ _ _ _ hne).trans (h.block k hk hne)⟩
theorem But.below {g B : Nat} {w w' : World} (h : But g w w') (hB : B ≤ g) (hs : B ≤ w.heap.size) : Below B w w' :=
  ⟨h.os, h.tape, h.output, h.size, fun k hk => h.block k (by omega) (by omega)⟩
theorem But.of_below {g : Nat} {w w' : World} (h : Below w.heap.size w w') : But g w w' := ⟨h.os, h.tape, h.output, h.size, fun k hk _ => h.block k hk⟩
theorem But.lies {g k : Nat} {w w' : World} {cs : Array Value} {t : TypeId} (h : But g w w') (hl : Lies w k cs t) (hne : k ≠ g) : Lies w' k cs t := (h.block k hl.lt hne).trans hl
theorem But.bts {g : Nat} {a : Option Addr} {l : List UInt8} {w w' : World} (h : But g w w') (hb : Bts a l w) (hne : ∀ ad, a = some ad → ad.block ≠ g) : Bts a l w' := by
  rcases hb with hb | ⟨b, o, e, hb, hr⟩
  · exact .inl hb
  · exact .inr ⟨b, o, e, Nat.lt_of_lt_of_le hb h.size, fun j hj => (World.cell?_of_block (w := w) (a := ⟨b, o + j, none⟩) (h.block b hb (hne _ e))).trans (hr j hj)⟩
end Go.Proofs.YtnlgbopdbihnjaaGreatDoor
/-
  The plain mathematics of the classes of bytes: no Go in sight.
-/
namespace Go.Proofs.YtnlgbopdbihnjaaGreatDoor

/-- A byte (as a number) stands in a row of bytes. -/
def hasB (l : List UInt8) (b : Int) : Bool := l.any fun c => (c.toNat : Int) == b

theorem hasB_drop (l : List UInt8) (b : Int) (k : Nat) (h : k < l.length) : hasB (l.drop k) b = (((l[k].toNat : Int) == b) || hasB (l.drop (k + 1)) b) := by
  unfold hasB
  rw [List.drop_eq_getElem_cons h, List.any_cons]

/-- A byte lies in one of the stretches of a row of pairs. -/
def inPairs : List UInt8 → Int → Bool
  | x :: y :: r, b => (decide ((x.toNat : Int) ≤ b) && decide (b ≤ (y.toNat : Int))) || inPairs r b
  | _, _ => false

theorem inPairs_drop (l : List UInt8) (b : Int) (k : Nat) (h : k + 1 < l.length) :
    inPairs (l.drop k) b = ((decide ((l[k].toNat : Int) ≤ b) && decide (b ≤ (l[k + 1].toNat : Int))) || inPairs (l.drop (k + 2)) b) := by
  rw [List.drop_eq_getElem_cons (by omega), List.drop_eq_getElem_cons h, inPairs]

theorem inPairs_end (l : List UInt8) (b : Int) (k : Nat) (h : l.length ≤ k + 1) : inPairs (l.drop k) b = false := by
  have hl : (l.drop k).length ≤ 1 := by simp; omega
  match hd : l.drop k, hl with
  | [], _ => rfl
  | [_], _ => rfl
  | _ :: _ :: _, hl => simp at hl

/-- The rows of the table, a row a class. -/
def classRows : List (List UInt8) := [[], [65, 90, 97, 122], [48, 57], [48, 57, 65, 90, 97, 122], [48, 57, 65, 70, 97, 102], [48, 57, 65, 90, 97, 122, 33, 33, 35, 39, 42, 43, 45, 45, 47, 47, 61, 61, 63, 63, 94, 96, 123, 126], [32, 33, 35, 91, 93, 126], [33, 90, 94, 126], [33, 60, 62, 126], [33, 42, 44, 60, 62, 126], [48, 57, 65, 90, 97, 122, 45, 45], [33, 57, 59, 126], [9, 9, 32, 126], [0, 127], [128, 255]]

/-- Whether a byte is of a class. -/
def isB (cl b : Int) : Bool := if cl < 0 ∨ 15 ≤ cl then false else inPairs (classRows.getD cl.toNat []) b

def shownB (b : Int) (but : List UInt8) : Bool := decide (33 ≤ b) && decide (b ≤ 126) && !hasB but b
def caps : List UInt8 := [65, 66, 67, 68, 69, 70, 71, 72, 73, 74, 75, 76, 77, 78, 79, 80, 81, 82, 83, 84, 85, 86, 87, 88, 89, 90]
def smls : List UInt8 := [97, 98, 99, 100, 101, 102, 103, 104, 105, 106, 107, 108, 109, 110, 111, 112, 113, 114, 115, 116, 117, 118, 119, 120, 121, 122]
def odigs : List UInt8 := [48, 49, 50, 51, 52, 53, 54, 55, 56, 57]
def hexs : List UInt8 := [48, 49, 50, 51, 52, 53, 54, 55, 56, 57, 65, 66, 67, 68, 69, 70, 97, 98, 99, 100, 101, 102]
def sgns : List UInt8 := [33, 35, 36, 37, 38, 39, 42, 43, 45, 47, 61, 63, 94, 95, 123, 124, 125, 126, 96]
def r1 (b : Int) : Bool := hasB caps b || hasB smls b
def r2 (b : Int) : Bool := hasB odigs b
def r3 (b : Int) : Bool := r1 b || r2 b
/-- The document's answer. -/
def refB (cl b : Int) : Bool :=
  if cl = 1 then r1 b else if cl = 2 then r2 b else if cl = 3 then r3 b else if cl = 4 then hasB hexs b
  else if cl = 5 then r3 b || hasB sgns b else if cl = 6 then decide (b = 32) || shownB b [34, 92]
  else if cl = 7 then shownB b [91, 92, 93] else if cl = 8 then shownB b [61] else if cl = 9 then shownB b [43, 61]
  else if cl = 10 then r3 b || decide (b = 45) else if cl = 11 then shownB b [58]
  else if cl = 12 then decide (b = 9) || decide (b = 32) || shownB b []
  else if cl = 13 then decide (b < 128) else if cl = 14 then decide (128 ≤ b) else false

theorem is_ref_fin : ∀ c : Fin 15, ∀ b : Fin 256, isB (c.val : Int) (b.val : Int) = refB (c.val : Int) (b.val : Int) := by decide +kernel

theorem is_ref (c b : Int) (h0 : 0 ≤ b) (h1 : b ≤ 255) : isB c b = refB c b := by
  by_cases hc : c < 0 ∨ 15 ≤ c
  · unfold isB refB
    rw [if_pos hc]
    repeat rw [if_neg (by omega)]
  · obtain ⟨n, rfl⟩ := Int.eq_ofNat_of_zero_le (show 0 ≤ c by omega)
    obtain ⟨m, rfl⟩ := Int.eq_ofNat_of_zero_le h0
    exact is_ref_fin ⟨n, by omega⟩ ⟨m, by omega⟩
end Go.Proofs.YtnlgbopdbihnjaaGreatDoor
/-
  The contracts of octet.Is, and of the document's Has, shown and Is: what each answers for every class and byte.
-/
namespace Go.Proofs.YtnlgbopdbihnjaaGreatDoor
open Go.RowKit

theorem ret_bool {a b : Bool} (h : a = b) : Ending.returned (.bool a) = .returned (.bool b) := by rw [h]

set_option maxHeartbeats 400000 in
theorem is_loop (c : Nat) (b : Int) (s : ByteArray) (w : World) (hc : c < 15) (hs : s.size ≤ 100) (hcell : w.cell? ⟨0, c, none⟩ = some (.string s)) :
    Calls Tryz.prog 81 #[.int .i64 c, .int .u8 b] w fun e w' => e = .returned (.bool (inPairs s.data.toList b)) ∧ w' = w := by
  go_enter Tryz.func81, Tryz.ntmps81
  go_wp2
  go_loop [6] (fun i => ∃ k : Nat, k ≤ s.size + 1 ∧ i = .int .i64 k ∧ Hid (inPairs s.data.toList b = inPairs (s.data.toList.drop k) b)) (fun i => s.size + 1 - (intOf i).toNat)
  case atStart => exact ⟨0, Nat.zero_le _, rfl, rfl⟩
  case round =>
    obtain ⟨k, hk, rfl, HH⟩ := hrel
    by_cases hlt : k + 1 < s.size
    · have HS : Hid (inPairs (s.data.toList.drop k) b = ((decide ((s[k].toNat : Int) ≤ b) && decide (b ≤ (s[k + 1].toNat : Int))) || inPairs (s.data.toList.drop (k + 2)) b)) := inPairs_drop s.data.toList b k (by simpa using hlt)
      by_cases h1 : (s[k].toNat : Int) ≤ b
      · by_cases h2 : b ≤ (s[k + 1].toNat : Int)
        · go_wp2
          go_ret
          exact ⟨ret_bool (by rw [HH.out, HS.out]; simp [h1, h2]), rfl⟩
        · have HN : Hid (inPairs s.data.toList b = inPairs (s.data.toList.drop (k + 2)) b) := by
            show _ = _
            rw [HH.out, HS.out, decide_eq_false h2, Bool.and_false, Bool.false_or]
          go_wp2
          go_round
          case rel => exact ⟨k + 2, by omega, by go_num, HN⟩
          case measure => simp [intOf]; omega
      · have HN : Hid (inPairs s.data.toList b = inPairs (s.data.toList.drop (k + 2)) b) := by
          show _ = _
          rw [HH.out, HS.out, decide_eq_false h1, Bool.false_and, Bool.false_or]
        go_wp2
        go_round
        case rel => exact ⟨k + 2, by omega, by go_num, HN⟩
        case measure => simp [intOf]; omega
    · go_wp2
      go_ret
      exact ⟨ret_bool (by rw [HH.out, inPairs_end _ _ _ (by simp; omega)]), rfl⟩

/-- The table, as the walks ask for it. -/
def Table (w : World) : Prop := ∀ c : Nat, c < 15 → w.cell? ⟨0, c, none⟩ = some (.string ⟨(classRows.getD c []).toArray⟩)

theorem rows_short : ∀ c : Fin 15, (classRows.getD c.val []).length ≤ 100 := by decide +kernel

theorem is_out (c b : Int) (w : World) (hc : c < 0 ∨ 15 ≤ c) :
    Calls Tryz.prog 81 #[.int .i64 c, .int .u8 b] w fun e w' => e = .returned (.bool false) ∧ w' = w := by
  rcases hc with hc | hc
  · go_enter Tryz.func81, Tryz.ntmps81
    go_wp2
    go_ret
    exact ⟨rfl, rfl⟩
  · have hn : ¬ c < 0 := by omega
    go_enter Tryz.func81, Tryz.ntmps81
    go_wp2
    go_ret
    exact ⟨rfl, rfl⟩

/-- octet.Is. -/
theorem is_any (c b : Int) (w : World) (ht : Table w) :
    Calls Tryz.prog 81 #[.int .i64 c, .int .u8 b] w fun e w' => e = .returned (.bool (isB c b)) ∧ w' = w := by
  by_cases hc : c < 0 ∨ 15 ≤ c
  · unfold isB
    rw [if_pos hc]
    exact is_out c b w hc
  · obtain ⟨n, rfl⟩ := Int.eq_ofNat_of_zero_le (show 0 ≤ c by omega)
    have hn : n < 15 := by omega
    have he : isB (n : Int) b = inPairs (classRows.getD n []) b := by unfold isB; rw [if_neg hc]; rfl
    rw [he]
    exact is_loop n b ⟨(classRows.getD n []).toArray⟩ w hn (by have := rows_short ⟨n, hn⟩; simpa [ByteArray.size] using this) (ht n hn)

end Go.Proofs.YtnlgbopdbihnjaaGreatDoor
/-
  The plain mathematics of Bad and Span: no Go in sight.
-/
namespace Go.Proofs.YtnlgbopdbihnjaaGreatDoor

/-- How many bytes ahead of the first that is not of the class. -/
def badN (c : Int) : List UInt8 → Nat
  | [] => 0
  | b :: r => if isB c (b.toNat : Int) = true then badN c r + 1 else 0

theorem badN_le (c : Int) : ∀ l : List UInt8, badN c l ≤ l.length
  | [] => Nat.le_refl _
  | b :: r => by
    have := badN_le c r
    unfold badN
    split <;> simp <;> omega

theorem badN_yes (c : Int) (l : List UInt8) (k : Nat) (h : k < l.length) (hb : isB c (l[k].toNat : Int) = true) : badN c (l.drop k) = badN c (l.drop (k + 1)) + 1 := by
  rw [List.drop_eq_getElem_cons h, badN, if_pos hb]
theorem badN_no (c : Int) (l : List UInt8) (k : Nat) (h : k < l.length) (hb : isB c (l[k].toNat : Int) = false) : badN c (l.drop k) = 0 := by
  rw [List.drop_eq_getElem_cons h, badN, if_neg (by rw [hb]; decide)]
theorem badN_end (c : Int) (l : List UInt8) (k : Nat) (h : l.length ≤ k) : badN c (l.drop k) = 0 := by
  rw [List.drop_eq_nil_of_le h, badN]

/-- The place behind the row of bytes of the class that begins at from. -/
def spanI (c : Int) (l : List UInt8) (f : Int) : Int := if f < 0 then f else f + (badN c (l.drop f.toNat) : Int)
theorem spanI_neg (c : Int) (l : List UInt8) (f : Int) (h : f < 0) : spanI c l f = f := if_pos h
theorem spanI_nat (c : Int) (l : List UInt8) (f : Nat) : spanI c l (f : Int) = (f : Int) + (badN c (l.drop f) : Int) := if_neg (by omega)
theorem spanI_zero (c : Int) (l : List UInt8) : spanI c l 0 = (badN c l : Int) := by
  have := spanI_nat c l 0
  simpa using this
theorem spanI_behind (c : Int) (l : List UInt8) (f : Int) (h : (l.length : Int) ≤ f) : spanI c l f = f := by
  obtain ⟨n, rfl⟩ := Int.eq_ofNat_of_zero_le (show 0 ≤ f by omega)
  rw [spanI_nat, badN_end _ _ _ (by omega)]
  omega
end Go.Proofs.YtnlgbopdbihnjaaGreatDoor
/-
  The contracts of octet.Span and octet.Bad of a text.
-/
namespace Go.Proofs.YtnlgbopdbihnjaaGreatDoor
open Go.RowKit

theorem ret_i64T {a b : Int} (h : a = b) : Ending.returned (.int .i64 a) = .returned (.int .i64 b) := by rw [h]

set_option maxRecDepth 100000 in
set_option maxHeartbeats 400000 in
theorem span_negT (c f : Int) (s : ByteArray) (w : World) (hf : f < 0) :
    Calls Tryz.prog 109 #[.int .i64 c, .string s, .int .i64 f] w fun e w' => e = .returned (.int .i64 f) ∧ w' = w := by
  go_enter Tryz.func109, Tryz.ntmps109
  go_wp2
  go_ret
  exact ⟨rfl, rfl⟩

set_option maxRecDepth 100000 in
set_option maxHeartbeats 400000 in
theorem span_behindT (c f : Int) (s : ByteArray) (w : World) (hs : s.size ≤ maxLen) (hf : (s.size : Int) ≤ f) :
    Calls Tryz.prog 109 #[.int .i64 c, .string s, .int .i64 f] w fun e w' => e = .returned (.int .i64 f) ∧ w' = w := by
  unfold maxLen at hs
  have hn : ¬ f < 0 := by omega
  have hl : ¬ f < (s.size : Int) := by omega
  go_enter Tryz.func109, Tryz.ntmps109
  go_wp2
  refine wp_loop_rounds 1 ?_
  rw [rounds_succ]
  go_wp2
  go_ret
  exact ⟨rfl, rfl⟩

set_option maxRecDepth 100000 in
set_option maxHeartbeats 400000 in
theorem span_inT (c : Int) (f : Nat) (s : ByteArray) (w : World) (ht : Table w) (hs : s.size ≤ maxLen) (hf : f ≤ s.size) :
    Calls Tryz.prog 109 #[.int .i64 c, .string s, .int .i64 f] w fun e w' => e = .returned (.int .i64 (f + badN c (s.data.toList.drop f))) ∧ w' = w := by
  unfold maxLen at hs
  have HT : Hid (Table w) := ht
  clear ht
  go_enter Tryz.func109, Tryz.ntmps109
  go_wp2
  go_loop [7] (fun i => ∃ m : Nat, m ≤ s.size ∧ i = .int .i64 m ∧ Hid (f + badN c (s.data.toList.drop f) = m + badN c (s.data.toList.drop m))) (fun i => s.size - (intOf i).toNat)
  case atStart => exact ⟨f, hf, rfl, rfl⟩
  case round =>
    obtain ⟨m, hm, rfl, HM⟩ := hrel
    by_cases hlt : m < s.size
    · by_cases hb : isB c (s[m].toNat : Int) = true
      · have HN : Hid (f + badN c (s.data.toList.drop f) = (m + 1) + badN c (s.data.toList.drop (m + 1))) := by
          have := badN_yes c s.data.toList m (by simpa using hlt) hb
          show _ = _
          rw [HM.out, this]; omega
        go_wp2_with (go_at_call 81; refine (is_any _ _ _ HT.out).mono ?_; rintro e w' ⟨rfl, rfl⟩)
        go_round
        case rel => exact ⟨m + 1, by omega, by go_num, HN⟩
        case measure => simp [intOf]; omega
      · have hb' : isB c (s[m].toNat : Int) = false := by simpa using hb
        have HN : Hid (f + badN c (s.data.toList.drop f) = m) := by
          have := badN_no c s.data.toList m (by simpa using hlt) hb'
          show _ = _
          rw [HM.out, this]; omega
        clear hb
        go_wp2_with (go_at_call 81; refine (is_any _ _ _ HT.out).mono ?_; rintro e w' ⟨rfl, rfl⟩)
        go_ret
        exact ⟨ret_i64T (by have := HN.out; omega), rfl⟩
    · have HN : Hid (f + badN c (s.data.toList.drop f) = m) := by
        have := badN_end c s.data.toList m (by simp; omega)
        show _ = _
        rw [HM.out, this]; omega
      go_wp2
      go_ret
      exact ⟨ret_i64T (by have := HN.out; omega), rfl⟩

theorem span_anyT (c f : Int) (s : ByteArray) (w : World) (ht : Table w) (hs : s.size ≤ maxLen) :
    Calls Tryz.prog 109 #[.int .i64 c, .string s, .int .i64 f] w fun e w' => e = .returned (.int .i64 (spanI c s.data.toList f)) ∧ w' = w := by
  by_cases h0 : f < 0
  · rw [spanI_neg _ _ _ h0]
    exact span_negT c f s w h0
  · by_cases h1 : (s.size : Int) ≤ f
    · rw [spanI_behind _ _ _ (by simpa using h1)]
      exact span_behindT c f s w hs h1
    · obtain ⟨n, rfl⟩ := Int.eq_ofNat_of_zero_le (show 0 ≤ f by omega)
      rw [spanI_nat]
      exact span_inT c n s w ht hs (by omega)

set_option maxRecDepth 100000 in
theorem bad_anyT (c : Int) (s : ByteArray) (w : World) (ht : Table w) (hs : s.size ≤ maxLen) :
    Calls Tryz.prog 84 #[.int .i64 c, .string s] w fun e w' => e = .returned (.int .i64 (badN c s.data.toList)) ∧ w' = w := by
  have hz := spanI_zero c s.data.toList
  go_enter Tryz.func84, Tryz.ntmps84
  go_wp2_with fail
  refine (span_anyT c 0 s _ ht hs).mono ?_
  rintro e w' ⟨rfl, rfl⟩
  go_wp2
  go_ret
  exact ⟨rfl, rfl⟩
end Go.Proofs.YtnlgbopdbihnjaaGreatDoor
/-
  Small laws on bytes, texts and lists.
-/
namespace Go.Proofs.YtnlgbopdbihnjaaGreatDoor
open Go.RowKit

theorem pad_eq (c : UInt8) : ((c.toNat : Int) == 61) = decide (c = 61) := by
  rw [Bool.eq_iff_iff]
  simp only [beq_iff_eq, decide_eq_true_eq]
  constructor
  · intro h
    exact UInt8.toNat_inj.1 (by simpa using (by omega : c.toNat = 61))
  · intro h
    rw [h]
    rfl
theorem pad_ne (c : UInt8) : ((c.toNat : Int) != 61) = !decide (c = 61) := by
  rw [bne, pad_eq]

theorem ext_list (s : ByteArray) (a b : Nat) : (s.extract a b).data.toList = (s.data.toList.take b).drop a := by
  simp [ByteArray.data_extract, List.drop_take]
theorem len_list (s : ByteArray) : s.data.toList.length = s.size := by rw [Array.length_toList]; rfl
theorem at_list (s : ByteArray) (k : Nat) (h : k < s.size) : s.data.toList[k]'(by rw [len_list]; exact h) = s[k] := rfl

/-- Three bytes that have just been laid. -/
theorem three_bts (w : World) (t : TypeId) (x y z : Int) (a b c : UInt8) (hx : x = (a.toNat : Int)) (hy : y = (b.toNat : Int)) (hz : z = (c.toNat : Int)) (n : Nat) :
    Bts (some ⟨w.heap.size, 0, none⟩) ([a, b, c].take n) (w.alloc (.cells #[.int .u8 x, .int .u8 y, .int .u8 z] t)) := by
  subst hx hy hz
  refine Bts.take (.inr ⟨w.heap.size, 0, rfl, by simp, fun j hj => ?_⟩) n
  have h3 : j < 3 := hj
  match j, h3 with
  | 0, _ => simp
  | 1, _ => simp
  | 2, _ => simp

theorem take4 (l : List UInt8) (k : Nat) (h : k + 3 < l.length) : l.take (k + 4) = l.take k ++ [l[k], l[k + 1], l[k + 2], l[k + 3]] := by
  have e3 := List.take_succ_eq_append_getElem (l := l) (i := k + 3) (by omega)
  have e2 := List.take_succ_eq_append_getElem (l := l) (i := k + 2) (by omega)
  have e1 := List.take_succ_eq_append_getElem (l := l) (i := k + 1) (by omega)
  have e0 := List.take_succ_eq_append_getElem (l := l) (i := k) (by omega)
  rw [show l.take (k + 4) = _ from e3, show l.take (k + 3) = _ from e2, show l.take (k + 2) = _ from e1, e0]
  simp only [List.append_assoc, List.cons_append, List.nil_append]
theorem own_nil (w : World) (B : Nat) : w.ownsRow B 5 1 (.slice none 0 0) ([] : List UInt8).length (cellsB []) := ⟨rfl, .inl ⟨rfl, rfl⟩⟩

end Go.Proofs.YtnlgbopdbihnjaaGreatDoor
