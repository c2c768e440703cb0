/-
  Rows of numbers in memory, of any kind of whole numbers, and such rows that a call makes for itself.
-/
import Derived.Test.YtedgimkffkflbabGreatDoorUtfP
import Derived.Laws.OwnMore
import Derived.Test.YtedgimkffkflbabGreatDoorBase
import Derived.Shelf.Strings.Builder1
import Derived.Shelf.Utf8.AppendRunePlain
import Derived.Test.YtedgimkffkflbabGreatDoorProg
namespace Go.Proofs.YtedgimkffkflbabGreatDoor
open Go.RowKit

/-- Numbers as cells. -/
def cellsN (k : IntKind) (l : List Int) : List Value := l.map fun x => Value.int k x
theorem cellsN_length (k : IntKind) (l : List Int) : (cellsN k l).length = l.length := by simp [cellsN]
theorem cellsN_append (k : IntKind) (l r : List Int) : cellsN k (l ++ r) = cellsN k l ++ cellsN k r := by simp [cellsN]
theorem cellsN_at (k : IntKind) (l : List Int) (j : Nat) (h : j < l.length) : (cellsN k l)[j]? = some (.int k l[j]) := by simp [cellsN, List.getElem?_eq_getElem h]
theorem cellsN_one (k : IntKind) (l : List Int) : ∀ v ∈ cellsN k l, v.oneCell' = true := by
  intro v hv
  simp only [cellsN, List.mem_map] at hv
  obtain ⟨b, _, rfl⟩ := hv
  rfl
/-- A list's address and the numbers that lie there. -/
def Nts (k : IntKind) (a : Option Addr) (l : List Int) (w : World) : Prop := l = [] ∨ ∃ g o, a = some ⟨g, o, none⟩ ∧ g < w.heap.size ∧ ∀ j, (h : j < l.length) → w.cell? ⟨g, o + j, none⟩ = some (.int k l[j])
theorem Nts.below {k : IntKind} {a : Option Addr} {l : List Int} {w w' : World} (h : Nts k a l w) (hb : Below w.heap.size w w') : Nts k a l w' := by
  rcases h with h | ⟨g, o, e, hg, hr⟩
  · exact .inl h
  · exact .inr ⟨g, o, e, Nat.lt_of_lt_of_le hg hb.size, fun j hj => (hb.cell (p := ⟨g, o + j, none⟩) hg).trans (hr j hj)⟩
theorem Nts.cell {k : IntKind} {a : Option Addr} {l : List Int} {w : World} (h : Nts k a l w) (j : Nat) (hj : j < l.length) : ∃ g o, a = some ⟨g, o, none⟩ ∧ g < w.heap.size ∧ w.cell? ⟨g, o + j, none⟩ = some (.int k l[j]) := by
  rcases h with rfl | ⟨g, o, e, hg, hr⟩
  · simp at hj
  · exact ⟨g, o, e, hg, hr j hj⟩
theorem Nts.but {k : IntKind} {g : Nat} {a : Option Addr} {l : List Int} {w w' : World} (hb : Nts k a l w) (h : But g w w') (hne : ∀ ad, a = some ad → ad.block ≠ g) : Nts k a l w' := by
  rcases hb with hb | ⟨b, o, e, hb, hr⟩
  · exact .inl hb
  · exact .inr ⟨b, o, e, Nat.lt_of_lt_of_le hb h.size, fun j hj => (World.cell?_of_block (w := w) (a := ⟨b, o + j, none⟩) (h.block b hb (hne _ e))).trans (hr j hj)⟩
theorem nts_none {k : IntKind} {l : List Int} {w : World} (h : Nts k none l w) : l = [] := by
  rcases h with h | ⟨g, o, e, _⟩
  · exact h
  · cases e
theorem nts_news {k : IntKind} {ad : Addr} {l : List Int} {w : World} (h : Nts k (some ad) l w) : ∀ j u, (cellsN k l)[j]? = some u → w.cell? (ad.add j) = some u := by
  intro j u hu
  have hj : j < l.length := by
    have := (List.getElem?_eq_some_iff.1 hu).1
    simpa [cellsN] using this
  obtain ⟨g, o, e, _, hc⟩ := h.cell j hj
  injection e with e
  subst e
  rw [Addr.add_lit, hc, ← hu, cellsN_at k l j hj]
/-- A row that the call made, as a list of numbers. -/
theorem own_nts {w : World} {k : IntKind} {base n e : Nat} {v : Value} {l : List Int} (h : w.ownsRow base e 1 v n (cellsN k l)) : ∃ a cap, v = .slice a n cap ∧ Nts k a l w ∧ l.length = n ∧ (a = none → cap = 0) ∧ n ≤ cap ∧ ∀ ad, a = some ad → base ≤ ad.block ∧ ad.block < w.heap.size ∧ ad.off = 0 ∧ ad.spot = none := by
  obtain ⟨h1, h2⟩ := id h
  have hl : l.length = n := by rw [cellsN_length] at h1; omega
  rcases h2 with ⟨rfl, h0⟩ | ⟨g, cap, cur, rfl, hb, hg, hcap, _⟩
  · exact ⟨none, 0, by rw [h0], .inl (List.eq_nil_of_length_eq_zero (hl.trans h0)), hl, fun _ => rfl, by omega, fun ad e => by cases e⟩
  · refine ⟨_, cap, rfl, .inr ⟨g, 0, rfl, (Array.getElem?_eq_some_iff.1 hg).1, fun j hj => ?_⟩, hl, (fun e => by cases e), hcap, fun ad e => ?_⟩
    · have := h.cellAt j (by omega)
      rw [Nat.zero_add, this, cellsN_at k l j hj]
    · injection e with e
      subst e
      exact ⟨hb, (Array.getElem?_eq_some_iff.1 hg).1, rfl, rfl⟩
theorem ownN_keep {w w' : World} {B n e m : Nat} {v : Value} {xs : List Value} (h : w.ownsRow B e m v n xs) (hb : ∀ k, v.ownBlock = some k → w'.heap[k]? = w.heap[k]?) : w'.ownsRow B e m v n xs := by
  obtain ⟨h1, h2⟩ := h
  refine ⟨h1, ?_⟩
  rcases h2 with h2 | ⟨g, cap, cur, rfl, hB, hg, hr⟩
  · exact .inl h2
  · exact .inr ⟨g, cap, cur, rfl, hB, by rw [hb g rfl]; exact hg, hr⟩
theorem ownN_below {w w' : World} {B n e m : Nat} {v : Value} {xs : List Value} (h : w.ownsRow B e m v n xs) (hb : Below w.heap.size w w') : w'.ownsRow B e m v n xs := ownN_keep h (fun k hk => hb.block k (h.lt k hk).2)
theorem ownN_apart {w : World} {B n e m g t : Nat} {v : Value} {xs : List Value} {cs : Array Value} (h : w.ownsRow B e m v n xs) (hl : Lies w g cs t) (ht : t ≠ e) : ∀ k, v.ownBlock = some k → k ≠ g := by
  intro k hk e
  subst e
  rcases h.2 with ⟨rfl, _⟩ | ⟨g', cap, cur, rfl, hB, hg, _⟩
  · cases hk
  · injection hk with hk
    subst hk
    exact ht (lies_kind hl hg)
theorem ownN_shape {w : World} {base n e m : Nat} {v : Value} {xs : List Value} (h : w.ownsRow base e m v n xs) : ∃ a cap, v = .slice a n cap := by
  rcases h.2 with ⟨rfl, h0⟩ | ⟨g, cap, cur, hv, _⟩
  · exact ⟨none, 0, by rw [h0]⟩
  · exact ⟨_, _, hv⟩
/-- One number that has just been laid. -/
theorem one_nts (w : World) (t : TypeId) (k : IntKind) (x : Int) : Nts k (some ⟨w.heap.size, 0, none⟩) [x] (w.alloc (.cells #[.int k x] t)) :=
  .inr ⟨w.heap.size, 0, rfl, by simp, fun j hj => by
    obtain rfl : j = 0 := by simpa using hj
    simp⟩
/-- One number more behind a row of the call's own. -/
theorem wpList_append_num {ops : Array Oper} {rest : List Oper} {o : Oper} {a : Act} {w : World} {Q : Exit → Act → World → Prop} (hgd : o.guard = none) (s x : Operand) (T e by' : Nat) (k : IntKind)
    (hT : Tryz.prog.underlying T = some (.slice e)) (hI : (Tryz.prog.info? e).map (fun i => (i.zero, i.size, i.bytes)) = some (some (.int k 0), 1, by')) (hby : 0 < by')
    (ho : o.op = .call { callee := .builtin .append, args := #[s, x], argTypes := #[T, T] }) (base : Nat) (v : Value) (n : Nat) (xs : List Int) (hs : a.eval s = v) (hown : w.ownsRow base e 1 v n (cellsN k xs))
    (ad : Addr) (y : Int) (c : Nat) (hx : a.eval x = .slice (some ad) 1 c) (hb : Nts k (some ad) [y] w) (hbytes : (n + 1) * by' ≤ 140737488355328) (hbase : base ≤ w.heap.size)
    (h : ∀ v' w', w'.ownsRow base e 1 v' (n + 1) (cellsN k (xs ++ [y])) → w.grownBy w' v.ownBlock → wpList Tryz.prog ops Q rest (a.put o.dst v') w') : wpList Tryz.prog ops Q (o :: rest) a w := by
  obtain ⟨i0, hi, hz0, hz1, hz2⟩ := info_parts hI
  have hn : n + 1 ≤ 140737488355328 := Nat.le_trans (Nat.le_mul_of_pos_right _ hby) hbytes
  refine wpList_append_own _ hgd s x T ho base e i0 (.int k 0) 1 by' hT hi hz0 hz1 hz2 rfl (by decide) v n _ hs hown ad 1 c (cellsN k [y]) hx (by rw [cellsN_length]; rfl) (nts_news hb) (cellsN_one k _) (by unfold maxLen; omega) hbytes hbase ?_
  intro v' w' hown' hgrow _
  exact h v' w' (by rw [cellsN_append]; exact hown') hgrow
theorem own_nilN (w : World) (B e : Nat) (k : IntKind) : w.ownsRow B e 1 (.slice none 0 0) 0 (cellsN k []) := ⟨rfl, .inl ⟨rfl, rfl⟩⟩
theorem madeN (k : IntKind) (n : Nat) : (madeCells #[Value.int k 0] n).toList = cellsN k (List.replicate n 0) := by
  apply List.ext_getElem?
  intro i
  by_cases h : i < n
  · simp [madeCells, cellsN, h, Nat.mod_one]
  · rw [List.getElem?_eq_none (by simp [madeCells]; omega), List.getElem?_eq_none (by simp [cellsN]; omega)]
/-- A row of noughts with room behind it. -/
theorem make_roomN (w : World) (T e by' : Nat) (k : IntKind) (hT : Tryz.prog.underlying T = some (.slice e)) (hI : (Tryz.prog.info? e).map (fun i => (i.zero, i.size, i.bytes)) = some (some (.int k 0), 1, by')) (hby : 0 < by')
    (n c : Nat) (x y : Int) (hx : x = (n : Int)) (hy : y = (c : Int)) (hc : n ≤ c) (hl : by' * c ≤ 281474976710656) (base : Nat) (hb : base ≤ w.heap.size) :
    ∃ w', (Instr.makeSlice T (.int .i64 x) (.int .i64 y)).run Tryz.prog w = .ok (.slice (some ⟨w.heap.size, 0, none⟩) n c) w' ∧
      w'.ownsRow base e 1 (.slice (some ⟨w.heap.size, 0, none⟩) n c) n (cellsN k (List.replicate n 0)) ∧ Below w.heap.size w w' ∧ w'.heap.size = w.heap.size + 1 := by
  subst hx hy
  obtain ⟨i0, hi, hz0, hz1, hz2⟩ := info_parts hI
  have hcl : c ≤ 281474976710656 := Nat.le_trans (Nat.le_mul_of_pos_left _ hby) hl
  have hr := run_make (P := Tryz.prog) w T e i0 (.int k 0) hT hi hz0 .i64 .i64 n c (by omega) (by omega) (by rw [hz2]; first | omega | exact (by exact_mod_cast hl) | (rw [Nat.mul_comm]; exact (by exact_mod_cast hl))) (by omega)
  rw [hz1, Nat.mul_one, Int.toNat_natCast, Int.toNat_natCast] at hr
  refine ⟨_, hr, ?_, (Below.refl _ _).alloc (Nat.le_refl _) _, by simp⟩
  refine ⟨by rw [cellsN_length]; simp, .inr ⟨w.heap.size, c, _, rfl, hb, heap_alloc_last w _, hc, by unfold maxLen; omega, by rw [size_madeCells, Nat.mul_one], ?_⟩⟩
  show ((madeCells #[Value.int k 0] c).toList).take (n * 1) = _
  rw [madeN, Nat.mul_one]
  simp [cellsN, Nat.min_eq_left hc]

theorem infoR : (Tryz.prog.info? 21).map (fun i => (i.zero, i.size, i.bytes)) = some (some (.int .i32 0), 1, 4) := by kernel_rfl
theorem infoI : (Tryz.prog.info? 3).map (fun i => (i.zero, i.size, i.bytes)) = some (some (.int .i64 0), 1, 8) := by kernel_rfl
end Go.Proofs.YtedgimkffkflbabGreatDoor
/-
  The shape of a row of one's own.
-/
namespace Go.Proofs.YtedgimkffkflbabGreatDoor
open Go.RowKit

theorem own_cap {w : World} {base n cap : Nat} {a : Option Addr} {xs : List Value} (h : w.ownsRow base 5 1 (.slice a n cap) n xs) : cap ≤ 9223372036854775807 := by
  obtain ⟨_, ⟨h1, _⟩ | ⟨g, c, cur, hv, _, _, _, h3, _⟩⟩ := h
  · injection h1 with _ _ e
    omega
  · injection hv with _ _ e
    unfold maxLen at h3
    omega
theorem own_shape {w : World} {base n : Nat} {v : Value} {xs : List Value} (h : w.ownsRow base 5 1 v n xs) : ∃ a cap, v = .slice a n cap := by
  rcases h.2 with ⟨rfl, h0⟩ | ⟨g, cap, cur, hv, _⟩
  · exact ⟨none, 0, by rw [h0]⟩
  · exact ⟨_, _, hv⟩
end Go.Proofs.YtedgimkffkflbabGreatDoor
/-
  The library's contracts on builders and on a rune's bytes, laid at this program.
-/
namespace Go.Proofs

open Go.Shelf
def Tryz.lays170_ren : Go.Shelf.Ren := ⟨fun | 170 => 49 | n => n, fun | 70 => 73 | 3 => 3 | 0 => 0 | 72 => 75 | 37 => 23 | 5 => 5 | n => n, fun | n => n⟩
theorem Tryz.lays170 : Go.Proofs.Lays.n170 Tryz.prog Tryz.lays170_ren := {
  mixed := by kernel_rfl
  f170 := Tryz.func49.trans (congrArg some (by kernel_rfl))
  t0 := Tryz.underlying0
  a0 := Tryz.isAgg0
  z0 := Tryz.sizeOf0
  v0 := Tryz.zeroValue0
  t3 := Tryz.underlying3
  a3 := Tryz.isAgg3
  z3 := Tryz.sizeOf3
  v3 := Tryz.zeroValue3
  t37 := Tryz.underlying23
  a37 := Tryz.isAgg23
  z37 := Tryz.sizeOf23
  v37 := Tryz.zeroValue23
  t70 := Tryz.underlying73
  a70 := Tryz.isAgg73
  z70 := Tryz.sizeOf73
  v70 := Tryz.zeroValue73
  t72 := Tryz.underlying75
  a72 := Tryz.isAgg75
  z72 := Tryz.sizeOf75
  v72 := Tryz.zeroValue75 }
open Go.RowKit in
theorem Tryz.Builder_Len (B b : Nat) (bs : List Value) (w : World) (h : Lib.IsBuilder 75 5 B b bs w) :
    Calls Tryz.prog 49 #[.pointer (some ⟨b, 0, none⟩)] w fun e w' => e = .returned (.int .i64 bs.length) ∧ w' = w := Any.Builder_Len Tryz.lays170 B b bs w h
def Tryz.lays169_ren : Go.Shelf.Ren := ⟨fun | 169 => 45 | n => n, fun | 70 => 73 | 9 => 9 | 0 => 0 | 72 => 75 | 37 => 23 | 127 => 109 | 3 => 3 | 5 => 5 | n => n, fun | n => n⟩
theorem Tryz.lays169 : Go.Proofs.Lays.n169 Tryz.prog Tryz.lays169_ren := {
  mixed := by kernel_rfl
  f169 := Tryz.func45.trans (congrArg some (by kernel_rfl))
  t0 := Tryz.underlying0
  a0 := Tryz.isAgg0
  z0 := Tryz.sizeOf0
  v0 := Tryz.zeroValue0
  t3 := Tryz.underlying3
  a3 := Tryz.isAgg3
  z3 := Tryz.sizeOf3
  v3 := Tryz.zeroValue3
  t9 := Tryz.underlying9
  a9 := Tryz.isAgg9
  z9 := Tryz.sizeOf9
  v9 := Tryz.zeroValue9
  t37 := Tryz.underlying23
  a37 := Tryz.isAgg23
  z37 := Tryz.sizeOf23
  v37 := Tryz.zeroValue23
  t70 := Tryz.underlying73
  a70 := Tryz.isAgg73
  z70 := Tryz.sizeOf73
  v70 := Tryz.zeroValue73
  t72 := Tryz.underlying75
  a72 := Tryz.isAgg75
  z72 := Tryz.sizeOf75
  v72 := Tryz.zeroValue75
  t127 := Tryz.underlying109
  a127 := Tryz.isAgg109
  z127 := Tryz.sizeOf109
  v127 := Tryz.zeroValue109 }
theorem Tryz.Builder_Extra_169 : Builder.Extra Tryz.prog Tryz.lays169_ren := {
  sizeBuilder := by kernel_rfl
  liesBuilder := by kernel_rfl
  t5 := Tryz.underlying5
  a5 := Tryz.isAgg5
  z5 := Tryz.sizeOf5
  v5 := Tryz.zeroValue5
  infoByte := by kernel_rfl
  cellsByte := by kernel_rfl
  sizeByte := by kernel_rfl
  neB5 := by decide }
open Go.RowKit in
theorem Tryz.Builder_String_any (B b : Nat) (l : List UInt8) (w : World) (h : Lib.IsBuilder 75 5 B b (Lib.byteCells l) w) (hBw : B ≤ w.heap.size) :
    Calls Tryz.prog 45 #[.pointer (some ⟨b, 0, none⟩)] w fun e w' => e = .returned (.string ⟨l.toArray⟩) ∧ Below B w w' := Any.Builder_String_any Tryz.lays169 Tryz.Builder_Extra_169 B b l w h hBw
def Tryz.lays242_ren : Go.Shelf.Ren := ⟨fun | 242 => 70 | 278 => 83 | n => n, fun | 37 => 23 | 21 => 21 | 51 => 121 | 4 => 4 | 5 => 5 | 46 => 124 | n => n, fun | n => n⟩
theorem Tryz.lays242 : Go.Proofs.Lays.n242 Tryz.prog Tryz.lays242_ren := {
  mixed := by kernel_rfl
  f242 := Tryz.func70.trans (congrArg some (by kernel_rfl))
  f278 := Tryz.func83.trans (congrArg some (by kernel_rfl))
  t4 := Tryz.underlying4
  a4 := Tryz.isAgg4
  z4 := Tryz.sizeOf4
  v4 := Tryz.zeroValue4
  t5 := Tryz.underlying5
  a5 := Tryz.isAgg5
  z5 := Tryz.sizeOf5
  v5 := Tryz.zeroValue5
  t21 := Tryz.underlying21
  a21 := Tryz.isAgg21
  z21 := Tryz.sizeOf21
  v21 := Tryz.zeroValue21
  t37 := Tryz.underlying23
  a37 := Tryz.isAgg23
  z37 := Tryz.sizeOf23
  v37 := Tryz.zeroValue23
  t46 := Tryz.underlying124
  a46 := Tryz.isAgg124
  z46 := Tryz.sizeOf124
  v46 := Tryz.zeroValue124
  t51 := Tryz.underlying121
  a51 := Tryz.isAgg121
  z51 := Tryz.sizeOf121
  v51 := Tryz.zeroValue121 }
open Go.RowKit in
theorem Tryz.utf8_AppendRune_plain (B : Nat) (v : Value) (n : Nat) (xs : List Value) (r : Int) (hr0 : -2147483648 ≤ r) (hr1 : r ≤ 2147483647) (w : World) (hown : w.ownsRow B 5 1 v n xs) (hlen : n + 4 ≤ 140737488355328) (hBw : B ≤ w.heap.size) :
    Calls Tryz.prog 70 #[v, .int .i32 r] w fun e w' => ∃ v', e = .returned v' ∧ w'.ownsRow B 5 1 v' (n + (Lib.runeCells r).length) (xs ++ Lib.runeCells r) ∧ ∃ o, (w.alloc o).grownBy w' v.ownBlock := Any.utf8_AppendRune_plain Tryz.lays242 (by kernel_rfl) B v n xs r hr0 hr1 w hown hlen hBw
end Go.Proofs
