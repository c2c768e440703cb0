/-
  Rows of numbers in memory, of any kind of whole numbers, and such rows that a call makes for itself.
-/
import Derived.Test.YtdgepnfgjgbkoaaDoorGrown
import Derived.Laws.OwnMore
import Derived.Test.YtdgepnfgjgbkoaaDoorSpan4
import Derived.Test.YtdgepnfgjgbkoaaDoorPureUp
import Derived.Deep.RegionHeld3
namespace Go.Proofs.YtdgepnfgjgbkoaaDoor
open Go.RowKit

/-- Numbers as cells. -/
def cellsN (k : IntKind) (l : List Int) : List Value := l.map fun x => Value.int k x
theorem cellsN_length (k : IntKind) (l : List Int) : (cellsN k l).length = l.length := by simp [cellsN]
theorem cellsN_append (k : IntKind) (l r : List Int) : cellsN k (l ++ r) = cellsN k l ++ cellsN k r := by simp [cellsN]
theorem cellsN_at (k : IntKind) (l : List Int) (j : Nat) (h : j < l.length) : (cellsN k l)[j]? = some (.int k l[j]) := by simp [cellsN, List.getElem?_eq_getElem h]
theorem cellsN_one (k : IntKind) (l : List Int) : ∀ v ∈ cellsN k l, v.oneCell' = true := by
  intro v hv
  simp only [cellsN, List.mem_map] at hv
  obtain ⟨b, _, rfl⟩ := hv
  rfl
/-- A list's address and the numbers that lie there. -/
def Nts (k : IntKind) (a : Option Addr) (l : List Int) (w : World) : Prop := l = [] ∨ ∃ g o, a = some ⟨g, o, none⟩ ∧ g < w.heap.size ∧ ∀ j, (h : j < l.length) → w.cell? ⟨g, o + j, none⟩ = some (.int k l[j])
theorem Nts.below {k : IntKind} {a : Option Addr} {l : List Int} {w w' : World} (h : Nts k a l w) (hb : Below w.heap.size w w') : Nts k a l w' := by
  rcases h with h | ⟨g, o, e, hg, hr⟩
  · exact .inl h
  · exact .inr ⟨g, o, e, Nat.lt_of_lt_of_le hg hb.size, fun j hj => (hb.cell (p := ⟨g, o + j, none⟩) hg).trans (hr j hj)⟩
theorem Nts.cell {k : IntKind} {a : Option Addr} {l : List Int} {w : World} (h : Nts k a l w) (j : Nat) (hj : j < l.length) : ∃ g o, a = some ⟨g, o, none⟩ ∧ g < w.heap.size ∧ w.cell? ⟨g, o + j, none⟩ = some (.int k l[j]) := by
  rcases h with rfl | ⟨g, o, e, hg, hr⟩
  · simp at hj
  · exact ⟨g, o, e, hg, hr j hj⟩
theorem Nts.but {k : IntKind} {g : Nat} {a : Option Addr} {l : List Int} {w w' : World} (hb : Nts k a l w) (h : But g w w') (hne : ∀ ad, a = some ad → ad.block ≠ g) : Nts k a l w' := by
  rcases hb with hb | ⟨b, o, e, hb, hr⟩
  · exact .inl hb
  · exact .inr ⟨b, o, e, Nat.lt_of_lt_of_le hb h.size, fun j hj => (World.cell?_of_block (w := w) (a := ⟨b, o + j, none⟩) (h.block b hb (hne _ e))).trans (hr j hj)⟩
theorem nts_none {k : IntKind} {l : List Int} {w : World} (h : Nts k none l w) : l = [] := by
  rcases h with h | ⟨g, o, e, _⟩
  · exact h
  · cases e
theorem nts_news {k : IntKind} {ad : Addr} {l : List Int} {w : World} (h : Nts k (some ad) l w) : ∀ j u, (cellsN k l)[j]? = some u → w.cell? (ad.add j) = some u := by
  intro j u hu
  have hj : j < l.length := by
    have := (List.getElem?_eq_some_iff.1 hu).1
    simpa [cellsN] using this
  obtain ⟨g, o, e, _, hc⟩ := h.cell j hj
  injection e with e
  subst e
  rw [Addr.add_lit, hc, ← hu, cellsN_at k l j hj]
/-- A row that the call made, as a list of numbers. -/
theorem own_nts {w : World} {k : IntKind} {base n e : Nat} {v : Value} {l : List Int} (h : w.ownsRow base e 1 v n (cellsN k l)) : ∃ a cap, v = .slice a n cap ∧ Nts k a l w ∧ l.length = n ∧ (a = none → cap = 0) ∧ n ≤ cap ∧ ∀ ad, a = some ad → base ≤ ad.block ∧ ad.block < w.heap.size ∧ ad.off = 0 ∧ ad.spot = none := by
  obtain ⟨h1, h2⟩ := id h
  have hl : l.length = n := by rw [cellsN_length] at h1; omega
  rcases h2 with ⟨rfl, h0⟩ | ⟨g, cap, cur, rfl, hb, hg, hcap, _⟩
  · exact ⟨none, 0, by rw [h0], .inl (List.eq_nil_of_length_eq_zero (hl.trans h0)), hl, fun _ => rfl, by omega, fun ad e => by cases e⟩
  · refine ⟨_, cap, rfl, .inr ⟨g, 0, rfl, (Array.getElem?_eq_some_iff.1 hg).1, fun j hj => ?_⟩, hl, (fun e => by cases e), hcap, fun ad e => ?_⟩
    · have := h.cellAt j (by omega)
      rw [Nat.zero_add, this, cellsN_at k l j hj]
    · injection e with e
      subst e
      exact ⟨hb, (Array.getElem?_eq_some_iff.1 hg).1, rfl, rfl⟩
theorem ownN_keep {w w' : World} {B n e m : Nat} {v : Value} {xs : List Value} (h : w.ownsRow B e m v n xs) (hb : ∀ k, v.ownBlock = some k → w'.heap[k]? = w.heap[k]?) : w'.ownsRow B e m v n xs := by
  obtain ⟨h1, h2⟩ := h
  refine ⟨h1, ?_⟩
  rcases h2 with h2 | ⟨g, cap, cur, rfl, hB, hg, hr⟩
  · exact .inl h2
  · exact .inr ⟨g, cap, cur, rfl, hB, by rw [hb g rfl]; exact hg, hr⟩
theorem ownN_below {w w' : World} {B n e m : Nat} {v : Value} {xs : List Value} (h : w.ownsRow B e m v n xs) (hb : Below w.heap.size w w') : w'.ownsRow B e m v n xs := ownN_keep h (fun k hk => hb.block k (h.lt k hk).2)
theorem ownN_apart {w : World} {B n e m g t : Nat} {v : Value} {xs : List Value} {cs : Array Value} (h : w.ownsRow B e m v n xs) (hl : Lies w g cs t) (ht : t ≠ e) : ∀ k, v.ownBlock = some k → k ≠ g := by
  intro k hk e
  subst e
  rcases h.2 with ⟨rfl, _⟩ | ⟨g', cap, cur, rfl, hB, hg, _⟩
  · cases hk
  · injection hk with hk
    subst hk
    exact ht (lies_kind hl hg)
theorem ownN_shape {w : World} {base n e m : Nat} {v : Value} {xs : List Value} (h : w.ownsRow base e m v n xs) : ∃ a cap, v = .slice a n cap := by
  rcases h.2 with ⟨rfl, h0⟩ | ⟨g, cap, cur, hv, _⟩
  · exact ⟨none, 0, by rw [h0]⟩
  · exact ⟨_, _, hv⟩
/-- One number that has just been laid. -/
theorem one_nts (w : World) (t : TypeId) (k : IntKind) (x : Int) : Nts k (some ⟨w.heap.size, 0, none⟩) [x] (w.alloc (.cells #[.int k x] t)) :=
  .inr ⟨w.heap.size, 0, rfl, by simp, fun j hj => by
    obtain rfl : j = 0 := by simpa using hj
    simp⟩
/-- One number more behind a row of the call's own. -/
theorem wpList_append_num {ops : Array Oper} {rest : List Oper} {o : Oper} {a : Act} {w : World} {Q : Exit → Act → World → Prop} (hgd : o.guard = none) (s x : Operand) (T e by' : Nat) (k : IntKind)
    (hT : Tryd.prog.underlying T = some (.slice e)) (hI : (Tryd.prog.info? e).map (fun i => (i.zero, i.size, i.bytes)) = some (some (.int k 0), 1, by')) (hby : 0 < by')
    (ho : o.op = .call { callee := .builtin .append, args := #[s, x], argTypes := #[T, T] }) (base : Nat) (v : Value) (n : Nat) (xs : List Int) (hs : a.eval s = v) (hown : w.ownsRow base e 1 v n (cellsN k xs))
    (ad : Addr) (y : Int) (c : Nat) (hx : a.eval x = .slice (some ad) 1 c) (hb : Nts k (some ad) [y] w) (hbytes : (n + 1) * by' ≤ 140737488355328) (hbase : base ≤ w.heap.size)
    (h : ∀ v' w', w'.ownsRow base e 1 v' (n + 1) (cellsN k (xs ++ [y])) → w.grownBy w' v.ownBlock → wpList Tryd.prog ops Q rest (a.put o.dst v') w') : wpList Tryd.prog ops Q (o :: rest) a w := by
  obtain ⟨i0, hi, hz0, hz1, hz2⟩ := info_parts hI
  have hn : n + 1 ≤ 140737488355328 := Nat.le_trans (Nat.le_mul_of_pos_right _ hby) hbytes
  refine wpList_append_own _ hgd s x T ho base e i0 (.int k 0) 1 by' hT hi hz0 hz1 hz2 rfl (by decide) v n _ hs hown ad 1 c (cellsN k [y]) hx (by rw [cellsN_length]; rfl) (nts_news hb) (cellsN_one k _) (by unfold maxLen; omega) hbytes hbase ?_
  intro v' w' hown' hgrow _
  exact h v' w' (by rw [cellsN_append]; exact hown') hgrow
theorem own_nilN (w : World) (B e : Nat) (k : IntKind) : w.ownsRow B e 1 (.slice none 0 0) 0 (cellsN k []) := ⟨rfl, .inl ⟨rfl, rfl⟩⟩
theorem madeN (k : IntKind) (n : Nat) : (madeCells #[Value.int k 0] n).toList = cellsN k (List.replicate n 0) := by
  apply List.ext_getElem?
  intro i
  by_cases h : i < n
  · simp [madeCells, cellsN, h, Nat.mod_one]
  · rw [List.getElem?_eq_none (by simp [madeCells]; omega), List.getElem?_eq_none (by simp [cellsN]; omega)]
/-- A row of noughts with room behind it. -/
theorem make_roomN (w : World) (T e by' : Nat) (k : IntKind) (hT : Tryd.prog.underlying T = some (.slice e)) (hI : (Tryd.prog.info? e).map (fun i => (i.zero, i.size, i.bytes)) = some (some (.int k 0), 1, by')) (hby : 0 < by')
    (n c : Nat) (x y : Int) (hx : x = (n : Int)) (hy : y = (c : Int)) (hc : n ≤ c) (hl : by' * c ≤ 281474976710656) (base : Nat) (hb : base ≤ w.heap.size) :
    ∃ w', (Instr.makeSlice T (.int .i64 x) (.int .i64 y)).run Tryd.prog w = .ok (.slice (some ⟨w.heap.size, 0, none⟩) n c) w' ∧
      w'.ownsRow base e 1 (.slice (some ⟨w.heap.size, 0, none⟩) n c) n (cellsN k (List.replicate n 0)) ∧ Below w.heap.size w w' ∧ w'.heap.size = w.heap.size + 1 := by
  subst hx hy
  obtain ⟨i0, hi, hz0, hz1, hz2⟩ := info_parts hI
  have hcl : c ≤ 281474976710656 := Nat.le_trans (Nat.le_mul_of_pos_left _ hby) hl
  have hr := run_make (P := Tryd.prog) w T e i0 (.int k 0) hT hi hz0 .i64 .i64 n c (by omega) (by omega) (by rw [hz2]; first | omega | exact (by exact_mod_cast hl) | (rw [Nat.mul_comm]; exact (by exact_mod_cast hl))) (by omega)
  rw [hz1, Nat.mul_one, Int.toNat_natCast, Int.toNat_natCast] at hr
  refine ⟨_, hr, ?_, (Below.refl _ _).alloc (Nat.le_refl _) _, by simp⟩
  refine ⟨by rw [cellsN_length]; simp, .inr ⟨w.heap.size, c, _, rfl, hb, heap_alloc_last w _, hc, by unfold maxLen; omega, by rw [size_madeCells, Nat.mul_one], ?_⟩⟩
  show ((madeCells #[Value.int k 0] c).toList).take (n * 1) = _
  rw [madeN, Nat.mul_one]
  simp [cellsN, Nat.min_eq_left hc]

theorem infoR : (Tryd.prog.info? 21).map (fun i => (i.zero, i.size, i.bytes)) = some (some (.int .i32 0), 1, 4) := by kernel_rfl
theorem infoI : (Tryd.prog.info? 3).map (fun i => (i.zero, i.size, i.bytes)) = some (some (.int .i64 0), 1, 8) := by kernel_rfl
end Go.Proofs.YtdgepnfgjgbkoaaDoor
/-
  The contracts of octet.Unhex and of its helper.
-/
namespace Go.Proofs.YtdgepnfgjgbkoaaDoor
open Go.RowKit

theorem Table.keep {w w' : World} (h : Table w) (hb : Below w.heap.size w w') : Table w' := by
  intro c hc
  have h0 : (1 : Nat) < w.heap.size := World.block_lt_of_cell? w _ (h c hc)
  rw [hb.cell (p := ⟨1, c, none⟩) h0]
  exact h c hc

set_option maxHeartbeats 400000 in
theorem hexv_any (c : Nat) (w : World) (h0 : 48 ≤ c) (h1 : c ≤ 102) :
    Calls Tryd.prog 103 #[.int .u8 (c : Int)] w fun e w' => e = .returned (.int .u8 (hexV c : Int)) ∧ w' = w := by
  by_cases a : 97 ≤ c
  · have e : ((hexV c : Nat) : Int) = (c : Int) - 97 + 10 := by unfold hexV; rw [if_pos a]; omega
    rw [e]
    go_enter Tryd.func103, Tryd.ntmps103
    go_wp2
    go_ret
    exact ⟨rfl, rfl⟩
  · by_cases b : 65 ≤ c
    · have e : ((hexV c : Nat) : Int) = (c : Int) - 65 + 10 := by unfold hexV; rw [if_neg a, if_pos b]; omega
      rw [e]
      go_enter Tryd.func103, Tryd.ntmps103
      go_wp2
      go_ret
      exact ⟨rfl, rfl⟩
    · have e : ((hexV c : Nat) : Int) = (c : Int) - 48 := by unfold hexV; rw [if_neg a, if_neg b]; omega
      rw [e]
      go_enter Tryd.func103, Tryd.ntmps103
      go_wp2
      go_ret
      exact ⟨rfl, rfl⟩

set_option maxRecDepth 100000 in
set_option maxHeartbeats 1000000 in
theorem unhex_bad (s : ByteArray) (w : World) (ht : Table w) (hs : s.size ≤ maxLen) (hok : ¬ hexOk s.data.toList) :
    Calls Tryd.prog 85 #[.string s] w fun e w' => e = .returned (.tuple #[.slice none 0 0, .agg #[.int .i64 10, .int .i64 (badN 4 s.data.toList)]]) ∧ Below w.heap.size w w' := by
  have hl : s.data.toList.length = s.size := by rw [Array.length_toList]; rfl
  unfold hexOk at hok
  rw [hl] at hok
  have hb := badN_le 4 s.data.toList
  rw [hl] at hb
  have ms := hs
  unfold maxLen at ms
  have HT : Hid (Table w) := ht
  obtain ⟨n, hn⟩ : ∃ n : Nat, n = badN 4 s.data.toList := ⟨_, rfl⟩
  have hn' : badN 4 s.data.toList = n := hn.symm
  rw [← hn] at hok hb
  clear hn hl ht
  by_cases h1 : n < s.size
  · go_enter Tryd.func85, Tryd.ntmps85
    go_wp2_with fail
    refine (bad_anyT 4 s _ (HT.out.keep ((Below.refl _ _).alloc (Nat.le_refl _) _)) hs).mono ?_
    rintro e w' ⟨rfl, rfl⟩
    go_wp2
    refine bodyPost_ret (v := .tuple #[.slice none 0 0, .agg #[.int .i64 10, .int .i64 (n : Int)]]) (by simp [results, Tryd.results85, go_sem]) rfl ⟨by rw [hn'], ?_⟩
    exact (Below.refl _ _).alloc (Nat.le_refl _) _
  · have h2 : ((s.size : Int) % 2 != 0) = true := by simp; omega
    go_enter Tryd.func85, Tryd.ntmps85
    go_wp2_with fail
    refine (bad_anyT 4 s _ (HT.out.keep ((Below.refl _ _).alloc (Nat.le_refl _) _)) hs).mono ?_
    rintro e w' ⟨rfl, rfl⟩
    go_wp2
    refine bodyPost_ret (v := .tuple #[.slice none 0 0, .agg #[.int .i64 10, .int .i64 (n : Int)]]) (by simp [results, Tryd.results85, go_sem]) rfl ⟨by rw [hn'], ?_⟩
    exact (Below.refl _ _).alloc (Nat.le_refl _) _
end Go.Proofs.YtdgepnfgjgbkoaaDoor
