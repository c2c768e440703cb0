/-
  What a rune becomes as text.
-/
import Derived.Test.YtdgepnfgjgbkoaaDoorUtfE
import Derived.Laws.Cover4
import Derived.Laws.Runes
import Derived.WalkKit
import Derived.Below
import Derived.Test.YtdgepnfgjgbkoaaDoorSpan4
import Derived.Test.YtdgepnfgjgbkoaaDoorPureUp
import Derived.Test.YtdgepnfgjgbkoaaDoorChk
import Derived.Laws.OwnMore
namespace Go.Proofs.YtdgepnfgjgbkoaaDoor

theorem tou8 (x : Int) (n : Nat) (h : x = (n : Int)) : x.toNat.toUInt8 = UInt8.ofNat n := by
  subst h
  rfl
theorem enc_list (r : Nat) : (Utf8.encode (r : Int)).data.toList = Lib.encodeRune (r : Int) := by
  unfold Lib.encodeRune
  by_cases c1 : r < 128
  · have v : Utf8.valid (r : Int) = true := by simp [Utf8.valid]; omega
    have e : (Utf8.encode (r : Int)).data.toList = [UInt8.ofNat r] := by simp [Utf8.encode, v, c1]
    rw [Lib.encodeRuneZ_one (by omega) (by omega), e, List.map_cons, List.map_nil, tou8 _ r rfl]
  by_cases c2 : r < 2048
  · have v : Utf8.valid (r : Int) = true := by simp [Utf8.valid]; omega
    have e : (Utf8.encode (r : Int)).data.toList = [UInt8.ofNat (192 + r / 64), UInt8.ofNat (128 + r % 64)] := by simp [Utf8.encode, v, c1, c2]
    rw [Lib.encodeRuneZ_two (by omega) (by omega), e]
    simp only [List.map_cons, List.map_nil]
    rw [tou8 _ (192 + r / 64) (by omega), tou8 _ (128 + r % 64) (by omega)]
  by_cases hb : (55296 ≤ r ∧ r ≤ 57343) ∨ 1114111 < r
  · have v : Utf8.valid (r : Int) = false := by simp [Utf8.valid]; omega
    rw [Lib.encodeRuneZ_bad (by omega)]
    simp [Utf8.encode, v, Utf8.runeError]
  by_cases c3 : r < 65536
  · have v : Utf8.valid (r : Int) = true := by simp [Utf8.valid]; omega
    have e : (Utf8.encode (r : Int)).data.toList = [UInt8.ofNat (224 + r / 4096), UInt8.ofNat (128 + r / 64 % 64), UInt8.ofNat (128 + r % 64)] := by simp [Utf8.encode, v, c1, c2, c3]
    rw [Lib.encodeRuneZ_three (by omega), e]
    simp only [List.map_cons, List.map_nil]
    rw [tou8 _ (224 + r / 4096) (by omega), tou8 _ (128 + r / 64 % 64) (by omega), tou8 _ (128 + r % 64) (by omega)]
  · have v : Utf8.valid (r : Int) = true := by simp [Utf8.valid]; omega
    have e : (Utf8.encode (r : Int)).data.toList = [UInt8.ofNat (240 + r / 262144), UInt8.ofNat (128 + r / 4096 % 64), UInt8.ofNat (128 + r / 64 % 64), UInt8.ofNat (128 + r % 64)] := by simp [Utf8.encode, v, c1, c2, c3]
    rw [Lib.encodeRuneZ_four (by omega) (by omega), e]
    simp only [List.map_cons, List.map_nil]
    rw [tou8 _ (240 + r / 262144) (by omega), tou8 _ (128 + r / 4096 % 64) (by omega), tou8 _ (128 + r / 64 % 64) (by omega), tou8 _ (128 + r % 64) (by omega)]
theorem rb_go (l : List Nat) : ∀ s : ByteArray, ((l.map fun (n : Nat) => (n : Int)).foldl (fun r n => r ++ Utf8.encode n) s).data.toList = s.data.toList ++ l.flatMap fun (n : Nat) => Lib.encodeRune (n : Int) := by
  induction l with
  | nil => intro s; simp
  | cons n t ih =>
    intro s
    rw [List.map_cons, List.foldl_cons, ih, ByteArray.data_append, Array.toList_append, enc_list, List.flatMap_cons, List.append_assoc]
/-- A text made of runes. -/
theorem rb_list (l : List Nat) : (runesBytes (l.map fun (n : Nat) => (n : Int))).data.toList = l.flatMap fun (n : Nat) => Lib.encodeRune (n : Int) := by
  unfold runesBytes
  rw [rb_go]
  simp
end Go.Proofs.YtdgepnfgjgbkoaaDoor
/-
  Bytes that lie in a row of memory.
-/
namespace Go.Proofs.YtdgepnfgjgbkoaaDoor
open Go.RowKit

/-- The bytes of s lie in block g from place o on. -/
def RowAt (s : ByteArray) (g o : Nat) (w : World) : Prop := ∀ j, (h : j < s.size) → w.cell? ⟨g, o + j, none⟩ = some (.int .u8 (s[j].toNat : Int))

theorem RowAt.below {s : ByteArray} {g o B : Nat} {w w' : World} (h : RowAt s g o w) (hb : Below B w w') (hg : g < B) : RowAt s g o w' := fun j hj =>
  (hb.cell (p := ⟨g, o + j, none⟩) hg).trans (h j hj)
end Go.Proofs.YtdgepnfgjgbkoaaDoor
/-
  The contracts of octet.Span and octet.Bad of bytes.
-/
namespace Go.Proofs.YtdgepnfgjgbkoaaDoor
open Go.RowKit

theorem ret_i64B {a b : Int} (h : a = b) : Ending.returned (.int .i64 a) = .returned (.int .i64 b) := by rw [h]

set_option maxRecDepth 100000 in
set_option maxHeartbeats 400000 in
theorem span_negB (c f : Int) (s : ByteArray) (g o cap : Nat) (w : World) (hf : f < 0) :
    Calls Tryd.prog 86 #[.int .i64 c, .slice (some ⟨g, o, none⟩) s.size cap, .int .i64 f] w fun e w' => e = .returned (.int .i64 f) ∧ w' = w := by
  go_enter Tryd.func86, Tryd.ntmps86
  go_wp2
  go_ret
  exact ⟨rfl, rfl⟩

set_option maxRecDepth 100000 in
set_option maxHeartbeats 400000 in
theorem span_behindB (c f : Int) (s : ByteArray) (g o cap : Nat) (w : World) (hs : s.size ≤ maxLen) (hf : (s.size : Int) ≤ f) :
    Calls Tryd.prog 86 #[.int .i64 c, .slice (some ⟨g, o, none⟩) s.size cap, .int .i64 f] w fun e w' => e = .returned (.int .i64 f) ∧ w' = w := by
  unfold maxLen at hs
  have hn : ¬ f < 0 := by omega
  have hl : ¬ f < (s.size : Int) := by omega
  go_enter Tryd.func86, Tryd.ntmps86
  go_wp2
  refine wp_loop_rounds 1 ?_
  rw [rounds_succ]
  go_wp2
  go_ret
  exact ⟨rfl, rfl⟩

set_option maxRecDepth 100000 in
set_option maxHeartbeats 400000 in
theorem span_inB (c : Int) (f : Nat) (s : ByteArray) (g o cap : Nat) (w : World) (ht : Table w) (hr : RowAt s g o w) (hs : s.size ≤ maxLen) (hf : f ≤ s.size) :
    Calls Tryd.prog 86 #[.int .i64 c, .slice (some ⟨g, o, none⟩) s.size cap, .int .i64 f] w fun e w' => e = .returned (.int .i64 (f + badN c (s.data.toList.drop f))) ∧ w' = w := by
  unfold maxLen at hs
  have HT : Hid (Table w) := ht
  have HR : Hid (RowAt s g o w) := hr
  clear ht hr
  go_enter Tryd.func86, Tryd.ntmps86
  go_wp2
  go_loop [7] (fun i => ∃ m : Nat, m ≤ s.size ∧ i = .int .i64 m ∧ Hid (f + badN c (s.data.toList.drop f) = m + badN c (s.data.toList.drop m))) (fun i => s.size - (intOf i).toNat)
  case atStart => exact ⟨f, hf, rfl, rfl⟩
  case round =>
    obtain ⟨m, hm, rfl, HM⟩ := hrel
    by_cases hlt : m < s.size
    · have hcell := HR.out m hlt
      by_cases hb : isB c (s[m].toNat : Int) = true
      · have HN : Hid (f + badN c (s.data.toList.drop f) = (m + 1) + badN c (s.data.toList.drop (m + 1))) := by
          have := badN_yes c s.data.toList m (by simpa using hlt) hb
          show _ = _
          rw [HM.out, this]; omega
        go_wp2_with (go_at_call 71; refine (is_any _ _ _ HT.out).mono ?_; rintro e w' ⟨rfl, rfl⟩)
        go_round
        case rel => exact ⟨m + 1, by omega, by go_num, HN⟩
        case measure => simp [intOf]; omega
      · have hb' : isB c (s[m].toNat : Int) = false := by simpa using hb
        have HN : Hid (f + badN c (s.data.toList.drop f) = m) := by
          have := badN_no c s.data.toList m (by simpa using hlt) hb'
          show _ = _
          rw [HM.out, this]; omega
        clear hb
        go_wp2_with (go_at_call 71; refine (is_any _ _ _ HT.out).mono ?_; rintro e w' ⟨rfl, rfl⟩)
        go_ret
        exact ⟨ret_i64B (by have := HN.out; omega), rfl⟩
    · have HN : Hid (f + badN c (s.data.toList.drop f) = m) := by
        have := badN_end c s.data.toList m (by simp; omega)
        show _ = _
        rw [HM.out, this]; omega
      go_wp2
      go_ret
      exact ⟨ret_i64B (by have := HN.out; omega), rfl⟩

theorem span_anyB (c f : Int) (s : ByteArray) (g o cap : Nat) (w : World) (ht : Table w) (hr : RowAt s g o w) (hs : s.size ≤ maxLen) :
    Calls Tryd.prog 86 #[.int .i64 c, .slice (some ⟨g, o, none⟩) s.size cap, .int .i64 f] w fun e w' => e = .returned (.int .i64 (spanI c s.data.toList f)) ∧ w' = w := by
  by_cases h0 : f < 0
  · rw [spanI_neg _ _ _ h0]
    exact span_negB c f s g o cap w h0
  · by_cases h1 : (s.size : Int) ≤ f
    · rw [spanI_behind _ _ _ (by simpa using h1)]
      exact span_behindB c f s g o cap w hs h1
    · obtain ⟨n, rfl⟩ := Int.eq_ofNat_of_zero_le (show 0 ≤ f by omega)
      rw [spanI_nat]
      exact span_inB c n s g o cap w ht hr hs (by omega)

set_option maxRecDepth 100000 in
theorem bad_anyB (c : Int) (s : ByteArray) (g o cap : Nat) (w : World) (ht : Table w) (hr : RowAt s g o w) (hs : s.size ≤ maxLen) :
    Calls Tryd.prog 65 #[.int .i64 c, .slice (some ⟨g, o, none⟩) s.size cap] w fun e w' => e = .returned (.int .i64 (badN c s.data.toList)) ∧ w' = w := by
  have hz := spanI_zero c s.data.toList
  go_enter Tryd.func65, Tryd.ntmps65
  go_wp2_with fail
  refine (span_anyB c 0 s g o cap _ ht hr hs).mono ?_
  rintro e w' ⟨rfl, rfl⟩
  go_wp2
  go_ret
  exact ⟨rfl, rfl⟩
end Go.Proofs.YtdgepnfgjgbkoaaDoor
/-
  Rows of numbers in memory, of any kind of whole numbers, and such rows that a call makes for itself.
-/
namespace Go.Proofs.YtdgepnfgjgbkoaaDoor
open Go.RowKit

/-- Numbers as cells. -/
def cellsN (k : IntKind) (l : List Int) : List Value := l.map fun x => Value.int k x
theorem cellsN_length (k : IntKind) (l : List Int) : (cellsN k l).length = l.length := by simp [cellsN]
theorem cellsN_append (k : IntKind) (l r : List Int) : cellsN k (l ++ r) = cellsN k l ++ cellsN k r := by simp [cellsN]
theorem cellsN_at (k : IntKind) (l : List Int) (j : Nat) (h : j < l.length) : (cellsN k l)[j]? = some (.int k l[j]) := by simp [cellsN, List.getElem?_eq_getElem h]
theorem cellsN_one (k : IntKind) (l : List Int) : ∀ v ∈ cellsN k l, v.oneCell' = true := by
  intro v hv
  simp only [cellsN, List.mem_map] at hv
  obtain ⟨b, _, rfl⟩ := hv
  rfl
/-- A list's address and the numbers that lie there. -/
def Nts (k : IntKind) (a : Option Addr) (l : List Int) (w : World) : Prop := l = [] ∨ ∃ g o, a = some ⟨g, o, none⟩ ∧ g < w.heap.size ∧ ∀ j, (h : j < l.length) → w.cell? ⟨g, o + j, none⟩ = some (.int k l[j])
theorem Nts.below {k : IntKind} {a : Option Addr} {l : List Int} {w w' : World} (h : Nts k a l w) (hb : Below w.heap.size w w') : Nts k a l w' := by
  rcases h with h | ⟨g, o, e, hg, hr⟩
  · exact .inl h
  · exact .inr ⟨g, o, e, Nat.lt_of_lt_of_le hg hb.size, fun j hj => (hb.cell (p := ⟨g, o + j, none⟩) hg).trans (hr j hj)⟩
theorem Nts.cell {k : IntKind} {a : Option Addr} {l : List Int} {w : World} (h : Nts k a l w) (j : Nat) (hj : j < l.length) : ∃ g o, a = some ⟨g, o, none⟩ ∧ g < w.heap.size ∧ w.cell? ⟨g, o + j, none⟩ = some (.int k l[j]) := by
  rcases h with rfl | ⟨g, o, e, hg, hr⟩
  · simp at hj
  · exact ⟨g, o, e, hg, hr j hj⟩
theorem Nts.but {k : IntKind} {g : Nat} {a : Option Addr} {l : List Int} {w w' : World} (hb : Nts k a l w) (h : But g w w') (hne : ∀ ad, a = some ad → ad.block ≠ g) : Nts k a l w' := by
  rcases hb with hb | ⟨b, o, e, hb, hr⟩
  · exact .inl hb
  · exact .inr ⟨b, o, e, Nat.lt_of_lt_of_le hb h.size, fun j hj => (World.cell?_of_block (w := w) (a := ⟨b, o + j, none⟩) (h.block b hb (hne _ e))).trans (hr j hj)⟩
theorem nts_none {k : IntKind} {l : List Int} {w : World} (h : Nts k none l w) : l = [] := by
  rcases h with h | ⟨g, o, e, _⟩
  · exact h
  · cases e
theorem nts_news {k : IntKind} {ad : Addr} {l : List Int} {w : World} (h : Nts k (some ad) l w) : ∀ j u, (cellsN k l)[j]? = some u → w.cell? (ad.add j) = some u := by
  intro j u hu
  have hj : j < l.length := by
    have := (List.getElem?_eq_some_iff.1 hu).1
    simpa [cellsN] using this
  obtain ⟨g, o, e, _, hc⟩ := h.cell j hj
  injection e with e
  subst e
  rw [Addr.add_lit, hc, ← hu, cellsN_at k l j hj]
/-- A row that the call made, as a list of numbers. -/
theorem own_nts {w : World} {k : IntKind} {base n e : Nat} {v : Value} {l : List Int} (h : w.ownsRow base e 1 v n (cellsN k l)) : ∃ a cap, v = .slice a n cap ∧ Nts k a l w ∧ l.length = n ∧ (a = none → cap = 0) ∧ n ≤ cap ∧ ∀ ad, a = some ad → base ≤ ad.block ∧ ad.block < w.heap.size ∧ ad.off = 0 ∧ ad.spot = none := by
  obtain ⟨h1, h2⟩ := id h
  have hl : l.length = n := by rw [cellsN_length] at h1; omega
  rcases h2 with ⟨rfl, h0⟩ | ⟨g, cap, cur, rfl, hb, hg, hcap, _⟩
  · exact ⟨none, 0, by rw [h0], .inl (List.eq_nil_of_length_eq_zero (hl.trans h0)), hl, fun _ => rfl, by omega, fun ad e => by cases e⟩
  · refine ⟨_, cap, rfl, .inr ⟨g, 0, rfl, (Array.getElem?_eq_some_iff.1 hg).1, fun j hj => ?_⟩, hl, (fun e => by cases e), hcap, fun ad e => ?_⟩
    · have := h.cellAt j (by omega)
      rw [Nat.zero_add, this, cellsN_at k l j hj]
    · injection e with e
      subst e
      exact ⟨hb, (Array.getElem?_eq_some_iff.1 hg).1, rfl, rfl⟩
theorem ownN_keep {w w' : World} {B n e m : Nat} {v : Value} {xs : List Value} (h : w.ownsRow B e m v n xs) (hb : ∀ k, v.ownBlock = some k → w'.heap[k]? = w.heap[k]?) : w'.ownsRow B e m v n xs := by
  obtain ⟨h1, h2⟩ := h
  refine ⟨h1, ?_⟩
  rcases h2 with h2 | ⟨g, cap, cur, rfl, hB, hg, hr⟩
  · exact .inl h2
  · exact .inr ⟨g, cap, cur, rfl, hB, by rw [hb g rfl]; exact hg, hr⟩
theorem ownN_below {w w' : World} {B n e m : Nat} {v : Value} {xs : List Value} (h : w.ownsRow B e m v n xs) (hb : Below w.heap.size w w') : w'.ownsRow B e m v n xs := ownN_keep h (fun k hk => hb.block k (h.lt k hk).2)
theorem ownN_apart {w : World} {B n e m g t : Nat} {v : Value} {xs : List Value} {cs : Array Value} (h : w.ownsRow B e m v n xs) (hl : Lies w g cs t) (ht : t ≠ e) : ∀ k, v.ownBlock = some k → k ≠ g := by
  intro k hk e
  subst e
  rcases h.2 with ⟨rfl, _⟩ | ⟨g', cap, cur, rfl, hB, hg, _⟩
  · cases hk
  · injection hk with hk
    subst hk
    exact ht (lies_kind hl hg)
theorem ownN_shape {w : World} {base n e m : Nat} {v : Value} {xs : List Value} (h : w.ownsRow base e m v n xs) : ∃ a cap, v = .slice a n cap := by
  rcases h.2 with ⟨rfl, h0⟩ | ⟨g, cap, cur, hv, _⟩
  · exact ⟨none, 0, by rw [h0]⟩
  · exact ⟨_, _, hv⟩
/-- One number that has just been laid. -/
theorem one_nts (w : World) (t : TypeId) (k : IntKind) (x : Int) : Nts k (some ⟨w.heap.size, 0, none⟩) [x] (w.alloc (.cells #[.int k x] t)) :=
  .inr ⟨w.heap.size, 0, rfl, by simp, fun j hj => by
    obtain rfl : j = 0 := by simpa using hj
    simp⟩
/-- One number more behind a row of the call's own. -/
theorem wpList_append_num {ops : Array Oper} {rest : List Oper} {o : Oper} {a : Act} {w : World} {Q : Exit → Act → World → Prop} (hgd : o.guard = none) (s x : Operand) (T e by' : Nat) (k : IntKind)
    (hT : Tryd.prog.underlying T = some (.slice e)) (hI : (Tryd.prog.info? e).map (fun i => (i.zero, i.size, i.bytes)) = some (some (.int k 0), 1, by')) (hby : 0 < by')
    (ho : o.op = .call { callee := .builtin .append, args := #[s, x], argTypes := #[T, T] }) (base : Nat) (v : Value) (n : Nat) (xs : List Int) (hs : a.eval s = v) (hown : w.ownsRow base e 1 v n (cellsN k xs))
    (ad : Addr) (y : Int) (c : Nat) (hx : a.eval x = .slice (some ad) 1 c) (hb : Nts k (some ad) [y] w) (hbytes : (n + 1) * by' ≤ 140737488355328) (hbase : base ≤ w.heap.size)
    (h : ∀ v' w', w'.ownsRow base e 1 v' (n + 1) (cellsN k (xs ++ [y])) → w.grownBy w' v.ownBlock → wpList Tryd.prog ops Q rest (a.put o.dst v') w') : wpList Tryd.prog ops Q (o :: rest) a w := by
  obtain ⟨i0, hi, hz0, hz1, hz2⟩ := info_parts hI
  have hn : n + 1 ≤ 140737488355328 := Nat.le_trans (Nat.le_mul_of_pos_right _ hby) hbytes
  refine wpList_append_own _ hgd s x T ho base e i0 (.int k 0) 1 by' hT hi hz0 hz1 hz2 rfl (by decide) v n _ hs hown ad 1 c (cellsN k [y]) hx (by rw [cellsN_length]; rfl) (nts_news hb) (cellsN_one k _) (by unfold maxLen; omega) hbytes hbase ?_
  intro v' w' hown' hgrow _
  exact h v' w' (by rw [cellsN_append]; exact hown') hgrow
theorem own_nilN (w : World) (B e : Nat) (k : IntKind) : w.ownsRow B e 1 (.slice none 0 0) 0 (cellsN k []) := ⟨rfl, .inl ⟨rfl, rfl⟩⟩
theorem madeN (k : IntKind) (n : Nat) : (madeCells #[Value.int k 0] n).toList = cellsN k (List.replicate n 0) := by
  apply List.ext_getElem?
  intro i
  by_cases h : i < n
  · simp [madeCells, cellsN, h, Nat.mod_one]
  · rw [List.getElem?_eq_none (by simp [madeCells]; omega), List.getElem?_eq_none (by simp [cellsN]; omega)]
/-- A row of noughts with room behind it. -/
theorem make_roomN (w : World) (T e by' : Nat) (k : IntKind) (hT : Tryd.prog.underlying T = some (.slice e)) (hI : (Tryd.prog.info? e).map (fun i => (i.zero, i.size, i.bytes)) = some (some (.int k 0), 1, by')) (hby : 0 < by')
    (n c : Nat) (x y : Int) (hx : x = (n : Int)) (hy : y = (c : Int)) (hc : n ≤ c) (hl : by' * c ≤ 281474976710656) (base : Nat) (hb : base ≤ w.heap.size) :
    ∃ w', (Instr.makeSlice T (.int .i64 x) (.int .i64 y)).run Tryd.prog w = .ok (.slice (some ⟨w.heap.size, 0, none⟩) n c) w' ∧
      w'.ownsRow base e 1 (.slice (some ⟨w.heap.size, 0, none⟩) n c) n (cellsN k (List.replicate n 0)) ∧ Below w.heap.size w w' ∧ w'.heap.size = w.heap.size + 1 := by
  subst hx hy
  obtain ⟨i0, hi, hz0, hz1, hz2⟩ := info_parts hI
  have hcl : c ≤ 281474976710656 := Nat.le_trans (Nat.le_mul_of_pos_left _ hby) hl
  have hr := run_make (P := Tryd.prog) w T e i0 (.int k 0) hT hi hz0 .i64 .i64 n c (by omega) (by omega) (by rw [hz2]; first | omega | exact (by exact_mod_cast hl) | (rw [Nat.mul_comm]; exact (by exact_mod_cast hl))) (by omega)
  rw [hz1, Nat.mul_one, Int.toNat_natCast, Int.toNat_natCast] at hr
  refine ⟨_, hr, ?_, (Below.refl _ _).alloc (Nat.le_refl _) _, by simp⟩
  refine ⟨by rw [cellsN_length]; simp, .inr ⟨w.heap.size, c, _, rfl, hb, heap_alloc_last w _, hc, by unfold maxLen; omega, by rw [size_madeCells, Nat.mul_one], ?_⟩⟩
  show ((madeCells #[Value.int k 0] c).toList).take (n * 1) = _
  rw [madeN, Nat.mul_one]
  simp [cellsN, Nat.min_eq_left hc]

theorem infoR : (Tryd.prog.info? 21).map (fun i => (i.zero, i.size, i.bytes)) = some (some (.int .i32 0), 1, 4) := by kernel_rfl
theorem infoI : (Tryd.prog.info? 3).map (fun i => (i.zero, i.size, i.bytes)) = some (some (.int .i64 0), 1, 8) := by kernel_rfl
end Go.Proofs.YtdgepnfgjgbkoaaDoor
