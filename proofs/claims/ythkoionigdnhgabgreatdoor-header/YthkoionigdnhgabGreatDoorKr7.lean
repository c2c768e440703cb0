/-
  lineEnd, isBlank, lay.
-/
import Derived.Test.YthkoionigdnhgabGreatDoorTx10
import Derived.Test.YthkoionigdnhgabGreatDoorOwn7
import Derived.Lib.AppendZerosOnto
import Derived.RangeFuncNested
namespace Go.Proofs.YthkoionigdnhgabGreatDoor
open Go.RowKit

theorem u8v {c n : UInt8} {m : Int} (h : c = n) (hm : m = (n.toNat : Int) := by rfl) : ((c.toNat : Int) == m) = true := by
  subst h hm
  simp
theorem u8w {c n : UInt8} {m : Int} (h : ¬ c = n) (hm : m = (n.toNat : Int) := by rfl) : ((c.toNat : Int) == m) = false := by
  rw [(beq_u8 c n m hm).1]
  simp [h]
theorem isb_any (b : UInt8) (w : World) : Calls Tryz.prog 58 #[.int .u8 (b.toNat : Int)] w fun e w' => e = .returned (.bool (blB b)) ∧ w' = w := by
  unfold blB
  by_cases h1 : b = 32
  · have k1 := u8v (m := 32) h1
    have e1 : (b == 32) = true := by simp [h1]
    rw [e1]
    clear h1 e1
    go_enter Tryz.func58, Tryz.ntmps58
    go_wp2
    go_ret
    exact ⟨rfl, rfl⟩
  · have k1 := u8w (m := 32) h1
    have e1 : (b == 32) = false := by simp [h1]
    rw [e1]
    by_cases h2 : b = 9
    · have k2 := u8v (m := 9) h2
      have e2 : (b == 9) = true := by simp [h2]
      rw [e2]
      clear h1 e1 h2 e2
      go_enter Tryz.func58, Tryz.ntmps58
      go_wp2
      go_ret
      exact ⟨rfl, rfl⟩
    · have k2 := u8w (m := 9) h2
      have e2 : (b == 9) = false := by simp [h2]
      rw [e2]
      clear h1 e1 h2 e2
      go_enter Tryz.func58, Tryz.ntmps58
      go_wp2
      go_ret
      exact ⟨rfl, rfl⟩
theorem leH_no (l : List UInt8) (a : Nat) (h : ¬ a + 1 < l.length) : leH (l.drop a) = false := by
  rw [leH_at, List.getElem?_eq_none (i := a + 1) (by omega)]
  simp
theorem leH_yes (l : List UInt8) (a : Nat) (h : a + 1 < l.length) : leH (l.drop a) = (decide (l[a] = 13) && decide (l[a + 1] = 10)) := by
  rw [leH_at, List.getElem?_eq_getElem h, List.getElem?_eq_getElem (show a < l.length by omega)]
  rw [Bool.eq_iff_iff]
  simp
set_option maxHeartbeats 1000000 in
theorem les_any (s : ByteArray) (a : Nat) (hs : s.size ≤ 281474976710656) (ha : a ≤ 281474976710656) (w : World) : Calls Tryz.prog 57 #[.string s, .int .i64 (a : Int)] w fun e w' => e = .returned (.bool (leH (s.data.toList.drop a))) ∧ w' = w := by
  by_cases h : a + 1 < s.size
  · have hr := leH_yes s.data.toList a (by rw [len_list]; exact h)
    rw [at_list s a (by omega), at_list s (a + 1) h] at hr
    rw [hr]
    clear hr
    have h' : (a : Int) + 1 < (s.size : Int) := by omega
    have e1 : IntKind.i64.wrap ((a : Int) + 1) = (a : Int) + 1 := by rw [IntKind.wrap_i64]; omega
    have ga : a < s.size := by omega
    by_cases h1 : s[a] = 13
    · have k1 := u8v (m := 13) h1
      by_cases h2 : s[a + 1] = 10
      · have k2 := u8v (m := 10) h2
        rw [decide_eq_true h1, decide_eq_true h2]
        go_enter Tryz.func57, Tryz.ntmps57
        go_wp2
        go_ret
        exact ⟨rfl, rfl⟩
      · have k2 := u8w (m := 10) h2
        rw [decide_eq_true h1, decide_eq_false h2]
        go_enter Tryz.func57, Tryz.ntmps57
        go_wp2
        go_ret
        exact ⟨rfl, rfl⟩
    · have k1 := u8w (m := 13) h1
      rw [decide_eq_false h1, Bool.false_and]
      go_enter Tryz.func57, Tryz.ntmps57
      go_wp2
      go_ret
      exact ⟨rfl, rfl⟩
  · rw [leH_no _ _ (by rw [len_list]; exact h)]
    have h' : ¬ (a : Int) + 1 < (s.size : Int) := by omega
    have e1 : IntKind.i64.wrap ((a : Int) + 1) = (a : Int) + 1 := by rw [IntKind.wrap_i64]; omega
    go_enter Tryz.func57, Tryz.ntmps57
    go_wp2
    go_ret
    exact ⟨rfl, rfl⟩
/-- Texts side by side. -/
def catT (ts : List ByteArray) : List UInt8 := ts.flatMap fun t => t.data.toList
theorem catT_take (ts : List ByteArray) (k : Nat) (h : k < ts.length) : catT (ts.take (k + 1)) = catT (ts.take k) ++ ts[k].data.toList := by
  unfold catT
  rw [List.take_succ_eq_append_getElem h, List.flatMap_append]
  simp
theorem catT_len (ts : List ByteArray) (k : Nat) : (catT (ts.take k)).length ≤ (catT ts).length := by
  unfold catT
  conv => rhs; rw [← List.take_append_drop k ts]
  rw [List.flatMap_append, List.length_append]
  omega
theorem strCells_is (s : ByteArray) : Lib.strCells s = cellsB s.data.toList := rfl
/-- Rows of bytes from block B on. -/
def Fb6 (B : Nat) (w : World) (k : Nat) : Prop := B ≤ k ∧ ∃ cur, w.heap[k]? = some (.cells cur 5 (0, 0))
theorem chg_row {B n : Nat} {w w1 w2 : World} {u : Value} {xs : List Value} (h : Chg (Fb6 B w) w w1) (ho : w1.ownsRow B 5 1 u n xs) (hg : w1.grownBy w2 u.ownBlock) : Chg (Fb6 B w) w w2 := h.grown hg (fun k hk => by
  rcases ho.2 with ⟨rfl, _⟩ | ⟨g, cap, cur, rfl, hB, hc, _⟩
  · cases hk
  · cases hk
    rcases Nat.lt_or_ge g w.heap.size with hlt | hge
    · refine .inl (Classical.byContradiction fun hn => hn ⟨hB, cur, ?_⟩)
      rw [← h.block g hlt hn]
      exact hc
    · exact .inr hge)
theorem Fb6.no {B g t : Nat} {w : World} {cs : Array Value} (h : Lies w g cs t) (ht : t ≠ 5) : ¬ Fb6 B w g := fun ⟨_, _, e⟩ => ht (lies_kind h e)
/-- What lay leaves. -/
structure Laid (w : World) (B : Nat) (l : List UInt8) (w' : World) (v' : Value) : Prop where
  own : w'.ownsRow B 5 1 v' l.length (cellsB l)
  chg : Chg (Fb6 B w) w w'
set_option maxHeartbeats 2000000 in
theorem lay_any (B : Nat) (v : Value) (l : List UInt8) (ts : List ByteArray) (g c : Nat) (w : World) (hB : B ≤ w.heap.size) (ho : w.ownsRow B 5 1 v l.length (cellsB l)) (hl : Lies w g (ts.map Value.string).toArray 9) (hm : l.length + (catT ts).length ≤ 140737488355328) (ht : ts.length ≤ 100) :
    Calls Tryz.prog 34 #[v, .slice (some ⟨g, 0, none⟩) ts.length c] w fun e w' => ∃ v', e = .returned v' ∧ Laid w B (l ++ catT ts) w' v' := by
  obtain ⟨i0, hi, hz0, hz1, hz2⟩ := info_parts info5
  have HO : Hid (w.ownsRow B 5 1 v l.length (cellsB l)) := ho
  have HL : Hid (Lies w g (ts.map Value.string).toArray 9) := hl
  have HB : Hid (B ≤ w.heap.size) := hB
  have HM : Hid (l.length + (catT ts).length ≤ 140737488355328) := hm
  have htI : (ts.length : Int) ≤ 100 := by omega
  clear ho hl hB hm
  go_enter Tryz.func34, Tryz.ntmps34
  go_wp2_with fail
  go_loopw [0, 6, 9] (fun ov _ iv wr => ∃ k : Nat, k ≤ ts.length ∧ iv = .int .i64 (k : Int) ∧ Hid (Laid w B (l ++ catT (ts.take k)) wr ov)) (fun _ _ iv _ => ts.length - (intOf iv).toNat)
  case atStart => exact ⟨0, Nat.zero_le _, rfl, ⟨by simpa [catT] using HO.out, Chg.refl _ _⟩⟩
  case round =>
    obtain ⟨k, hk, rfl, HD⟩ := hrel
    by_cases hlt : k < ts.length
    · have hki : (k : Int) < (ts.length : Int) := by omega
      have hgl : Lies wr g (ts.map Value.string).toArray 9 := HD.out.chg.lies HL.out (Fb6.no HL.out (by decide))
      have hce := hgl.cell k
      rw [show (ts.map Value.string).toArray[k]? = some (.string ts[k]) by simp [hlt]] at hce
      have HS : Hid (catT (ts.take (k + 1)) = catT (ts.take k) ++ ts[k].data.toList) := catT_take ts k hlt
      have HZ : Hid ((catT (ts.take (k + 1))).length ≤ (catT ts).length) := catT_len ts (k + 1)
      generalize ts[k] = t at *
      have hmx : (l ++ catT (ts.take k)).length + t.size ≤ 140737488355328 := by
        have h1 := HZ.out
        have h2 := HM.out
        rw [HS.out, List.length_append, len_list] at h1
        rw [List.length_append]
        omega
      have HMX : Hid ((l ++ catT (ts.take k)).length + t.size ≤ 140737488355328) := hmx
      clear hgl hmx
      go_wp2_with (at_builtin; refine Lib.wpList_append_own_string _ rfl _ _ _ _ rfl B 5 i0 Tryz.underlying53 Tryz.underlying9 hi hz0 hz1 hz2 _ _ _ rfl HD.out.own t rfl (by have := HMX.out; unfold maxLen; omega) HMX.out (Nat.le_trans HB.out HD.out.chg.size) ?_; intro v2 w2 ho2 hg2 _; have HO2 : Hid _ := ho2; have HG2 : Hid _ := hg2; clear ho2 hg2)
      go_roundw
      case rel =>
        refine ⟨k + 1, by omega, by go_num, ⟨?_, chg_row HD.out.chg HD.out.own HG2.out⟩⟩
        rw [HS.out, ← List.append_assoc, List.length_append, len_list, cellsB_append, ← strCells_is]
        exact HO2.out
      case measure => simp [intOf]; omega
    · obtain rfl : k = ts.length := by omega
      go_wp2_with fail
      go_ret
      exact ⟨_, rfl, by have := HD.out; rw [List.take_length] at this; exact this⟩
end Go.Proofs.YthkoionigdnhgabGreatDoor
/-
  What a loop over an iterator keeps: all cells from a block on.
-/
namespace Go.Proofs.YthkoionigdnhgabGreatDoor
open Go.RowKit

structure Kr (n0 : Nat) (W W' : World) : Prop where
  size : W.heap.size ≤ W'.heap.size
  same : ∀ (k : Nat) (o : Obj), n0 ≤ k → W.heap[k]? = some o → o.isCells = true → W'.heap[k]? = some o
theorem Kr.refl (n0 : Nat) (W : World) : Kr n0 W W := ⟨Nat.le_refl _, fun _ _ _ h _ => h⟩
theorem Kr.trans {n0 : Nat} {A B C : World} (h : Kr n0 A B) (k : Kr n0 B C) : Kr n0 A C := ⟨Nat.le_trans h.size k.size, fun i o hi ho hc => k.same i o hi (h.same i o hi ho hc) hc⟩
theorem Kr.book (n0 : Nat) (W : World) (l : Nat) (o o' : Obj) (hl : W.heap[l]? = some o) (ho : o.isCells = false) : Kr n0 W (W.putObj l o') :=
  ⟨(grownBy_putObj' W l o').size, fun k ob _ hk hc => by
    refine (World.putObj_heap_other (fun e => ?_)).trans hk
    subst e
    rw [hl] at hk
    cases hk
    rw [ho] at hc
    cases hc⟩
theorem Kr.of_chg {n0 : Nat} {F : Nat → Prop} {W W' : World} (h : Chg F W W') (hF : ∀ k, F k → k < n0) : Kr n0 W W' :=
  ⟨h.size, fun k o hk ho _ => (h.block k (Array.getElem?_eq_some_iff.1 ho).1 (fun f => by have := hF k f; omega)).trans ho⟩
theorem Kr.of_below {n0 : Nat} {W W' : World} (h : Below W.heap.size W W') : Kr n0 W W' := Kr.of_chg (F := fun _ => False) (Chg.of_below h) (fun _ f => f.elim)
end Go.Proofs.YthkoionigdnhgabGreatDoor
