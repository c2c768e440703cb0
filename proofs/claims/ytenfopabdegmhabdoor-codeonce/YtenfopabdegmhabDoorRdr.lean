/-
  The program's reader: what it holds, New, there, Close.
-/
import Derived.Test.YtenfopabdegmhabDoorUnb
import Derived.Test.YtenfopabdegmhabDoorLate
import Derived.Test.YtenfopabdegmhabDoorOwn2
import Derived.Test.YtenfopabdegmhabDoorRdP
import Derived.Deep.DeepAppendRoom
import Derived.Laws.CopyOwn
namespace Go.Proofs.YtenfopabdegmhabDoor
open Go.RowKit

/-- A reader's cells: spoilt, next, what is begun, how much of it. -/
def rdC (e d : Nat) (x y z : UInt8) (c : Nat) : Array Value := #[.bool true, .int .i64 (e : Int), .int .i64 (d : Int), .int .u8 (x.toNat : Int), .int .u8 (y.toNat : Int), .int .u8 (z.toNat : Int), .int .i64 (c : Int)]
/-- A reader that took the text t, and was spoilt by e (0: it isn't). -/
def RdAt (w : World) (g : Nat) (t : List UInt8) (e : Nat) : Prop :=
  okN 0 t = t.length ∧ ∃ x y z, Lies w g (rdC e (stD 0 t) x y z (t.length % 4)) 72 ∧ [x, y, z].take (t.length % 4) = tailG t
theorem RdAt.lt {w : World} {g : Nat} {t : List UInt8} {e : Nat} (h : RdAt w g t e) : g < w.heap.size := by
  obtain ⟨_, x, y, z, hl, _⟩ := h
  exact hl.lt
theorem RdAt.of {w w' : World} {g : Nat} {t : List UInt8} {e : Nat} (h : RdAt w g t e) (hb : w'.heap[g]? = w.heap[g]?) : RdAt w' g t e := by
  obtain ⟨h1, x, y, z, hl, h2⟩ := h
  exact ⟨h1, x, y, z, hb.trans hl, h2⟩
theorem RdAt.below {w w' : World} {g : Nat} {t : List UInt8} {e : Nat} (h : RdAt w g t e) (hb : Below w.heap.size w w') : RdAt w' g t e := h.of (hb.block g h.lt)
/-- A row of bytes is no reader. -/
theorem RdAt.apart {w : World} {B n g : Nat} {v : Value} {xs : List Value} {t : List UInt8} {e : Nat} (h : RdAt w g t e) (ho : w.ownsRow B 5 1 v n xs) : ∀ k, v.ownBlock = some k → k ≠ g := by
  obtain ⟨_, x, y, z, hl, _⟩ := h
  exact own_apart ho hl (by decide)

set_option maxHeartbeats 1000000 in
theorem new_any (w : World) : Calls Tryd.prog 17 #[] w fun e w' => e = .returned (.pointer (some ⟨w.heap.size, 0, none⟩)) ∧ RdAt w' w.heap.size [] 0 ∧ Below w.heap.size w w' := by
  go_enter Tryd.func17, Tryd.ntmps17
  go_wp2
  go_ret
  exact ⟨rfl, ⟨rfl, 0, 0, 0, Lies.new w _ _, rfl⟩, (Below.refl _ _).alloc (Nat.le_refl _) _⟩

set_option maxHeartbeats 1000000 in
theorem there_yes (g : Nat) (w : World) (h : w.cell? ⟨g, 0, none⟩ = some (.bool true)) : Calls Tryd.prog 33 #[.pointer (some ⟨g, 0, none⟩)] w fun e w' => e = .returned (.bool true) ∧ w' = w := by
  go_enter Tryd.func33, Tryd.ntmps33
  go_wp2
  go_ret
  exact ⟨rfl, rfl⟩
set_option maxHeartbeats 1000000 in
theorem there_no (g : Nat) (w : World) (h : w.cell? ⟨g, 0, none⟩ = some (.bool false)) : Calls Tryd.prog 33 #[.pointer (some ⟨g, 0, none⟩)] w fun e w' => e = .returned (.bool false) ∧ w' = w := by
  go_enter Tryd.func33, Tryd.ntmps33
  go_wp2
  go_ret
  exact ⟨rfl, rfl⟩
set_option maxHeartbeats 1000000 in
theorem there_nil (w : World) : Calls Tryd.prog 33 #[.pointer none] w fun e w' => e = .returned (.bool false) ∧ w' = w := by
  go_enter Tryd.func33, Tryd.ntmps33
  go_wp2
  go_ret
  exact ⟨rfl, rfl⟩

theorem rd_cells {w : World} {g e d c : Nat} {x y z : UInt8} (h : Lies w g (rdC e d x y z c) 72) :
    w.cell? ⟨g, 0, none⟩ = some (.bool true) ∧ w.cell? ⟨g, 1, none⟩ = some (.int .i64 (e : Int)) ∧ w.cell? ⟨g, 2, none⟩ = some (.int .i64 (d : Int)) ∧ w.cell? ⟨g, 6, none⟩ = some (.int .i64 (c : Int)) :=
  ⟨h.cell 0, h.cell 1, h.cell 2, h.cell 6⟩

/-- What Close answers. -/
def clE (t : List UInt8) (e : Nat) : Nat := if e ≠ 0 then e else if t.length % 4 ≠ 0 then 41 else 0
theorem slice_of_owns' {w : World} {base n : Nat} {v : Value} {xs : List Value} (h : w.ownsRow base 5 1 v n xs) (hn : 0 < n) : ∃ g cap, v = .slice (some ⟨g, 0, none⟩) n cap ∧ base ≤ g ∧ g < w.heap.size := by
  obtain ⟨_, ⟨_, h0⟩ | ⟨g, cap, cur, rfl, hg, hh, _⟩⟩ := h
  · omega
  · exact ⟨g, cap, rfl, hg, (Array.getElem?_eq_some_iff.1 hh).1⟩
/-- A row that is there. -/
theorem own_there {w : World} {base n : Nat} {v : Value} {xs : List Value} (h : w.ownsRow base 5 1 v n xs) (hv : v ≠ .slice none 0 0) : ∃ g cap, v = .slice (some ⟨g, 0, none⟩) n cap ∧ base ≤ g ∧ g < w.heap.size ∧ n ≤ cap ∧ cap ≤ 9223372036854775807 := by
  obtain ⟨_, ⟨e, _⟩ | ⟨g, cap, cur, rfl, hg, hh, h3, h4, _⟩⟩ := h
  · exact absurd e hv
  · unfold maxLen at h4
    exact ⟨g, cap, rfl, hg, (Array.getElem?_eq_some_iff.1 hh).1, h3, by omega⟩
theorem run_row_h (w : World) (g o h : Nat) (h2 : h ≤ 3) :
    (Instr.sliceAt 70 (.pointer (some ⟨g, o, none⟩)) none (some (.int .i64 (h : Int))) none).run Tryd.prog w = .ok (.slice (some ⟨g, o, none⟩) h 3) w := by
  have e2 : ((h : Nat) : Int) ≤ (3 : Nat) := by omega
  have b1 : (Instr.sliceBound (.int .i64 (h : Int)) 3 .sliceAlen).run Tryd.prog w = .ok h w := by
    rw [run_sliceBound _ _ _ _ _ (by omega) e2]
    rfl
  simp [Instr.sliceAt, Instr.sureAddr, run_underlying Tryd.underlying70, Instr.sliceBounds, b1, Addr.add_lit]
theorem But.then_below {g : Nat} {w a b : World} (h : But g w a) (hb : Below w.heap.size a b) : But g w b :=
  ⟨hb.os.trans h.os, hb.tape.trans h.tape, hb.output.trans h.output, Nat.le_trans h.size hb.size, fun k hk hne => (hb.block k hk).trans (h.block k hk hne)⟩
theorem append_byte' {ops : Array Oper} {rest : List Oper} {o : Oper} {a : Act} {w : World} {Q : Exit → Act → World → Prop} (hgd : o.guard = none) (s x : Operand)
    (ho : o.op = .call { callee := .builtin .append, args := #[s, x], argTypes := #[22, 22] }) (base : Nat) (v : Value) (n : Nat) (xs : List UInt8) (hs : a.eval s = v) (hown : w.ownsRow base 5 1 v n (cellsB xs))
    (w0 : World) (b : UInt8) (y : Int) (hy : y = (b.toNat : Int)) (hw : w = w0.alloc (.cells #[.int .u8 y] 5)) (q : Nat) (hq : q = w0.heap.size) (c : Nat) (hx : a.eval x = .slice (some ⟨q, 0, none⟩) 1 c) (hbytes : n + 1 ≤ 140737488355328) (hbase : base ≤ w0.heap.size)
    (h : ∀ v' w', w'.ownsRow base 5 1 v' (n + 1) (cellsB (xs ++ [b])) → (∀ B w1, Below B w1 w0 → B ≤ base → Below B w1 w') → wpList Tryd.prog ops Q rest (a.put o.dst v') w') : wpList Tryd.prog ops Q (o :: rest) a w := by
  subst hq
  exact wpList_append_byte hgd s x ho base v n xs hs hown w0 b y hy hw c hx hbytes hbase h
/-- How much is begun. -/
structure Cnt (w : World) (g m : Nat) : Prop where
  e6 : w.cell? ⟨g, 6, none⟩ = some (.int .i64 (m : Int))

set_option maxHeartbeats 4000000 in
set_option maxRecDepth 100000 in
theorem take_any (g : Nat) (t : List UInt8) (a : Option Addr) (b : List UInt8) (cap n : Nat) (w : World) (hr : RdAt w g t 0) (hn : n = b.length) (hb : Bts a b w) (hl : b.length ≤ 140737488355200) (hne : b ≠ [] → ∀ ad, a = some ad → ad.block ≠ g) :
    Calls Tryd.prog 34 #[.pointer (some ⟨g, 0, none⟩), .slice a n cap] w fun e w' => ∃ v x y z, e = .returned v ∧
      w'.ownsRow w.heap.size 5 1 v (tailG t ++ (noCr b).take (okN (stD 0 t) (noCr b))).length (cellsB (tailG t ++ (noCr b).take (okN (stD 0 t) (noCr b)))) ∧ Lies w' g (rdC (rdE t b) (stD 0 (rdT t b)) x y z (t.length % 4)) 72 ∧ But g w w' ∧ v ≠ .slice none 0 0 := by
  obtain ⟨i0, hi, hz0, hz1, hz2⟩ := info_parts info5
  obtain ⟨hok, x, y, z, hlie, htail⟩ := hr
  obtain ⟨c0, c1, c2, c6⟩ := rd_cells hlie
  have HL : Hid (Lies w g (rdC 0 (stD 0 t) x y z (t.length % 4)) 72) := hlie
  have HT : Hid ([x, y, z].take (t.length % 4) = tailG t) := htail
  have HOK : Hid (okN 0 t = t.length) := hok
  have HBT : Hid (Bts a b w) := hb
  have HN : Hid (n = b.length) := hn
  have HNE : Hid (b ≠ [] → ∀ ad, a = some ad → ad.block ≠ g) := hne
  have HTL : Hid ((tailG t).length = t.length % 4) := tailG_len t
  have hm3 : t.length % 4 ≤ 3 := by omega
  obtain ⟨m, hm⟩ : ∃ m, m = t.length % 4 := ⟨_, rfl⟩
  rw [← hm] at c6 HL HT HTL hm3
  rw [← hm]
  rw [← hn] at hl
  clear hlie htail hok hb hn hne hm
  go_enter Tryd.func34, Tryd.ntmps34
  go_wp2_with (at_make; refine wpList_make_own _ rfl _ _ 22 rfl w.heap.size 5 i0 (.int .u8 0) 1 Tryd.underlying22 hi hz0 hz1 .i64 .i64 _ (m + n) rfl (by first | rfl | (push_cast; rfl)) (by omega) (by rw [hz2]; omega) (by unfold maxLen; omega) (Nat.le_refl _) ?_)
  intro w1 hown hgrow
  have HB1 : Hid (Below w.heap.size w w1) := (Below.refl _ _).grown hgrow (Nat.le_refl _) (fun k h => by cases h)
  have HO1 : Hid (w1.ownsRow w.heap.size 5 1 (.slice (some ⟨w.heap.size, 0, none⟩) 0 (m + n)) 0 (cellsB [])) := hown
  have HL1 : Hid (Lies w1 g (rdC 0 (stD 0 t) x y z m) 72) := HL.out.below HB1.out HL.out.lt
  clear hgrow hown c0 c1 c2 c6
  go_wp2_with fail
  have hgs : g < w.heap.size := HL.out.lt
  have HG1 : Hid (g ≠ w.heap.size) := by show _ ≠ _; omega
  refine wp_region_late (fun w' => Cnt w' g m) 10 (by kernel_rfl) ⟨HL1.out.cell 6⟩ (fun hHeld => ?_)
  refine wpAnyE_take (i := 0) (d := some 16) (v := ?_) rfl (by kernel_rfl) (by kernel_rfl) (by kernel_rfl) (by kernel_rfl) (fun _ _ _ h => h) rfl rfl ?hy (by assumption) ?_
  case hy => (intro w' hSw; have e6 := hSw.e6; clear hSw; go_simp <;> (try with_reducible rfl))
  simp only [Act.put, List.setIfInBounds_toArray, List.set_cons_zero, List.set_cons_succ]
  refine wpAnyE_take (i := 1) (d := some 17) (v := ?_) rfl (by kernel_rfl) (by kernel_rfl) (by kernel_rfl) (by kernel_rfl) (fun _ _ _ h => h) rfl rfl ?hy (by assumption) ?_
  case hy => (intro w' hSw; have e6 := hSw.e6; clear hSw; go_simp <;> (try with_reducible rfl))
  simp only [Act.put, List.setIfInBounds_toArray, List.set_cons_zero, List.set_cons_succ]
  refine wpAnyE_take (i := 2) (d := some 18) (v := ?_) rfl (by kernel_rfl) (by kernel_rfl) (by kernel_rfl) (by kernel_rfl) (fun _ _ _ h => h) rfl rfl ?hy (by assumption) ?_
  case hy => (intro w' hSw; have e6 := hSw.e6; clear hSw; go_simp <;> (try with_reducible rfl))
  simp only [Act.put, List.setIfInBounds_toArray, List.set_cons_zero, List.set_cons_succ]
  refine wpAnyE_take (i := 3) (d := some 19) (v := ?_) rfl (by kernel_rfl) (by kernel_rfl) (by kernel_rfl) (by kernel_rfl) (fun _ _ _ h => h) rfl rfl ?hy (by assumption) ?_
  case hy => (intro w' hSw; have e6 := hSw.e6; clear hSw; go_simp <;> (try with_reducible rfl))
  simp only [Act.put, List.setIfInBounds_toArray, List.set_cons_zero, List.set_cons_succ]
  refine wpAnyE_take (i := 4) (d := some 20) (v := ?_) rfl (by kernel_rfl) (by kernel_rfl) (by kernel_rfl) (by kernel_rfl) (fun _ _ _ h => h) rfl rfl ?hy (by assumption) ?_
  case hy => (intro w' hSw; have e6 := hSw.e6; clear hSw; go_simp <;> (try with_reducible rfl))
  simp only [Act.put, List.setIfInBounds_toArray, List.set_cons_zero, List.set_cons_succ]
  refine wpAnyE_take (i := 5) (d := some 21) (v := ?_) rfl (by kernel_rfl) (by kernel_rfl) (by kernel_rfl) (by kernel_rfl) (fun _ _ _ h => h) rfl rfl ?hy (by assumption) ?_
  case hy => (intro w' hSw; have e6 := hSw.e6; clear hSw; go_simp <;> (try with_reducible rfl))
  simp only [Act.put, List.setIfInBounds_toArray, List.set_cons_zero, List.set_cons_succ]
  refine wpAnyE_take (i := 6) (d := some 22) (v := ?_) rfl (by kernel_rfl) (by kernel_rfl) (by kernel_rfl) (by kernel_rfl) (fun _ _ _ h => h) rfl rfl ?hy (by assumption) ?_
  case hy => (intro w' hSw; have e6 := hSw.e6; clear hSw; go_simp <;> (try with_reducible rfl))
  simp only [Act.put, List.setIfInBounds_toArray, List.set_cons_zero, List.set_cons_succ]
  refine wpAnyE_take (i := 7) (d := some 23) (v := ?_) rfl (by kernel_rfl) (by kernel_rfl) (by kernel_rfl) (by kernel_rfl) (fun _ _ _ h => h) rfl rfl ?hy (by assumption) ?_
  case hy => (intro w' hSw; have e6 := hSw.e6; clear hSw; go_simp <;> (try with_reducible rfl))
  simp only [Act.put, List.setIfInBounds_toArray, List.set_cons_zero, List.set_cons_succ]
  refine wpAnyE_take (i := 8) (d := some 24) (v := .slice (some ⟨g, 3, none⟩) m 3) rfl (by kernel_rfl) (by kernel_rfl) (by kernel_rfl) (by kernel_rfl) (fun _ _ _ h => h) rfl rfl ?hy (by assumption) ?_
  case hy => (intro w' hSw; clear hSw; have hrow := run_row_h w' g 3 m hm3; go_simp <;> (try with_reducible rfl))
  simp only [Act.put, List.setIfInBounds_toArray, List.set_cons_zero, List.set_cons_succ]
  refine wpAnyE_one (i := 9) (by kernel_rfl) rfl rfl ?_
  refine wp_append_own_spare _ _ _ 22 rfl w.heap.size 5 i0 1 Tryd.underlying22 hi hz1 w.heap.size 0 (m + n) _ rfl HO1.out.drew ⟨g, 3, none⟩ m 3 (cellsB (tailG t)) rfl (by rw [cellsB_length, HTL.out, Nat.mul_one]) ?_ (cellsB_one _) (by omega) ?_
  · intro j u hj
    have hj' : j < (tailG t).length := by
      have := (List.getElem?_eq_some_iff.1 hj).1
      rwa [cellsB_length] at this
    have h1 := HL1.out.cell (3 + j)
    rw [cellsB_at _ j hj'] at hj
    injection hj with hj
    rw [Addr.add_lit, ← hj]
    show w1.cell? _ = _
    rw [h1]
    have h3 : (tailG t)[j]? = [x, y, z][j]? := by
      rw [← HT.out, List.getElem?_take, if_pos (by rw [HTL.out] at hj'; exact hj')]
    rw [List.getElem?_eq_getElem hj'] at h3
    have hj3 : j < 3 := by rw [HTL.out] at hj'; omega
    match j, hj3 with
    | 0, _ => injection h3 with h3; simp only [h3]; rfl
    | 1, _ => injection h3 with h3; simp only [h3]; rfl
    | 2, _ => injection h3 with h3; simp only [h3]; rfl
  intro w2 hown2 hgrow2
  have HL2 : Hid (Lies w2 g (rdC 0 (stD 0 t) x y z m) 72) := (hgrow2.block g HL1.out.lt (fun e => HG1.out (by injection e))).trans HL1.out
  have HO2 : Hid (w2.ownsRow w.heap.size 5 1 (.slice (some ⟨w.heap.size, 0, none⟩) m (m + n)) m (cellsB (tailG t))) := by
    show World.ownsRow _ _ _ _ _ _ _
    rw [Nat.zero_add] at hown2
    exact hown2
  have HB2 : Hid (But g w w2) := But.of_below ((HB1.out.drew).grown hgrow2 HB1.out.size (fun q hq => by injection hq with hq; omega))
  clear hown2 hgrow2 HO1 HL1 HB1 hHeld
  refine ⟨.inr ⟨HL2.out.cell 6⟩, ?_⟩
  refine wpAnyE_one (i := 10) (by kernel_rfl) rfl rfl ?_
  go_simp
  refine wpAnyE_done (by kernel_rfl) ?_ _
  go_wp2_with fail
  go_loopw [5, 28] (fun v i wr => ∃ k : Nat, k ≤ n ∧ i = .int .i64 k ∧ Hid (okN (stD 0 t) (noCr (b.take k)) = (noCr (b.take k)).length) ∧ Hid (wr.ownsRow w.heap.size 5 1 v (tailG t ++ noCr (b.take k)).length (cellsB (tailG t ++ noCr (b.take k)))) ∧ Hid (Lies wr g (rdC 0 (stD 0 (t ++ noCr (b.take k))) x y z m) 72) ∧ Hid (But g w wr) ∧ Hid (v ≠ .slice none 0 0)) (fun _ i _ => n - (intOf i).toNat)
  case atStart =>
    refine ⟨0, by omega, rfl, rfl, ?_, ?_, HB2, fun e => by cases e⟩
    · show World.ownsRow _ _ _ _ _ _ _
      rw [List.take_zero, show noCr [] = [] from rfl, List.append_nil, HTL.out]
      exact HO2.out
    · show Lies _ _ _ _
      rw [List.take_zero, show noCr [] = [] from rfl, List.append_nil]
      exact HL2.out
  case round =>
    clear HO2 HL2 HB2
    obtain ⟨k, hk, rfl, HKO, HO, HLi, HBu, HVN⟩ := hrel
    have hsz := HBu.out.size
    by_cases hlt : k < n
    · have hkb : k < b.length := by rw [← HN.out]; exact hlt
      obtain ⟨ga, oa, rfl, hga, hca⟩ := (HBu.out.bts HBT.out (HNE.out (fun e => by rw [e] at hkb; simp at hkb))).cell k hkb
      have hnl : (noCr (b.take k)).length ≤ k := by
        have := noCr_le (b.take k)
        rw [List.length_take] at this
        omega
      obtain ⟨c, hc⟩ : ∃ c, c = b[k] := ⟨_, rfl⟩
      rw [← hc] at hca
      by_cases hcr : b[k] = 13 ∨ b[k] = 10
      · have HS : Hid (noCr (b.take (k + 1)) = noCr (b.take k)) := rd_same b k hkb hcr
        have hcr' : ((c.toNat : Int) == 13) = true ∨ (((c.toNat : Int) == 13) = false ∧ ((c.toNat : Int) == 10) = true) := by
          rw [← hc] at hcr
          rcases hcr with h | h
          · left; rw [h]; rfl
          · right; rw [h]; exact ⟨rfl, rfl⟩
        have HR : Hid (okN (stD 0 t) (noCr (b.take (k + 1))) = (noCr (b.take (k + 1))).length ∧ wr.ownsRow w.heap.size 5 1 u5 (tailG t ++ noCr (b.take (k + 1))).length (cellsB (tailG t ++ noCr (b.take (k + 1)))) ∧ Lies wr g (rdC 0 (stD 0 (t ++ noCr (b.take (k + 1)))) x y z m) 72) := by
          show _ ∧ _ ∧ _
          rw [HS.out]
          exact ⟨HKO.out, HO.out, HLi.out⟩
        clear hcr HKO HO HLi HS hc
        rcases hcr' with h1 | ⟨h1, h2⟩
        all_goals
          go_wp2
          go_roundw
          case rel => exact ⟨k + 1, by omega, by go_num, HR.out.1, HR.out.2.1, HR.out.2.2, HBu, HVN⟩
          case measure => simp [intOf]; omega
      · have hx13 : ((c.toNat : Int) == 13) = false := by
          simp
          intro h
          exact hcr (.inl (by rw [← hc]; exact UInt8.toNat_inj.1 (by simpa using (by omega : c.toNat = 13))))
        have hx10 : ((c.toNat : Int) == 10) = false := by
          simp
          intro h
          exact hcr (.inr (by rw [← hc]; exact UInt8.toNat_inj.1 (by simpa using (by omega : c.toNat = 10))))
        have hd8 : stD 0 (t ++ noCr (b.take k)) < 8 := stD_lt _ _ (by omega)
        obtain ⟨d, hd⟩ : ∃ d, d = stD 0 (t ++ noCr (b.take k)) := ⟨_, rfl⟩
        rw [← hd] at hd8 HLi
        have HBD : Hid (∀ wx, Calls Tryd.prog 19 #[.int .i64 d, .int .u8 (c.toNat : Int)] wx fun e w' => e = .returned (.tuple #[.int .i64 (behD d c : Nat), .int .i64 (behE d c : Nat)]) ∧ w' = wx) := fun wx => behind_any d hd8 c wx
        obtain ⟨c0, c1, c2, c6⟩ := rd_cells HLi.out
        have f1 := HLi.out.frozen 1
        have f2 := HLi.out.frozen 2
        have HST : Hid (∀ u v : Nat, Lies ((wr.setCell ⟨g, 2, none⟩ (.int .i64 u)).setCell ⟨g, 1, none⟩ (.int .i64 v)) g (rdC v u x y z m) 72) := fun u v => (HLi.out.set 2 _).set 1 _
        have HSB : Hid (∀ u v : Value, But g w ((wr.setCell ⟨g, 2, none⟩ u).setCell ⟨g, 1, none⟩ v)) := fun u v => (HBu.out.set 2 u).set 1 v
        have hap : ∀ q, u5.ownBlock = some q → q ≠ g := own_apart HO.out HLi.out (by decide)
        have HSO : Hid (∀ u v : Value, ((wr.setCell ⟨g, 2, none⟩ u).setCell ⟨g, 1, none⟩ v).ownsRow w.heap.size 5 1 u5 (tailG t ++ noCr (b.take k)).length (cellsB (tailG t ++ noCr (b.take k)))) := fun u v =>
          own_keep HO.out (fun q hq => by rw [Below.heap_setCell _ _ _ _ (hap q hq), Below.heap_setCell _ _ _ _ (hap q hq)])
        have htl : (tailG t ++ noCr (b.take k)).length ≤ 140737488355203 := by rw [List.length_append, HTL.out]; omega
        cases hn : nextD d c with
        | some d' =>
          have HM := rd_more t b k hkb hcr HOK.out HKO.out d' (by rw [← hd, ← hc]; exact hn)
          rw [← hc] at HM
          have HMM : Hid _ := HM
          rw [(behD_some hn).1, (behD_some hn).2] at HBD
          clear HM hn hcr hd hc hap HO
          go_wp2_with (first
            | (go_at_call 19; refine Calls.mono (HBD.out _) ?_; rintro e w3 ⟨rfl, rfl⟩)
            | (at_builtin; refine append_byte' rfl _ _ rfl w.heap.size _ _ _ rfl ((HSO.out _ _).alloc _) _ c _ rfl rfl _ (by simp) 1 rfl (by omega) (HSB.out _ _).size ?_; intro v3 w4 hown3 hbel3))
          have hb0 := hbel3 w.heap.size _ (Below.refl _ _) (Nat.le_refl _)
          have HL3 : Hid (Lies w4 g (rdC 0 (stD 0 (t ++ noCr (b.take (k + 1)))) x y z m) 72) := by
            show Lies _ _ _ _
            rw [HMM.out.2.2]
            exact (HST.out d' 0).below hb0 hgs
          have HO3 : Hid (w4.ownsRow w.heap.size 5 1 v3 (tailG t ++ noCr (b.take (k + 1))).length (cellsB (tailG t ++ noCr (b.take (k + 1))))) := by
            show World.ownsRow _ _ _ _ _ _ _
            rw [HMM.out.1, ← List.append_assoc, List.length_append (bs := [c])]
            exact hown3
          have HB3 : Hid (But g w w4) := (HSB.out _ _).then_below hb0
          have HV3 : Hid (v3 ≠ .slice none 0 0) := by
            obtain ⟨_, _, e, _⟩ := slice_of_owns' hown3 (by omega)
            rw [e]
            exact fun h => by cases h
          clear hb0 hown3 hbel3
          go_roundw
          case rel => exact ⟨k + 1, by omega, by go_num, HMM.out.2.1, HO3, HL3, HB3, HV3⟩
          case measure => simp [intOf]; omega
        | none =>
          have HS := rd_stop t b k hkb hcr HOK.out HKO.out (by rw [← hd, ← hc]; exact hn)
          rw [← hc] at HS
          have HSS : Hid _ := HS
          have HD : Hid (d = stD 0 (t ++ noCr (b.take k))) := hd
          have hbd : behD d c = d := by unfold behD; rw [hn]; rfl
          rw [hbd, behE_none hn] at HBD
          have hne0 : (((errC c : Nat) : Int) != 0) = true := by have := errC_pos c; simp; omega
          clear HS hn hcr hd hc hap HO hbd
          go_wp2_with (go_at_call 19; refine Calls.mono (HBD.out _) ?_; rintro e w3 ⟨rfl, rfl⟩)
          go_ret
          refine ⟨_, x, y, z, rfl, ?_, ?_, HSB.out _ _, HVN.out⟩
          · rw [HSS.out.2.2.2]
            exact HSO.out _ _
          · rw [HSS.out.2.1, HSS.out.2.2.1, ← HD.out]
            exact HST.out _ _
    · have hkn : b.take k = b := List.take_of_length_le (by rw [← HN.out]; omega)
      rw [hkn] at HKO HO HLi
      obtain ⟨e1, e2, e3⟩ := rd_end t b HKO.out
      have HE : Hid (rdE t b = 0 ∧ rdT t b = t ++ noCr b ∧ (noCr b).take (okN (stD 0 t) (noCr b)) = noCr b) := ⟨e1, e2, e3⟩
      clear e1 e2 e3 hkn
      go_wp2
      go_ret
      refine ⟨_, x, y, z, rfl, ?_, ?_, HBu.out, HVN.out⟩
      · rw [HE.out.2.2]
        exact HO.out
      · rw [HE.out.1, HE.out.2.1]
        exact HLi.out
end Go.Proofs.YtenfopabdegmhabDoor
