/-
  The shape of a row of one's own.
-/
import Derived.Test.YtnlgbopdbihnjaaGreatDoorBase2
import Derived.Shelf.Strings.Builder1
import Derived.Test.YtnlgbopdbihnjaaGreatDoorProg
import Derived.Test.YtnlgbopdbihnjaaGreatDoorNum
import Derived.Lib.OthersKept
namespace Go.Proofs.YtnlgbopdbihnjaaGreatDoor
open Go.RowKit

theorem own_cap {w : World} {base n cap : Nat} {a : Option Addr} {xs : List Value} (h : w.ownsRow base 5 1 (.slice a n cap) n xs) : cap ≤ 9223372036854775807 := by
  obtain ⟨_, ⟨h1, _⟩ | ⟨g, c, cur, hv, _, _, _, h3, _⟩⟩ := h
  · injection h1 with _ _ e
    omega
  · injection hv with _ _ e
    unfold maxLen at h3
    omega
theorem own_shape {w : World} {base n : Nat} {v : Value} {xs : List Value} (h : w.ownsRow base 5 1 v n xs) : ∃ a cap, v = .slice a n cap := by
  rcases h.2 with ⟨rfl, h0⟩ | ⟨g, cap, cur, hv, _⟩
  · exact ⟨none, 0, by rw [h0]⟩
  · exact ⟨_, _, hv⟩
end Go.Proofs.YtnlgbopdbihnjaaGreatDoor
/-
  The library's contracts on builders, laid at this program.
-/
namespace Go.Proofs

open Go.Shelf
def Tryz.lays170_ren : Go.Shelf.Ren := ⟨fun | 170 => 135 | n => n, fun | 70 => 116 | 3 => 3 | 0 => 0 | 72 => 118 | 37 => 88 | 5 => 5 | n => n, fun | n => n⟩
theorem Tryz.lays170 : Go.Proofs.Lays.n170 Tryz.prog Tryz.lays170_ren := {
  mixed := by kernel_rfl
  f170 := Tryz.func135.trans (congrArg some (by kernel_rfl))
  t0 := Tryz.underlying0
  a0 := Tryz.isAgg0
  z0 := Tryz.sizeOf0
  v0 := Tryz.zeroValue0
  t3 := Tryz.underlying3
  a3 := Tryz.isAgg3
  z3 := Tryz.sizeOf3
  v3 := Tryz.zeroValue3
  t37 := Tryz.underlying88
  a37 := Tryz.isAgg88
  z37 := Tryz.sizeOf88
  v37 := Tryz.zeroValue88
  t70 := Tryz.underlying116
  a70 := Tryz.isAgg116
  z70 := Tryz.sizeOf116
  v70 := Tryz.zeroValue116
  t72 := Tryz.underlying118
  a72 := Tryz.isAgg118
  z72 := Tryz.sizeOf118
  v72 := Tryz.zeroValue118 }
open Go.RowKit in
theorem Tryz.Builder_Len (B b : Nat) (bs : List Value) (w : World) (h : Lib.IsBuilder 118 5 B b bs w) :
    Calls Tryz.prog 135 #[.pointer (some ⟨b, 0, none⟩)] w fun e w' => e = .returned (.int .i64 bs.length) ∧ w' = w := Any.Builder_Len Tryz.lays170 B b bs w h
def Tryz.lays169_ren : Go.Shelf.Ren := ⟨fun | 169 => 90 | n => n, fun | 70 => 116 | 9 => 9 | 0 => 0 | 72 => 118 | 37 => 88 | 127 => 151 | 3 => 3 | 5 => 5 | n => n, fun | n => n⟩
theorem Tryz.lays169 : Go.Proofs.Lays.n169 Tryz.prog Tryz.lays169_ren := {
  mixed := by kernel_rfl
  f169 := Tryz.func90.trans (congrArg some (by kernel_rfl))
  t0 := Tryz.underlying0
  a0 := Tryz.isAgg0
  z0 := Tryz.sizeOf0
  v0 := Tryz.zeroValue0
  t3 := Tryz.underlying3
  a3 := Tryz.isAgg3
  z3 := Tryz.sizeOf3
  v3 := Tryz.zeroValue3
  t9 := Tryz.underlying9
  a9 := Tryz.isAgg9
  z9 := Tryz.sizeOf9
  v9 := Tryz.zeroValue9
  t37 := Tryz.underlying88
  a37 := Tryz.isAgg88
  z37 := Tryz.sizeOf88
  v37 := Tryz.zeroValue88
  t70 := Tryz.underlying116
  a70 := Tryz.isAgg116
  z70 := Tryz.sizeOf116
  v70 := Tryz.zeroValue116
  t72 := Tryz.underlying118
  a72 := Tryz.isAgg118
  z72 := Tryz.sizeOf118
  v72 := Tryz.zeroValue118
  t127 := Tryz.underlying151
  a127 := Tryz.isAgg151
  z127 := Tryz.sizeOf151
  v127 := Tryz.zeroValue151 }
theorem Tryz.Builder_Extra_169 : Builder.Extra Tryz.prog Tryz.lays169_ren := {
  sizeBuilder := by kernel_rfl
  liesBuilder := by kernel_rfl
  t5 := Tryz.underlying5
  a5 := Tryz.isAgg5
  z5 := Tryz.sizeOf5
  v5 := Tryz.zeroValue5
  infoByte := by kernel_rfl
  cellsByte := by kernel_rfl
  sizeByte := by kernel_rfl
  neB5 := by decide }
open Go.RowKit in
theorem Tryz.Builder_String_any (B b : Nat) (l : List UInt8) (w : World) (h : Lib.IsBuilder 118 5 B b (Lib.byteCells l) w) (hBw : B ≤ w.heap.size) :
    Calls Tryz.prog 90 #[.pointer (some ⟨b, 0, none⟩)] w fun e w' => e = .returned (.string ⟨l.toArray⟩) ∧ Below B w w' := Any.Builder_String_any Tryz.lays169 Tryz.Builder_Extra_169 B b l w h hBw
end Go.Proofs
/-
  A builder of texts, as this program has it: a byte more, a rune more.
-/
namespace Go.Proofs.YtnlgbopdbihnjaaGreatDoor
open Go.RowKit

theorem bld_size : (Tryz.prog.info? 118).map (·.size) = some 2 := by kernel_rfl
theorem bld_lies : liesAt Tryz.prog Tryz.prog.depth 118 (2 / Tryz.prog.cellsOf 118) 0 118 1 = true := by kernel_rfl

set_option maxHeartbeats 1000000 in
set_option maxRecDepth 100000 in
theorem check_used (b : Nat) (w : World) (h0 : w.cell? ⟨b, 0, none⟩ = some (.pointer (some ⟨b, 0, none⟩))) :
    Calls Tryz.prog 120 #[.pointer (some ⟨b, 0, none⟩)] w fun e w' => e = .returned (.tuple #[]) ∧ w' = w := by
  obtain ⟨j, hj, _⟩ := Option.map_eq_some_iff.1 bld_size
  go_enter Tryz.func120, Tryz.ntmps120
  go_wp2
  rw [Lib.run_neq_ptr_same w _ Tryz.underlying116 hj]
  go_wp2
  go_end0
  exact ⟨rfl, rfl⟩

set_option maxHeartbeats 1000000 in
set_option maxRecDepth 100000 in
theorem check_fresh (b : Nat) (w : World) (h0 : w.cell? ⟨b, 0, none⟩ = some (.pointer none)) (hsh : w.shape? b = some (118, 2)) (hfz : w.frozen? ⟨b, 0, none⟩ = false) :
    Calls Tryz.prog 120 #[.pointer (some ⟨b, 0, none⟩)] w fun e w' => e = .returned (.tuple #[]) ∧ w' = w.setCell ⟨b, 0, none⟩ (.pointer (some ⟨b, 0, none⟩)) := by
  obtain ⟨j, hj, hjs⟩ := Option.map_eq_some_iff.1 bld_size
  go_enter Tryz.func120, Tryz.ntmps120
  go_wp2
  rw [Lib.run_to_unsafe w ⟨b, 0, none⟩ Tryz.underlying116 Tryz.underlying179 hj (by rw [hjs]; decide) hsh (Nat.zero_lt_succ 1)]
  simp only [Result.andThen]
  rw [Oper.upon_value]
  go_wp2
  rw [run_callFunc_extern Tryz.func152 (by kernel_rfl) (by kernel_rfl) (by kernel_rfl) (e := Extern.AbiNoEscape.same) (by kernel_rfl)]
  rw [Lib.run_noEscape]
  simp only [Result.andThen]
  rw [Oper.upon_value]
  go_wp2
  rw [Lib.run_from_unsafe w ⟨b, 0, none⟩ Tryz.underlying179 Tryz.underlying116 hj hsh bld_lies]
  simp only [Result.andThen]
  rw [Oper.upon_value]
  go_wp2
  go_end0
  exact ⟨rfl, rfl⟩

/-- What was written into the builder b, whose row lies from B on. -/
structure Wrote (B b : Nat) (w w' : World) : Prop where
  below : Below B w w'
  kept : Lib.OthersKept 5 (some b) w w'
theorem Wrote.refl (B b : Nat) (w : World) : Wrote B b w w := ⟨Below.refl _ _, Lib.OthersKept.refl _ _ _⟩
theorem Wrote.trans {B b : Nat} {x y z : World} (h : Wrote B b x y) (k : Wrote B b y z) : Wrote B b x z := ⟨h.below.trans k.below, h.kept.trans k.kept⟩
theorem Wrote.lies {B b g t : Nat} {w w' : World} {cs : Array Value} (h : Wrote B b w w') (hl : Lies w g cs t) (hg : g ≠ b) (ht : t ≠ 5) : Lies w' g cs t :=
  h.kept g _ hl (by intro e; injection e with e; exact hg e) (fun c fz e => by injection e with _ e2; exact ht e2)
/-- A builder that holds a text. -/
def Bl (B b : Nat) (l : List UInt8) (w : World) : Prop := Lib.IsBuilder 118 5 B b (cellsB l) w
theorem Bl.lt {B b : Nat} {l : List UInt8} {w : World} (h : Bl B b l w) : b < w.heap.size := by rcases h with h | h <;> exact Lib.BuilderAt.lt h
theorem Bl.le {B b : Nat} {l : List UInt8} {w : World} (h : Bl B b l w) : B ≤ b := by rcases h with h | h <;> exact h.1
theorem Bl.fresh (w : World) : Bl w.heap.size w.heap.size [] (w.alloc (.cells #[.pointer none, .slice none 0 0] 118)) := Lib.fresh_isBuilder 118 5 w
theorem Bl.keep {B b : Nat} {l : List UInt8} {w w' : World} (h : Bl B b l w) (hk : ∀ k : Nat, (∃ (c : Array Value) (t : TypeId) (fz : Nat × Nat), w.heap[k]? = some (Obj.cells c t fz) ∧ (t = 5 ∨ t = 118)) → w'.heap[k]? = w.heap[k]?) : Bl B b l w' := by
  have go : ∀ p, Lib.BuilderAt 118 5 B b p (cellsB l) w → Lib.BuilderAt 118 5 B b p (cellsB l) w' := by
    rintro p ⟨h1, v, hb, hown, hne⟩
    refine ⟨h1, v, (hk b ⟨_, _, _, hb, .inr rfl⟩).trans hb, ?_, hne⟩
    obtain ⟨h2, h3 | ⟨g, cap, cur, hv, hB, hg, hr⟩⟩ := hown
    · exact ⟨h2, .inl h3⟩
    · exact ⟨h2, .inr ⟨g, cap, cur, hv, hB, (hk g ⟨_, _, _, hg, .inl rfl⟩).trans hg, hr⟩⟩
  rcases h with h | h
  · exact .inl (go _ h)
  · exact .inr (go _ h)
theorem Bl.below {B b : Nat} {l : List UInt8} {w w' : World} (h : Bl B b l w) (hb : Below w.heap.size w w') : Bl B b l w' :=
  h.keep (fun k ⟨_, _, _, hk, _⟩ => hb.block k (Array.getElem?_eq_some_iff.1 hk).1)
theorem Bl.but {B b g : Nat} {l : List UInt8} {w w' : World} {cs : Array Value} {t : TypeId} (h : Bl B b l w) (hb : But g w w') (hg : Lies w g cs t) (ht : t ≠ 5) (ht2 : t ≠ 118) : Bl B b l w' :=
  h.keep (fun k ⟨c, u, fz, hk, hu⟩ => hb.block k (Array.getElem?_eq_some_iff.1 hk).1 (fun e => by
    subst e
    have := hk.symm.trans hg
    injection this with e
    injection e with _ e2
    rcases hu with rfl | rfl
    · exact ht e2.symm
    · exact ht2 e2.symm))

/-- A builder is looked at ahead of a write. -/
theorem check_any (B b : Nat) (l : List UInt8) (w : World) (h : Bl B b l w) :
    Calls Tryz.prog 120 #[.pointer (some ⟨b, 0, none⟩)] w fun e w' => e = .returned (.tuple #[]) ∧ Lib.BuilderAt 118 5 B b (.pointer (some ⟨b, 0, none⟩)) (cellsB l) w' ∧ Wrote B b w w' := by
  rcases h with h | h
  · refine (check_fresh b w h.cell0 h.shape h.frozen0).mono ?_
    rintro e w' ⟨rfl, rfl⟩
    exact ⟨rfl, h.used _, (Below.refl B w).setCell (p := ⟨b, 0, none⟩) h.1 _, Lib.OthersKept.setCell (b := b) (Lib.OthersKept.refl _ _ _) ⟨b, 0, none⟩ rfl _⟩
  · refine (check_used b w h.cell0).mono ?_
    rintro e w' ⟨rfl, rfl⟩
    exact ⟨rfl, h, Wrote.refl _ _ _⟩
theorem own_kindB {w : World} {B n : Nat} {v : Value} {xs : List Value} (h : w.ownsRow B 5 1 v n xs) : ∀ g, v.ownBlock = some g → ∃ c fz, w.heap[g]? = some (.cells c 5 fz) := by
  intro g hg
  rcases h.2 with ⟨rfl, _⟩ | ⟨g', cap, cur, rfl, hB, hk, _⟩
  · cases hg
  · injection hg with hg
    subst hg
    exact ⟨_, _, hk⟩

set_option maxHeartbeats 1000000 in
set_option maxRecDepth 100000 in
theorem wbyte_any (B b : Nat) (l : List UInt8) (c : UInt8) (w : World) (h : Bl B b l w) (hlen : l.length + 1 ≤ 140737488355328) (hBw : B ≤ w.heap.size) :
    Calls Tryz.prog 132 #[.pointer (some ⟨b, 0, none⟩), .int .u8 (c.toNat : Int)] w fun e w' => e = .returned .nilIface ∧ Bl B b (l ++ [c]) w' ∧ Wrote B b w w' := by
  go_enter Tryz.func132, Tryz.ntmps132
  go_wp2_with fail
  refine (check_any B b l _ h).mono ?_
  rintro e w1 ⟨rfl, ⟨hB, v, hbk, hown, hne⟩, hw1⟩
  have hlt : b < w1.heap.size := (Array.getElem?_eq_some_iff.1 hbk).1
  have c1 : w1.cell? ⟨b, 1, none⟩ = some v := by rw [Lib.cell_of_heap hbk]; rfl
  have HBK : Hid (w1.heap[b]? = some (.cells #[.pointer (some ⟨b, 0, none⟩), v] 118 (0, 0))) := hbk
  have HNE : Hid (v.ownBlock ≠ some b) := hne
  have HW1 : Hid (Wrote B b w w1) := hw1
  have HOW : Hid (w1.ownsRow B 5 1 v l.length (cellsB l)) := by rw [cellsB_length] at hown; exact hown
  clear hbk hne h hown hw1
  have hsz := HW1.out.below.size
  go_wp2_with (at_builtin; refine wpList_append_keep rfl _ _ rfl B _ l.length l rfl (HOW.out.alloc _) (some ⟨w1.heap.size, 0, none⟩) [c] 1 1 rfl rfl (.inr ⟨w1.heap.size, 0, rfl, by simp, fun j hj => by obtain rfl : j = 0 := (by simpa using hj); simp⟩) (fun e => by cases e) (by omega) (by simp; omega) ?_)
  intro v2 w2 hown2 hgrow2
  have hg2 := grown_on (World.grownBy_alloc w1 _ v.ownBlock) hgrow2 (fun _ h => .inl h.symm)
  have HL2 : Hid (Lies w2 b #[.pointer (some ⟨b, 0, none⟩), v] 118) := (hg2.block b hlt (fun e => HNE.out e.symm)).trans HBK.out
  have HW2 : Hid (Wrote B b w w2) := ⟨HW1.out.below.grown hg2 (by omega) (fun q hq => (HOW.out.lt q hq).1), HW1.out.kept.grown hg2 (own_kindB HOW.out)⟩
  have c2 : w2.cell? ⟨b, 1, none⟩ = some v := HL2.out.cell 1
  have f2 := HL2.out.frozen 1
  have HO2 : Hid (w2.ownsRow B 5 1 v2 (cellsB (l ++ [c])).length (cellsB (l ++ [c]))) := by
    show World.ownsRow _ _ _ _ _ _ _
    rw [cellsB_length, List.length_append]
    exact hown2
  obtain ⟨a2, k2, rfl⟩ := own_shape hown2
  clear hown2 hgrow2 hg2
  go_wp2
  go_ret
  exact ⟨rfl, .inr (Lib.BuilderAt.put hB HL2.out HO2.out (by decide)), HW2.out.below.setCell (p := ⟨b, 1, none⟩) hB _, Lib.OthersKept.setCell (b := b) HW2.out.kept ⟨b, 1, none⟩ rfl _⟩

theorem bstr_any (B b : Nat) (l : List UInt8) (w : World) (h : Bl B b l w) (hBw : B ≤ w.heap.size) :
    Calls Tryz.prog 90 #[.pointer (some ⟨b, 0, none⟩)] w fun e w' => e = .returned (.string ⟨l.toArray⟩) ∧ Below B w w' := Tryz.Builder_String_any B b l w h hBw
theorem blen_any (B b : Nat) (l : List UInt8) (w : World) (h : Bl B b l w) :
    Calls Tryz.prog 135 #[.pointer (some ⟨b, 0, none⟩)] w fun e w' => e = .returned (.int .i64 l.length) ∧ w' = w := by
  have := Tryz.Builder_Len B b (cellsB l) w h
  rw [cellsB_length] at this
  exact this
end Go.Proofs.YtnlgbopdbihnjaaGreatDoor
/-
  The program's isRune, noRune and Encode.
-/
namespace Go.Proofs.YtnlgbopdbihnjaaGreatDoor
open Go.RowKit

set_option maxHeartbeats 1000000 in
set_option maxRecDepth 100000 in
theorem isr_any (r : Int) (w : World) : Calls Tryz.prog 162 #[.int .i32 r] w fun e w' => e = .returned (.bool (decide (isR r))) ∧ w' = w := by
  have HR : Hid (decide (isR r) = ((decide (0 ≤ r) && decide (r < 55296)) || (decide (57343 < r) && decide (r ≤ 1114111)))) := by
    show _ = _
    by_cases h : isR r
    · rw [decide_eq_true h]
      obtain ⟨a, b, c | c⟩ := h
      · simp [a, c]
      · simp [b, c]
    · rw [decide_eq_false h]
      symm
      simp only [Bool.or_eq_false_iff, Bool.and_eq_false_iff, decide_eq_false_iff_not]
      unfold isR at h
      omega
  rw [HR.out]
  by_cases h1 : 0 ≤ r
  · by_cases h2 : r < 55296
    · go_enter Tryz.func162, Tryz.ntmps162
      go_wp2
      go_ret
      exact ⟨ret_b (by simp [h1, h2]), rfl⟩
    · by_cases h3 : 57343 < r
      · go_enter Tryz.func162, Tryz.ntmps162
        go_wp2
        go_ret
        exact ⟨ret_b (by rw [Bool.eq_iff_iff]; simp only [decide_eq_true_eq, Bool.or_eq_true]; omega), rfl⟩
      · go_enter Tryz.func162, Tryz.ntmps162
        go_wp2
        go_ret
        exact ⟨ret_b (by rw [Bool.eq_iff_iff]; simp only [decide_eq_true_eq, Bool.or_eq_true, Bool.and_eq_true, Bool.false_eq_true, false_iff]; omega), rfl⟩
  · have h3 : ¬ 57343 < r := by omega
    go_enter Tryz.func162, Tryz.ntmps162
    go_wp2
    go_ret
    exact ⟨ret_b (by rw [Bool.eq_iff_iff]; simp only [decide_eq_true_eq, Bool.or_eq_true, Bool.and_eq_true, Bool.false_eq_true, false_iff]; omega), rfl⟩

/-- The place of the first number that is no rune. -/
def noR : List Int → Nat
  | [] => 0
  | r :: t => if isR r then noR t + 1 else 0
theorem noR_le (l : List Int) : noR l ≤ l.length := by
  induction l with
  | nil => exact Nat.le_refl _
  | cons r t ih => simp only [noR]; split <;> simp <;> omega
theorem noR_all (l : List Int) : noR l = l.length ↔ ∀ r ∈ l, isR r := by
  induction l with
  | nil => simp [noR]
  | cons r t ih =>
    simp only [noR, List.length_cons, List.mem_cons, forall_eq_or_imp]
    by_cases h : isR r
    · rw [if_pos h]
      constructor
      · intro e; exact ⟨h, ih.1 (by omega)⟩
      · intro e; have := ih.2 e.2; omega
    · rw [if_neg h]
      constructor
      · intro e; omega
      · intro e; exact absurd e.1 h
theorem noR_drop (l : List Int) (k : Nat) (hk : k < l.length) : noR (l.drop k) = if isR l[k] then noR (l.drop (k + 1)) + 1 else 0 := by
  rw [List.drop_eq_getElem_cons hk]
  rfl

set_option maxHeartbeats 1000000 in
set_option maxRecDepth 100000 in
theorem norune_any (a : Option Addr) (l : List Int) (cap : Nat) (w : World) (hb : Nts .i32 a l w) (hs : l.length ≤ 9223372036854775806) :
    Calls Tryz.prog 130 #[.slice a l.length cap] w fun e w' => e = .returned (.int .i64 (noR l)) ∧ w' = w := by
  have HL : Hid (Nts .i32 a l w) := hb
  clear hb
  go_enter Tryz.func130, Tryz.ntmps130
  go_wp2
  go_loop [7] (fun i => ∃ k : Nat, i = .int .i64 k ∧ k ≤ l.length ∧ Hid (noR l = k + noR (l.drop k))) (fun i => l.length - (intOf i).toNat)
  case atStart => exact ⟨0, rfl, Nat.zero_le _, by show _ = _; rw [List.drop_zero]; omega⟩
  case round =>
    obtain ⟨k, rfl, hk, HE⟩ := hrel
    by_cases hlk : k < l.length
    · have HD : Hid (_ = _) := noR_drop l k hlk
      obtain ⟨g, o, rfl, hg, hc⟩ := HL.out.cell k hlk
      have HI := isr_any l[k] w
      by_cases hr : isR l[k]
      · have HN : Hid (noR l = (k + 1) + noR (l.drop (k + 1))) := by
          show _ = _
          rw [HE.out, HD.out, if_pos hr]; omega
        have hd : decide (isR l[k]) = true := decide_eq_true hr
        rw [hd] at HI
        go_wp2_with (go_at_call 162; refine HI.mono ?_; rintro e w' ⟨rfl, rfl⟩)
        go_round
        case rel => exact ⟨k + 1, by go_num, by omega, HN⟩
        case measure => simp [intOf]; omega
      · have HN : Hid (noR l = k) := by
          show _ = _
          rw [HE.out, HD.out, if_neg hr]; omega
        have hd : decide (isR l[k]) = false := decide_eq_false hr
        rw [hd] at HI
        go_wp2_with (go_at_call 162; refine HI.mono ?_; rintro e w' ⟨rfl, rfl⟩)
        go_ret
        exact ⟨ret_i64 (by rw [HN.out]), rfl⟩
    · have HN : Hid (noR l = k) := by
        show _ = _
        rw [HE.out, List.drop_eq_nil_of_le (by omega)]
        rfl
      obtain rfl : k = l.length := by omega
      go_wp2
      go_ret
      exact ⟨ret_i64 (by rw [HN.out]), rfl⟩

/-- What Encode tells: a text, an error and its place. -/
def encT (l : List Int) : ByteArray := if noR l < l.length then ⟨#[]⟩ else ⟨(encL l).toArray⟩
def encE (l : List Int) : Array Value := if noR l < l.length then #[.int .i64 50, .int .i64 (noR l)] else #[.int .i64 0, .int .i64 0]
theorem encL_take (l : List Int) (k : Nat) (hk : k < l.length) : encL (l.take (k + 1)) = encL (l.take k) ++ Lib.encodeRune l[k] := by
  unfold encL
  rw [List.take_succ_eq_append_getElem hk, List.flatMap_append]
  simp
theorem encL_length (l : List Int) : (encL l).length ≤ 4 * l.length := by
  induction l with
  | nil => simp [encL]
  | cons r t ih =>
    have : encL (r :: t) = Lib.encodeRune r ++ encL t := rfl
    rw [this, List.length_append, ← Lib.runeCells_length]
    have := (Lib.runeCells_le r).2
    simp
    omega

end Go.Proofs.YtnlgbopdbihnjaaGreatDoor
/-
  The document's Is, Write, lead and made.
-/
namespace Go.Proofs.YtnlgbopdbihnjaaGreatDoor
open Go.RowKit

set_option maxHeartbeats 1000000 in
set_option maxRecDepth 100000 in
theorem dis_any (r : Int) (w : World) : Calls Tryz.prog 99 #[.int .i64 r] w fun e w' => e = .returned (.bool (decide (isR r))) ∧ w' = w := by
  by_cases h1 : 0 ≤ r
  · by_cases h2 : r ≤ 1114111
    · by_cases h3 : r < 55296
      · have HR : Hid (decide (isR r) = true) := decide_eq_true ⟨h1, h2, .inl h3⟩
        go_enter Tryz.func99, Tryz.ntmps99
        go_wp2
        go_ret
        exact ⟨ret_b HR.out.symm, rfl⟩
      · by_cases h4 : 57343 < r
        · have HR : Hid (decide (isR r) = true) := decide_eq_true ⟨h1, h2, .inr h4⟩
          go_enter Tryz.func99, Tryz.ntmps99
          go_wp2
          go_ret
          exact ⟨ret_b HR.out.symm, rfl⟩
        · have HR : Hid (decide (isR r) = false) := decide_eq_false (by unfold isR; omega)
          go_enter Tryz.func99, Tryz.ntmps99
          go_wp2
          go_ret
          exact ⟨ret_b (by rw [HR.out]), rfl⟩
    · have HR : Hid (decide (isR r) = false) := decide_eq_false (by unfold isR; omega)
      go_enter Tryz.func99, Tryz.ntmps99
      go_wp2
      go_ret
      exact ⟨ret_b (by rw [HR.out]), rfl⟩
  · have HR : Hid (decide (isR r) = false) := decide_eq_false (by unfold isR; omega)
    go_enter Tryz.func99, Tryz.ntmps99
    go_wp2
    go_ret
    exact ⟨ret_b (by rw [HR.out]), rfl⟩

theorem u8c (x : Int) (h0 : 0 ≤ x) (h1 : x < 256) : x = ((x.toNat.toUInt8).toNat : Int) := by rw [u8_of x h0 h1]; omega

set_option maxHeartbeats 1000000 in
set_option maxRecDepth 100000 in
theorem dwr_any (r : Int) (h : isR r) (w : World) : Calls Tryz.prog 160 #[.int .i32 r] w fun e w' => e = .returned (.slice (some ⟨w.heap.size, 0, none⟩) (Lib.encodeRune r).length (Lib.encodeRune r).length) ∧ w' = w.alloc (.cells (rowV (Lib.encodeRune r)) 5) := by
  obtain ⟨h0, h1, h2⟩ := h
  unfold Lib.encodeRune
  by_cases c1 : r < 128
  · rw [Lib.encodeRuneZ_one h0 (by omega)]
    have e1 := u8c r h0 (by omega)
    have w1 : IntKind.u8.wrap r = r := by rw [IntKind.wrap_u8]; omega
    have HE : Hid (rowV ([r].map fun x => x.toNat.toUInt8) = #[.int .u8 r]) := by show _ = _; simp [rowV, cellsB]; omega
    have HLN : Hid (([r].map fun x => x.toNat.toUInt8).length = 1) := rfl
    generalize ([r].map fun x => x.toNat.toUInt8) = E at HE HLN ⊢
    clear e1
    go_enter Tryz.func160, Tryz.ntmps160
    go_wp2
    go_ret
    exact ⟨by rw [HLN.out]; rfl, by rw [HE.out]⟩
  by_cases c2 : r < 2048
  · rw [Lib.encodeRuneZ_two (by omega) (by omega)]
    have t1 : r.tdiv 64 = r / 64 := Int.tdiv_eq_ediv_of_nonneg h0
    have t2 : r.tmod 64 = r % 64 := Int.tmod_eq_emod_of_nonneg h0
    have w1 : IntKind.u8.wrap (192 + r / 64) = 192 + r / 64 := by rw [IntKind.wrap_u8]; omega
    have w2 : IntKind.u8.wrap (128 + r % 64) = 128 + r % 64 := by rw [IntKind.wrap_u8]; omega
    have HE : Hid (rowV ([192 + r / 64, 128 + r % 64].map fun x => x.toNat.toUInt8) = #[.int .u8 (192 + r / 64), .int .u8 (128 + r % 64)]) := by show _ = _; simp [rowV, cellsB]; omega
    have HLN : Hid (([192 + r / 64, 128 + r % 64].map fun x => x.toNat.toUInt8).length = 2) := rfl
    generalize ([192 + r / 64, 128 + r % 64].map fun x => x.toNat.toUInt8) = E at HE HLN ⊢
    go_enter Tryz.func160, Tryz.ntmps160
    go_wp2
    go_ret
    exact ⟨by rw [HLN.out]; rfl, by rw [HE.out]⟩
  by_cases c3 : r < 65536
  · rw [Lib.encodeRuneZ_three (by omega)]
    have t1 : r.tdiv 64 = r / 64 := Int.tdiv_eq_ediv_of_nonneg h0
    have t2 : r.tmod 64 = r % 64 := Int.tmod_eq_emod_of_nonneg h0
    have t3 : r.tdiv 4096 = r / 4096 := Int.tdiv_eq_ediv_of_nonneg h0
    have t4 : (r / 64).tmod 64 = r / 64 % 64 := Int.tmod_eq_emod_of_nonneg (by omega)
    have w1 : IntKind.u8.wrap (224 + r / 4096) = 224 + r / 4096 := by rw [IntKind.wrap_u8]; omega
    have w2 : IntKind.u8.wrap (128 + r / 64 % 64) = 128 + r / 64 % 64 := by rw [IntKind.wrap_u8]; omega
    have w3 : IntKind.u8.wrap (128 + r % 64) = 128 + r % 64 := by rw [IntKind.wrap_u8]; omega
    have HE : Hid (rowV ([224 + r / 4096, 128 + r / 64 % 64, 128 + r % 64].map fun x => x.toNat.toUInt8) = #[.int .u8 (224 + r / 4096), .int .u8 (128 + r / 64 % 64), .int .u8 (128 + r % 64)]) := by show _ = _; simp [rowV, cellsB]; omega
    have HLN : Hid (([224 + r / 4096, 128 + r / 64 % 64, 128 + r % 64].map fun x => x.toNat.toUInt8).length = 3) := rfl
    generalize ([224 + r / 4096, 128 + r / 64 % 64, 128 + r % 64].map fun x => x.toNat.toUInt8) = E at HE HLN ⊢
    go_enter Tryz.func160, Tryz.ntmps160
    go_wp2
    go_ret
    exact ⟨by rw [HLN.out]; rfl, by rw [HE.out]⟩
  · rw [Lib.encodeRuneZ_four (by omega) (by omega)]
    have t1 : r.tdiv 64 = r / 64 := Int.tdiv_eq_ediv_of_nonneg h0
    have t2 : r.tmod 64 = r % 64 := Int.tmod_eq_emod_of_nonneg h0
    have t3 : r.tdiv 4096 = r / 4096 := Int.tdiv_eq_ediv_of_nonneg h0
    have t4 : (r / 64).tmod 64 = r / 64 % 64 := Int.tmod_eq_emod_of_nonneg (by omega)
    have t5 : r.tdiv 262144 = r / 262144 := Int.tdiv_eq_ediv_of_nonneg h0
    have t6 : (r / 4096).tmod 64 = r / 4096 % 64 := Int.tmod_eq_emod_of_nonneg (by omega)
    have w1 : IntKind.u8.wrap (240 + r / 262144) = 240 + r / 262144 := by rw [IntKind.wrap_u8]; omega
    have w2 : IntKind.u8.wrap (128 + r / 4096 % 64) = 128 + r / 4096 % 64 := by rw [IntKind.wrap_u8]; omega
    have w3 : IntKind.u8.wrap (128 + r / 64 % 64) = 128 + r / 64 % 64 := by rw [IntKind.wrap_u8]; omega
    have w4 : IntKind.u8.wrap (128 + r % 64) = 128 + r % 64 := by rw [IntKind.wrap_u8]; omega
    have HE : Hid (rowV ([240 + r / 262144, 128 + r / 4096 % 64, 128 + r / 64 % 64, 128 + r % 64].map fun x => x.toNat.toUInt8) = #[.int .u8 (240 + r / 262144), .int .u8 (128 + r / 4096 % 64), .int .u8 (128 + r / 64 % 64), .int .u8 (128 + r % 64)]) := by show _ = _; simp [rowV, cellsB]; omega
    have HLN : Hid (([240 + r / 262144, 128 + r / 4096 % 64, 128 + r / 64 % 64, 128 + r % 64].map fun x => x.toNat.toUInt8).length = 4) := rfl
    generalize ([240 + r / 262144, 128 + r / 4096 % 64, 128 + r / 64 % 64, 128 + r % 64].map fun x => x.toNat.toUInt8) = E at HE HLN ⊢
    go_enter Tryz.func160, Tryz.ntmps160
    go_wp2
    go_ret
    exact ⟨by rw [HLN.out]; rfl, by rw [HE.out]⟩

set_option maxHeartbeats 1000000 in
set_option maxRecDepth 100000 in
theorem dlead_any (n : Nat) (hn : n ≤ 4) (w : World) : Calls Tryz.prog 159 #[.int .i64 n] w fun e w' => e = .returned (.int .i64 (leadN n)) ∧ w' = w.alloc (.cells #[.int .i64 0, .int .i64 0, .int .i64 192, .int .i64 224, .int .i64 240] 3) := by
  match n, hn with
  | 0, _ => go_enter Tryz.func159, Tryz.ntmps159; go_wp2; go_ret; exact ⟨rfl, rfl⟩
  | 1, _ => go_enter Tryz.func159, Tryz.ntmps159; go_wp2; go_ret; exact ⟨rfl, rfl⟩
  | 2, _ => go_enter Tryz.func159, Tryz.ntmps159; go_wp2; go_ret; exact ⟨rfl, rfl⟩
  | 3, _ => go_enter Tryz.func159, Tryz.ntmps159; go_wp2; go_ret; exact ⟨rfl, rfl⟩
  | 4, _ => go_enter Tryz.func159, Tryz.ntmps159; go_wp2; go_ret; exact ⟨rfl, rfl⟩
end Go.Proofs.YtnlgbopdbihnjaaGreatDoor
/-
  The document's Encode.
-/
namespace Go.Proofs.YtnlgbopdbihnjaaGreatDoor
open Go.RowKit

theorem noR_take (l : List Int) (k : Nat) (hk : k < l.length) (h : ∀ j (hj : j < l.length), j < k → isR l[j]) (hr : ¬ isR l[k]) : noR l = k := by
  induction l generalizing k with
  | nil => simp at hk
  | cons x t ih =>
    cases k with
    | zero => simp only [noR]; rw [if_neg (by simpa using hr)]
    | succ k =>
      simp only [noR]
      rw [if_pos (show isR x from h 0 (by simp) (by omega))]
      congr 1
      exact ih k (by simpa using hk) (fun j hj hjk => h (j + 1) (by simp; omega) (by omega)) (by simpa using hr)
theorem noR_full (l : List Int) (h : ∀ j (hj : j < l.length), isR l[j]) : noR l = l.length := by
  rw [noR_all]
  intro r hr
  obtain ⟨j, hj, rfl⟩ := List.getElem_of_mem hr
  exact h j hj

theorem bts_new (w : World) (l : List UInt8) : Bts (some ⟨w.heap.size, 0, none⟩) l (w.alloc (.cells (rowV l) 5)) := by
  refine .inr ⟨w.heap.size, 0, rfl, by simp, fun j hj => ?_⟩
  rw [Nat.zero_add, (Lies.new w (rowV l) 5).cell j, rowV_at l j hj]

end Go.Proofs.YtnlgbopdbihnjaaGreatDoor
