/-
  A builder of texts, as this program has it: a byte more, a rune more.
-/
import Derived.Test.YtjpmfgmoekpcpabGreatDoorNum
import Derived.Test.YtjpmfgmoekpcpabGreatDoorShf
import Derived.Lib.OthersKept
namespace Go.Proofs.YtjpmfgmoekpcpabGreatDoor
open Go.RowKit

theorem bld_size : (Tryz.prog.info? 59).map (·.size) = some 2 := by kernel_rfl
theorem bld_lies : liesAt Tryz.prog Tryz.prog.depth 59 (2 / Tryz.prog.cellsOf 59) 0 59 1 = true := by kernel_rfl

set_option maxHeartbeats 1000000 in
set_option maxRecDepth 100000 in
theorem check_used (b : Nat) (w : World) (h0 : w.cell? ⟨b, 0, none⟩ = some (.pointer (some ⟨b, 0, none⟩))) :
    Calls Tryz.prog 82 #[.pointer (some ⟨b, 0, none⟩)] w fun e w' => e = .returned (.tuple #[]) ∧ w' = w := by
  obtain ⟨j, hj, _⟩ := Option.map_eq_some_iff.1 bld_size
  go_enter Tryz.func82, Tryz.ntmps82
  go_wp2
  rw [Lib.run_neq_ptr_same w _ Tryz.underlying56 hj]
  go_wp2
  go_end0
  exact ⟨rfl, rfl⟩

set_option maxHeartbeats 1000000 in
set_option maxRecDepth 100000 in
theorem check_fresh (b : Nat) (w : World) (h0 : w.cell? ⟨b, 0, none⟩ = some (.pointer none)) (hsh : w.shape? b = some (59, 2)) (hfz : w.frozen? ⟨b, 0, none⟩ = false) :
    Calls Tryz.prog 82 #[.pointer (some ⟨b, 0, none⟩)] w fun e w' => e = .returned (.tuple #[]) ∧ w' = w.setCell ⟨b, 0, none⟩ (.pointer (some ⟨b, 0, none⟩)) := by
  obtain ⟨j, hj, hjs⟩ := Option.map_eq_some_iff.1 bld_size
  go_enter Tryz.func82, Tryz.ntmps82
  go_wp2
  rw [Lib.run_to_unsafe w ⟨b, 0, none⟩ Tryz.underlying56 Tryz.underlying136 hj (by rw [hjs]; decide) hsh (Nat.zero_lt_succ 1)]
  simp only [Result.andThen]
  rw [Oper.upon_value]
  go_wp2
  rw [run_callFunc_extern Tryz.func113 (by kernel_rfl) (by kernel_rfl) (by kernel_rfl) (e := Extern.AbiNoEscape.same) (by kernel_rfl)]
  rw [Lib.run_noEscape]
  simp only [Result.andThen]
  rw [Oper.upon_value]
  go_wp2
  rw [Lib.run_from_unsafe w ⟨b, 0, none⟩ Tryz.underlying136 Tryz.underlying56 hj hsh bld_lies]
  simp only [Result.andThen]
  rw [Oper.upon_value]
  go_wp2
  go_end0
  exact ⟨rfl, rfl⟩

/-- What was written into the builder b, whose row lies from B on. -/
structure Wrote (B b : Nat) (w w' : World) : Prop where
  below : Below B w w'
  kept : Lib.OthersKept 5 (some b) w w'
theorem Wrote.refl (B b : Nat) (w : World) : Wrote B b w w := ⟨Below.refl _ _, Lib.OthersKept.refl _ _ _⟩
theorem Wrote.trans {B b : Nat} {x y z : World} (h : Wrote B b x y) (k : Wrote B b y z) : Wrote B b x z := ⟨h.below.trans k.below, h.kept.trans k.kept⟩
theorem Wrote.lies {B b g t : Nat} {w w' : World} {cs : Array Value} (h : Wrote B b w w') (hl : Lies w g cs t) (hg : g ≠ b) (ht : t ≠ 5) : Lies w' g cs t :=
  h.kept g _ hl (by intro e; injection e with e; exact hg e) (fun c fz e => by injection e with _ e2; exact ht e2)
/-- A builder that holds a text. -/
def Bl (B b : Nat) (l : List UInt8) (w : World) : Prop := Lib.IsBuilder 59 5 B b (cellsB l) w
theorem Bl.lt {B b : Nat} {l : List UInt8} {w : World} (h : Bl B b l w) : b < w.heap.size := by rcases h with h | h <;> exact Lib.BuilderAt.lt h
theorem Bl.le {B b : Nat} {l : List UInt8} {w : World} (h : Bl B b l w) : B ≤ b := by rcases h with h | h <;> exact h.1
theorem Bl.fresh (w : World) : Bl w.heap.size w.heap.size [] (w.alloc (.cells #[.pointer none, .slice none 0 0] 59)) := Lib.fresh_isBuilder 59 5 w
theorem Bl.keep {B b : Nat} {l : List UInt8} {w w' : World} (h : Bl B b l w) (hk : ∀ k : Nat, (∃ (c : Array Value) (t : TypeId) (fz : Nat × Nat), w.heap[k]? = some (Obj.cells c t fz) ∧ (t = 5 ∨ t = 59)) → w'.heap[k]? = w.heap[k]?) : Bl B b l w' := by
  have go : ∀ p, Lib.BuilderAt 59 5 B b p (cellsB l) w → Lib.BuilderAt 59 5 B b p (cellsB l) w' := by
    rintro p ⟨h1, v, hb, hown, hne⟩
    refine ⟨h1, v, (hk b ⟨_, _, _, hb, .inr rfl⟩).trans hb, ?_, hne⟩
    obtain ⟨h2, h3 | ⟨g, cap, cur, hv, hB, hg, hr⟩⟩ := hown
    · exact ⟨h2, .inl h3⟩
    · exact ⟨h2, .inr ⟨g, cap, cur, hv, hB, (hk g ⟨_, _, _, hg, .inl rfl⟩).trans hg, hr⟩⟩
  rcases h with h | h
  · exact .inl (go _ h)
  · exact .inr (go _ h)
theorem Bl.below {B b : Nat} {l : List UInt8} {w w' : World} (h : Bl B b l w) (hb : Below w.heap.size w w') : Bl B b l w' :=
  h.keep (fun k ⟨_, _, _, hk, _⟩ => hb.block k (Array.getElem?_eq_some_iff.1 hk).1)
theorem Bl.but {B b g : Nat} {l : List UInt8} {w w' : World} {cs : Array Value} {t : TypeId} (h : Bl B b l w) (hb : But g w w') (hg : Lies w g cs t) (ht : t ≠ 5) (ht2 : t ≠ 59) : Bl B b l w' :=
  h.keep (fun k ⟨c, u, fz, hk, hu⟩ => hb.block k (Array.getElem?_eq_some_iff.1 hk).1 (fun e => by
    subst e
    have := hk.symm.trans hg
    injection this with e
    injection e with _ e2
    rcases hu with rfl | rfl
    · exact ht e2.symm
    · exact ht2 e2.symm))

/-- A builder is looked at ahead of a write. -/
theorem check_any (B b : Nat) (l : List UInt8) (w : World) (h : Bl B b l w) :
    Calls Tryz.prog 82 #[.pointer (some ⟨b, 0, none⟩)] w fun e w' => e = .returned (.tuple #[]) ∧ Lib.BuilderAt 59 5 B b (.pointer (some ⟨b, 0, none⟩)) (cellsB l) w' ∧ Wrote B b w w' := by
  rcases h with h | h
  · refine (check_fresh b w h.cell0 h.shape h.frozen0).mono ?_
    rintro e w' ⟨rfl, rfl⟩
    exact ⟨rfl, h.used _, (Below.refl B w).setCell (p := ⟨b, 0, none⟩) h.1 _, Lib.OthersKept.setCell (b := b) (Lib.OthersKept.refl _ _ _) ⟨b, 0, none⟩ rfl _⟩
  · refine (check_used b w h.cell0).mono ?_
    rintro e w' ⟨rfl, rfl⟩
    exact ⟨rfl, h, Wrote.refl _ _ _⟩
theorem own_kindB {w : World} {B n : Nat} {v : Value} {xs : List Value} (h : w.ownsRow B 5 1 v n xs) : ∀ g, v.ownBlock = some g → ∃ c fz, w.heap[g]? = some (.cells c 5 fz) := by
  intro g hg
  rcases h.2 with ⟨rfl, _⟩ | ⟨g', cap, cur, rfl, hB, hk, _⟩
  · cases hg
  · injection hg with hg
    subst hg
    exact ⟨_, _, hk⟩

set_option maxHeartbeats 1000000 in
set_option maxRecDepth 100000 in
theorem wbyte_any (B b : Nat) (l : List UInt8) (c : UInt8) (w : World) (h : Bl B b l w) (hlen : l.length + 1 ≤ 140737488355328) (hBw : B ≤ w.heap.size) :
    Calls Tryz.prog 40 #[.pointer (some ⟨b, 0, none⟩), .int .u8 (c.toNat : Int)] w fun e w' => e = .returned .nilIface ∧ Bl B b (l ++ [c]) w' ∧ Wrote B b w w' := by
  go_enter Tryz.func40, Tryz.ntmps40
  go_wp2_with fail
  refine (check_any B b l _ h).mono ?_
  rintro e w1 ⟨rfl, ⟨hB, v, hbk, hown, hne⟩, hw1⟩
  have hlt : b < w1.heap.size := (Array.getElem?_eq_some_iff.1 hbk).1
  have c1 : w1.cell? ⟨b, 1, none⟩ = some v := by rw [Lib.cell_of_heap hbk]; rfl
  have HBK : Hid (w1.heap[b]? = some (.cells #[.pointer (some ⟨b, 0, none⟩), v] 59 (0, 0))) := hbk
  have HNE : Hid (v.ownBlock ≠ some b) := hne
  have HW1 : Hid (Wrote B b w w1) := hw1
  have HOW : Hid (w1.ownsRow B 5 1 v l.length (cellsB l)) := by rw [cellsB_length] at hown; exact hown
  clear hbk hne h hown hw1
  have hsz := HW1.out.below.size
  go_wp2_with (at_builtin; refine wpList_append_keep rfl _ _ rfl B _ l.length l rfl (HOW.out.alloc _) (some ⟨w1.heap.size, 0, none⟩) [c] 1 1 rfl rfl (.inr ⟨w1.heap.size, 0, rfl, by simp, fun j hj => by obtain rfl : j = 0 := (by simpa using hj); simp⟩) (fun e => by cases e) (by omega) (by simp; omega) ?_)
  intro v2 w2 hown2 hgrow2
  have hg2 := grown_on (World.grownBy_alloc w1 _ v.ownBlock) hgrow2 (fun _ h => .inl h.symm)
  have HL2 : Hid (Lies w2 b #[.pointer (some ⟨b, 0, none⟩), v] 59) := (hg2.block b hlt (fun e => HNE.out e.symm)).trans HBK.out
  have HW2 : Hid (Wrote B b w w2) := ⟨HW1.out.below.grown hg2 (by omega) (fun q hq => (HOW.out.lt q hq).1), HW1.out.kept.grown hg2 (own_kindB HOW.out)⟩
  have c2 : w2.cell? ⟨b, 1, none⟩ = some v := HL2.out.cell 1
  have f2 := HL2.out.frozen 1
  have HO2 : Hid (w2.ownsRow B 5 1 v2 (cellsB (l ++ [c])).length (cellsB (l ++ [c]))) := by
    show World.ownsRow _ _ _ _ _ _ _
    rw [cellsB_length, List.length_append]
    exact hown2
  obtain ⟨a2, k2, rfl⟩ := own_shape hown2
  clear hown2 hgrow2 hg2
  go_wp2
  go_ret
  exact ⟨rfl, .inr (Lib.BuilderAt.put hB HL2.out HO2.out (by decide)), HW2.out.below.setCell (p := ⟨b, 1, none⟩) hB _, Lib.OthersKept.setCell (b := b) HW2.out.kept ⟨b, 1, none⟩ rfl _⟩

theorem bstr_any (B b : Nat) (l : List UInt8) (w : World) (h : Bl B b l w) (hBw : B ≤ w.heap.size) :
    Calls Tryz.prog 33 #[.pointer (some ⟨b, 0, none⟩)] w fun e w' => e = .returned (.string ⟨l.toArray⟩) ∧ Below B w w' := Tryz.Builder_String_any B b l w h hBw
end Go.Proofs.YtjpmfgmoekpcpabGreatDoor
