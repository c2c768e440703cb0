/-
  Rows of bytes that a call makes for itself.
-/
import Derived.Test.YtlkflikhbkhpeabDoorTabl
import Derived.OwnWalk
import Derived.Laws.OwnMore
import Derived.Laws.Cover1
import Derived.Laws.IdiomStrings
namespace Go.Proofs.YtlkflikhbkhpeabDoor
open Go.RowKit

theorem info5 : (Tryd.prog.info? 5).map (fun i => (i.zero, i.size, i.bytes)) = some (some (.int .u8 0), 1, 1) := by kernel_rfl
theorem made_zero (n : Nat) : (madeCells #[Value.int .u8 0] n).toList = cellsB (List.replicate n 0) := by
  apply List.ext_getElem?
  intro i
  by_cases h : i < n
  · simp [madeCells, cellsB, h, Nat.mod_one]
  · rw [List.getElem?_eq_none (by simp [madeCells]; omega), List.getElem?_eq_none (by simp [cellsB]; omega)]

/-- A row that the call made, as a list of bytes. -/
theorem own_bts {w : World} {base n : Nat} {v : Value} {l : List UInt8} (h : w.ownsRow base 5 1 v n (cellsB l)) : ∃ a cap, v = .slice a n cap ∧ Bts a l w ∧ l.length = n ∧ (a = none → cap = 0) ∧ n ≤ cap ∧ ∀ ad, a = some ad → base ≤ ad.block ∧ ad.block < w.heap.size ∧ ad.off = 0 ∧ ad.spot = none := by
  obtain ⟨h1, h2⟩ := id h
  have hl : l.length = n := by rw [cellsB_length] at h1; omega
  rcases h2 with ⟨rfl, h0⟩ | ⟨g, cap, cur, rfl, hb, hg, hcap, _⟩
  · exact ⟨none, 0, by rw [h0], .inl (List.eq_nil_of_length_eq_zero (hl.trans h0)), hl, fun _ => rfl, by omega, fun ad e => by cases e⟩
  · refine ⟨_, cap, rfl, .inr ⟨g, 0, rfl, (Array.getElem?_eq_some_iff.1 hg).1, fun j hj => ?_⟩, hl, (fun e => by cases e), hcap, fun ad e => ?_⟩
    · have := h.cellAt j (by omega)
      rw [Nat.zero_add, this, cellsB_at l j hj]
    · injection e with e
      subst e
      exact ⟨hb, (Array.getElem?_eq_some_iff.1 hg).1, rfl, rfl⟩
theorem bts_news {ad : Addr} {l : List UInt8} {w : World} (h : Bts (some ad) l w) : ∀ j u, (cellsB l)[j]? = some u → w.cell? (ad.add j) = some u := by
  intro j u hu
  have hj : j < l.length := by
    have := (List.getElem?_eq_some_iff.1 hu).1
    simpa [cellsB] using this
  obtain ⟨g, o, e, _, hc⟩ := h.cell j hj
  injection e with e
  subst e
  rw [Addr.add_lit, hc, ← hu, cellsB_at l j hj]
theorem Bts.take {a : Option Addr} {l : List UInt8} {w : World} (h : Bts a l w) (n : Nat) : Bts a (l.take n) w := by
  rcases h with rfl | ⟨g, o, e, hg, hr⟩
  · exact .inl (by simp)
  · exact .inr ⟨g, o, e, hg, fun j hj => by rw [List.length_take] at hj; rw [hr j (by omega), List.getElem_take]⟩
theorem bts_none {l : List UInt8} {w : World} (h : Bts none l w) : l = [] := by
  rcases h with h | ⟨g, o, e, _⟩
  · exact h
  · cases e
/-- One byte that has just been laid, as the appends read it. -/
theorem one_new {w : World} {t : TypeId} (v : Value) : ∀ j u, [v][j]? = some u → (w.alloc (.cells #[v] t)).cell? ((⟨w.heap.size, 0, none⟩ : Addr).add j) = some u := by
  intro j u hj
  match j, hj with
  | 0, hj => simp at hj; subst hj; simp [Addr.add]
theorem one_one {x : Int} : ∀ u ∈ [Value.int .u8 x], u.oneCell' = true := by
  intro u hu
  simp at hu
  subst hu
  rfl

/-- A row with room behind it. -/
theorem make_room (w : World) (n c : Nat) (x y : Int) (hx : x = (n : Int)) (hy : y = (c : Int)) (hc : n ≤ c) (hl : c ≤ 281474976710656) (base : Nat) (hb : base ≤ w.heap.size) :
    ∃ w', (Instr.makeSlice 22 (.int .i64 x) (.int .i64 y)).run Tryd.prog w = .ok (.slice (some ⟨w.heap.size, 0, none⟩) n c) w' ∧
      w'.ownsRow base 5 1 (.slice (some ⟨w.heap.size, 0, none⟩) n c) n (cellsB (List.replicate n 0)) ∧ Below w.heap.size w w' := by
  subst hx hy
  obtain ⟨i0, hi, hz0, hz1, hz2⟩ := info_parts info5
  have hr := run_make (P := Tryd.prog) w 22 5 i0 (.int .u8 0) Tryd.underlying22 hi hz0 .i64 .i64 n c (by omega) (by omega) (by rw [hz2]; omega) (by omega)
  rw [hz1, Nat.mul_one, Int.toNat_natCast, Int.toNat_natCast] at hr
  refine ⟨_, hr, ?_, (Below.refl _ _).alloc (Nat.le_refl _) _⟩
  refine ⟨by rw [cellsB_length]; simp, .inr ⟨w.heap.size, c, _, rfl, hb, heap_alloc_last w _, hc, by unfold maxLen; omega, by rw [size_madeCells, Nat.mul_one], ?_⟩⟩
  show ((madeCells #[Value.int .u8 0] c).toList).take (n * 1) = _
  rw [made_zero, Nat.mul_one]
  simp [cellsB, Nat.min_eq_left hc]

set_option maxRecDepth 100000 in
theorem copied_any (a : Option Addr) (l : List UInt8) (cap : Nat) (w : World) (h : Bts a l w) (hl : l.length ≤ 140737488355328) :
    Calls Tryd.prog 9 #[.slice a l.length cap] w fun e w' => ∃ v, e = .returned v ∧ w'.ownsRow w.heap.size 5 1 v l.length (cellsB l) ∧ Below w.heap.size w w' := by
  obtain ⟨i0, hi, hz0, hz1, hz2⟩ := info_parts info5
  have HH : Hid (Bts a l w) := h
  clear h
  cases a with
  | none =>
    obtain rfl := bts_none HH.out
    go_enter Tryd.func9, Tryd.ntmps9
    go_wp2
    go_ret
    exact ⟨_, rfl, World.ownsRow_made w #[] 0 (Nat.le_refl _) (by unfold maxLen; omega) rfl, (Below.refl _ _).alloc (Nat.le_refl _) _⟩
  | some ad =>
    go_enter Tryd.func9, Tryd.ntmps9
    go_wp2_with (at_builtin; refine wpList_append_own _ rfl _ _ 22 rfl w.heap.size 5 i0 (.int .u8 0) 1 1 Tryd.underlying22 hi hz0 hz1 hz2 rfl (by decide) _ 0 [] rfl (World.ownsRow_made w #[] 0 (Nat.le_refl _) (by unfold maxLen; omega) rfl) ad l.length cap (cellsB l) rfl (by simp [cellsB]) ?c1 (cellsB_one l) ?c3 ?c4 ?c5 ?_)
    case c1 => exact bts_news (HH.out.below ((Below.refl _ _).alloc (Nat.le_refl _) _))
    case c3 => unfold maxLen; omega
    case c4 => omega
    case c5 => simp
    intro v' w1 hown hgrow _
    have R : Hid (w1.ownsRow w.heap.size 5 1 v' l.length (cellsB l)) := by
      show w1.ownsRow _ _ _ _ _ _
      simpa using hown
    have HB : Hid (Below w.heap.size w w1) := ((Below.refl _ _).alloc (Nat.le_refl _) _).grown hgrow (by simp) (fun q hq => by simp [Value.ownBlock] at hq; omega)
    clear hown hgrow
    go_wp2
    go_ret
    exact ⟨_, rfl, R, HB⟩
end Go.Proofs.YtlkflikhbkhpeabDoor
