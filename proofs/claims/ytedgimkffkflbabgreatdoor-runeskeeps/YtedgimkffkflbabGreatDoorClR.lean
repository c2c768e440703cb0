/-
  What came in, as the walks have it.
-/
import Derived.Test.YtedgimkffkflbabGreatDoorBase
import Derived.Test.YtedgimkffkflbabGreatDoorRows
import Derived.ProofKit
import Derived.OpenShut
import Derived.SizedLaws
import Derived.Test.YtedgimkffkflbabGreatDoorCard5
import Derived.Test.YtedgimkffkflbabGreatDoorShf
import Derived.Lib.SliceRun
namespace Go.Proofs.YtedgimkffkflbabGreatDoor
open Go.ChangeShapes Go.WideShapes Go.ChangeAt Go.RowKit

theorem bytes5 : Tryz.prog.bytesOf 5 = 1 := by kernel_rfl

theorem open_bytes {H : Type} {enc : TypeId × Value → H} {W : World} {a : Option Addr} {len cap : Nat} {d : DataW H} {p : List MemPlace}
    (h : DataW.Trod enc Tryz.prog W 0 (fun _ => true) true 23 (.slice a len cap) d p) :
    ∃ l : List UInt8, l.length = len ∧ Bts a l W ∧ len ≤ cap ∧ ((∃ el sp, d = .slice el sp ∧ el.length = len) ∨ (d = .nil ∧ len = 0)) := by
  obtain ⟨fuel, hf⟩ := h
  rcases open_ints Tryz.underlying23 Tryz.underlying5 (by kernel_rfl) hf with ⟨hcs, hx⟩ | ⟨x, l, c, zs, hcs, _, hl, hm, hz, hx, hcell, hwz⟩
  · simp [Value.cells] at hcs
    obtain ⟨rfl, rfl, rfl⟩ := hcs
    simp only [Prod.mk.injEq] at hx
    exact ⟨[], rfl, .inl rfl, Nat.le_refl _, .inr ⟨hx.1, rfl⟩⟩
  · simp [Value.cells] at hcs
    obtain ⟨rfl, rfl, rfl⟩ := hcs
    simp only [Prod.mk.injEq] at hx
    have hz' : zs.length = cap := by simpa using hz
    have hlen : ((zs.take len).map fun n => UInt8.ofNat n.toNat).length = len := by
      rw [List.length_map, List.length_take]
      omega
    refine ⟨(zs.take len).map fun n => UInt8.ofNat n.toNat, hlen, ?_, by omega, .inl ⟨_, _, hx.1, ?_⟩⟩
    · by_cases h0 : len = 0
      · left
        exact List.eq_nil_of_length_eq_zero (hlen.trans h0)
      · right
        obtain ⟨b, off, spot⟩ := x
        have hc := hcell 0 (by omega)
        have hspot : spot = none := by simpa [Addr.add] using World.cell?_spot hc
        subst hspot
        refine ⟨b, off, rfl, ?_, fun j hj => ?_⟩
        · have := World.block_lt_of_cell? W _ hc
          simpa [Addr.add_lit] using this
        have hj' : j < len := by omega
        have h1 := hcell j (by omega)
        rw [Addr.add_lit] at h1
        rw [h1]
        have hjz : j < zs.length := by omega
        have hw := hwz zs[j] (List.getElem_mem hjz)
        obtain ⟨q0, q1⟩ := bounds_u8 hw
        have e1 : zs.getD j 0 = zs[j] := by simp [List.getD_eq_getElem?_getD, List.getElem?_eq_getElem hjz]
        rw [e1]
        have e2 : ((zs.take len).map fun n => UInt8.ofNat n.toNat)[j]'hj = UInt8.ofNat (zs[j]).toNat := by simp
        rw [e2]
        congr 2
        simp
        omega
    · simp [lits]
      omega
/-- A list that is not there has no room. -/
theorem open_none {H : Type} {enc : TypeId × Value → H} {W : World} {a : Option Addr} {len cap : Nat} {d : DataW H} {p : List MemPlace}
    (h : DataW.Trod enc Tryz.prog W 0 (fun _ => true) true 23 (.slice a len cap) d p) : a = none → cap = 0 := by
  obtain ⟨fuel, hf⟩ := h
  rcases open_ints Tryz.underlying23 Tryz.underlying5 (by kernel_rfl) hf with ⟨hcs, _⟩ | ⟨x, l, c, zs, hcs, _⟩
  · simp [Value.cells] at hcs
    exact fun _ => hcs.2.2
  · simp [Value.cells] at hcs
    intro e
    rw [e] at hcs
    cases hcs.1
theorem bulk_pos {H : Type} (d : DataW H) : 0 < Rows.uptoBulk d := by
  cases d <;> first | (rename_i l; cases l <;> simp [Rows.uptoBulk]) | simp [Rows.uptoBulk]
theorem bulk_len {H : Type} : ∀ l : List (DataW H), l.length ≤ Rows.uptoBulkAll l
  | [] => Nat.zero_le _
  | d :: r => by
    have h1 := bulk_pos d
    have h2 := bulk_len r
    simp only [Rows.uptoBulkAll, List.length_cons]
    omega
theorem bulk_mem {H : Type} {d : DataW H} : ∀ {l : List (DataW H)}, d ∈ l → Rows.uptoBulk d ≤ Rows.uptoBulkAll l
  | x :: r, h => by
    simp only [Rows.uptoBulkAll]
    rcases List.mem_cons.1 h with rfl | h
    · omega
    · have := bulk_mem h
      omega
theorem bulk_slice {H : Type} {el sp l : List (DataW H)} (hk : Rows.uptoSmall H l = true) (h : DataW.slice el sp ∈ l) : el.length ≤ 1048576 := by
  have h1 : Rows.uptoBulkAll l ≤ 1048576 := of_decide_eq_true hk
  have h2 := bulk_mem h
  have h3 := bulk_len el
  simp only [Rows.uptoBulk] at h2
  omega
theorem bulk_string {H : Type} {s : ByteArray} {l : List (DataW H)} (hk : Rows.uptoSmall H l = true) (h : DataW.lit (.string s.data.toList) ∈ l) : s.size ≤ 1048576 := by
  have h1 : Rows.uptoBulkAll l ≤ 1048576 := of_decide_eq_true hk
  have h2 := bulk_mem h
  simp only [Rows.uptoBulk, Array.length_toList] at h2
  have h3 : s.data.size = s.size := rfl
  omega
end Go.Proofs.YtedgimkffkflbabGreatDoor
/-
  What came in, as the walks have it: runes; and what a bound of all data says of each.
-/
namespace Go.Proofs.YtedgimkffkflbabGreatDoor
open Go.ChangeShapes Go.WideShapes Go.ChangeAt Go.RowKit

theorem open_runes {H : Type} {enc : TypeId × Value → H} {W : World} {a : Option Addr} {len cap : Nat} {d : DataW H} {p : List MemPlace}
    (h : DataW.Trod enc Tryz.prog W 0 (fun _ => true) true 22 (.slice a len cap) d p) :
    ∃ l : List Int, l.length = len ∧ Nts .i32 a l W ∧ (∀ x ∈ l, -2147483648 ≤ x ∧ x ≤ 2147483647) ∧ ((∃ el sp, d = .slice el sp ∧ el.length = len) ∨ (d = .nil ∧ len = 0)) := by
  obtain ⟨fuel, hf⟩ := h
  rcases open_ints Tryz.underlying22 Tryz.underlying21 (by kernel_rfl) hf with ⟨hcs, hx⟩ | ⟨x, l, c, zs, hcs, _, hl, hm, hz, hx, hcell, hwz⟩
  · simp [Value.cells] at hcs
    obtain ⟨rfl, rfl, rfl⟩ := hcs
    simp only [Prod.mk.injEq] at hx
    exact ⟨[], rfl, .inl rfl, fun z hz => (by cases hz), .inr ⟨hx.1, rfl⟩⟩
  · simp [Value.cells] at hcs
    obtain ⟨rfl, rfl, rfl⟩ := hcs
    simp only [Prod.mk.injEq] at hx
    have hz' : zs.length = cap := by simpa using hz
    have hlen : (zs.take len).length = len := by
      rw [List.length_take]
      omega
    refine ⟨zs.take len, hlen, ?_, fun z hz => bounds_i32 (hwz z (List.mem_of_mem_take hz)), .inl ⟨_, _, hx.1, ?_⟩⟩
    · by_cases h0 : len = 0
      · left
        exact List.eq_nil_of_length_eq_zero (hlen.trans h0)
      · right
        obtain ⟨b, off, spot⟩ := x
        have hc := hcell 0 (by omega)
        have hspot : spot = none := by simpa [Addr.add] using World.cell?_spot hc
        subst hspot
        refine ⟨b, off, rfl, ?_, fun j hj => ?_⟩
        · have := World.block_lt_of_cell? W _ hc
          simpa [Addr.add_lit] using this
        have hj' : j < len := by omega
        have h1 := hcell j (by omega)
        rw [Addr.add_lit] at h1
        rw [h1]
        have hjz : j < zs.length := by omega
        have e1 : zs.getD j 0 = zs[j] := by simp [List.getD_eq_getElem?_getD, List.getElem?_eq_getElem hjz]
        rw [e1, List.getElem_take]
    · simp [lits]
      omega
end Go.Proofs.YtedgimkffkflbabGreatDoor
/-
  The room of a list that came in.
-/
namespace Go.Proofs.YtedgimkffkflbabGreatDoor
open Go.ChangeShapes Go.WideShapes Go.ChangeAt Go.RowKit

theorem open_cap {H : Type} {enc : TypeId × Value → H} {W : World} {a : Option Addr} {len cap : Nat} {d : DataW H} {p : List MemPlace}
    (h : DataW.Trod enc Tryz.prog W 0 (fun _ => true) true 23 (.slice a len cap) d p) : cap ≤ 9223372036854775807 := by
  obtain ⟨fuel, hf⟩ := h
  rcases open_ints Tryz.underlying23 Tryz.underlying5 (by kernel_rfl) hf with ⟨hcs, _⟩ | ⟨x, l, c, zs, hcs, _, _, hm, _⟩
  · simp [Value.cells] at hcs
    omega
  · simp [Value.cells] at hcs
    unfold maxLen at hm
    omega
end Go.Proofs.YtedgimkffkflbabGreatDoor
/-
  slices.Clone of numbers: the same numbers in memory of the call's own.
-/
namespace Go.Proofs.YtedgimkffkflbabGreatDoor
open Go.RowKit

theorem clr_nil (cap : Nat) (w : World) : Calls Tryz.prog 17 #[.slice none 0 cap] w fun e w' => e = .returned (.slice none 0 0) ∧ w' = w := by
  have q := Lib.run_eql_slice_nil (P := Tryz.prog) w 22 21 none 0 cap 0 0 Tryz.underlying22
  go_enter Tryz.func17, Tryz.ntmps17
  go_wp2
  go_ret
  exact ⟨rfl, rfl⟩

theorem clr_some (ad : Addr) (l : List Int) (cap : Nat) (w : World) (h : Nts .i32 (some ad) l w) (hl : l.length ≤ 35184372088000) :
    Calls Tryz.prog 17 #[.slice (some ad) l.length cap] w fun e w' => ∃ v, e = .returned v ∧ w'.ownsRow w.heap.size 21 1 v l.length (cellsN .i32 l) ∧ Below w.heap.size w w' := by
  obtain ⟨i0, hi, hz0, hz1, hz2⟩ := info_parts infoR
  have HH : Hid (Nts .i32 (some ad) l w) := h
  clear h
  have q := Lib.run_eql_slice_nil (P := Tryz.prog) w 22 21 (some ad) l.length cap 0 0 Tryz.underlying22
  go_enter Tryz.func17, Tryz.ntmps17
  go_wp2_with (at_builtin; refine wpList_append_own _ rfl _ _ 22 rfl w.heap.size 21 i0 (.int .i32 0) 1 4 Tryz.underlying22 hi hz0 hz1 hz2 rfl (by decide) _ 0 [] rfl (World.ownsRow_made w #[] 0 (Nat.le_refl _) (by unfold maxLen; omega) rfl) ad l.length cap (cellsN .i32 l) rfl (by simp [cellsN]) ?c1 (cellsN_one .i32 l) ?c3 ?c4 ?c5 ?_)
  case c1 => exact nts_news (HH.out.below ((Below.refl _ _).alloc (Nat.le_refl _) _))
  case c3 => unfold maxLen; omega
  case c4 => omega
  case c5 => simp
  intro v' w1 hown hgrow _
  have R : Hid (w1.ownsRow w.heap.size 21 1 v' l.length (cellsN .i32 l)) := by
    show w1.ownsRow _ _ _ _ _ _
    simpa using hown
  have HB : Hid (Below w.heap.size w w1) := ((Below.refl _ _).alloc (Nat.le_refl _) _).grown hgrow (by simp) (fun q hq => by simp [Value.ownBlock] at hq; omega)
  clear hown hgrow q
  go_wp2
  go_ret
  exact ⟨_, rfl, R, HB⟩
theorem clr_any (a : Option Addr) (l : List Int) (cap : Nat) (w : World) (h : Nts .i32 a l w) (hl : l.length ≤ 35184372088000) :
    Calls Tryz.prog 17 #[.slice a l.length cap] w fun e w' => ∃ v, e = .returned v ∧ w'.ownsRow w.heap.size 21 1 v l.length (cellsN .i32 l) ∧ Below w.heap.size w w' := by
  cases a with
  | some ad => exact clr_some ad l cap w h hl
  | none =>
    obtain rfl := nts_none h
    refine (clr_nil cap w).mono ?_
    rintro e w' ⟨rfl, rfl⟩
    exact ⟨_, rfl, own_nilN _ _ _ _, Below.refl _ _⟩
end Go.Proofs.YtedgimkffkflbabGreatDoor
