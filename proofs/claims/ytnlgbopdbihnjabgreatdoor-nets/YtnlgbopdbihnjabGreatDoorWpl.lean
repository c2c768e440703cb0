/-
  The program's widePlaces: the places of the wide runes, in their order.
-/
import Derived.Test.YtnlgbopdbihnjabGreatDoorClo
import Derived.Test.YtnlgbopdbihnjabGreatDoorPunS
namespace Go.Proofs.YtnlgbopdbihnjabGreatDoor
open Go.RowKit

theorem sw_row {α : Type} [Inhabited α] (enc : α → Value) (w : World) (g k t : Nat) (dk : Array α) (os : Array Obj) (cur : Array Value) (h : w.heap[g]? = some (.cells cur t (0, 0))) :
    (sortWorld enc w g 0 k dk os).heap[g]? = some (.cells (Sort.putCells enc 0 dk cur) t (0, 0)) := by
  have hlt : g < w.heap.size := (Array.getElem?_eq_some_iff.1 h).1
  unfold sortWorld
  rw [Sort.heap_grow_old _ _ (by simpa [Sort.putRow, Sort.mapBlock, Sort.ahead] using hlt)]
  unfold Sort.putRow Sort.mapBlock Sort.ahead
  simp [Array.getElem?_modify, h, Sort.onCells]
theorem sw_other {α : Type} [Inhabited α] (enc : α → Value) (w : World) (g k j : Nat) (dk : Array α) (os : Array Obj) (hj : j < w.heap.size) (hne : j ≠ g) :
    (sortWorld enc w g 0 k dk os).heap[j]? = w.heap[j]? := by
  unfold sortWorld
  rw [Sort.heap_grow_old _ _ (by simpa [Sort.putRow, Sort.mapBlock, Sort.ahead] using hj)]
  unfold Sort.putRow Sort.mapBlock Sort.ahead
  simp [Array.getElem?_modify, Ne.symm hne]
theorem sw_but {α : Type} [Inhabited α] (enc : α → Value) (w : World) (g k : Nat) (dk : Array α) (os : Array Obj) : But g w (sortWorld enc w g 0 k dk os) :=
  ⟨rfl, rfl, rfl, by simp [sortWorld, Sort.grow, Sort.putRow, Sort.mapBlock, Sort.ahead], fun j hj hne => sw_other enc w g k j dk os hj hne⟩
theorem sw_take {α : Type} [Inhabited α] (enc : α → Value) (dk : Array α) (cur : Array Value) (h : dk.size ≤ cur.size) : (Sort.putCells enc 0 dk cur).toList.take dk.size = dk.toList.map enc := by
  apply List.ext_getElem?
  intro i
  by_cases hi : i < dk.size
  · rw [List.getElem?_take, if_pos hi, Array.getElem?_toList, List.getElem?_map, Array.getElem?_toList, Array.getElem?_eq_getElem hi]
    unfold Sort.putCells
    simp [Array.getElem?_mapIdx, Array.getElem?_eq_getElem (show i < cur.size by omega), hi]
  · rw [List.getElem?_eq_none (by simp; omega), List.getElem?_eq_none (by simp; omega)]
theorem sw_size {α : Type} [Inhabited α] (enc : α → Value) (dk : Array α) (cur : Array Value) : (Sort.putCells enc 0 dk cur).size = cur.size := by simp [Sort.putCells]

/-- A place as a number in memory. -/
def encF (n : Nat) (x : Fin n) : Value := .int .i64 (x.val : Int)
/-- The comparison of two places. -/
def cfW (l : List Int) (x y : Fin l.length) : Int := orI (cmpI l[x.val] l[y.val]) (cmpI (x.val : Int) (y.val : Int))
theorem cfW_lt (l : List Int) (x y : Fin l.length) : ltOf (cfW l) x y = ltW l x.val y.val := by
  unfold ltOf cfW ltW orI cmpI
  rw [rn_get l x.val x.isLt, rn_get l y.val y.isLt]
  rw [Bool.eq_iff_iff, decide_eq_true_eq, decide_eq_true_eq]
  by_cases h1 : l[x.val] < l[y.val]
  · simp [h1]
  · by_cases h2 : l[y.val] < l[x.val]
    · simp [h1, h2]
      omega
    · have h3 : l[x.val] = l[y.val] := by omega
      rw [if_neg h1, if_neg h2, if_pos rfl]
      by_cases h4 : (x.val : Int) < y.val
      · rw [if_pos h4]
        constructor
        · intro _; exact .inr ⟨h3, by omega⟩
        · intro _; omega
      · rw [if_neg h4]
        by_cases h5 : (y.val : Int) < x.val
        · rw [if_pos h5]
          constructor
          · intro h; omega
          · intro h; omega
        · rw [if_neg h5]
          constructor
          · intro h; omega
          · intro h; omega
theorem cfW_swo (l : List Int) : Sort.SWO (ltOf (cfW l)) where
  irrefl x := by rw [cfW_lt]; unfold ltW; simp
  trans x y z h1 h2 := by rw [cfW_lt] at *; unfold ltW at *; simp only [decide_eq_true_eq] at *; omega
  ntrans x y z h1 h2 := by rw [cfW_lt] at *; unfold ltW at *; simp only [decide_eq_false_iff_not] at *; omega
theorem cfW_tot (l : List Int) (x y : Fin l.length) (h1 : ltOf (cfW l) x y = false) (h2 : ltOf (cfW l) y x = false) : x = y := by
  rw [cfW_lt] at *
  unfold ltW at *
  simp only [decide_eq_false_iff_not] at *
  apply Fin.ext
  omega
/-- Places as numbers. -/
def natI (l : List Nat) : List Int := l.map fun (x : Nat) => (x : Int)
theorem natI_length (l : List Nat) : (natI l).length = l.length := by simp [natI]

theorem sort_any (lb : Nat) (a : Option Addr) (l : List Int) (cap : Nat) (w : World) (hl : Lies w lb #[.slice a l.length cap] 119) (hn : Nts .i32 a l w) (B : Nat) (hna : 0 < l.length → ∀ ad, a = some ad → ad.block < B) (acc : List Nat) (hacc : ∀ j ∈ acc, j < l.length) (v : Value) (hown : w.ownsRow B 3 1 v acc.length (cellsN .i64 (natI acc))) (hlen : acc.length ≤ 1073741824) :
    Calls Tryz.prog 118 #[v, .func (.func 119) #[] #[.pointer (some ⟨lb, 0, none⟩)]] w fun e w' => e = .returned (.tuple #[]) ∧ w'.ownsRow B 3 1 v acc.length (cellsN .i64 (natI (acc.mergeSort (leW l)))) ∧ (∃ g, (v.ownBlock = some g ∧ But g w w') ∨ w' = w) := by
  by_cases h0 : acc = []
  · subst h0
    obtain ⟨a', c', rfl⟩ := ownN_shape hown
    refine (Tryz.slices_SortFunc_none (α := Nat) a' c' _ w).mono ?_
    rintro e w' ⟨rfl, rfl⟩
    exact ⟨rfl, by rw [List.mergeSort_nil]; exact hown, 0, .inr rfl⟩
  · have hpos : 0 < acc.length := List.length_pos_iff.2 h0
    have hlp : 0 < l.length := by
      cases acc with
      | nil => exact absurd rfl h0
      | cons x t => exact Nat.lt_of_le_of_lt (Nat.zero_le _) (hacc x List.mem_cons_self)
    haveI : Inhabited (Fin l.length) := ⟨⟨0, hlp⟩⟩
    obtain ⟨h1, ⟨hv, he⟩ | ⟨g, cp, cur, rfl, hB, hg, hcap, hmx, hsz, htk⟩⟩ := id hown
    · omega
    rw [Nat.mul_one] at hsz htk
    have hlt : g < w.heap.size := (Array.getElem?_eq_some_iff.1 hg).1
    have hglb : lb ≠ g := fun e => by
      subst e
      exact absurd (lies_kind hl hg) (by decide)
    let d : List (Fin l.length) := acc.pmap (fun j h => ⟨j, h⟩) hacc
    have hdl : d.length = acc.length := List.length_pmap
    have hdm : d.map Fin.val = acc := by
      show (acc.pmap _ _).map _ = _
      rw [List.map_pmap]
      simp
    have hcell : ∀ j (h : j < d.length), w.cell? ⟨g, j, none⟩ = some (.int .i64 ((d[j].val : Nat) : Int)) := by
      intro j hj
      have hj' : j < acc.length := by rw [← hdl]; exact hj
      have e : cur[j]? = some (.int .i64 (acc[j] : Int)) := by
        have := congrArg (fun x => x[j]?) htk
        simp only [List.getElem?_take, if_pos hj', Array.getElem?_toList] at this
        rw [this, cellsN_at _ _ _ (by rw [natI_length]; exact hj')]
        simp [natI]
      rw [Lies.cell hg j, e]
      have : d[j].val = acc[j] := by
        have := congrArg (fun x => x[j]?) hdm
        simp only [List.getElem?_map, List.getElem?_eq_getElem hj, List.getElem?_eq_getElem hj', Option.map_some, Option.some.injEq] at this
        exact this
      rw [this]
    have hH : Sort.Holds (encF l.length) w g 0 d.toArray := by
      intro j hj
      have hj' : j < d.length := by simpa using hj
      refine ⟨?_, Lies.frozen hg _⟩
      rw [Nat.zero_add, hcell j hj']
      have : d.toArray[j]! = d[j] := by simp [hj']
      rw [this]
      rfl
    have hcmp : CmpLays1 Tryz.prog 119 #[.pointer (some ⟨lb, 0, none⟩)] (encF l.length) (cfW l) g 0 d.toArray.size w := by
      intro m os dk hdk x y
      have b := sw_but (encF l.length) w g m dk os
      refine clo_any lb a l cap x.val y.val x.isLt y.isLt _ ?_ ?_
      · exact (b.lies hl hglb).cell 0
      · refine hn.but b (fun ad e => ?_)
        have := hna hlp ad e
        omega
    have hsz' : d.toArray.size < 4611686018427387904 := by simp [hdl]; omega
    have hcon := Tryz.slices_SortFunc_total (encF l.length) (fun _ => rfl) (cfW l) (cfW_swo l) 119 #[.pointer (some ⟨lb, 0, none⟩)] g 0 cp d.toArray w (enters_of Tryz.func119 (by kernel_rfl) rfl) hcmp hH hlt hsz' (cfW_tot l)
    have hds : d.toArray.size = acc.length := by simp [hdl]
    rw [hds] at hcon
    refine hcon.mono ?_
    rintro e w' ⟨rfl, n, os, rfl⟩
    have hms : (d.mergeSort fun x y => !ltOf (cfW l) y x).map Fin.val = acc.mergeSort (leW l) := by
      rw [← hdm]
      refine List.map_mergeSort (fun x _ y _ => ?_)
      rw [cfW_lt]
      rfl
    have hl1 : (d.mergeSort fun x y => !ltOf (cfW l) y x).toArray.size = acc.length := by
      simp [hdl]
    refine ⟨rfl, ?_, g, .inl ⟨rfl, sw_but _ _ _ _ _ _⟩⟩
    refine ⟨by rw [cellsN_length, natI_length, List.length_mergeSort, Nat.mul_one], .inr ⟨g, cp, _, rfl, hB, sw_row _ w g n 3 _ os cur hg, hcap, hmx, by rw [sw_size, Nat.mul_one]; exact hsz, ?_⟩⟩
    rw [Nat.mul_one, ← hl1, sw_take _ _ _ (by rw [hl1, hsz]; exact hcap), ← hms]
    simp [cellsN, natI, encF, List.map_map, Function.comp_def]

set_option maxHeartbeats 2000000 in
set_option maxRecDepth 100000 in
theorem widep_any (a : Option Addr) (l : List Int) (cap : Nat) (w : World) (hn : Nts .i32 a l w) (hs : l.length ≤ 1073741824) :
    Calls Tryz.prog 104 #[.slice a l.length cap] w fun e w' => ∃ v, e = .returned v ∧ w'.ownsRow w.heap.size 3 1 v (ordW l).length (cellsN .i64 (natI (ordW l))) ∧ Below w.heap.size w w' := by
  have HL : Hid (Nts .i32 a l w) := hn
  have HNA : Hid (0 < l.length → ∀ ad, a = some ad → ad.block < w.heap.size) := fun h0 ad e => by
    rcases hn with h | ⟨g, o, e', hg, _⟩
    · rw [h] at h0; exact absurd h0 (by simp)
    · rw [e] at e'
      injection e' with e'
      subst e'
      exact hg
  clear hn
  go_enter Tryz.func104, Tryz.ntmps104
  go_wp2
  have HX0 : Hid (Lies (w.alloc (.cells #[.slice a l.length cap] 119)) w.heap.size #[.slice a l.length cap] 119) := Lies.new w _ _
  have HB0 : Hid (Below w.heap.size w (w.alloc (.cells #[.slice a l.length cap] 119))) := (Below.refl _ _).alloc (Nat.le_refl _) _
  go_loopw [3, 8] (fun v i wr => ∃ k : Nat, i = .int .i64 k ∧ k ≤ l.length ∧ Hid (wr.ownsRow w.heap.size 3 1 v (wideK l k).length (cellsN .i64 (natI (wideK l k)))) ∧ Hid (Below w.heap.size w wr) ∧ Hid (Lies wr w.heap.size #[.slice a l.length cap] 119)) (fun _ i _ => l.length - (intOf i).toNat)
  case atStart => exact ⟨0, rfl, Nat.zero_le _, own_nilN _ _ _ _, HB0, HX0⟩
  case round =>
    obtain ⟨k, rfl, hk, HO, HB, HX⟩ := hrel
    have hbs := HX.out.lt
    have hwl := wideK_length l k
    by_cases hlk : k < l.length
    · have HS : Hid (_ = _) := wideK_succ l k
      have hrn := rn_get l k hlk
      obtain ⟨g, o, rfl, hg, hc⟩ := (HL.out.below HB.out).cell k hlk
      by_cases hw : 128 ≤ l[k]
      · have HS2 : Hid (wideK l (k + 1) = wideK l k ++ [k]) := by
          have := HS.out
          rw [hrn, if_pos hw] at this
          exact this
        clear HS hrn
        go_wp2_with (at_builtin; refine wpList_append_num rfl _ _ 147 3 8 .i64 Tryz.underlying147 infoI (by omega) rfl w.heap.size _ (wideK l k).length (natI (wideK l k)) rfl (HO.out.alloc _) ⟨wr.heap.size, 0, none⟩ (k : Int) 1 rfl (one_nts _ _ _ _) (by omega) (by simp; omega) ?_)
        intro v4 w4 hown4 hgrow4
        have hg4 := grown_on (World.grownBy_alloc wr _ (u3 : Value).ownBlock) hgrow4 (fun _ h => .inl h.symm)
        have HB4 : Hid (Below w.heap.size w w4) := HB.out.grown hg4 HB.out.size (fun q hq => (HO.out.lt q hq).1)
        have HX4 : Hid (Lies w4 w.heap.size #[.slice (some ⟨g, o, none⟩) l.length cap] 119) := (hg4.block _ HX.out.lt (fun e => ownN_apart HO.out HX.out (by decide) _ e.symm rfl)).trans HX.out
        have HO4 : Hid (w4.ownsRow w.heap.size 3 1 v4 (wideK l (k + 1)).length (cellsN .i64 (natI (wideK l (k + 1))))) := by
          show World.ownsRow _ _ _ _ _ _ _
          rw [HS2.out, List.length_append]
          have e : natI (wideK l k ++ [k]) = natI (wideK l k) ++ [(k : Int)] := by simp [natI]
          rw [e]
          exact hown4
        clear hown4 hgrow4 hg4
        go_wp2
        go_roundw
        case rel => exact ⟨k + 1, by go_num, by omega, HO4, HB4, HX4⟩
        case measure => simp [intOf]; omega
      · have HS2 : Hid (wideK l (k + 1) = wideK l k) := by
          have := HS.out
          rw [hrn, if_neg hw, List.append_nil] at this
          exact this
        have HO2 : Hid (wr.ownsRow w.heap.size 3 1 u3 (wideK l (k + 1)).length (cellsN .i64 (natI (wideK l (k + 1))))) := by
          show World.ownsRow _ _ _ _ _ _ _
          rw [HS2.out]
          exact HO.out
        clear HS hrn
        go_wp2
        go_roundw
        case rel => exact ⟨k + 1, by go_num, by omega, HO2, HB, HX⟩
        case measure => simp [intOf]; omega
    · obtain rfl : k = l.length := by omega
      have hcon := sort_any w.heap.size a l cap wr HX.out (HL.out.below HB.out) w.heap.size HNA.out (wideK l l.length) (fun j hj => (wideK_lt hj).1) u3 HO.out (by omega)
      go_wp2_with fail
      refine hcon.mono ?_
      rintro e w2 ⟨rfl, o2, g2, h2⟩
      have HO2 : Hid (w2.ownsRow w.heap.size 3 1 u3 (ordW l).length (cellsN .i64 (natI (ordW l)))) := by
        show World.ownsRow _ _ _ _ _ _ _
        unfold ordW
        rw [List.length_mergeSort]
        exact o2
      have HB2 : Hid (Below w.heap.size w w2) := by
        rcases h2 with ⟨e2, h2⟩ | rfl
        · exact HB.out.trans (h2.below (HO.out.lt g2 e2).1 HB.out.size)
        · exact HB.out
      clear o2 h2 hcon
      go_wp2
      go_ret
      exact ⟨_, rfl, HO2.out, HB2.out⟩
end Go.Proofs.YtnlgbopdbihnjabGreatDoor
