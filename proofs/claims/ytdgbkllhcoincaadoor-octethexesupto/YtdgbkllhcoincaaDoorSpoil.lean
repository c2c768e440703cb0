/-
  The contract of the statements' own spoil: it writes into the row that is handed in and into new memory alone.
-/
import Derived.Test.YtdgbkllhcoincaaDoorLent
import Derived.Test.YtdgbkllhcoincaaDoorUnhexOk
import Derived.ArgAppend
namespace Go.Proofs.YtdgbkllhcoincaaDoor
open Go.RowKit

theorem grown_on {w w1 w2 : World} {row row2 : Option Nat} (h1 : w.grownBy w1 row) (h2 : w1.grownBy w2 row2) (h : ∀ k, row2 = some k → some k = row ∨ w.heap.size ≤ k) : w.grownBy w2 row :=
  ⟨h2.os.trans h1.os, h2.tape.trans h1.tape, h2.output.trans h1.output, Nat.le_trans h1.size h2.size, fun k hk hne => (h2.block k (Nat.lt_of_lt_of_le hk h1.size) (fun e => by
    rcases h k e.symm with h' | h'
    · exact hne h'
    · omega)).trans (h1.block k hk hne)⟩
theorem owns_none {w : World} {base n cap : Nat} {xs : List Value} (h : w.ownsRow base 5 1 (.slice none n cap) n xs) : n = 0 ∧ cap = 0 := by
  obtain ⟨_, ⟨h1, h2⟩ | ⟨g, c, cur, hv, _⟩⟩ := h
  · injection h1 with _ a b
    exact ⟨h2, b⟩
  · injection hv with a
    cases a
theorem owns_holds {w : World} {base n cap : Nat} {ao : Option Addr} {xs : List Value} (h : w.ownsRow base 5 1 (.slice ao n cap) n xs) : ∀ b, ao = some b → ∀ j u, xs[j]? = some u → w.cell? (b.add j) = some u := by
  intro b hb
  subst hb
  have hf : b = ⟨b.block, 0, none⟩ := by
    obtain ⟨_, ⟨h1, _⟩ | ⟨g, c, cur, hv, _⟩⟩ := h
    · cases h1
    · injection hv with a
      injection a with a
      subst a
      rfl
  rw [hf] at h ⊢
  exact h.cells rfl
theorem base_le {w : World} {base base' e size n : Nat} {v : Value} {xs : List Value} (h : w.ownsRow base e size v n xs) (hb : base' ≤ base) : w.ownsRow base' e size v n xs := by
  obtain ⟨h1, h2⟩ := h
  refine ⟨h1, ?_⟩
  rcases h2 with h2 | ⟨g, cap, cur, hv, hg, r⟩
  · exact .inl h2
  · exact .inr ⟨g, cap, cur, hv, by omega, r⟩
/-- What is owned stays so where another row was written. -/
theorem owns_other {w w' : World} {base n : Nat} {v : Value} {xs : List Value} {row : Option Nat} (h : w.ownsRow base 5 1 v n xs) (hg : w.grownBy w' row) (hne : ∀ k, row = some k → v.ownBlock ≠ some k) : w'.ownsRow base 5 1 v n xs := by
  refine h.kept hg ?_
  cases hv : v.ownBlock with
  | none => exact .inl rfl
  | some g =>
    right
    intro e
    exact hne g e.symm hv
theorem new_apart {w : World} {base n : Nat} {v : Value} {xs : List Value} (h : w.ownsRow base 5 1 v n xs) {k : Nat} (hk : w.heap.size ≤ k) : v.ownBlock ≠ some k := fun e => by
  have := (h.lt k e).2
  omega

set_option maxRecDepth 100000 in
set_option maxHeartbeats 4000000 in
theorem spoil_any (base : Nat) (ao : Option Addr) (n : Nat) (xs : List Value) (w : World) (hown : w.ownsRow base 5 1 (.slice ao n n) n xs) (hn : n ≤ 1048576) :
    Calls Tryd.prog 30 #[.slice ao n n] w fun e w' => e = .returned (.tuple #[]) ∧ w.grownBy w' (Value.slice ao n n).ownBlock := by
  obtain ⟨i0, hi, hz0, hz1, hz2⟩ := info_parts info5
  have HO0 : Hid (w.ownsRow base 5 1 (.slice ao n n) n xs) := hown
  have HLB : Hid (∀ k, (Value.slice ao n n).ownBlock = some k → k < w.heap.size) := fun k h => (hown.lt k h).2
  clear hown
  go_enter Tryd.func30, Tryd.ntmps30
  go_wp2
  go_loopw [8] (fun i wr => ∃ (k : Nat) (ys : List Value), k ≤ n ∧ i = .int .i64 k ∧ Hid (wr.ownsRow base 5 1 (.slice ao n n) n ys) ∧ Hid (w.grownBy wr (Value.slice ao n n).ownBlock)) (fun i _ => n - (intOf i).toNat)
  case atStart => exact ⟨0, xs, Nat.zero_le _, rfl, HO0, World.grownBy.refl _ _⟩
  case round =>
    obtain ⟨k, ys, hk, rfl, HO, HG⟩ := hrel
    by_cases hlt : k < n
    · obtain ⟨g, cap, hv, hg0, hg1, _, _⟩ := slice_of_owns HO.out (by omega)
      injection hv with ha
      subst ha
      have hl : ys.length = n := by have := HO.out.1; omega
      have hcell : wr.cell? ⟨g, k, none⟩ = some ys[k] := by
        rw [HO.out.cellAt k (by omega)]
        exact List.getElem?_eq_getElem (by omega)
      have hf := HO.out.frozenAt k
      have st := HO.out.stored k (.int .u8 90)
      have HO2 : Hid _ := st.1
      have HG2 : Hid (w.grownBy (wr.setCell ⟨g, k, none⟩ (.int .u8 90)) (Value.slice (some ⟨g, 0, none⟩) n n).ownBlock) := grown_on HG.out st.2 (fun q hq => .inl hq.symm)
      clear st HO HG
      go_wp2
      go_roundw
      case rel => exact ⟨k + 1, _, by omega, by go_num, HO2, HG2⟩
      case measure => simp [intOf]; omega
    · clear HO0
      go_wp2
      obtain ⟨wa, rfl⟩ : ∃ wa : World, wa = wr := ⟨_, rfl⟩
      clear hk hlt
      go_loopw [3, 16] (fun v i wr => ∃ (k m : Nat) (ys zs : List Value), k ≤ 20 ∧ i = .int .i64 k ∧ m ≤ n + k ∧ Hid (wr.ownsRow base 5 1 (.slice ao n n) n ys) ∧ Hid (w.grownBy wr (Value.slice ao n n).ownBlock) ∧ ((k = 0 ∧ v = .slice ao n n) ∨ Hid (wr.ownsRow w.heap.size 5 1 v m zs))) (fun _ i _ => 20 - (intOf i).toNat)
      case atStart => exact ⟨0, n, ys, [], Nat.zero_le _, rfl, Nat.le_refl _, HO, HG, .inl ⟨rfl, rfl⟩⟩
      case round =>
        clear HO HG
        obtain ⟨k, m, ys, zs, hk, rfl, hm, HO, HG, hv⟩ := hrel
        have hsz := HG.out.size
        by_cases hlt : k < 20
        · rcases hv with ⟨rfl, rfl⟩ | HV
          · have ho := HO.out.alloc (.cells #[.int .u8 90] 5)
            have hl : ys.length = n * 1 := HO.out.1
            have hnone : ao = none → n = 0 ∧ n = 0 := fun e => by subst e; exact ⟨(owns_none HO.out).1, (owns_none HO.out).1⟩
            have hh := owns_holds ho
            go_wp2_with (at_builtin; refine wpList_append_grows _ rfl _ _ 25 rfl 5 i0 (.int .u8 0) 1 1 Tryd.underlying25 hi hz0 hz1 hz2 rfl (by decide) ao n n ys rfl hnone hl hh ⟨wr.heap.size, 0, none⟩ 1 1 [.int .u8 90] rfl rfl ?c1 ?c2 (by omega) ?c3 ?c4 ?_)
            case c1 =>
              intro j u hj
              match j, hj with
              | 0, hj => simp at hj; subst hj; simp [Addr.add]
            case c2 => intro u hu; simp at hu; subst hu; rfl
            case c3 => unfold maxLen; omega
            case c4 => omega
            intro v' w3 hown' hgrow
            have HV3 : Hid (w3.ownsRow w.heap.size 5 1 v' (n + 1) (ys ++ [.int .u8 90])) := base_le hown' (by omega)
            have HO3 : Hid (w3.ownsRow base 5 1 (.slice ao n n) n ys) := owns_other ho hgrow (fun q hq => by cases hq)
            have HG3 : Hid (w.grownBy w3 (Value.slice ao n n).ownBlock) := grown_on (grown_on HG.out (World.grownBy_alloc wr _ none) (fun q hq => by cases hq)) hgrow (fun q hq => by cases hq)
            clear hown' hgrow ho hl hnone hh HO HG
            go_wp2
            go_roundw
            case rel => exact ⟨1, n + 1, ys, _, by omega, by go_num, by omega, HO3, HG3, .inr HV3⟩
            case measure => simp [intOf]
          · have hown := HV.out
            go_wp2_with (at_builtin; refine wpList_append_own _ rfl _ _ 25 rfl w.heap.size 5 i0 (.int .u8 0) 1 1 Tryd.underlying25 hi hz0 hz1 hz2 rfl (by decide) _ _ _ rfl (hown.alloc _) ⟨wr.heap.size, 0, none⟩ 1 1 [.int .u8 90] rfl rfl ?d1 ?d2 ?d3 ?d4 ?d5 ?_)
            case d1 =>
              intro j u hj
              match j, hj with
              | 0, hj => simp at hj; subst hj; simp [Addr.add]
            case d2 => intro u hu; simp at hu; subst hu; rfl
            case d3 => unfold maxLen; omega
            case d4 => omega
            case d5 => simp; omega
            intro v' w3 hown' hgrow _
            have HV3 : Hid (w3.ownsRow w.heap.size 5 1 v' (m + 1) (zs ++ [.int .u8 90])) := hown'
            have HO3 : Hid (w3.ownsRow base 5 1 (.slice ao n n) n ys) := owns_other (HO.out.alloc _) hgrow (fun q hq e => by have h1 := (hown.lt q hq).1; have h2 := HLB.out q e; omega)
            have HG3 : Hid (w.grownBy w3 (Value.slice ao n n).ownBlock) := grown_on (grown_on HG.out (World.grownBy_alloc wr _ none) (fun q hq => by cases hq)) hgrow (fun q hq => .inr (hown.lt q hq).1)
            clear hown' hgrow hown HO HG HV
            go_wp2
            go_roundw
            case rel => exact ⟨k + 1, m + 1, ys, _, by omega, by go_num, by omega, HO3, HG3, .inr HV3⟩
            case measure => simp [intOf]; omega
        · clear hv hm
          obtain ⟨wb, rfl⟩ : ∃ wb : World, wb = wr := ⟨_, rfl⟩
          go_wp2_with (at_make; refine wpList_make_full _ rfl _ _ 25 rfl w.heap.size 5 i0 (.int .u8 0) 1 Tryd.underlying25 hi hz0 hz1 .i64 .i64 _ _ 70 rfl rfl (by omega) (by omega) (by rw [hz2]; omega) (by unfold maxLen; omega) (by omega) ?_)
          intro w4 hown4 hgrow4
          have HM : Hid (w4.ownsRow w.heap.size 5 1 (.slice (some ⟨wb.heap.size, 0, none⟩) 70 70) 70 (cellsB (List.replicate 70 0))) := by
            show w4.ownsRow _ _ _ _ _ _
            rw [← made_zero 70]
            exact hown4
          have HO4 : Hid (w4.ownsRow base 5 1 (.slice ao n n) n ys) := owns_other HO.out hgrow4 (fun q hq => by cases hq)
          have HG4 : Hid (w.grownBy w4 (Value.slice ao n n).ownBlock) := grown_on HG.out hgrow4 (fun q hq => by cases hq)
          clear hown4 hgrow4 HO HG
          go_wp2
          go_loopw [25] (fun i wr => ∃ (k : Nat) (bl : List UInt8), k ≤ 70 ∧ i = .int .i64 k ∧ bl.length = 70 ∧ Hid (wr.ownsRow w.heap.size 5 1 (.slice (some ⟨wb.heap.size, 0, none⟩) 70 70) 70 (cellsB bl)) ∧ Hid (wr.ownsRow base 5 1 (.slice ao n n) n ys) ∧ Hid (w.grownBy wr (Value.slice ao n n).ownBlock)) (fun i _ => 70 - (intOf i).toNat)
          case atStart => exact ⟨0, _, Nat.zero_le _, rfl, List.length_replicate, HM, HO4, HG4⟩
          case round =>
            clear HM HO4 HG4
            obtain ⟨k, bl, hk, rfl, hbl, HM, HO, HG⟩ := hrel
            have HBL : Hid (bl.length = 70) := hbl
            clear hbl
            by_cases hlt : k < 70
            · have hcell : wr.cell? ⟨wb.heap.size, k, none⟩ = some (.int .u8 ((bl[k]'(by rw [HBL.out]; exact hlt)).toNat : Int)) := by
                rw [HM.out.cellAt k (by omega)]
                simp [cellsB, List.getElem?_eq_getElem (show k < bl.length by rw [HBL.out]; exact hlt)]
              have hf := HM.out.frozenAt k
              have st := HM.out.stored k (.int .u8 90)
              have HM2 : Hid ((wr.setCell ⟨wb.heap.size, k, none⟩ (.int .u8 90)).ownsRow w.heap.size 5 1 (.slice (some ⟨wb.heap.size, 0, none⟩) 70 70) 70 (cellsB (bl.set k 90))) := by
                show World.ownsRow _ _ _ _ _ _ _
                rw [← cellsB_set]
                exact st.1
              have hwb : w.heap.size ≤ wb.heap.size := (HM.out.lt wb.heap.size rfl).1
              have HO2 : Hid ((wr.setCell ⟨wb.heap.size, k, none⟩ (.int .u8 90)).ownsRow base 5 1 (.slice ao n n) n ys) := owns_other HO.out st.2 (fun q hq e => by have h2 := HLB.out q e; injection hq with hq; omega)
              have HG2 : Hid (w.grownBy (wr.setCell ⟨wb.heap.size, k, none⟩ (.int .u8 90)) (Value.slice ao n n).ownBlock) := grown_on HG.out st.2 (fun q hq => by injection hq with hq; exact .inr (by omega))
              clear st HM HO HG
              go_wp2
              go_roundw
              case rel => exact ⟨k + 1, bl.set k 90, by omega, by go_num, by rw [List.length_set]; exact HBL.out, HM2, HO2, HG2⟩
              case measure => simp [intOf]; omega
            · have hnone : ao = none → n = 0 ∧ n = 0 := fun e => by subst e; exact ⟨(owns_none HO.out).1, (owns_none HO.out).1⟩
              have hl : ys.length = n * 1 := HO.out.1
              have hh := owns_holds HO.out
              have hsz := HG.out.size
              have hnl : (cellsB bl).length = 70 * 1 := by rw [cellsB_length, HBL.out]
              have hnc : ∀ j u, (cellsB bl)[j]? = some u → wr.cell? ((⟨wb.heap.size, 0, none⟩ : Addr).add j) = some u := HM.out.cells rfl
              have hone := cellsB_one bl
              go_wp2_with (at_builtin; refine wpList_append_grows _ rfl _ _ 25 rfl 5 i0 (.int .u8 0) 1 1 Tryd.underlying25 hi hz0 hz1 hz2 rfl (by decide) ao n n ys rfl hnone hl hh ⟨wb.heap.size, 0, none⟩ 70 70 (cellsB bl) rfl hnl hnc hone (by omega) ?c3 ?c4 ?_)
              case c3 => unfold maxLen; omega
              case c4 => omega
              intro v' w6 hown' hgrow
              obtain ⟨g6, cap6, hv6, hg6, hg7, hnc6, hcm6⟩ := slice_of_owns hown' (by omega)
              rw [hv6] at hown'
              rw [hv6]
              have hl6 : (ys ++ cellsB bl).length = n + 70 := by have := hown'.1; omega
              have hcell : ∃ u, w6.cell? ⟨g6, 0, none⟩ = some u := by
                rw [hown'.cellAt 0 (by omega)]
                exact ⟨_, List.getElem?_eq_getElem (by omega)⟩
              obtain ⟨u0, hc0⟩ := hcell
              have hf0 := hown'.frozenAt 0
              have st := hown'.stored 0 (.int .u8 90)
              have HG7 : Hid (w.grownBy (w6.setCell ⟨g6, 0, none⟩ (.int .u8 90)) (Value.slice ao n n).ownBlock) := grown_on (grown_on HG.out hgrow (fun q hq => by cases hq)) st.2 (fun q hq => by injection hq with hq; exact .inr (by omega))
              have hpos : (0 : Int) < (n : Int) + 70 := by omega
              clear st hown' hgrow HM HO HG hnone hl hh hnl hnc hone hl6
              go_wp2
              go_end0
              exact ⟨rfl, HG7.out⟩
end Go.Proofs.YtdgbkllhcoincaaDoor
