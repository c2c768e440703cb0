/-
  The statements' own shown.
-/
import Derived.Test.YthkoionigdnhgabGreatDoorZr8
import Derived.Test.YthkoionigdnhgabGreatDoorQc9
import Derived.Test.YthkoionigdnhgabGreatDoorShr
import Derived.Test.YthkoionigdnhgabGreatDoorPtL
import Derived.Test.YthkoionigdnhgabGreatDoorLb18
import Derived.Test.YthkoionigdnhgabGreatDoorRows
import Derived.ArgAppend
import Derived.Deep.Upon
import Derived.Deep.Strs
import Derived.Lib.SmallJoins
import Derived.ProofKit
import Derived.ChangeMaps5
import Derived.OpenShut
import Derived.SizedLaws
namespace Go.Proofs.YthkoionigdnhgabGreatDoor
open Go.RowKit

/-- A text of which the bytes are taken, so many at most. -/
def tkF (f : UInt8 → Bool) (most : Nat) (acc l : List UInt8) : List UInt8 := acc ++ (l.filter f).take (most - acc.length)
theorem tkF_full {f : UInt8 → Bool} {most : Nat} {acc l : List UInt8} (h : most ≤ acc.length) : tkF f most acc l = acc := by
  unfold tkF
  rw [Nat.sub_eq_zero_of_le h, List.take_zero, List.append_nil]
theorem tkF_end {f : UInt8 → Bool} {most : Nat} {acc : List UInt8} : tkF f most acc [] = acc := by
  unfold tkF
  simp
theorem tkF_yes {f : UInt8 → Bool} {most : Nat} {acc l : List UInt8} {c : UInt8} (h : acc.length < most) (hc : f c = true) : tkF f most acc (c :: l) = tkF f most (acc ++ [c]) l := by
  unfold tkF
  rw [List.filter_cons_of_pos hc, show most - acc.length = (most - (acc ++ [c]).length) + 1 from by rw [List.length_append, List.length_singleton]; omega, List.take_succ_cons, List.append_assoc]
  rfl
theorem tkF_no {f : UInt8 → Bool} {most : Nat} {acc l : List UInt8} {c : UInt8} (hc : ¬ f c = true) : tkF f most acc (c :: l) = tkF f most acc l := by
  unfold tkF
  rw [List.filter_cons_of_neg hc]
theorem sh_iff (c : UInt8) : shB c = true ↔ 32 ≤ c.toNat ∧ c.toNat ≤ 126 := by
  unfold shB
  simp

set_option maxHeartbeats 4000000 in
set_option maxRecDepth 100000 in
theorem shownl_any (s : ByteArray) (hs : s.size ≤ 140737488355328) (most : Nat) (hm : most ≤ 1000) (w : World) :
    Calls Tryz.prog 15 #[.string s, .int .i64 (most : Int)] w fun e w' => e = .returned (.string (txt (shwn s.data.toList most))) ∧ Below w.heap.size w w' := by
  obtain ⟨X, hX⟩ : ∃ X, X = shwn s.data.toList most := ⟨_, rfl⟩
  rw [← hX]
  have HX0 : Hid (X = tkF shB most [] (s.data.toList.drop 0)) := hX
  clear hX
  go_enter Tryz.func15, Tryz.ntmps15
  go_wp2_with fail
  go_loopw [5, 6] (fun u c wr => ∃ (i : Nat) (acc : List UInt8), i ≤ s.size ∧ c = .int .i64 i ∧ acc.length ≤ i ∧ Hid (wr.ownsRow w.heap.size 5 1 u acc.length (cellsB acc)) ∧ Hid (Below w.heap.size w wr) ∧ Hid (X = tkF shB most acc (s.data.toList.drop i))) (fun _ c _ => s.size - (intOf c).toNat)
  case atStart => exact ⟨0, [], Nat.zero_le _, by go_num, Nat.zero_le _, ⟨rfl, .inr ⟨w.heap.size, 0, #[], rfl, Nat.le_refl _, Lies.new w #[] 5, Nat.le_refl _, by unfold maxLen; omega, rfl, rfl⟩⟩, (Below.refl _ _).alloc (Nat.le_refl _) _, HX0⟩
  case round =>
    obtain ⟨i, acc, hi, rfl, hacc, HO, HB, HX⟩ := hrel
    clear HX0
    obtain ⟨sa, sc, hu, _⟩ := own_bts HO.out
    subst hu
    have hcv : (convert 53 9 (.slice sa acc.length sc)).run Tryz.prog wr = .ok (.string (txt acc)) wr := conv_own HO.out
    by_cases hlt : i < s.size
    · have hlt' : (i : Int) < (s.size : Int) := by omega
      have HD : Hid (s.data.toList.drop i = s[i] :: s.data.toList.drop (i + 1)) := drop_at s i hlt
      by_cases hmo : acc.length < most
      · have hmo' : (acc.length : Int) < (most : Int) := by omega
        have hc8 := s[i].toNat_lt
        by_cases h1 : 32 ≤ s[i].toNat
        · have h1' : (32 : Int) ≤ (s[i].toNat : Int) := by omega
          by_cases h2 : s[i].toNat ≤ 126
          · have h2' : (s[i].toNat : Int) ≤ 126 := by omega
            have HXX : Hid (X = tkF shB most (acc ++ [s[i]]) (s.data.toList.drop (i + 1))) := by
              show _ = _
              rw [HX.out, HD.out, tkF_yes hmo ((sh_iff _).2 ⟨h1, h2⟩)]
            clear HX HD hcv
            go_wp2_with (at_builtin; refine wpList_append_byte rfl _ _ rfl w.heap.size (.slice sa acc.length sc) acc.length acc rfl (HO.out.alloc _) wr s[i] _ rfl rfl 1 rfl (by omega) HB.out.size ?_; intro v3 w3 hown3 hbel3)
            have HB3 : Hid (Below w.heap.size w w3) := hbel3 _ _ HB.out (Nat.le_refl _)
            have HO3 : Hid (w3.ownsRow w.heap.size 5 1 v3 (acc ++ [s[i]]).length (cellsB (acc ++ [s[i]]))) := by
              show World.ownsRow _ _ _ _ _ _ _
              rw [List.length_append, List.length_singleton]
              exact hown3
            clear hown3 hbel3 HO HB
            go_wp2_with fail
            go_roundw
            case rel => exact ⟨i + 1, acc ++ [s[i]], hlt, by go_num, by simp only [List.length_append, List.length_singleton]; omega, HO3, HB3, HXX⟩
            case measure => simp [intOf]; omega
          · have h2' : ¬ (s[i].toNat : Int) ≤ 126 := by omega
            have HXX : Hid (X = tkF shB most acc (s.data.toList.drop (i + 1))) := by
              show _ = _
              rw [HX.out, HD.out, tkF_no (fun h => h2 ((sh_iff _).1 h).2)]
            clear HX HD hcv
            go_wp2_with fail
            go_roundw
            case rel => exact ⟨i + 1, acc, hlt, by go_num, by omega, HO, HB, HXX⟩
            case measure => simp [intOf]; omega
        · have h1' : ¬ (32 : Int) ≤ (s[i].toNat : Int) := by omega
          have HXX : Hid (X = tkF shB most acc (s.data.toList.drop (i + 1))) := by
            show _ = _
            rw [HX.out, HD.out, tkF_no (fun h => h1 ((sh_iff _).1 h).1)]
          clear HX HD hcv
          go_wp2_with fail
          go_roundw
          case rel => exact ⟨i + 1, acc, hlt, by go_num, by omega, HO, HB, HXX⟩
          case measure => simp [intOf]; omega
      · have hmo' : ¬ (acc.length : Int) < (most : Int) := by omega
        have HXX : Hid (X = acc) := by
          show _ = _
          rw [HX.out, tkF_full (by omega)]
        clear HX HD
        go_wp2_with fail
        go_ret
        exact ⟨by rw [HXX.out]; rfl, HB.out⟩
    · have hlt' : ¬ (i : Int) < (s.size : Int) := by omega
      have HXX : Hid (X = acc) := by
        show _ = _
        rw [HX.out, List.drop_of_length_le (by rw [Array.length_toList]; show s.size ≤ i; omega), tkF_end]
      clear HX
      go_wp2_with fail
      go_ret
      exact ⟨by rw [HXX.out]; rfl, HB.out⟩
end Go.Proofs.YthkoionigdnhgabGreatDoor
/-
  A letter ahead of a row; texts in memory.
-/
namespace Go.Proofs.YthkoionigdnhgabGreatDoor
open Go.ChangeShapes Go.WideShapes Go.ChangeAt Go.RowKit

theorem leadX_any (g : Nat) (a : Option Addr) (t : List UInt8) (n cap : Nat) (hn : n = t.length) (W : World) (hg : Bts (some ⟨g, 0, none⟩) [88] W) (ht : Bts a t W) (h0 : 0 < t.length) (hl : t.length ≤ 1099511627776) :
    ∃ g' c w', (Builtin.append_ #[53, 53] 53 #[.slice (some ⟨g, 0, none⟩) 1 1, .slice a n cap]).run Tryz.prog W = .ok (.slice g' (1 + n) c) w' ∧ Bts g' (88 :: t) w' ∧ (g' = none → c = 0) ∧ Below W.heap.size W w' := by
  subst hn
  obtain ⟨i0, hi, hz0, hz1, hz2⟩ := info_parts info5
  rcases id ht with e | ⟨g1, o1, rfl, _, _⟩
  · rw [e] at h0; cases h0
  · obtain ⟨v', w', hr, ho, hgr⟩ := run_append_arg_grows (P := Tryz.prog) W 53 53 5 i0 (.int .u8 0) 1 1 Tryz.underlying53 hi hz0 hz1 hz2 rfl (by decide) ⟨g, 0, none⟩ 1 1 (cellsB [88]) rfl (bts_news hg) ⟨g1, o1, none⟩ t.length cap (cellsB t) (by rw [cellsB_length]; omega) (bts_news ht) (by omega) (by unfold maxLen; omega) (by omega)
    rw [← cellsB_append] at ho
    obtain ⟨ga, c, rfl, hb, hlen, hnn, hcc, -⟩ := own_bts ho
    exact ⟨ga, c, w', hr, hb, hnn, (Below.refl _ _).grown hgr (Nat.le_refl _) (fun k e => by cases e)⟩
theorem wpList_append_runH {P : Program} {ops : Array Oper} {rest : List Oper} {op : Oper} {a : Act} {w w' : World} {Q : Exit → Act → World → Prop} (hw : Region.wanted op (yielded ops a.tmps) = true) (s x : Operand) (t : TypeId) (ho : op.op = .call { callee := .builtin .append, args := #[s, x], argTypes := #[t, t] }) (v1 v2 v3 : Value) (hs : a.eval s = v1) (hx : a.eval x = v2) (hr : (Builtin.append_ #[t, t] op.type #[v1, v2]).run P w = .ok v3 w') (h : wpList P ops Q rest (a.put op.dst v3) w') : wpList P ops Q (op :: rest) a w := by
  unfold wpList
  rw [if_pos hw]
  left
  unfold Oper.wp execOp
  simp only [ho, resolve, invoke, builtin, Sem.run_bind, Sem.run_pure, Result.andThen_ok, List.map_toArray, List.map_cons, List.map_nil, hs, hx, hr]
  exact h
/-- Texts in memory. -/
def Txl (a : Option Addr) (L : List ByteArray) (w : World) : Prop := L = [] ∨ ∃ g o, a = some ⟨g, o, none⟩ ∧ g < w.heap.size ∧ ∀ j (h : j < L.length), w.cell? ⟨g, o + j, none⟩ = some (.string L[j])
theorem Txl.below {a : Option Addr} {L : List ByteArray} {w w' : World} (h : Txl a L w) (hb : Below w.heap.size w w') : Txl a L w' := by
  rcases h with h | ⟨g, o, e, hg, hc⟩
  · exact .inl h
  · exact .inr ⟨g, o, e, Nat.lt_of_lt_of_le hg hb.size, fun j hj => (hb.cell (p := ⟨g, o + j, none⟩) hg).trans (hc j hj)⟩
theorem Txl.take {a : Option Addr} {L : List ByteArray} {w : World} (h : Txl a L w) (n : Nat) : Txl a (L.take n) w := by
  rcases h with rfl | ⟨g, o, e, hg, hr⟩
  · exact .inl (by simp)
  · refine .inr ⟨g, o, e, hg, fun j hj => ?_⟩
    have hj' : j < L.length := by rw [List.length_take] at hj; omega
    rw [List.getElem_take]
    exact hr j hj'
set_option maxRecDepth 100000 in
theorem open_txl {H : Type} {enc : TypeId × Value → H} {W : World} {a : Option Addr} {len cap : Nat} {d : DataW H} {p : List MemPlace}
    (h : DataW.Trod enc Tryz.prog W 0 (fun _ => true) true 59 (.slice a len cap) d p) :
    ∃ L : List ByteArray, L.length = len ∧ Txl a L W ∧ len ≤ cap ∧ cap ≤ 9223372036854775807 ∧ ∀ s ∈ L, s.size ≤ 9223372036854775807 := by
  obtain ⟨fuel, hf⟩ := h
  rcases Go.Deep.open_strs Tryz.underlying59 Tryz.underlying9 (by kernel_rfl) hf with ⟨e, _⟩ | ⟨ad, len', cap', m, Sx, e, _, hl, hcm, hm, _, hc⟩
  · simp [Value.cells] at e
    obtain ⟨rfl, rfl, rfl⟩ := e
    exact ⟨[], rfl, .inl rfl, Nat.le_refl _, by decide, fun s hs => by cases hs⟩
  · simp [Value.cells] at e
    obtain ⟨rfl, rfl, rfl⟩ := e
    have hlm : len ≤ m := by rw [hm]; split <;> omega
    refine ⟨(List.range len).map Sx, by simp, ?_, hl, by unfold maxLen at hcm; omega, fun s hs => ?_⟩
    · by_cases h0 : len = 0
      · subst h0
        exact .inl rfl
      · obtain ⟨b, off, spot⟩ := ad
        have hc0 := (hc 0 (by omega)).1
        have hspot : spot = none := by simpa [Addr.add] using World.cell?_spot hc0
        subst hspot
        refine .inr ⟨b, off, rfl, World.block_lt_of_cell? W _ hc0, fun j hj => ?_⟩
        rw [List.length_map, List.length_range] at hj
        have := (hc j (by omega)).1
        rw [Addr.add_lit] at this
        rw [this, List.getElem_map, List.getElem_range]
    · obtain ⟨i, hi, rfl⟩ := List.mem_map.1 hs
      have := (hc i (by have := List.mem_range.1 hi; omega)).2
      unfold maxLen at this
      omega
theorem txl_cell {a : Option Addr} {L : List ByteArray} {w : World} (h : Txl a L w) (k : Nat) (hk : k < L.length) : ∃ g o, a = some ⟨g, o, none⟩ ∧ g < w.heap.size ∧ w.cell? ⟨g, o + k, none⟩ = some (.string L[k]) := by
  rcases h with rfl | ⟨g, o, e, hg, hc⟩
  · simp at hk
  · exact ⟨g, o, e, hg, hc k hk⟩
end Go.Proofs.YthkoionigdnhgabGreatDoor
