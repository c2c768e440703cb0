/-
  Small laws on texts, bytes and results.
-/
import Derived.Test.YtjpmfgmoekpcpabGreatDoorGrown
import Derived.Laws.Concat
import Derived.Deep.DeepCutAuto
import Derived.Test.YtjpmfgmoekpcpabGreatDoorIs4
import Derived.Test.YtjpmfgmoekpcpabGreatDoorPureBad
namespace Go.Proofs.YtjpmfgmoekpcpabGreatDoor
open Go.RowKit

theorem beq_u8 (c : UInt8) (n : UInt8) (m : Int) (hm : m = (n.toNat : Int)) : ((c.toNat : Int) == m) = decide (c = n) ∧ ((c.toNat : Int) != m) = !decide (c = n) := by
  have : ((c.toNat : Int) == m) = decide (c = n) := by
    subst hm
    rw [Bool.eq_iff_iff, beq_iff_eq, decide_eq_true_eq, Int.natCast_inj, UInt8.toNat_inj]
  refine ⟨this, ?_⟩
  rw [bne, this]
/-- A text of bytes. -/
def tx (l : List UInt8) : ByteArray := ⟨l.toArray⟩
theorem tx_size (l : List UInt8) : (tx l).size = l.length := List.size_toArray ..
theorem tx_cat (x y : List UInt8) : tx x ++ tx y = tx (x ++ y) := by
  apply ByteArray.ext
  rw [ByteArray.data_append]
  show x.toArray ++ y.toArray = (x ++ y).toArray
  simp
theorem tx_back (s : ByteArray) : tx s.data.toList = s := by
  show (⟨s.data.toList.toArray⟩ : ByteArray) = s
  rw [Array.toArray_toList]
theorem tx_list (l : List UInt8) : (tx l).data.toList = l := by simp [tx]
theorem tx_ext (s : ByteArray) (a b : Nat) : s.extract a b = tx ((s.data.toList.take b).drop a) := by rw [← ext_list, tx_back]
theorem tx_sub (s : ByteArray) (a n : Nat) : s.extract a (a + n) = tx ((s.data.toList.drop a).take n) := by rw [tx_ext, List.drop_take, Nat.add_sub_cancel_left]
theorem infoSp : (Tryz.prog.info? 28).map (·.size) = some 2 := by kernel_rfl
theorem res_vc {P : Program} {fn : Func} {p r : Tmp} {ty : TypeId} (h : fn.results = #[.tmp p, .cell r ty]) (tmps : Array Value) (w : World) (g : Nat) (cs : Array Value) (d : TypeDesc) (v1 : Value) (hp : tmps.getD p undef = v1) (hr : tmps.getD r undef = .pointer (some ⟨g, 0, none⟩)) (hg : Lies w g cs ty)
    (hu : P.underlying ty = some d) (ha : (match d with | .struct _ | .array _ _ => true | _ => false) = true) (hz : (P.info? ty).map (·.size) = some cs.size) : (results fn tmps).run P w = .ok (.tuple #[v1, .agg cs]) w := by
  have hp' : tmps[p]?.getD undef = v1 := by simpa using hp
  have hr' : tmps[r]?.getD undef = .pointer (some ⟨g, 0, none⟩) := by simpa using hr
  simp [results, h, hp', hr', asAddr, run_loadVar_row w g ty ty cs (0, 0) d hg hu ha hz]
theorem own_tx {w : World} {B : Nat} {v : Value} {l : List UInt8} (h : w.ownsRow B 5 1 v l.length (cellsB l)) : (convert 57 9 v).run Tryz.prog w = .ok (.string (tx l)) w := own_conv h
theorem below_drN (w : World) (n : Nat) : Below w.heap.size w (w.drewN n) := ⟨rfl, rfl, rfl, Nat.le_refl _, fun _ _ => rfl⟩
theorem below_dN {B : Nat} {a w : World} (h : Below B a w) (n : Nat) : Below B a (w.drewN n) := ⟨h.os, h.tape, h.output, h.size, h.block⟩
end Go.Proofs.YtjpmfgmoekpcpabGreatDoor
/-
  The contracts of octet.Span and octet.Bad of a text.
-/
namespace Go.Proofs.YtjpmfgmoekpcpabGreatDoor
open Go.RowKit

theorem ret_i64T {a b : Int} (h : a = b) : Ending.returned (.int .i64 a) = .returned (.int .i64 b) := by rw [h]

set_option maxRecDepth 100000 in
set_option maxHeartbeats 400000 in
theorem span_negT (c f : Int) (s : ByteArray) (w : World) (hf : f < 0) :
    Calls Tryz.prog 38 #[.int .i64 c, .string s, .int .i64 f] w fun e w' => e = .returned (.int .i64 f) ∧ w' = w := by
  go_enter Tryz.func38, Tryz.ntmps38
  go_wp2
  go_ret
  exact ⟨rfl, rfl⟩

set_option maxRecDepth 100000 in
set_option maxHeartbeats 400000 in
theorem span_behindT (c f : Int) (s : ByteArray) (w : World) (hs : s.size ≤ maxLen) (hf : (s.size : Int) ≤ f) :
    Calls Tryz.prog 38 #[.int .i64 c, .string s, .int .i64 f] w fun e w' => e = .returned (.int .i64 f) ∧ w' = w := by
  unfold maxLen at hs
  have hn : ¬ f < 0 := by omega
  have hl : ¬ f < (s.size : Int) := by omega
  go_enter Tryz.func38, Tryz.ntmps38
  go_wp2
  refine wp_loop_rounds 1 ?_
  rw [rounds_succ]
  go_wp2
  go_ret
  exact ⟨rfl, rfl⟩

set_option maxRecDepth 100000 in
set_option maxHeartbeats 400000 in
theorem span_inT (c : Int) (f : Nat) (s : ByteArray) (w : World) (ht : Table w) (hs : s.size ≤ maxLen) (hf : f ≤ s.size) :
    Calls Tryz.prog 38 #[.int .i64 c, .string s, .int .i64 f] w fun e w' => e = .returned (.int .i64 (f + badN c (s.data.toList.drop f))) ∧ w' = w := by
  unfold maxLen at hs
  have HT : Hid (Table w) := ht
  clear ht
  go_enter Tryz.func38, Tryz.ntmps38
  go_wp2
  go_loop [7] (fun i => ∃ m : Nat, m ≤ s.size ∧ i = .int .i64 m ∧ Hid (f + badN c (s.data.toList.drop f) = m + badN c (s.data.toList.drop m))) (fun i => s.size - (intOf i).toNat)
  case atStart => exact ⟨f, hf, rfl, rfl⟩
  case round =>
    obtain ⟨m, hm, rfl, HM⟩ := hrel
    by_cases hlt : m < s.size
    · by_cases hb : isB c (s[m].toNat : Int) = true
      · have HN : Hid (f + badN c (s.data.toList.drop f) = (m + 1) + badN c (s.data.toList.drop (m + 1))) := by
          have := badN_yes c s.data.toList m (by simpa using hlt) hb
          show _ = _
          rw [HM.out, this]; omega
        go_wp2_with (go_at_call 18; refine (is_any _ _ _ HT.out).mono ?_; rintro e w' ⟨rfl, rfl⟩)
        go_round
        case rel => exact ⟨m + 1, by omega, by go_num, HN⟩
        case measure => simp [intOf]; omega
      · have hb' : isB c (s[m].toNat : Int) = false := by simpa using hb
        have HN : Hid (f + badN c (s.data.toList.drop f) = m) := by
          have := badN_no c s.data.toList m (by simpa using hlt) hb'
          show _ = _
          rw [HM.out, this]; omega
        clear hb
        go_wp2_with (go_at_call 18; refine (is_any _ _ _ HT.out).mono ?_; rintro e w' ⟨rfl, rfl⟩)
        go_ret
        exact ⟨ret_i64T (by have := HN.out; omega), rfl⟩
    · have HN : Hid (f + badN c (s.data.toList.drop f) = m) := by
        have := badN_end c s.data.toList m (by simp; omega)
        show _ = _
        rw [HM.out, this]; omega
      go_wp2
      go_ret
      exact ⟨ret_i64T (by have := HN.out; omega), rfl⟩

theorem span_anyT (c f : Int) (s : ByteArray) (w : World) (ht : Table w) (hs : s.size ≤ maxLen) :
    Calls Tryz.prog 38 #[.int .i64 c, .string s, .int .i64 f] w fun e w' => e = .returned (.int .i64 (spanI c s.data.toList f)) ∧ w' = w := by
  by_cases h0 : f < 0
  · rw [spanI_neg _ _ _ h0]
    exact span_negT c f s w h0
  · by_cases h1 : (s.size : Int) ≤ f
    · rw [spanI_behind _ _ _ (by simpa using h1)]
      exact span_behindT c f s w hs h1
    · obtain ⟨n, rfl⟩ := Int.eq_ofNat_of_zero_le (show 0 ≤ f by omega)
      rw [spanI_nat]
      exact span_inT c n s w ht hs (by omega)

set_option maxRecDepth 100000 in
theorem bad_anyT (c : Int) (s : ByteArray) (w : World) (ht : Table w) (hs : s.size ≤ maxLen) :
    Calls Tryz.prog 12 #[.int .i64 c, .string s] w fun e w' => e = .returned (.int .i64 (badN c s.data.toList)) ∧ w' = w := by
  have hz := spanI_zero c s.data.toList
  go_enter Tryz.func12, Tryz.ntmps12
  go_wp2_with fail
  refine (span_anyT c 0 s _ ht hs).mono ?_
  rintro e w' ⟨rfl, rfl⟩
  go_wp2
  go_ret
  exact ⟨rfl, rfl⟩
end Go.Proofs.YtjpmfgmoekpcpabGreatDoor
