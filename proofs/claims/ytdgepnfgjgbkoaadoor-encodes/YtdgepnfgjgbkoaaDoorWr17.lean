/-
  The words of a text, one by one.
-/
import Derived.Test.YtdgepnfgjgbkoaaDoorKg17
import Derived.Test.YtdgepnfgjgbkoaaDoorUnhexOk4
import Derived.Test.YtdgepnfgjgbkoaaDoorSpan4
import Derived.Test.YtdgepnfgjgbkoaaDoorWu17
import Derived.Test.YtdgepnfgjgbkoaaDoorUnb
namespace Go.Proofs.YtdgepnfgjgbkoaaDoor
open Go.RowKit Go.Shelf

attribute [local go_sem] Oper.semAt_some

theorem frm_le (l : List UInt8) : ∀ k, frm l k ≤ k
  | 0 => Nat.le_refl _
  | k + 1 => by
    unfold frm
    split
    · exact Nat.le_refl _
    · have := frm_le l k
      omega
theorem wds_succ (l : List UInt8) (k : Nat) : wds l (k + 1) = if stopAt l k = true ∧ frm l k < k then wds l k ++ [(frm l k, k)] else wds l k := rfl
theorem frm_succ (l : List UInt8) (k : Nat) : frm l (k + 1) = if stopAt l k = true then k + 1 else frm l k := rfl
theorem wds_pre (l : List UInt8) (k m : Nat) (h : k ≤ m) : ∃ t, wds l m = wds l k ++ t := by
  induction m with
  | zero =>
    obtain rfl : k = 0 := by omega
    exact ⟨[], by simp⟩
  | succ m ih =>
    by_cases e : k = m + 1
    · subst e
      exact ⟨[], by simp⟩
    · obtain ⟨t, ht⟩ := ih (by omega)
      rw [wds_succ]
      split
      · exact ⟨t ++ [(frm l m, m)], by rw [ht]; simp⟩
      · exact ⟨t, ht⟩
theorem wds_no (l : List UInt8) (k : Nat) (h : stopAt l k = false) : wds l (k + 1) = wds l k ∧ frm l (k + 1) = frm l k := by
  rw [wds_succ, frm_succ, h]
  simp
theorem wds_gap (l : List UInt8) (k : Nat) (h : stopAt l k = true) (hf : ¬ frm l k < k) : wds l (k + 1) = wds l k ∧ frm l (k + 1) = k + 1 := by
  rw [wds_succ, frm_succ, if_neg (by rintro ⟨_, h2⟩; exact hf h2), if_pos h]
  exact ⟨rfl, rfl⟩
theorem wds_hit (l : List UInt8) (k : Nat) (h : stopAt l k = true) (hf : frm l k < k) : wds l (k + 1) = wds l k ++ [(frm l k, k)] ∧ frm l (k + 1) = k + 1 := by
  rw [wds_succ, frm_succ, if_pos ⟨h, hf⟩, if_pos h]
  exact ⟨rfl, rfl⟩
/-- What the loop over the words is handed. -/
def vsW (l : List UInt8) : List (Array Value) := (wdsA l).map fun p => #[Value.int .i64 (p.1 : Int), Value.int .i64 (p.2 : Int)]
theorem vsW_at (l : List UInt8) (k : Nat) (hk : k ≤ l.length) (h : stopAt l k = true) (hf : frm l k < k) :
    ∃ h : (wds l k).length < (vsW l).length, (vsW l)[(wds l k).length] = #[.int .i64 (frm l k : Int), .int .i64 (k : Int)] := by
  obtain ⟨t, ht⟩ := wds_pre l (k + 1) (l.length + 1) (by omega)
  rw [(wds_hit l k h hf).1] at ht
  have hl : (wds l k).length < (vsW l).length := by
    unfold vsW wdsA
    rw [List.length_map, ht]
    simp
  refine ⟨hl, ?_⟩
  have h5 : (vsW l)[(wds l k).length]? = some #[.int .i64 (frm l k : Int), .int .i64 (k : Int)] := by
    unfold vsW wdsA
    rw [List.getElem?_map, ht]
    simp
  rw [List.getElem?_eq_getElem hl] at h5
  exact Option.some.inj h5
set_option maxRecDepth 100000 in
set_option maxHeartbeats 2000000 in
theorem words_in (s : ByteArray) (hs : s.size ≤ 4294967200) (lp g n : Nat) (hn : 1 ≤ n) (J Jx : Nat → World → Prop) (W : World)
    (hY : ∀ (k : Nat) (hk : k < (vsW s.data.toList).length) (W1 : World), J k W1 → YieldAt Fence.wide (n - 1) Tryd.prog lp (vsW s.data.toList)[k] W1 fun e W' => (e = .returned (.bool true) ∧ J (k + 1) W' ∧ Kg (· = g) W1 W') ∨ (e = .returned (.bool false) ∧ Jx (k + 1) W'))
    (hb : Lies W g #[.string s] 9) (h0 : J 0 W) :
    CallsIn Fence.wide n Tryd.prog 37 #[.func (.yield lp) #[] #[], .pointer (some ⟨g, 0, none⟩)] W fun e W' => (∃ v, e = .returned v) ∧ (J (vsW s.data.toList).length W' ∨ ∃ k, k ≤ (vsW s.data.toList).length ∧ Jx k W') := by
  have hsI : (s.size : Int) ≤ 4294967200 := by omega
  have HY : Hid (∀ (k : Nat) (hk : k < (vsW s.data.toList).length) (W1 : World), J k W1 → YieldAt Fence.wide (n - 1) Tryd.prog lp (vsW s.data.toList)[k] W1 fun e W' => (e = .returned (.bool true) ∧ J (k + 1) W' ∧ Kg (· = g) W1 W') ∨ (e = .returned (.bool false) ∧ Jx (k + 1) W')) := hY
  have H0 : Hid (J 0 W) := h0
  have HB : Hid (Lies W g #[.string s] 9) := hb
  clear hY h0 hb
  refine callsIn_of_wp Tryd.func37 rfl trivial ?_ rfl
  simp only [Tryd.ntmps37, List.size_toArray, List.length_cons, List.length_nil, Nat.reduceAdd, Nat.reduceSub, Array.replicate_succ, Array.replicate_zero, List.push_toArray, List.append_toArray, List.nil_append, List.cons_append]
  gi_wp2
  gi_loopw [3, 4] (fun fv iv wr => ∃ k f : Nat, k ≤ s.size + 1 ∧ f ≤ k ∧ iv = .int .i64 (k : Int) ∧ fv = .int .i64 (f : Int) ∧ Hid (f = frm s.data.toList k) ∧ Hid (J (wds s.data.toList k).length wr) ∧ Hid (Lies wr g #[.string s] 9)) (fun _ iv _ => s.size + 1 - (intOf iv).toNat)
  case atStart => exact ⟨0, 0, Nat.zero_le _, Nat.le_refl _, rfl, rfl, rfl, H0.out, HB.out⟩
  case round =>
    obtain ⟨k, f, hk, hfk, rfl, rfl, HF, HJ, HL⟩ := hrel
    clear H0 HB
    have c0 := HL.out.cell 0
    rw [show (#[Value.string s] : Array Value)[0]? = some (.string s) from rfl] at c0
    by_cases hlt : k ≤ s.size
    · have hltI : (k : Int) ≤ (s.size : Int) := by omega
      by_cases hlt2 : k < s.size
      · have hlt2I : (k : Int) < (s.size : Int) := by omega
        have HIB : Hid (∀ wx, Calls Tryd.prog 38 #[.int .u8 (s[k].toNat : Int)] wx fun e w' => e = .returned (.bool (blk s[k])) ∧ w' = wx) := fun wx => wblank_any _ wx
        have HSS : Hid (stopAt s.data.toList k = blk s[k]) := by
          show stopAt _ _ = _
          unfold stopAt
          rw [List.getElem?_eq_getElem (by rw [len_list]; exact hlt2)]
          rfl
        generalize blk s[k] = b1 at *
        cases b1 with
        | false =>
          have HN : Hid (wds s.data.toList (k + 1) = wds s.data.toList k ∧ frm s.data.toList (k + 1) = frm s.data.toList k) := wds_no _ _ HSS.out
          clear HSS HY
          gi_wp2_with fail
          refine ⟨trivial, ?_⟩
          refine (callsIn_wide.2 (HIB.out _)).mono ?_
          rintro e w1 ⟨rfl, rfl⟩
          gi_wp2_with fail
          go_roundw
          case rel => exact ⟨k + 1, f, by omega, by omega, by go_num, rfl, by rw [HN.out.2]; exact HF.out, by rw [HN.out.1]; exact HJ.out, HL.out⟩
          case measure => simp [intOf]; omega
        | true =>
          have HST : Hid (stopAt s.data.toList k = true) := HSS.out
          clear HSS
          by_cases hfl : f < k
          · have hfi : decide (f < k) = true := decide_eq_true hfl
            have hff := HF.out
            obtain ⟨hi4, hv⟩ := vsW_at s.data.toList k (by rw [len_list]; exact hlt) HST.out (by rw [← hff]; exact hfl)
            rw [← hff] at hv
            have hw3 := wds_hit s.data.toList k HST.out (by rw [← hff]; exact hfl)
            have HI3 : Hid ((wds s.data.toList (k + 1)).length = (wds s.data.toList k).length + 1 ∧ k + 1 = frm s.data.toList (k + 1)) := ⟨by rw [hw3.1]; simp, hw3.2.symm⟩
            obtain ⟨fn, tmps, assign, body, hy, hR⟩ := HY.out _ hi4 wr HJ.out
            rw [hv] at hy
            have HI4 : Hid ((wds s.data.toList k).length < (vsW s.data.toList).length) := hi4
            have hk64 : IntKind.i64.wrap ((k : Int) + 1) = (k : Int) + 1 := by rw [IntKind.wrap_i64]; omega
            clear hff hi4 hv hw3 HST
            gi_wp2_with fail
            refine ⟨trivial, ?_⟩
            refine (callsIn_wide.2 (HIB.out _)).mono ?_
            rintro e w1 ⟨rfl, rfl⟩
            gi_wp2_with fail
            refine hR.mono ?_
            rintro e W3 (⟨rfl, hJ3, hk3⟩ | ⟨rfl, hJx3⟩)
            · have HJ3 : Hid (J ((wds s.data.toList k).length + 1) W3) := hJ3
              have HL3 : Hid (Lies W3 g #[.string s] 9) := hk3.lies HL.out rfl
              clear hk3 hJ3
              gi_wp2_with fail
              go_roundw
              case rel => exact ⟨k + 1, k + 1, by omega, by omega, by go_num, by go_num, HI3.out.2, by rw [HI3.out.1]; exact HJ3.out, HL3.out⟩
              case measure => simp [intOf]; omega
            · gi_wp2
              refine bodyPost_ret (results_none rfl _ _ _) rfl ?_
              exact ⟨⟨_, rfl⟩, .inr ⟨_, HI4.out, hJx3⟩⟩
          · have hfi : decide (f < k) = false := decide_eq_false hfl
            have hff := HF.out
            have hw3 := wds_gap s.data.toList k HST.out (by rw [← hff]; exact hfl)
            have HN : Hid (wds s.data.toList (k + 1) = wds s.data.toList k ∧ k + 1 = frm s.data.toList (k + 1)) := ⟨hw3.1, hw3.2.symm⟩
            have hk64 : IntKind.i64.wrap ((k : Int) + 1) = (k : Int) + 1 := by rw [IntKind.wrap_i64]; omega
            clear hff hw3 HST HY
            gi_wp2_with fail
            refine ⟨trivial, ?_⟩
            refine (callsIn_wide.2 (HIB.out _)).mono ?_
            rintro e w1 ⟨rfl, rfl⟩
            gi_wp2_with fail
            refine ⟨fun _ h => (by cases h), ?_⟩
            gi_wp2_with fail
            go_roundw
            case rel => exact ⟨k + 1, k + 1, by omega, by omega, by go_num, by go_num, HN.out.2, by rw [HN.out.1]; exact HJ.out, HL.out⟩
            case measure => simp [intOf]; omega
      · have hlt2I : ¬ (k : Int) < (s.size : Int) := by omega
        have HST : Hid (stopAt s.data.toList k = true) := by
          show stopAt _ _ = _
          unfold stopAt
          rw [List.getElem?_eq_none (by rw [len_list]; omega)]
        by_cases hfl : f < k
        · have hfi : decide (f < k) = true := decide_eq_true hfl
          have hff := HF.out
          obtain ⟨hi4, hv⟩ := vsW_at s.data.toList k (by rw [len_list]; exact hlt) HST.out (by rw [← hff]; exact hfl)
          rw [← hff] at hv
          have hw3 := wds_hit s.data.toList k HST.out (by rw [← hff]; exact hfl)
          have HI3 : Hid ((wds s.data.toList (k + 1)).length = (wds s.data.toList k).length + 1 ∧ k + 1 = frm s.data.toList (k + 1)) := ⟨by rw [hw3.1]; simp, hw3.2.symm⟩
          obtain ⟨fn, tmps, assign, body, hy, hR⟩ := HY.out _ hi4 wr HJ.out
          rw [hv] at hy
          have HI4 : Hid ((wds s.data.toList k).length < (vsW s.data.toList).length) := hi4
          have hk64 : IntKind.i64.wrap ((k : Int) + 1) = (k : Int) + 1 := by rw [IntKind.wrap_i64]; omega
          clear hff hi4 hv hw3 HST
          gi_wp2_with fail
          refine ⟨trivial, ?_⟩
          gi_wp2_with fail
          refine hR.mono ?_
          rintro e W3 (⟨rfl, hJ3, hk3⟩ | ⟨rfl, hJx3⟩)
          · have HJ3 : Hid (J ((wds s.data.toList k).length + 1) W3) := hJ3
            have HL3 : Hid (Lies W3 g #[.string s] 9) := hk3.lies HL.out rfl
            clear hk3 hJ3
            gi_wp2_with fail
            go_roundw
            case rel => exact ⟨k + 1, k + 1, by omega, by omega, by go_num, by go_num, HI3.out.2, by rw [HI3.out.1]; exact HJ3.out, HL3.out⟩
            case measure => simp [intOf]; omega
          · gi_wp2
            refine bodyPost_ret (results_none rfl _ _ _) rfl ?_
            exact ⟨⟨_, rfl⟩, .inr ⟨_, HI4.out, hJx3⟩⟩
        · have hfi : decide (f < k) = false := decide_eq_false hfl
          have hff := HF.out
          have hw3 := wds_gap s.data.toList k HST.out (by rw [← hff]; exact hfl)
          have HN : Hid (wds s.data.toList (k + 1) = wds s.data.toList k ∧ k + 1 = frm s.data.toList (k + 1)) := ⟨hw3.1, hw3.2.symm⟩
          have hk64 : IntKind.i64.wrap ((k : Int) + 1) = (k : Int) + 1 := by rw [IntKind.wrap_i64]; omega
          clear hff hw3 HST HY
          gi_wp2_with fail
          refine ⟨trivial, ?_⟩
          gi_wp2_with fail
          refine ⟨fun _ h => (by cases h), ?_⟩
          gi_wp2_with fail
          go_roundw
          case rel => exact ⟨k + 1, k + 1, by omega, by omega, by go_num, by go_num, HN.out.2, by rw [HN.out.1]; exact HJ.out, HL.out⟩
          case measure => simp [intOf]; omega
    · have hki : ¬ (k : Int) ≤ (s.size : Int) := by omega
      have HE : Hid ((wds s.data.toList k).length = (vsW s.data.toList).length) := by
        show _ = _
        unfold vsW wdsA
        rw [List.length_map, len_list, show s.size + 1 = k by omega]
      gi_wp2
      go_end0
      exact ⟨⟨_, rfl⟩, .inl (by rw [← HE.out]; exact HJ.out)⟩
theorem words_seq (s : ByteArray) (hs : s.size ≤ 4294967200) (g n : Nat) (hn : 1 ≤ n) (w : World) (h : Lies w g #[.string s] 9) : SeqL n Tryd.prog 37 #[.pointer (some ⟨g, 0, none⟩)] (vsW s.data.toList) (Kg (· = g)) w :=
  fun lp J Jx W hW _ hY h0 => words_in s hs lp g n hn J Jx W hY (h.below hW h.lt) h0
theorem wwords_any (s : ByteArray) (w : World) : Calls Tryd.prog 20 #[.string s] w fun e w' => e = .returned (.func (.func 37) #[] #[.pointer (some ⟨w.heap.size, 0, none⟩)]) ∧ w' = w.alloc (.cells #[.string s] 9) := by
  go_enter Tryd.func20, Tryd.ntmps20
  go_wp2
  go_ret
  exact ⟨rfl, rfl⟩
end Go.Proofs.YtdgepnfgjgbkoaaDoor
/-
  read: the bytes of an encoded word's text.
-/
namespace Go.Proofs.YtdgepnfgjgbkoaaDoor
open Go.RowKit

/-- The error of a text's bytes (0: none), and its place, and the bytes. -/
def reE (q : Bool) (t : List UInt8) : Nat := if q then uqE t else unbE t
def reP (q : Bool) (t : List UInt8) : Nat := if q then uqP t else unbA t
def reR (q : Bool) (t : List UInt8) : List UInt8 := if q then uqR t else unbL t
theorem wread_any (q : Bool) (s : ByteArray) (hs : s.size ≤ 1099511627776) (w : World) (ht : Table w) :
    Calls Tryd.prog 43 #[.string (cdS q), .string s] w fun e w' => ∃ v, e = .returned (.tuple #[v, .agg #[.int .i64 (reE q s.data.toList : Nat), .int .i64 (reP q s.data.toList : Nat)]]) ∧
      w'.ownsRow w.heap.size 5 1 v (reR q s.data.toList).length (cellsB (reR q s.data.toList)) ∧ Below w.heap.size w w' := by
  have HT : Hid (Table w) := ht
  have hU := unb_any s (by omega) (w.alloc (.cells #[.int .i64 0, .int .i64 0] 25))
  have hQ := wunq_any s hs (w.alloc (.cells #[.int .i64 0, .int .i64 0] 25)) (HT.out.keep ((Below.refl _ _).alloc (Nat.le_refl _) _))
  have HL : Hid (Lies (w.alloc (.cells #[.int .i64 0, .int .i64 0] 25)) w.heap.size #[.int .i64 0, .int .i64 0] 25) := Lies.new w _ _
  clear ht
  cases q
  all_goals
    unfold cdS reE reP reR
    simp only [Bool.false_eq_true, if_false, if_true]
    go_enter Tryd.func43, Tryd.ntmps43
    go_wp2_with fail
    refine (by first | exact hU | exact hQ : Calls _ _ _ _ _).mono ?_
    rintro e w2 ⟨v2, rfl, ho, hb⟩
    have hsz : (w.alloc (.cells #[.int .i64 0, .int .i64 0] 25)).heap.size = w.heap.size + 1 := by simp
    rw [hsz] at ho hb
    have HO : Hid (w2.ownsRow (w.heap.size + 1) 5 1 v2 _ (cellsB _)) := ho
    have hL2 : Lies w2 w.heap.size #[.int .i64 0, .int .i64 0] 25 := HL.out.below hb (by omega)
    have c0 := hL2.cell 0
    have c1 := hL2.cell 1
    have f0 := hL2.frozen 0
    have f1 := hL2.frozen 1
    have HB : Hid (Below w.heap.size w w2) := ((Below.refl _ w).alloc (Nat.le_refl _) _).trans (hb.mono (by omega))
    clear hL2 ho hb HL hU hQ HT hsz
    go_wp2
    refine bodyPost_ret (by simp [results, Tryd.results43, go_sem, c0, c1]; rfl) rfl ⟨_, rfl, ?_, ?_⟩
    · refine base_le (own_keep HO.out (fun q hq => ?_)) (Nat.le_succ _)
      have hne : q ≠ w.heap.size := by have := (HO.out.lt q hq).1; omega
      exact (Below.heap_setCell _ ⟨w.heap.size, 1, none⟩ _ _ hne).trans (Below.heap_setCell _ ⟨w.heap.size, 0, none⟩ _ _ hne)
    · exact (HB.out.setCell (p := ⟨w.heap.size, 0, none⟩) (Nat.le_refl _) _).setCell (p := ⟨w.heap.size, 1, none⟩) (Nat.le_refl _) _
end Go.Proofs.YtdgepnfgjgbkoaaDoor
