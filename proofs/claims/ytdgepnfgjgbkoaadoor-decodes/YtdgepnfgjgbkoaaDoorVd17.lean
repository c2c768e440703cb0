/-
  The document's bytes of an encoded word's text.
-/
import Derived.Test.YtdgepnfgjgbkoaaDoorRDue
import Derived.Test.YtdgepnfgjgbkoaaDoorWr17
import Derived.Test.YtdgepnfgjgbkoaaDoorRUnc
import Derived.Test.YtdgepnfgjgbkoaaDoorRowl
import Derived.BigQuiet
namespace Go.Proofs.YtdgepnfgjgbkoaaDoor
open Go.RowKit

/-- Where a text can't be read; below 0: it can be. -/
def vW (q : Bool) (t : List UInt8) : Int := if reE q t = 0 then -1 else (reP q t : Int)
theorem blw_drewN {B : Nat} {a w : World} (h : Below B a w) (n : Nat) : Below B a (w.drewN n) := ⟨h.os, h.tape, h.output, h.size, h.block⟩
theorem sm_b (cd : ByteArray) (h : sml cd.data.toList = [98]) : smS cd = ⟨#[98]⟩ := by
  unfold smS
  rw [h]
set_option maxRecDepth 100000 in
set_option maxHeartbeats 4000000 in
theorem vbytes_b (cd s : ByteArray) (hcd : sml cd.data.toList = [98]) (hz : cd.size ≤ 4294967000) (hs : s.size ≤ 4294967000) (w : World) :
    Calls Tryd.prog 31 #[.string cd, .string s] w fun e w' => ∃ v, e = .returned (.tuple #[v, .int .i64 (vW false s.data.toList)]) ∧ w'.ownsRow w.heap.size 5 1 v (reR false s.data.toList).length (cellsB (reR false s.data.toList)) ∧ Below w.heap.size w w' := by
  have HSM := vsmall_any cd w (by unfold maxLen; omega)
  rw [sm_b cd hcd] at HSM
  have HUN : Hid (∀ wx, Calls Tryd.prog 55 #[.string s] wx fun e w' => ∃ v, e = .returned (.tuple #[v, .agg #[.int .i64 (unbE s.data.toList : Nat), .int .i64 (unbA s.data.toList : Nat)]]) ∧ w'.ownsRow wx.heap.size 5 1 v (unbL s.data.toList).length (cellsB (unbL s.data.toList)) ∧ Below wx.heap.size wx w') := fun wx => runb_any s (by omega) wx
  show Calls Tryd.prog 31 #[.string cd, .string s] w fun e w' => ∃ v, e = .returned (.tuple #[v, .int .i64 (vW false s.data.toList)]) ∧ w'.ownsRow w.heap.size 5 1 v (unbL s.data.toList).length (cellsB (unbL s.data.toList)) ∧ Below w.heap.size w w'
  have HV : Hid (vW false s.data.toList = if unbE s.data.toList = 0 then -1 else (unbA s.data.toList : Int)) := rfl
  have HE : Hid (unbE s.data.toList ≠ 0 → unbL s.data.toList = []) := by
    intro h
    unfold unbE at h
    unfold unbL
    by_cases h1 : okN 0 s.data.toList < s.data.toList.length
    · rw [if_pos h1]
    · rw [dif_neg h1] at h
      rw [if_neg h1]
      by_cases h2 : s.data.toList.length % 4 ≠ 0
      · rw [if_pos h2]
      · rw [if_neg h2] at h
        exact absurd rfl h
  generalize unbE s.data.toList = E at *
  generalize unbA s.data.toList = A at *
  generalize unbL s.data.toList = L at *
  generalize vW false s.data.toList = V at *
  go_enter Tryd.func31, Tryd.ntmps31
  go_wp2_with fail
  refine HSM.mono ?_
  rintro e w1 ⟨rfl, hb1⟩
  have HB1 : Hid (Below w.heap.size w w1) := hb1
  clear hb1 HSM
  go_wp2_with fail
  refine (HUN.out _).mono ?_
  rintro e w2 ⟨v, rfl, ho, hb2⟩
  have HO : Hid (w2.ownsRow w.heap.size 5 1 v L.length (cellsB L)) := base_le ho HB1.out.size
  have HB2 : Hid (Below w.heap.size w w2) := HB1.out.trans (hb2.mono HB1.out.size)
  clear hb2 HUN ho HB1
  have HB3 : Hid (∀ o, Below w.heap.size w (w2.alloc o)) := fun o => HB2.out.alloc HB2.out.size _
  by_cases hE : E = 0
  · subst hE
    go_wp2_with fail
    refine bodyPost_ret (by simp [results, Tryd.results31, go_sem]; rfl) rfl ⟨_, by rw [HV.out]; rfl, ?_, HB3.out _⟩
    exact own_keep HO.out (fun q hq => ((Below.refl _ w2).alloc (Nat.le_refl _) _).block q (HO.out.lt q hq).2)
  · have hEi : ((E : Int) == 0) = false := by rw [beq_eq_false_iff_ne]; omega
    have HL := HE.out hE
    subst HL
    go_wp2_with fail
    go_quiet (fail)
    go_wp2_with fail
    refine bodyPost_ret (by simp [results, Tryd.results31, go_sem]; rfl) rfl ⟨_, by rw [HV.out, if_neg hE], own_nil _ _, blw_drewN (HB3.out _) _⟩
theorem sm_q (cd : ByteArray) (h : sml cd.data.toList ≠ [98]) : ((smS cd).toList == [98]) = false := by
  rw [beq_eq_false_iff_ne, ByteArray.toList_eq]
  intro e
  exact h (by simpa [smS] using e)
theorem vW_q {s : List UInt8} : vW true s = if uqE s = 0 then -1 else (uqP s : Int) := rfl
set_option maxRecDepth 100000 in
set_option maxHeartbeats 4000000 in
theorem vbytes_q (cd s : ByteArray) (hcd : sml cd.data.toList ≠ [98]) (hz : cd.size ≤ 4294967000) (hs : s.size ≤ 4294967000) (w : World) :
    Calls Tryd.prog 31 #[.string cd, .string s] w fun e w' => ∃ v, e = .returned (.tuple #[v, .int .i64 (vW true s.data.toList)]) ∧ w'.ownsRow w.heap.size 5 1 v (reR true s.data.toList).length (cellsB (reR true s.data.toList)) ∧ Below w.heap.size w w' := by
  have hll := len_list s
  have HSM := vsmall_any cd w (by unfold maxLen; omega)
  have hne : ((smS cd).toList == [98]) = false := sm_q cd hcd
  generalize smS cd = C at *
  have HX : Hid (∀ (t : ByteArray) wx, t.size ≤ 4294967000 → Calls Tryd.prog 56 #[.string t] wx fun e w' => e = .returned (.int .i64 (vH t.data.toList)) ∧ Below wx.heap.size wx w') := fun t wx h => vhex_any t h wx
  show Calls Tryd.prog 31 #[.string cd, .string s] w fun e w' => ∃ v, e = .returned (.tuple #[v, .int .i64 (vW true s.data.toList)]) ∧ w'.ownsRow w.heap.size 5 1 v (uqR s.data.toList).length (cellsB (uqR s.data.toList)) ∧ Below w.heap.size w w'
  go_enter Tryd.func31, Tryd.ntmps31
  go_wp2_with fail
  refine HSM.mono ?_
  rintro e w1 ⟨rfl, hb1⟩
  have HB1 : Hid (Below w.heap.size w w1) := hb1
  clear hb1 HSM
  go_wp2_with fail
  go_loopw [8, 9] (fun v i wr => ∃ (k : Nat) (D : List UInt8), k ≤ s.size ∧ D.length ≤ k ∧ i = .int .i64 k ∧ Hid (Uqs s.data.toList k D) ∧ Hid (wr.ownsRow w.heap.size 5 1 v D.length (cellsB D)) ∧ Hid (Below w.heap.size w wr)) (fun _ i _ => s.size - (intOf i).toNat)
  case atStart => exact ⟨0, [], Nat.zero_le _, Nat.zero_le _, rfl, Uqs.start _, own_nil _ _, HB1⟩
  case round =>
    obtain ⟨k, D, hk, hD, rfl, HU, HO, HB⟩ := hrel
    clear HB1
    have hzr : w.heap.size ≤ wr.heap.size := HB.out.size
    by_cases hlt : k < s.size
    · have hkl : k < s.data.toList.length := by omega
      obtain ⟨c, hcc⟩ : ∃ c, c = s[k] := ⟨_, rfl⟩
      have hc' : s.data.toList[k] = c := by rw [hcc]; rfl
      have k95 := u8x c 95 95
      have k61 := u8x c 61 61
      have hsk : s[k] = c := hcc.symm
      have fin : ∀ (j : Nat) (x : UInt8) (v3 : Value) (w3 : World), k + 1 ≤ j → j ≤ s.size → Uqs s.data.toList j (D ++ [x]) → w3.ownsRow w.heap.size 5 1 v3 (D.length + 1) (cellsB (D ++ [x])) → (∀ B w1, Below B w1 wr → B ≤ w.heap.size → Below B w1 w3) →
          (∃ (k_1 : Nat) (D : List UInt8), k_1 ≤ s.size ∧ D.length ≤ k_1 ∧ Value.int IntKind.i64 (j : Int) = Value.int IntKind.i64 (k_1 : Int) ∧ Hid (Uqs s.data.toList k_1 D) ∧ Hid (w3.ownsRow w.heap.size 5 1 v3 D.length (cellsB D)) ∧ Hid (Below w.heap.size w w3)) ∧
          s.size - (intOf (Value.int IntKind.i64 (j : Int))).toNat < s.size - (intOf (Value.int IntKind.i64 (k : Int))).toNat := fun j x v3 w3 hj hj2 h1 h2 h3 =>
        ⟨⟨j, D ++ [x], by omega, by simp only [List.length_append, List.length_cons, List.length_nil]; omega, rfl, h1, by rw [List.length_append]; exact h2, h3 _ _ HB.out (Nat.le_refl _)⟩, by simp [intOf]; omega⟩
      have HF : Hid _ := fin
      clear fin hcc
      by_cases h61 : c = 61
      · have e61 : (c == 61) = true := by simp [h61]
        rw [e61] at k61
        have e95 : (c == 95) = false := by simp [h61]
        rw [e95] at k95
        have HHIT := vH_hit s.data.toList k hkl (by rw [hc']; exact h61)
        have HMIS := vH_miss s.data.toList k hkl (by rw [hc']; exact h61)
        have HC := HX.out (s.extract (k + 1) s.size) wr (by rw [ByteArray.size_extract]; omega)
        have hX : (s.extract (k + 1) s.size).data.toList = s.data.toList.drop (k + 1) := by
          rw [ext_list, List.take_of_length_le (by omega)]
        rw [hX] at HC
        clear h61 e61 e95 hc' HX hX
        generalize vH (s.data.toList.drop (k + 1)) = n at *
        by_cases hn : n < 0
        · have hf : uqE s.data.toList = 170 ∧ uqP s.data.toList = k ∧ uqR s.data.toList = [] := HU.out.err (HMIS hn)
          have HE : Hid (uqE s.data.toList = 170 ∧ uqP s.data.toList = k ∧ uqR s.data.toList = []) := hf
          clear HHIT HMIS hf HU HF
          go_wp2_with fail
          refine HC.mono ?_
          rintro e w2 ⟨rfl, hb2⟩
          have HB2 : Hid (Below w.heap.size w w2) := HB.out.trans (hb2.mono HB.out.size)
          clear HC hb2
          go_wp2_with fail
          refine bodyPost_ret (v := .tuple #[.slice none 0 0, .int .i64 (k : Nat)]) (by simp [results, Tryd.results31, go_sem]) rfl ⟨_, by rw [vW_q, HE.out.1, HE.out.2.1]; rfl, ?_, HB2.out⟩
          rw [HE.out.2.2]
          exact own_nil _ _
        · obtain ⟨h3, x, hx, he⟩ := HHIT (by omega)
          have HU2 : Hid (Uqs s.data.toList (k + 3) (D ++ [x])) := ⟨by rw [HU.out.all, he, List.append_assoc]⟩
          subst hx
          have hw : IntKind.u8.wrap (x.toNat : Int) = (x.toNat : Int) := by
            have := x.toNat_lt
            rw [IntKind.wrap_u8]; omega
          clear he HHIT HMIS HU
          go_wp2_with fail
          refine HC.mono ?_
          rintro e w2 ⟨rfl, hb2⟩
          have HB2 : Hid (Below w.heap.size w w2) := HB.out.trans (hb2.mono HB.out.size)
          have HO2 : Hid (w2.ownsRow w.heap.size 5 1 _ D.length (cellsB D)) := own_below HO.out hb2
          have hz2 : w.heap.size ≤ w2.heap.size := HB2.out.size
          have HBW : Hid (Below wr.heap.size wr w2) := hb2
          clear HC hb2 HO
          go_wp2_with (at_builtin; refine wpList_append_byte rfl _ _ rfl w.heap.size _ _ D rfl (HO2.out.alloc _) w2 x _ rfl rfl 1 rfl (by omega) hz2 ?_; intro v3 w3 ho3 hb3)
          exact HF.out (k + 3) x v3 w3 (by omega) h3 HU2.out ho3 (fun B w1 h1 h2 => hb3 B w1 (h1.trans (HBW.out.mono (by omega))) h2)
      · have HU2 : Hid (Uqs s.data.toList (k + 1) (D ++ [if c = 95 then 32 else c])) := by
          have := HU.out.one hkl (by rw [hc']; exact h61)
          rw [hc'] at this
          exact this
        have e61 : (c == 61) = false := by simp [h61]
        rw [e61] at k61
        by_cases h95 : c = 95
        · have e95 : (c == 95) = true := by simp [h95]
          rw [e95] at k95
          rw [if_pos h95] at HU2
          clear h95 e95 h61 e61 hc' HU HX
          go_wp2_with (at_builtin; refine wpList_append_byte rfl _ _ rfl w.heap.size _ _ D rfl (HO.out.alloc _) wr 32 _ rfl rfl 1 rfl (by omega) hzr ?_; intro v3 w3 ho3 hb3)
          exact HF.out (k + 1) _ v3 w3 (Nat.le_refl _) hlt HU2.out ho3 hb3
        · have e95 : (c == 95) = false := by simp [h95]
          rw [e95] at k95
          rw [if_neg h95] at HU2
          clear h95 e95 h61 e61 hc' HU HX
          go_wp2_with (at_builtin; refine wpList_append_byte rfl _ _ rfl w.heap.size _ _ D rfl (HO.out.alloc _) wr c _ rfl rfl 1 rfl (by omega) hzr ?_; intro v3 w3 ho3 hb3)
          exact HF.out (k + 1) _ v3 w3 (Nat.le_refl _) hlt HU2.out ho3 hb3
    · obtain rfl : k = s.size := by omega
      have hf : uqE s.data.toList = 0 ∧ uqP s.data.toList = 0 ∧ uqR s.data.toList = D := by
        rw [← hll] at HU
        exact HU.out.fin
      have HE : Hid (uqE s.data.toList = 0 ∧ uqP s.data.toList = 0 ∧ uqR s.data.toList = D) := hf
      clear hf HU HX hk hlt
      go_wp2_with fail
      refine bodyPost_ret (by simp [results, Tryd.results31, go_sem]; rfl) rfl ⟨_, by rw [vW_q, HE.out.1]; rfl, ?_, HB.out⟩
      rw [HE.out.2.2]
      exact HO.out
/-- The bytes of an encoded word's text, in either coding. -/
theorem vbytes_any (cd s : ByteArray) (hbq : isBQ cd.data.toList = true) (hz : cd.size ≤ 4294967000) (hs : s.size ≤ 4294967000) (w : World) :
    Calls Tryd.prog 31 #[.string cd, .string s] w fun e w' => ∃ v, e = .returned (.tuple #[v, .int .i64 (vW (decide (upL cd.data.toList = [81])) s.data.toList)]) ∧
      w'.ownsRow w.heap.size 5 1 v (reR (decide (upL cd.data.toList = [81])) s.data.toList).length (cellsB (reR (decide (upL cd.data.toList = [81])) s.data.toList)) ∧ Below w.heap.size w w' := by
  rcases (bq_up _).1 hbq with h | h
  · have h2 : sml cd.data.toList = [98] := (sn_b _).2 h
    rw [decide_eq_false (by rw [h]; decide)]
    exact vbytes_b cd s h2 hz hs w
  · have h2 : sml cd.data.toList ≠ [98] := fun e => by
      have := (sn_b _).1 e
      rw [h] at this
      exact absurd this (by decide)
    rw [decide_eq_true h]
    exact vbytes_q cd s h2 hz hs w
end Go.Proofs.YtdgepnfgjgbkoaaDoor
