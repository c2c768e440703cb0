/-
  The contract of the document's Unquote.
-/
import Derived.Test.YtenfopabdegmhaaDoorRUnq4
namespace Go.Proofs.YtenfopabdegmhaaDoor
open Go.RowKit

theorem u_took {l X : List UInt8} (h : unqOk l = true ∧ unqL l = X) : uE l = 0 ∧ uA l = 0 ∧ uL l = X := by
  unfold uE uA uL
  rw [if_pos h.1, if_pos h.1, if_pos h.1, h.2]
  exact ⟨rfl, rfl, rfl⟩

theorem crlf_new (w : World) : Bts (some ⟨w.heap.size, 0, none⟩) [13, 10] (w.alloc (.cells #[.int .u8 13, .int .u8 10] 5)) := by
  refine .inr ⟨w.heap.size, 0, rfl, by simp, fun j hj => ?_⟩
  have h2 : j < 2 := hj
  match j, h2 with
  | 0, _ => simp
  | 1, _ => simp
set_option maxHeartbeats 8000000 in
set_option maxRecDepth 100000 in
theorem runq_any (s : ByteArray) (hs : s.size ≤ 140737488355000) (w : World) :
    Calls Tryd.prog 10 #[.string s] w fun e w' => ∃ v, e = .returned (.tuple #[v, .agg #[.int .i64 (uE s.data.toList : Nat), .int .i64 (uA s.data.toList : Nat)]]) ∧ w'.ownsRow w.heap.size 5 1 v (uL s.data.toList).length (cellsB (uL s.data.toList)) ∧ Below w.heap.size w w' := by
  have HL : Hid (s.data.toList.length = s.size) := len_list s
  have HR : Hid (∀ (j k : Nat) (wx : World), Calls Tryd.prog 19 #[.string (s.extract j k)] wx fun e w' => ∃ v, e = .returned (.tuple #[v, .bool (rowS ((s.data.toList.take k).drop j)), .bool (rowK ((s.data.toList.take k).drop j))]) ∧ w'.ownsRow wx.heap.size 5 1 v (rowT ((s.data.toList.take k).drop j)).length (cellsB (rowT ((s.data.toList.take k).drop j))) ∧ Below wx.heap.size wx w') := fun j k wx => by
    have h := rrow_any (s.extract j k) wx (by rw [ByteArray.size_extract]; omega)
    rw [ext_list] at h
    exact h
  have HG : Hid (∀ (j k : Nat) (wx : World), Calls Tryd.prog 20 #[.string (s.extract j k)] wx fun e w' => e = .returned (.bool (goesB ((s.data.toList.take k).drop j))) ∧ Below wx.heap.size wx w') := fun j k wx => by
    have h := goes_any (s.extract j k) wx (by rw [ByteArray.size_extract]; omega)
    rw [ext_list] at h
    exact h
  obtain ⟨E, hE⟩ : ∃ E, E = uE s.data.toList := ⟨_, rfl⟩
  obtain ⟨A, hA⟩ : ∃ A, A = uA s.data.toList := ⟨_, rfl⟩
  obtain ⟨D, hD⟩ : ∃ D, D = uL s.data.toList := ⟨_, rfl⟩
  rw [← hE, ← hA, ← hD]
  have HNO : Hid (∀ i, unqOk s.data.toList = false ∧ unqA s.data.toList = i → E = 42 ∧ A = i ∧ D = []) := fun i h => by rw [hE, hA, hD]; exact u_no h
  have HYES : Hid (∀ X, unqOk s.data.toList = true ∧ unqL s.data.toList = X → E = 0 ∧ A = 0 ∧ D = X) := fun X h => by rw [hE, hA, hD]; exact u_took h
  clear hE hA hD
  have HB0 : Hid (∀ o, Below w.heap.size w (w.alloc o)) := fun o => (Below.refl _ _).alloc (Nat.le_refl _) o
  go_enter Tryd.func10, Tryd.ntmps10
  go_wp2_with fail
  go_loopw [4, 5, 6] (fun v fr i wr => ∃ (k j : Nat) (X : List UInt8) (t : Qs), k ≤ s.size ∧ j ≤ k ∧ i = .int .i64 k ∧ fr = .int .i64 j ∧ X.length ≤ k ∧ Hid (Rq s.data.toList k j X t) ∧ Hid (wr.ownsRow w.heap.size 5 1 v X.length (cellsB X)) ∧ Hid (Below w.heap.size w wr) ∧ Hid (Lies wr w.heap.size #[.int .i64 0, .int .i64 0] 29)) (fun _ _ i _ => s.size - (intOf i).toNat)
  case atStart => exact ⟨0, 0, [], q0, by omega, by omega, rfl, rfl, by simp, Rq.start _, own_nil _ _, HB0.out _, Lies.new _ _ _⟩
  case round =>
    clear HB0
    obtain ⟨k, j, X, t, hk, hj, rfl, rfl, hxl, HQ, HO, HB, HLI⟩ := hrel
    by_cases hlt : k < s.size
    · have hll : k < s.data.toList.length := by rw [HL.out]; exact hlt
      by_cases hcr : t.k = 4 ∨ t.k = 5
      · obtain ⟨hjk, h13⟩ := HQ.out.cr.1 hcr
        obtain ⟨m, rfl⟩ : ∃ m, k = m + 1 := ⟨k - 1, by omega⟩
        have hm : m < s.size := by omega
        have h13' : (s[m]'hm).toNat = 13 := by
          obtain ⟨_, e⟩ := List.getElem?_eq_some_iff.1 h13
          exact congrArg UInt8.toNat e
        have hjI : (j : Int) < (m : Int) + 1 := by omega
        have hjm : (j : Int) ≤ (m : Int) := by omega
        by_cases h10 : s[m + 1].toNat = 10
        · have hlf := HQ.out.lf hcr hll (UInt8.toNat_inj.1 h10)
          have HRq : Hid (Rq s.data.toList (m + 1 + 1) (m + 1 + 1) (X ++ rowT ((s.data.toList.take m).drop j) ++ (if rowS ((s.data.toList.take m).drop j) = true then [] else [13, 10])) ⟨0, 0, 0, if t.k = 4 then t.o ++ [13, 10] else t.o⟩) := hlf.2
          have HC := HR.out j m wr
          have htl := rowT_le ((s.data.toList.take m).drop j)
          have hlen := HRq.out.len
          generalize rowT ((s.data.toList.take m).drop j) = T at HC HRq htl hlen
          generalize rowK ((s.data.toList.take m).drop j) = KK at HC
          have HC' : Hid _ := HC
          clear hlf HC h13 hcr
          cases hsoft : rowS ((s.data.toList.take m).drop j) with
          | true =>
            rw [hsoft] at HC' HRq hlen
            simp only [if_true, List.append_nil] at hlen
            have HRq2 : Hid (Rq s.data.toList (m + 1 + 1) (m + 1 + 1) (X ++ T) ⟨0, 0, 0, if t.k = 4 then t.o ++ [13, 10] else t.o⟩) := by
              have := HRq.out
              rw [if_pos rfl, List.append_nil] at this
              exact this
            clear hsoft HRq
            go_wp2_with fail
            refine Calls.mono HC'.out ?_
            rintro e w1 ⟨v1, rfl, ho1, hb1⟩
            have HO1 : Hid (w1.ownsRow w.heap.size 5 1 u4 X.length (cellsB X)) := own_below HO.out hb1
            have HL1 : Hid (Lies w1 w.heap.size #[.int .i64 0, .int .i64 0] 29) := HLI.out.below hb1 HLI.out.lt
            have HB1 : Hid (Below w.heap.size w w1) := HB.out.trans (hb1.mono HB.out.size)
            obtain ⟨a1, c1, rfl, hbt1, _, hn1, _, _⟩ := own_bts ho1
            have HBT : Hid (Bts a1 T w1) := hbt1
            have HN1 : Hid (a1 = none → c1 = 0) := hn1
            clear hbt1 hn1 ho1 hb1 HO HB HLI HC'
            go_wp2_with (at_builtin; refine wpList_append_keep rfl _ _ rfl w.heap.size _ _ _ rfl HO1.out _ T T.length c1 rfl rfl HBT.out HN1.out (by omega) HB1.out.size ?_; intro v3 w3 hown3 hgrow3)
            have HO3 : Hid (w3.ownsRow w.heap.size 5 1 v3 (X ++ T).length (cellsB (X ++ T))) := by
              show World.ownsRow _ _ _ _ _ _ _
              rw [List.length_append]
              exact hown3
            have hne : ∀ q, u4.ownBlock = some q → q ≠ w.heap.size := own_apart HO1.out HL1.out (by decide)
            have HL3 : Hid (Lies w3 w.heap.size #[.int .i64 0, .int .i64 0] 29) := (hgrow3.block _ HL1.out.lt (fun e => hne _ e.symm rfl)).trans HL1.out
            have HB3 : Hid (Below w.heap.size w w3) := HB1.out.grown hgrow3 HB1.out.size (fun q hq => (HO1.out.lt q hq).1)
            clear hown3 hgrow3 hne HO1 HL1 HB1 HBT
            go_wp2
            go_roundw
            case rel => exact ⟨m + 1 + 1, m + 1 + 1, X ++ T, _, by omega, by omega, by go_num, by go_num, hlen, HRq2, HO3, HB3, HL3⟩
            case measure => simp [intOf] <;> omega
          | false =>
            rw [hsoft] at HC' HRq hlen
            simp only [Bool.false_eq_true, if_false] at hlen
            have HRq2 : Hid (Rq s.data.toList (m + 1 + 1) (m + 1 + 1) (X ++ T ++ [13, 10]) ⟨0, 0, 0, if t.k = 4 then t.o ++ [13, 10] else t.o⟩) := by
              have := HRq.out
              rw [if_neg (by decide)] at this
              exact this
            clear hsoft HRq
            go_wp2_with fail
            refine Calls.mono HC'.out ?_
            rintro e w1 ⟨v1, rfl, ho1, hb1⟩
            have HO1 : Hid (w1.ownsRow w.heap.size 5 1 u4 X.length (cellsB X)) := own_below HO.out hb1
            have HL1 : Hid (Lies w1 w.heap.size #[.int .i64 0, .int .i64 0] 29) := HLI.out.below hb1 HLI.out.lt
            have HB1 : Hid (Below w.heap.size w w1) := HB.out.trans (hb1.mono HB.out.size)
            obtain ⟨a1, c1, rfl, hbt1, _, hn1, _, _⟩ := own_bts ho1
            have HBT : Hid (Bts a1 T w1) := hbt1
            have HN1 : Hid (a1 = none → c1 = 0) := hn1
            clear hbt1 hn1 ho1 hb1 HO HB HLI HC'
            go_wp2_with (first
              | (at_builtin; refine wpList_append_keep rfl _ _ rfl w.heap.size _ _ _ rfl HO1.out _ T T.length c1 rfl rfl HBT.out HN1.out (by omega) HB1.out.size ?_; intro v3 w3 hown3 hgrow3; have HO3 : Hid (w3.ownsRow w.heap.size 5 1 v3 (X ++ T).length (cellsB (X ++ T))) := (by show World.ownsRow _ _ _ _ _ _ _; rw [List.length_append]; exact hown3); have HL3 : Hid (Lies w3 w.heap.size #[.int .i64 0, .int .i64 0] 29) := (hgrow3.block _ HL1.out.lt (fun e => own_apart HO1.out HL1.out (by decide) _ e.symm rfl)).trans HL1.out; have HB3 : Hid (Below w.heap.size w w3) := HB1.out.grown hgrow3 HB1.out.size (fun q hq => (HO1.out.lt q hq).1); clear hown3 hgrow3)
              | (at_builtin; refine wpList_append_keep rfl _ _ rfl w.heap.size _ (X ++ T).length (X ++ T) rfl (HO3.out.alloc _) (some ⟨w3.heap.size, 0, none⟩) [13, 10] 2 2 rfl rfl (crlf_new w3) (fun e => by cases e) (by rw [List.length_append]; omega) (by have := HB3.out.size; simp; omega) ?_; intro v4 w4 hown4 hgrow4))
            have HO4 : Hid (w4.ownsRow w.heap.size 5 1 v4 (X ++ T ++ [13, 10]).length (cellsB (X ++ T ++ [13, 10]))) := by
              show World.ownsRow _ _ _ _ _ _ _
              have e : (X ++ T ++ [13, 10]).length = (X ++ T).length + 2 := List.length_append
              rw [e]
              exact hown4
            have HL4 : Hid (Lies w4 w.heap.size #[.int .i64 0, .int .i64 0] 29) := (hgrow4.block _ (HL3.out.alloc _).lt (fun e => own_apart HO3.out HL3.out (by decide) _ e.symm rfl)).trans (HL3.out.alloc _)
            have HB4 : Hid (Below w.heap.size w w4) := (HB3.out.alloc HB3.out.size _).grown hgrow4 (by have := HB3.out.size; simp; omega) (fun q hq => (HO3.out.lt q hq).1)
            clear hown4 hgrow4 HO1 HL1 HB1 HBT HO3 HL3 HB3
            go_wp2
            go_roundw
            case rel => exact ⟨m + 1 + 1, m + 1 + 1, X ++ T ++ [13, 10], _, by omega, by omega, by go_num, by go_num, hlen, HRq2, HO4, HB4, HL4⟩
            case measure => simp [intOf] <;> omega
        · obtain ⟨rfl, rfl, rfl⟩ := HNO.out _ (HQ.out.lfno hcr hll (fun e => h10 (congrArg UInt8.toNat e)))
          have n10 : ((s[m + 1].toNat : Int) == 10) = false := by simp; omega
          have hc0 : wr.cell? ⟨w.heap.size, 0, none⟩ = some (.int .i64 0) := HLI.out.cell 0
          have hc1 : wr.cell? ⟨w.heap.size, 1, none⟩ = some (.int .i64 0) := HLI.out.cell 1
          have hf0 := HLI.out.frozen 0
          have hf1 := HLI.out.frozen 1
          clear h13 hcr HR HG
          go_wp2
          refine bodyPost_ret (v := .tuple #[.slice none 0 0, .agg #[.int .i64 42, .int .i64 ((m : Int) + 1)]]) (by simp [results, Tryd.results10, go_sem, hc0, hc1]) rfl ⟨_, rfl, own_nil _ _, ?_⟩
          exact (HB.out.setCell (p := ⟨w.heap.size, 0, none⟩) (Nat.le_refl _) _).setCell (p := ⟨w.heap.size, 1, none⟩) (Nat.le_refl _) _
      · have hk3 : t.k ≤ 3 := HQ.out.le3 hcr
        have hon := HQ.out.on hk3 hll
        have hno : ¬ (j < k ∧ s.data.toList[k - 1]? = some 13) := fun h => hcr (HQ.out.cr.2 h)
        have HC := HG.out j (k + 1) wr
        have sub : ¬ (j : Int) < (k : Int) ∨ ∃ (m : Nat) (hm : m < s.size), k = m + 1 ∧ (j : Int) < (m : Int) + 1 ∧ (((s[m]'hm).toNat : Int) == 13) = false := by
          by_cases hjk : j < k
          · refine .inr ⟨k - 1, by omega, by omega, by omega, ?_⟩
            have : ¬ (s[k - 1]'(by omega)).toNat = 13 := fun e => hno ⟨hjk, by
              rw [List.getElem?_eq_getElem (by rw [HL.out]; omega)]
              exact congrArg some (UInt8.toNat_inj.1 e)⟩
            simp
            omega
          · exact .inl (by omega)
        have hjk1 : (j : Int) ≤ (k : Int) + 1 := by omega
        clear hno hk3 hcr
        cases hg : goesB ((s.data.toList.take (k + 1)).drop j) with
        | true =>
          obtain ⟨t', hq'⟩ := hon.1 hg
          have HRq : Hid (Rq s.data.toList (k + 1) j X t') := hq'
          rw [hg] at HC
          have HC' : Hid _ := HC
          clear hon hg HC hq'
          rcases sub with hnj | ⟨m, hm, rfl, hjm, h13⟩
          · skip
            go_wp2_with (go_at_call 20; refine Calls.mono HC'.out ?_; rintro e w1 ⟨rfl, hb1⟩; have HO1 : Hid (w1.ownsRow w.heap.size 5 1 u4 X.length (cellsB X)) := own_below HO.out hb1; have HL1 : Hid (Lies w1 w.heap.size #[.int .i64 0, .int .i64 0] 29) := HLI.out.below hb1 HLI.out.lt; have HB1 : Hid (Below w.heap.size w w1) := HB.out.trans (hb1.mono HB.out.size); clear hb1)
            go_roundw
            case rel => exact ⟨_, j, X, t', by omega, by omega, by go_num, rfl, by omega, HRq, HO1, HB1, HL1⟩
            case measure => simp [intOf] <;> omega
          · skip
            go_wp2_with (go_at_call 20; refine Calls.mono HC'.out ?_; rintro e w1 ⟨rfl, hb1⟩; have HO1 : Hid (w1.ownsRow w.heap.size 5 1 u4 X.length (cellsB X)) := own_below HO.out hb1; have HL1 : Hid (Lies w1 w.heap.size #[.int .i64 0, .int .i64 0] 29) := HLI.out.below hb1 HLI.out.lt; have HB1 : Hid (Below w.heap.size w w1) := HB.out.trans (hb1.mono HB.out.size); clear hb1)
            go_roundw
            case rel => exact ⟨_, j, X, t', by omega, by omega, by go_num, rfl, by omega, HRq, HO1, HB1, HL1⟩
            case measure => simp [intOf] <;> omega
        | false =>
          obtain ⟨rfl, rfl, rfl⟩ := HNO.out _ (hon.2 hg)
          rw [hg] at HC
          have HC' : Hid _ := HC
          clear hon hg HC
          rcases sub with hnj | ⟨m, hm, rfl, hjm, h13⟩
          · skip
            go_wp2_with (go_at_call 20; refine Calls.mono HC'.out ?_; rintro e w1 ⟨rfl, hb1⟩; have HL1 : Hid (Lies w1 w.heap.size #[.int .i64 0, .int .i64 0] 29) := HLI.out.below hb1 HLI.out.lt; have HB1 : Hid (Below w.heap.size w w1) := HB.out.trans (hb1.mono HB.out.size); have hc0 : w1.cell? ⟨w.heap.size, 0, none⟩ = some (.int .i64 0) := HL1.out.cell 0; have hc1 : w1.cell? ⟨w.heap.size, 1, none⟩ = some (.int .i64 0) := HL1.out.cell 1; have hf0 := HL1.out.frozen 0; have hf1 := HL1.out.frozen 1; clear hb1)
            refine bodyPost_ret (v := .tuple #[.slice none 0 0, .agg #[.int .i64 42, .int .i64 ((A : Nat))]]) (by simp [results, Tryd.results10, go_sem, hc0, hc1]) rfl ⟨_, rfl, own_nil _ _, ?_⟩
            exact (HB1.out.setCell (p := ⟨w.heap.size, 0, none⟩) (Nat.le_refl _) _).setCell (p := ⟨w.heap.size, 1, none⟩) (Nat.le_refl _) _
          · skip
            go_wp2_with (go_at_call 20; refine Calls.mono HC'.out ?_; rintro e w1 ⟨rfl, hb1⟩; have HL1 : Hid (Lies w1 w.heap.size #[.int .i64 0, .int .i64 0] 29) := HLI.out.below hb1 HLI.out.lt; have HB1 : Hid (Below w.heap.size w w1) := HB.out.trans (hb1.mono HB.out.size); have hc0 : w1.cell? ⟨w.heap.size, 0, none⟩ = some (.int .i64 0) := HL1.out.cell 0; have hc1 : w1.cell? ⟨w.heap.size, 1, none⟩ = some (.int .i64 0) := HL1.out.cell 1; have hf0 := HL1.out.frozen 0; have hf1 := HL1.out.frozen 1; clear hb1)
            refine bodyPost_ret (v := .tuple #[.slice none 0 0, .agg #[.int .i64 42, .int .i64 ((m : Int) + 1)]]) (by simp [results, Tryd.results10, go_sem, hc0, hc1]) rfl ⟨_, rfl, own_nil _ _, ?_⟩
            exact (HB1.out.setCell (p := ⟨w.heap.size, 0, none⟩) (Nat.le_refl _) _).setCell (p := ⟨w.heap.size, 1, none⟩) (Nat.le_refl _) _
    · obtain rfl : k = s.size := by omega
      have hfin := HQ.out.fin HL.out.symm
      have HC := HR.out j s.size wr
      have htk : s.data.toList.take s.size = s.data.toList := List.take_of_length_le (by rw [HL.out]; exact Nat.le_refl _)
      rw [htk] at HC
      rw [HL.out] at hfin
      have htl := rowT_le (s.data.toList.drop j)
      have hjs : (j : Int) ≤ (s.size : Int) := by omega
      generalize rowT (s.data.toList.drop j) = T at HC hfin htl
      generalize rowS (s.data.toList.drop j) = S at HC hfin
      generalize rowK (s.data.toList.drop j) = KK at HC hfin
      have HC' : Hid _ := HC
      clear HC htk
      by_cases hbad : S = true ∨ KK = false
      · obtain ⟨rfl, rfl, rfl⟩ := HNO.out _ (hfin.2 hbad)
        clear hfin
        cases S
        · obtain rfl : KK = false := by simpa using hbad
          clear hbad
          go_wp2_with fail
          refine Calls.mono HC'.out ?_
          rintro e w1 ⟨v1, rfl, ho1, hb1⟩
          have HL1 : Hid (Lies w1 w.heap.size #[.int .i64 0, .int .i64 0] 29) := HLI.out.below hb1 HLI.out.lt
          have HB1 : Hid (Below w.heap.size w w1) := HB.out.trans (hb1.mono HB.out.size)
          have hc0 : w1.cell? ⟨w.heap.size, 0, none⟩ = some (.int .i64 0) := HL1.out.cell 0
          have hc1 : w1.cell? ⟨w.heap.size, 1, none⟩ = some (.int .i64 0) := HL1.out.cell 1
          have hf0 := HL1.out.frozen 0
          have hf1 := HL1.out.frozen 1
          clear hb1 ho1
          go_wp2
          refine bodyPost_ret (v := .tuple #[.slice none 0 0, .agg #[.int .i64 42, .int .i64 (s.size : Nat)]]) (by simp [results, Tryd.results10, go_sem, hc0, hc1]) rfl ⟨_, rfl, own_nil _ _, ?_⟩
          exact (HB1.out.setCell (p := ⟨w.heap.size, 0, none⟩) (Nat.le_refl _) _).setCell (p := ⟨w.heap.size, 1, none⟩) (Nat.le_refl _) _
        · clear hbad
          go_wp2_with fail
          refine Calls.mono HC'.out ?_
          rintro e w1 ⟨v1, rfl, ho1, hb1⟩
          have HL1 : Hid (Lies w1 w.heap.size #[.int .i64 0, .int .i64 0] 29) := HLI.out.below hb1 HLI.out.lt
          have HB1 : Hid (Below w.heap.size w w1) := HB.out.trans (hb1.mono HB.out.size)
          have hc0 : w1.cell? ⟨w.heap.size, 0, none⟩ = some (.int .i64 0) := HL1.out.cell 0
          have hc1 : w1.cell? ⟨w.heap.size, 1, none⟩ = some (.int .i64 0) := HL1.out.cell 1
          have hf0 := HL1.out.frozen 0
          have hf1 := HL1.out.frozen 1
          clear hb1 ho1
          go_wp2
          refine bodyPost_ret (v := .tuple #[.slice none 0 0, .agg #[.int .i64 42, .int .i64 (s.size : Nat)]]) (by simp [results, Tryd.results10, go_sem, hc0, hc1]) rfl ⟨_, rfl, own_nil _ _, ?_⟩
          exact (HB1.out.setCell (p := ⟨w.heap.size, 0, none⟩) (Nat.le_refl _) _).setCell (p := ⟨w.heap.size, 1, none⟩) (Nat.le_refl _) _
      · obtain ⟨rfl, rfl⟩ : S = false ∧ KK = true := by cases S <;> cases KK <;> simp at hbad ⊢
        obtain ⟨rfl, rfl, rfl⟩ := HYES.out _ (hfin.1 ⟨rfl, rfl⟩)
        clear hfin hbad
        go_wp2_with fail
        refine Calls.mono HC'.out ?_
        rintro e w1 ⟨v1, rfl, ho1, hb1⟩
        have HO1 : Hid (w1.ownsRow w.heap.size 5 1 u4 X.length (cellsB X)) := own_below HO.out hb1
        have HL1 : Hid (Lies w1 w.heap.size #[.int .i64 0, .int .i64 0] 29) := HLI.out.below hb1 HLI.out.lt
        have HB1 : Hid (Below w.heap.size w w1) := HB.out.trans (hb1.mono HB.out.size)
        obtain ⟨a1, c1, rfl, hbt1, _, hn1, _, _⟩ := own_bts ho1
        have HBT : Hid (Bts a1 T w1) := hbt1
        have HN1 : Hid (a1 = none → c1 = 0) := hn1
        clear hbt1 hn1 ho1 hb1 HO HB HLI HC'
        go_wp2_with (at_builtin; refine wpList_append_keep rfl _ _ rfl w.heap.size _ _ _ rfl HO1.out _ T T.length c1 rfl rfl HBT.out HN1.out (by omega) HB1.out.size ?_; intro v3 w3 hown3 hgrow3; have HO3 : Hid (w3.ownsRow w.heap.size 5 1 v3 (X ++ T).length (cellsB (X ++ T))) := (by show World.ownsRow _ _ _ _ _ _ _; rw [List.length_append]; exact hown3); have HL3 : Hid (Lies w3 w.heap.size #[.int .i64 0, .int .i64 0] 29) := (hgrow3.block _ HL1.out.lt (fun e => own_apart HO1.out HL1.out (by decide) _ e.symm rfl)).trans HL1.out; have HB3 : Hid (Below w.heap.size w w3) := HB1.out.grown hgrow3 HB1.out.size (fun q hq => (HO1.out.lt q hq).1); have hc0 : w3.cell? ⟨w.heap.size, 0, none⟩ = some (.int .i64 0) := HL3.out.cell 0; have hc1 : w3.cell? ⟨w.heap.size, 1, none⟩ = some (.int .i64 0) := HL3.out.cell 1; have hf0 := HL3.out.frozen 0; have hf1 := HL3.out.frozen 1; clear hown3 hgrow3)
        have hne : ∀ q, v3.ownBlock = some q → q ≠ w.heap.size := own_apart HO3.out HL3.out (by decide)
        refine bodyPost_ret (v := .tuple #[v3, .agg #[.int .i64 0, .int .i64 0]]) (by simp [results, Tryd.results10, go_sem, hc0, hc1]) rfl ⟨_, rfl, ?_, ?_⟩
        · refine own_keep HO3.out (fun q hq => ?_)
          rw [Below.heap_setCell _ _ _ _ (hne q hq), Below.heap_setCell _ _ _ _ (hne q hq)]
        · exact (HB3.out.setCell (p := ⟨w.heap.size, 0, none⟩) (Nat.le_refl _) _).setCell (p := ⟨w.heap.size, 1, none⟩) (Nat.le_refl _) _
end Go.Proofs.YtenfopabdegmhaaDoor
