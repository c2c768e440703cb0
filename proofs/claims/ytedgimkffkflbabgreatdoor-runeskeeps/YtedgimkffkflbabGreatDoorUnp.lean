/-
  The program's Unpuny.
-/
import Derived.Test.YtedgimkffkflbabGreatDoorRdst
import Derived.Test.YtedgimkffkflbabGreatDoorLai
import Derived.Test.YtedgimkffkflbabGreatDoorSpan4
import Derived.Test.YtedgimkffkflbabGreatDoorRn
namespace Go.Proofs.YtedgimkffkflbabGreatDoor
open Go.RowKit

theorem asc_is (c : UInt8) : isB 13 (c.toNat : Int) = decide (c.toNat < 128) := by
  have h : ∀ b : Fin 256, isB 13 (b.val : Int) = decide (b.val < 128) := by decide +kernel
  exact h ⟨c.toNat, c.toNat_lt⟩
theorem hiN_eq (l : List UInt8) : badN 13 l = hiN l := by
  induction l with
  | nil => rfl
  | cons b t ih =>
    unfold badN hiN
    rw [asc_is]
    by_cases h : b.toNat < 128
    · rw [if_pos h, ← ih]
      simp [h]
    · rw [if_neg h]
      simp [h]
theorem hiN_all {l : List UInt8} (h : hiN l = l.length) : ∀ k (hk : k < l.length), l[k].toNat < 128 := by
  induction l with
  | nil => intro k hk; simp at hk
  | cons b t ih =>
    simp only [hiN, List.length_cons] at h
    split at h
    · rename_i hb
      intro k hk
      cases k with
      | zero => exact hb
      | succ k => exact ih (by omega) k (by simpa using hk)
    · omega
/-- Wide runes and their places as cells. -/
def cellsP (ps : List (Int × Nat)) : List Value := ps.flatMap fun x => [Value.int .i32 x.1, Value.int .i64 (x.2 : Int)]
theorem cellsP_length (ps : List (Int × Nat)) : (cellsP ps).length = ps.length * 2 := by
  induction ps with
  | nil => rfl
  | cons x t ih =>
    have : cellsP (x :: t) = [Value.int .i32 x.1, Value.int .i64 (x.2 : Int)] ++ cellsP t := rfl
    rw [this, List.length_append, ih]
    simp
    omega
theorem cellsP_append (a b : List (Int × Nat)) : cellsP (a ++ b) = cellsP a ++ cellsP b := by simp [cellsP]
theorem cellsP_at (ps : List (Int × Nat)) : ∀ j (h : j < ps.length), (cellsP ps)[j * 2]? = some (.int .i32 ps[j].1) ∧ (cellsP ps)[j * 2 + 1]? = some (.int .i64 (ps[j].2 : Int)) := by
  induction ps with
  | nil => intro j h; simp at h
  | cons x t ih =>
    intro j h
    have e : cellsP (x :: t) = Value.int .i32 x.1 :: Value.int .i64 (x.2 : Int) :: cellsP t := rfl
    rw [e]
    cases j with
    | zero => exact ⟨rfl, rfl⟩
    | succ j =>
      have := ih j (by simpa using h)
      rw [show (j + 1) * 2 = j * 2 + 1 + 1 from by omega]
      simp only [List.getElem?_cons_succ, List.getElem_cons_succ]
      exact this
theorem infoP : (Tryz.prog.info? 65).map (fun i => (i.zero, i.size, i.bytes)) = some (some (.agg #[.int .i32 0, .int .i64 0]), 2, 16) := by kernel_rfl
theorem own_ps {w : World} {base n : Nat} {v : Value} {ps : List (Int × Nat)} (h : w.ownsRow base 65 2 v n (cellsP ps)) : ∃ a cap, v = .slice a n cap ∧ PsAt a ps w ∧ ps.length = n := by
  obtain ⟨h1, h2⟩ := id h
  have hl : ps.length = n := by rw [cellsP_length] at h1; omega
  rcases h2 with ⟨rfl, h0⟩ | ⟨g, cap, cur, rfl, hb, hg, hcap, _⟩
  · exact ⟨none, 0, by rw [h0], .inl (List.eq_nil_of_length_eq_zero (hl.trans h0)), hl⟩
  · refine ⟨_, cap, rfl, .inr ⟨g, rfl, (Array.getElem?_eq_some_iff.1 hg).1, fun j hj => ?_⟩, hl⟩
    have e := cellsP_at ps j hj
    exact ⟨(h.cellAt (j * 2) (by omega)).trans e.1, (h.cellAt (j * 2 + 1) (by omega)).trans e.2⟩
theorem own_nilP (w : World) (B : Nat) : w.ownsRow B 65 2 (.slice none 0 0) 0 (cellsP []) := ⟨rfl, .inl ⟨rfl, rfl⟩⟩
theorem wpList_append_put {ops : Array Oper} {rest : List Oper} {o : Oper} {a : Act} {w : World} {Q : Exit → Act → World → Prop} (hgd : o.guard = none) (s x : Operand)
    (ho : o.op = .call { callee := .builtin .append, args := #[s, x], argTypes := #[56, 56] }) (base : Nat) (v : Value) (n : Nat) (xs : List (Int × Nat)) (hs : a.eval s = v) (hown : w.ownsRow base 65 2 v n (cellsP xs))
    (w0 : World) (r : Int) (p : Nat) (hw : w = w0.alloc (.cells #[.int .i32 r, .int .i64 (p : Int)] 65)) (c : Nat) (hx : a.eval x = .slice (some ⟨w0.heap.size, 0, none⟩) 1 c) (hbytes : (n + 1) * 16 ≤ 140737488355328) (hbase : base ≤ w0.heap.size)
    (h : ∀ v' w', w'.ownsRow base 65 2 v' (n + 1) (cellsP (xs ++ [(r, p)])) → w0.grownBy w' v.ownBlock → wpList Tryz.prog ops Q rest (a.put o.dst v') w') : wpList Tryz.prog ops Q (o :: rest) a w := by
  obtain ⟨i0, hi, hz0, hz1, hz2⟩ := info_parts infoP
  subst hw
  refine wpList_append_own _ hgd s x 56 ho base 65 i0 (.agg #[.int .i32 0, .int .i64 0]) 2 16 Tryz.underlying56 hi hz0 hz1 hz2 rfl (by decide) v n _ hs hown ⟨w0.heap.size, 0, none⟩ 1 c (cellsP [(r, p)]) hx rfl ?_ ?_ (by unfold maxLen; omega) hbytes (by simp; omega) ?_
  · intro j u hj
    have hl := Lies.new w0 #[.int .i32 r, .int .i64 (p : Int)] 65
    match j, hj with
    | 0, hj => exact (hl.cell 0).trans hj
    | 1, hj => exact (hl.cell 1).trans hj
  · intro u hu
    simp [cellsP] at hu
    rcases hu with rfl | rfl <;> rfl
  · intro v' w' hown' hgrow _
    exact h v' w' (by rw [cellsP_append]; exact hown') (grown_on (World.grownBy_alloc w0 _ v.ownBlock) hgrow (fun _ h => .inl h.symm))
theorem extract_all0 (s : ByteArray) : s.extract 0 0 = ⟨#[]⟩ := by
  apply ByteArray.ext
  simp

theorem rdS_err {bias : Nat} : ∀ {l : List UInt8} {i at' sum wt c q : Nat}, rdS bias l i at' sum wt = .inl (c, q) → c = 51 ∨ c = 52
  | [], _, _, _, _, _, _, h => by
    simp only [rdS] at h
    injection h with h
    injection h with h
    exact .inl h.symm
  | b :: t, i, at', sum, wt, c, q, h => by
    unfold rdS at h
    split at h
    · injection h with h
      injection h with h
      exact .inl h.symm
    · split at h
      · injection h with h
        injection h with h
        exact .inr h.symm
      · split at h
        · cases h
        · exact rdS_err h
/-- What Unpuny tells, as a value. -/
def unpV (l : List UInt8) : Array Value := #[.int .i64 ((unpE l).1 : Nat), .int .i64 ((unpE l).2 : Nat)]

set_option maxHeartbeats 8000000 in
set_option maxRecDepth 100000 in
theorem unp_any (s : ByteArray) (w : World) (ht : Table w) (hg0 : 2 < w.heap.size) (hs : s.size ≤ 268435456) :
    Calls Tryz.prog 10 #[.string s] w fun e w' => (∃ v, e = .returned (.tuple #[v, .agg (unpV s.data.toList)]) ∧ w'.ownsRow w.heap.size 21 1 v (unpT s.data.toList).length (cellsN .i32 (unpT s.data.toList))) ∧ Below w.heap.size w w' := by
  have HT0 : Hid (Table w) := ht
  have hll := len_list s
  have hla := lib_any s (w.alloc (.cells #[.int .i64 0, .int .i64 0] 30)) (by omega)
  have hlt := lastI_lt s.data.toList s.size
  have HS0 : Hid (Lies (w.alloc (.cells #[.int .i64 0, .int .i64 0] 30)) w.heap.size #[.int .i64 0, .int .i64 0] 30) := Lies.new w _ _
  have HB0 : Hid (Below w.heap.size w (w.alloc (.cells #[.int .i64 0, .int .i64 0] 30))) := (Below.refl _ _).alloc (Nat.le_refl _) _
  have HT : Hid (Table (w.alloc (.cells #[.int .i64 0, .int .i64 0] 30))) := fun c hc => (HB0.out.cell (p := ⟨2, c, none⟩) hg0).trans (HT0.out c hc)
  have hws : w.heap.size < (w.alloc (.cells #[.int .i64 0, .int .i64 0] 30)).heap.size := by simp
  have HN : Hid (mrkN s.data.toList = if 0 < lastI s.data.toList s.size then (lastI s.data.toList s.size).toNat else 0) := by show _ = _; unfold mrkN; rw [hll]
  have HM : Hid (mrkS s.data.toList = if 0 < lastI s.data.toList s.size then (lastI s.data.toList s.size).toNat + 1 else 0) := by show _ = _; unfold mrkS; rw [hll]
  have HUT : Hid (unpT s.data.toList = if hiN (s.data.toList.take (mrkN s.data.toList)) < mrkN s.data.toList then [] else match unpD s.data.toList with
    | .inl _ => []
    | .inr ps => insAll (lowR (s.data.toList.take (mrkN s.data.toList))) ps) := rfl
  have HUE : Hid (unpE s.data.toList = if hiN (s.data.toList.take (mrkN s.data.toList)) < mrkN s.data.toList then (51, hiN (s.data.toList.take (mrkN s.data.toList))) else match unpD s.data.toList with
    | .inl e => e
    | .inr _ => (0, 0)) := rfl
  have HUV : Hid (unpV s.data.toList = #[.int .i64 ((unpE s.data.toList).1 : Nat), .int .i64 ((unpE s.data.toList).2 : Nat)]) := rfl
  have HUD : Hid (unpD s.data.toList = unL s.data.toList s.data.toList.length (mrkS s.data.toList) 128 0 (mrkN s.data.toList) 72 true) := rfl
  clear ht
  generalize hL0 : lastI s.data.toList s.size = L0 at *
  clear hL0
  go_enter Tryz.func10, Tryz.ntmps10
  go_wp2_with fail
  generalize w.alloc (.cells #[.int .i64 0, .int .i64 0] 30) = w1 at *
  refine hla.mono ?_
  rintro e w1 ⟨rfl, rfl⟩
  clear hla
  by_cases hpos : 0 < L0
  · rw [if_pos hpos] at HN HM
    obtain ⟨P0, rfl⟩ := Int.eq_ofNat_of_zero_le (show 0 ≤ L0 by omega)
    simp only [Int.toNat_natCast] at HN HM
    obtain ⟨N, hN⟩ : ∃ N, mrkN s.data.toList = N := ⟨_, rfl⟩
    obtain ⟨S, hS⟩ : ∃ S, mrkS s.data.toList = S := ⟨_, rfl⟩
    rw [hN] at HN HUT HUE HUD
    rw [hS] at HM HUD
    have hNP := HN.out
    have hSP := HM.out
    subst hNP
    obtain ⟨A, hA⟩ : ∃ A, s.extract 0 N = A := ⟨_, rfl⟩
    have hAN : A.size = N := by rw [← hA, ByteArray.size_extract]; omega
    have HA : Hid (A = s.extract 0 N) := hA.symm
    have hNs : N ≤ s.size := by omega
    have hSs : S ≤ s.size := by omega
    have hS1 : (N : Int) + 1 = (S : Int) := by omega
    clear HN HM hN hS hSP
    have hAl : A.data.toList = s.data.toList.take N := by rw [HA.out, ext_list]; simp
    have hbd := bad_anyT 13 A w1 HT.out (by unfold maxLen; omega)
    rw [hAl, hiN_eq] at hbd
    have hhi := hiN_le (s.data.toList.take N)
    rw [List.length_take, hll] at hhi
    go_wp2_with fail
    refine hbd.mono ?_
    rintro e w2 ⟨rfl, rfl⟩
    clear hbd
    by_cases hbad : hiN (s.data.toList.take N) < N
    · have HZT : Hid (unpT s.data.toList = []) := by show _ = _; rw [HUT.out, if_pos hbad]
      have HZV : Hid (unpV s.data.toList = #[.int .i64 51, .int .i64 (hiN (s.data.toList.take N) : Nat)]) := by show _ = _; rw [HUV.out, HUE.out, if_pos hbad]; rfl
      have c0 := HS0.out.cell 0
      have c1 := HS0.out.cell 1
      have f0 := HS0.out.frozen 0
      have f1 := HS0.out.frozen 1
      simp at c0 c1
      have hbad' : ((hiN (s.data.toList.take N) : Nat) : Int) < (N : Int) := by omega
      generalize hiN (s.data.toList.take N) = HI at *
      go_wp2
      (try simp only [Exit.inBlock, Exit.then])
      refine bodyPost_ret (v := .tuple #[.slice none 0 0, .agg #[.int .i64 51, .int .i64 (HI : Nat)]]) (by simp [results, Tryz.results10, go_sem, c0, c1]) rfl ⟨⟨.slice none 0 0, by rw [HZV.out], ?_⟩, (HB0.out.setCell (p := ⟨w.heap.size, 0, none⟩) (Nat.le_refl _) _).setCell (p := ⟨w.heap.size, 1, none⟩) (Nat.le_refl _) _⟩
      rw [HZT.out]
      exact own_nilN _ _ _ _
    · have HZT : Hid (unpT s.data.toList = match unpD s.data.toList with
        | .inl _ => []
        | .inr ps => insAll (lowR (s.data.toList.take N)) ps) := by show _ = _; rw [HUT.out, if_neg hbad]
      have HZE : Hid (unpE s.data.toList = match unpD s.data.toList with
        | .inl e => e
        | .inr _ => (0, 0)) := by show _ = _; rw [HUE.out, if_neg hbad]
      have HASC : Hid (∀ k (h : k < A.size), A[k].toNat < 128) := fun k h => by
        have := hiN_all (l := s.data.toList.take N) (by rw [List.length_take, hll]; omega) k (by rw [List.length_take, hll]; omega)
        have e : A[k] = (s.data.toList.take N)[k]'(by rw [List.length_take, hll]; omega) := by
          rw [← at_list A k h]
          simp only [hAl]
        rw [e]
        exact this
      have hbad' : ¬ ((hiN (s.data.toList.take N) : Nat) : Int) < (N : Int) := by omega
      clear HUT HUE hhi
      generalize hiN (s.data.toList.take N) = HI at *
      have hct := cnt_any N w2
      go_wp2_with fail
      refine hct.mono ?_
      rintro e w3 ⟨rfl, b3⟩
      have HS3 : Hid (Lies w3 w.heap.size #[.int .i64 0, .int .i64 0] 30) := HS0.out.below b3 HS0.out.lt
      have HB3 : Hid (Below w.heap.size w w3) := HB0.out.trans (b3.mono HB0.out.size)
      have hs3 : w.heap.size < w3.heap.size := Nat.lt_of_lt_of_le hws b3.size
      clear b3 hct HS0 HB0 HT hbad hbad'
      go_wp2_with fail
      have HC4 : Hid (CtAt (w3.alloc (.cells #[.int .i32 128, .int .i64 0, .int .i64 N, .int .i64 72, .bool false] 58)) w3.heap.size 128 ((0 : Nat) : Int) ((N : Nat) : Int) ((72 : Nat) : Int) false) := Lies.new w3 _ _
      have HS4 : Hid (Lies (w3.alloc (.cells #[.int .i32 128, .int .i64 0, .int .i64 N, .int .i64 72, .bool false] 58)) w.heap.size #[.int .i64 0, .int .i64 0] 30) := HS3.out.alloc _
      have HB4 : Hid (Below w.heap.size w (w3.alloc (.cells #[.int .i32 128, .int .i64 0, .int .i64 N, .int .i64 72, .bool false] 58))) := HB3.out.alloc HB3.out.size _
      have HP4 : Hid (unpD s.data.toList = match unL s.data.toList s.data.toList.length S 128 0 N 72 (!false) with
        | .inl e => .inl e
        | .inr ps => .inr ([] ++ ps)) := by
        show _ = _
        rw [HUD.out, Bool.not_false]
        cases unL s.data.toList s.data.toList.length S 128 0 N 72 true <;> rfl
      generalize w3.alloc (.cells #[.int .i32 128, .int .i64 0, .int .i64 N, .int .i64 72, .bool false] 58) = w4 at HC4 HS4 HB4 ⊢
      go_loopw [5, 8] (fun av v wr => ∃ (fuel at' : Nat) (n : Int) (i h bias : Nat) (gone : Bool) (acc : List (Int × Nat)), av = .int .i64 at' ∧ at' ≤ s.size ∧ s.size ≤ at' + fuel ∧ bias ≤ 4294967330 ∧ h = N + acc.length ∧ acc.length ≤ at' ∧ i ≤ h ∧ 128 ≤ n ∧ n ≤ 1114111 ∧ Hid (wr.ownsRow w3.heap.size 65 2 v acc.length (cellsP acc)) ∧ Hid (CtAt wr w3.heap.size n i h bias gone) ∧ Hid (Lies wr w.heap.size #[.int .i64 0, .int .i64 0] 30) ∧ Hid (Below w.heap.size w wr) ∧ Hid (unpD s.data.toList = match unL s.data.toList fuel at' n i h bias (!gone) with
        | .inl e => .inl e
        | .inr ps => .inr (acc ++ ps))) (fun av _ _ => s.size - (intOf av).toNat)
      case atStart => exact ⟨s.data.toList.length, S, 128, 0, N, 72, false, [], rfl, hSs, by omega, by omega, by simp, by simp, by omega, by omega, by omega, own_nilP _ _, HC4, HS4, HB4, HP4⟩
      case round =>
        obtain ⟨fuel, at', n, i, h, bias, gone, acc, rfl, hat, hfu, hbi, hh, hacc, hih, hn0, hn1, HO, HC, HS, HB, HP⟩ := hrel
        have hCs := Lies.lt HC.out
        by_cases hlt : at' < s.size
        · obtain ⟨fuel, rfl⟩ : ∃ f, fuel = f + 1 := ⟨fuel - 1, by omega⟩
          have HTr : Table wr := fun c hc => (HB.out.cell (p := ⟨2, c, none⟩) hg0).trans (HT0.out c hc)
          have hrd := rds_any s at' bias wr HTr (by have := HB.out.size; omega) (by omega) hat (by omega)
          have HP2 := HP.out
          unfold unL at HP2
          rw [if_neg (by rw [hll]; omega)] at HP2
          have c3 : wr.cell? ⟨w3.heap.size, 3, none⟩ = some (.int .i64 bias) := Lies.cell HC.out 3
          have hlt' : (at' : Int) < (s.size : Int) := by omega
          clear HTr HP
          cases hR : rdS bias (s.data.toList.drop at') 0 at' 0 1 with
          | inl e =>
            obtain ⟨c, q⟩ := e
            rw [hR] at HP2 hrd
            have HP3 : Hid (unpD s.data.toList = .inl (c, q)) := HP2
            have HZT2 : Hid (unpT s.data.toList = []) := by show _ = _; rw [HZT.out, HP3.out]
            have HZV2 : Hid (unpV s.data.toList = #[.int .i64 (c : Nat), .int .i64 (q : Nat)]) := by show _ = _; rw [HUV.out, HZE.out, HP3.out]
            have hcne : (((c : Nat) : Int) != 0) = true := by
              have : c = 51 ∨ c = 52 := rdS_err hR
              rcases this with rfl | rfl <;> rfl
            unfold rdV at hrd
            simp only at hrd
            clear HP2 hR
            go_wp2_with fail
            refine hrd.mono ?_
            rintro e w5 ⟨rfl, b5⟩
            have HS5 : Hid (Lies w5 w.heap.size #[.int .i64 0, .int .i64 0] 30) := HS.out.below b5 HS.out.lt
            have HB5 : Hid (Below w.heap.size w w5) := HB.out.trans (b5.mono HB.out.size)
            have hs5 : w.heap.size < w5.heap.size := HS5.out.lt
            clear b5 hrd
            go_wp2_with fail
            have z0 := (HS5.out.alloc (.cells #[.int .i64 (c : Nat), .int .i64 (q : Nat)] 30)).cell 0
            have z1 := (HS5.out.alloc (.cells #[.int .i64 (c : Nat), .int .i64 (q : Nat)] 30)).cell 1
            have y0 := (HS5.out.alloc (.cells #[.int .i64 (c : Nat), .int .i64 (q : Nat)] 30)).frozen 0
            have y1 := (HS5.out.alloc (.cells #[.int .i64 (c : Nat), .int .i64 (q : Nat)] 30)).frozen 1
            have x0 := (Lies.new w5 #[.int .i64 (c : Nat), .int .i64 (q : Nat)] 30).cell 0
            have x1 := (Lies.new w5 #[.int .i64 (c : Nat), .int .i64 (q : Nat)] 30).cell 1
            simp only [List.getElem?_toArray, List.getElem?_cons_zero, List.getElem?_cons_succ] at z0 z1 x0 x1
            have HBZ : Hid (Below w.heap.size w (w5.alloc (.cells #[.int .i64 (c : Nat), .int .i64 (q : Nat)] 30))) := HB5.out.alloc HB5.out.size _
            generalize w5.alloc (.cells #[.int .i64 (c : Nat), .int .i64 (q : Nat)] 30) = w6 at z0 z1 y0 y1 x0 x1 HBZ ⊢
            generalize w5.heap.size = g5 at *
            go_region
            all_goals go_wp2
            all_goals (try simp only [Exit.inBlock, Exit.then])
            all_goals refine bodyPost_ret (v := .tuple #[.slice none 0 0, .agg #[.int .i64 (c : Nat), .int .i64 (q : Nat)]]) (by simp [results, Tryz.results10, go_sem, z0, z1]) rfl ⟨⟨.slice none 0 0, by rw [HZV2.out], ?_⟩, ?_⟩
            all_goals first
              | (rw [HZT2.out]; exact own_nilN _ _ _ _)
              | exact ((HBZ.out.setCell (p := ⟨w.heap.size, 0, none⟩) (Nat.le_refl _) _).setCell (p := ⟨w.heap.size, 1, none⟩) (Nat.le_refl _) _).drew
              | exact ((HBZ.out.drew.setCell (p := ⟨w.heap.size, 0, none⟩) (Nat.le_refl _) _).setCell (p := ⟨w.heap.size, 1, none⟩) (Nat.le_refl _) _)
          | inr sb =>
            obtain ⟨st, bh⟩ := sb
            rw [hR] at HP2 hrd
            simp only at HP2
            obtain ⟨hb1, hb2, hst⟩ := rdS_some hR
            rw [List.length_drop, hll] at hb2
            unfold rdV at hrd
            simp only at hrd
            clear hR
            go_wp2_with fail
            refine hrd.mono ?_
            rintro e w5 ⟨rfl, b5⟩
            have HS5 : Hid (Lies (w5.alloc (.cells #[.int .i64 0, .int .i64 0] 30)) w.heap.size #[.int .i64 0, .int .i64 0] 30) := (HS.out.below b5 HS.out.lt).alloc _
            have HB5 : Hid (Below w.heap.size w (w5.alloc (.cells #[.int .i64 0, .int .i64 0] 30))) := (HB.out.trans (b5.mono HB.out.size)).alloc (Nat.le_trans HB.out.size b5.size) _
            have HC5 : Hid (CtAt (w5.alloc (.cells #[.int .i64 0, .int .i64 0] 30)) w3.heap.size n i h bias gone) := (Lies.below HC.out b5 hCs).alloc _
            have HO5 : Hid ((w5.alloc (.cells #[.int .i64 0, .int .i64 0] 30)).ownsRow w3.heap.size 65 2 u8 acc.length (cellsP acc)) := (ownN_below HO.out b5).alloc _
            have hcp := cput_any w3.heap.size n i h st bias gone (w5.alloc (.cells #[.int .i64 0, .int .i64 0] 30)) HC5.out ⟨by omega, hn1⟩ (by omega) (by omega) (by omega)
            have hD0 : (i + st) / (h + 1) ≤ i + st := Nat.div_le_self _ _
            have hM0 : (i + st) % (h + 1) < h + 1 := Nat.mod_lt _ (by omega)
            have x0 := (Lies.new w5 #[.int .i64 0, .int .i64 0] 30).cell 0
            simp only [List.getElem?_toArray, List.getElem?_cons_zero] at x0
            generalize (i + st) / (h + 1) = DD at *
            generalize (i + st) % (h + 1) = MM at *
            clear b5 hrd HO HC HS HB c3
            go_wp2_with fail
            generalize w5.alloc (.cells #[.int .i64 0, .int .i64 0] 30) = w6 at *
            generalize w5.heap.size = g5 at *
            refine hcp.mono ?_
            rintro e w7 ⟨rfl, rfl⟩
            have HS7 : Hid (Lies w6.drew.drew w.heap.size #[.int .i64 0, .int .i64 0] 30) := HS5.out
            have HB7 : Hid (Below w.heap.size w w6.drew.drew) := HB5.out.drew.drew
            have HC7 : Hid (CtAt w6.drew.drew w3.heap.size n i h bias gone) := HC5.out
            have HO7 : Hid (w6.drew.drew.ownsRow w3.heap.size 65 2 u8 acc.length (cellsP acc)) := ownN_keep HO5.out (fun _ _ => rfl)
            clear hcp HS5 HB5 HC5 HO5 x0
            generalize w6.drew.drew = w7 at *
            by_cases hR1 : isR (n + (DD : Nat))
            · rw [if_pos hR1] at HP2
              obtain ⟨r, hr⟩ : ∃ r : Int, n + (DD : Int) = r := ⟨_, rfl⟩
              simp only [hr] at HP2 hR1
              have hr0 : 128 ≤ r := by omega
              have hr1 : r ≤ 1114111 := hR1.2.1
              have his := isr_any r w7
              rw [decide_eq_true hR1] at his
              have hrw : IntKind.i32.wrap r = r := by rw [IntKind.wrap_i32]; omega
              have HR1 : Hid (isR r) := hR1
              have hbb := biasB_le st (h + 1) (!gone)
              have HP3 : Hid (unpD s.data.toList = match unL s.data.toList fuel bh r (MM + 1) (h + 1) (biasB st (h + 1) (!gone)) (!true) with
                | .inl e => .inl e
                | .inr ps => .inr ((acc ++ [(r, MM)]) ++ ps)) := by
                show _ = _
                rw [HP2]
                simp only [Bool.not_true]
                cases unL s.data.toList fuel bh r (MM + 1) (h + 1) (biasB st (h + 1) (!gone)) false with
                | inl e => rfl
                | inr ps => simp
              have hnr : ¬ (1114111 : Int) < r := by omega
              clear HP2 hR1
              rw [hr]
              go_wp2_with fail
              refine his.mono ?_
              rintro e w8 ⟨rfl, rfl⟩
              clear his
              go_wp2_with (at_builtin; refine wpList_append_put rfl _ _ rfl w3.heap.size _ acc.length acc rfl (HO7.out.alloc _) w8 r MM rfl 1 rfl (by omega) (by have := Lies.lt HC7.out; omega) ?_)
              intro v9 w9 hown9 hgrow9
              have HO9 : Hid (w9.ownsRow w3.heap.size 65 2 v9 (acc ++ [(r, MM)]).length (cellsP (acc ++ [(r, MM)]))) := by
                show World.ownsRow _ _ _ _ _ _ _
                rw [List.length_append]
                exact hown9
              have HC9 : Hid (CtAt w9 w3.heap.size n i h bias gone) := (hgrow9.block _ (Lies.lt HC7.out) (fun e => ownN_apart HO7.out HC7.out (by decide) _ e.symm rfl)).trans HC7.out
              have HS9 : Hid (Lies w9 w.heap.size #[.int .i64 0, .int .i64 0] 30) := (hgrow9.block _ (Lies.lt HS7.out) (fun e => ownN_apart HO7.out HS7.out (by decide) _ e.symm rfl)).trans HS7.out
              have HB9 : Hid (Below w.heap.size w w9) := HB7.out.grown hgrow9 HB7.out.size (fun q hq => Nat.le_trans (Nat.le_of_lt hs3) (HO7.out.lt q hq).1)
              have hcn := cnext_any w3.heap.size n i h st MM bias gone r w9 HC9.out (by omega) (by omega) (by omega)
              obtain ⟨a9, k9, rfl⟩ := ownN_shape hown9
              clear hown9 hgrow9
              go_wp2_with fail
              refine hcn.mono ?_
              rintro e wa ⟨rfl, ba, ma⟩
              have HOa : Hid (wa.ownsRow w3.heap.size 65 2 (.slice a9 (acc.length + 1) k9) (acc ++ [(r, MM)]).length (cellsP (acc ++ [(r, MM)]))) := ownN_keep HO9.out (fun q hq => ba.block q (HO9.out.lt q hq).2 (fun e => ownN_apart HO9.out HC9.out (by decide) q hq e))
              have HCa : Hid (CtAt wa w3.heap.size r ((MM + 1 : Nat) : Int) ((h + 1 : Nat) : Int) (biasB st (h + 1) (!gone) : Nat) true) := ma
              have HSa : Hid (Lies wa w.heap.size #[.int .i64 0, .int .i64 0] 30) := ba.lies HS9.out (by omega)
              have HBa : Hid (Below w.heap.size w wa) := HB9.out.trans (ba.below (by omega) HB9.out.size)
              generalize biasB st (h + 1) (!gone) = BB at *
              clear ba ma hcn
              go_wp2
              go_roundw
              case rel => exact ⟨fuel, bh, r, MM + 1, h + 1, BB, true, acc ++ [(r, MM)], rfl, by omega, by omega, by omega, by simp; omega, by simp; omega, by omega, hr0, hr1, HOa, HCa, HSa, HBa, HP3⟩
              case measure => simp [intOf]; omega
            · rw [if_neg hR1] at HP2
              have HP3 : Hid (unpD s.data.toList = .inl (50, bh - 1)) := HP2
              have HZT2 : Hid (unpT s.data.toList = []) := by show _ = _; rw [HZT.out, HP3.out]
              have HZV2 : Hid (unpV s.data.toList = #[.int .i64 50, .int .i64 ((bh - 1 : Nat) : Int)]) := by show _ = _; rw [HUV.out, HZE.out, HP3.out]; rfl
              obtain ⟨r, hr⟩ : ∃ r : Int, n + (DD : Int) = r := ⟨_, rfl⟩
              simp only [hr] at hR1
              have HBH : Hid ((bh : Int) - 1 = ((bh - 1 : Nat) : Int)) := by show _ = _; omega
              have c0 := HS7.out.cell 0
              have c1 := HS7.out.cell 1
              have f0 := HS7.out.frozen 0
              have f1 := HS7.out.frozen 1
              simp at c0 c1
              rw [hr]
              have fin : ∀ x : Int, x = ((bh - 1 : Nat) : Int) → ∀ v : Value, v = .tuple #[.slice none 0 0, .agg #[.int .i64 50, .int .i64 x]] → (∃ v', Ending.returned v = .returned (.tuple #[v', .agg (unpV s.data.toList)]) ∧ ((w7.setCell ⟨w.heap.size, 0, none⟩ (.int .i64 50)).setCell ⟨w.heap.size, 1, none⟩ (.int .i64 x)).ownsRow w.heap.size 21 1 v' (unpT s.data.toList).length (cellsN .i32 (unpT s.data.toList))) ∧ Below w.heap.size w ((w7.setCell ⟨w.heap.size, 0, none⟩ (.int .i64 50)).setCell ⟨w.heap.size, 1, none⟩ (.int .i64 x)) := by
                rintro x rfl v rfl
                refine ⟨⟨.slice none 0 0, by rw [HZV2.out], ?_⟩, (HB7.out.setCell (p := ⟨w.heap.size, 0, none⟩) (Nat.le_refl _) _).setCell (p := ⟨w.heap.size, 1, none⟩) (Nat.le_refl _) _⟩
                rw [HZT2.out]
                exact own_nilN _ _ _ _
              have FIN : Hid (∀ x : Int, x = ((bh - 1 : Nat) : Int) → ∀ v : Value, v = .tuple #[.slice none 0 0, .agg #[.int .i64 50, .int .i64 x]] → (∃ v', Ending.returned v = .returned (.tuple #[v', .agg (unpV s.data.toList)]) ∧ ((w7.setCell ⟨w.heap.size, 0, none⟩ (.int .i64 50)).setCell ⟨w.heap.size, 1, none⟩ (.int .i64 x)).ownsRow w.heap.size 21 1 v' (unpT s.data.toList).length (cellsN .i32 (unpT s.data.toList))) ∧ Below w.heap.size w ((w7.setCell ⟨w.heap.size, 0, none⟩ (.int .i64 50)).setCell ⟨w.heap.size, 1, none⟩ (.int .i64 x))) := fin
              have his := isr_any r w7
              rw [decide_eq_false hR1] at his
              have hHI : Hid (¬ isR r) := hR1
              clear HP2 hR1 fin
              by_cases hbig : (1114111 : Int) < r
              · clear his
                go_wp2
                (try simp only [Exit.inBlock, Exit.then])
                refine bodyPost_ret (v := .tuple #[.slice none 0 0, .agg #[.int .i64 50, .int .i64 ((bh : Int) - 1)]]) (by simp [results, Tryz.results10, go_sem, c0, c1]) rfl (FIN.out _ HBH.out _ rfl)
              · have hrw : IntKind.i32.wrap r = r := by rw [IntKind.wrap_i32]; omega
                go_wp2_with fail
                refine his.mono ?_
                rintro e w8 ⟨rfl, rfl⟩
                go_wp2
                (try simp only [Exit.inBlock, Exit.then])
                refine bodyPost_ret (v := .tuple #[.slice none 0 0, .agg #[.int .i64 50, .int .i64 ((bh : Int) - 1)]]) (by simp [results, Tryz.results10, go_sem, c0, c1]) rfl (FIN.out _ HBH.out _ rfl)
        · have HP2 : Hid (unpD s.data.toList = .inr acc) := by
            have := HP.out
            have e : unL s.data.toList fuel at' n i h bias (!gone) = .inr [] := by
              cases fuel with
              | zero => rfl
              | succ f => unfold unL; rw [if_pos (by rw [hll]; omega)]
            rw [e] at this
            simp only [List.append_nil] at this
            exact this
          have HOK : Hid (PsOk N acc) := by
            have := HP2.out
            rw [HUD.out] at this
            exact (unL_ok _ _ _ _ _ _ _ _ _ (by omega) this).1
          obtain ⟨a9, k9, rfl, hps9, _⟩ := own_ps HO.out
          have hla := laid_any A a9 acc k9 wr (by omega) hps9 (by rw [hAN]; exact HOK.out) HASC.out
          rw [hAl, hAN] at hla
          have HZT2 : Hid (unpT s.data.toList = insAll (lowR (s.data.toList.take N)) acc) := by show _ = _; rw [HZT.out, HP2.out]
          have HZV2 : Hid (unpV s.data.toList = #[.int .i64 0, .int .i64 0]) := by show _ = _; rw [HUV.out, HZE.out, HP2.out]; rfl
          have hUL : (unpT s.data.toList).length = N + acc.length := by
            rw [HZT2.out, insAll_length _ _ (by unfold lowR; rw [List.length_map, List.length_take, hll, Nat.min_eq_left hNs]; exact HOK.out)]
            unfold lowR
            rw [List.length_map, List.length_take, hll, Nat.min_eq_left hNs]
          rw [← HZT2.out] at hla
          have hlt' : ¬ (at' : Int) < (s.size : Int) := by omega
          clear HP hps9
          go_wp2_with fail
          refine hla.mono ?_
          rintro e w5 ⟨v5, rfl, o5, b5⟩
          have HS5 : Hid (Lies w5 w.heap.size #[.int .i64 0, .int .i64 0] 30) := HS.out.below b5 HS.out.lt
          have HB5 : Hid (Below w.heap.size w w5) := HB.out.trans (b5.mono HB.out.size)
          have HO5 : Hid (w5.ownsRow w.heap.size 21 1 v5 (unpT s.data.toList).length (cellsN .i32 (unpT s.data.toList))) := by
            show World.ownsRow _ _ _ _ _ _ _
            rw [hUL]
            exact base_le o5 HB.out.size
          have hHU : Hid ((unpT s.data.toList).length = N + acc.length) := hUL
          clear hla o5 b5 hUL
          have c0 := HS5.out.cell 0
          have c1 := HS5.out.cell 1
          have f0 := HS5.out.frozen 0
          have f1 := HS5.out.frozen 1
          simp at c0 c1
          go_wp2
          (try simp only [Exit.inBlock, Exit.then])
          refine bodyPost_ret (v := .tuple #[v5, .agg #[.int .i64 0, .int .i64 0]]) (by simp [results, Tryz.results10, go_sem, c0, c1]) rfl ⟨⟨v5, by rw [HZV2.out], ?_⟩, (HB5.out.setCell (p := ⟨w.heap.size, 0, none⟩) (Nat.le_refl _) _).setCell (p := ⟨w.heap.size, 1, none⟩) (Nat.le_refl _) _⟩
          have hap := ownN_apart HO5.out HS5.out (by decide)
          exact ownN_keep HO5.out (fun k hk => (Below.heap_setCell _ _ _ _ (hap k hk)).trans (Below.heap_setCell _ _ _ _ (hap k hk)))
  · rw [if_neg hpos] at HN HM
    obtain ⟨N, hN⟩ : ∃ N, mrkN s.data.toList = N := ⟨_, rfl⟩
    obtain ⟨S, hS⟩ : ∃ S, mrkS s.data.toList = S := ⟨_, rfl⟩
    rw [hN] at HN HUT HUE HUD
    rw [hS] at HM HUD
    have hNs : N ≤ s.size := by rw [HN.out]; omega
    have hSs : S ≤ s.size := by rw [HM.out]; omega
    have HS00 : Hid (S = 0) := HM.out
    obtain ⟨A, hA⟩ : ∃ A : ByteArray, (⟨#[]⟩ : ByteArray) = A := ⟨_, rfl⟩
    have hAN : A.size = N := by rw [← hA, HN.out]; rfl
    have HA : Hid (A = s.extract 0 N) := by show _ = _; rw [HN.out, extract_all0, hA]
    have hpos' : ¬ (0 : Int) < L0 := hpos
    clear HN HM hN hS
    rw [hA]
    clear hA
    have hAl : A.data.toList = s.data.toList.take N := by rw [HA.out, ext_list]; simp
    have hbd := bad_anyT 13 A w1 HT.out (by unfold maxLen; omega)
    rw [hAl, hiN_eq] at hbd
    have hhi := hiN_le (s.data.toList.take N)
    rw [List.length_take, hll] at hhi
    go_wp2_with fail
    refine hbd.mono ?_
    rintro e w2 ⟨rfl, rfl⟩
    clear hbd
    by_cases hbad : hiN (s.data.toList.take N) < N
    · have HZT : Hid (unpT s.data.toList = []) := by show _ = _; rw [HUT.out, if_pos hbad]
      have HZV : Hid (unpV s.data.toList = #[.int .i64 51, .int .i64 (hiN (s.data.toList.take N) : Nat)]) := by show _ = _; rw [HUV.out, HUE.out, if_pos hbad]; rfl
      have c0 := HS0.out.cell 0
      have c1 := HS0.out.cell 1
      have f0 := HS0.out.frozen 0
      have f1 := HS0.out.frozen 1
      simp at c0 c1
      have hbad' : ((hiN (s.data.toList.take N) : Nat) : Int) < (N : Int) := by omega
      generalize hiN (s.data.toList.take N) = HI at *
      go_wp2
      (try simp only [Exit.inBlock, Exit.then])
      refine bodyPost_ret (v := .tuple #[.slice none 0 0, .agg #[.int .i64 51, .int .i64 (HI : Nat)]]) (by simp [results, Tryz.results10, go_sem, c0, c1]) rfl ⟨⟨.slice none 0 0, by rw [HZV.out], ?_⟩, (HB0.out.setCell (p := ⟨w.heap.size, 0, none⟩) (Nat.le_refl _) _).setCell (p := ⟨w.heap.size, 1, none⟩) (Nat.le_refl _) _⟩
      rw [HZT.out]
      exact own_nilN _ _ _ _
    · have HZT : Hid (unpT s.data.toList = match unpD s.data.toList with
        | .inl _ => []
        | .inr ps => insAll (lowR (s.data.toList.take N)) ps) := by show _ = _; rw [HUT.out, if_neg hbad]
      have HZE : Hid (unpE s.data.toList = match unpD s.data.toList with
        | .inl e => e
        | .inr _ => (0, 0)) := by show _ = _; rw [HUE.out, if_neg hbad]
      have HASC : Hid (∀ k (h : k < A.size), A[k].toNat < 128) := fun k h => by
        have := hiN_all (l := s.data.toList.take N) (by rw [List.length_take, hll]; omega) k (by rw [List.length_take, hll]; omega)
        have e : A[k] = (s.data.toList.take N)[k]'(by rw [List.length_take, hll]; omega) := by
          rw [← at_list A k h]
          simp only [hAl]
        rw [e]
        exact this
      have hbad' : ¬ ((hiN (s.data.toList.take N) : Nat) : Int) < (N : Int) := by omega
      clear HUT HUE hhi
      generalize hiN (s.data.toList.take N) = HI at *
      have hct := cnt_any N w2
      go_wp2_with fail
      refine hct.mono ?_
      rintro e w3 ⟨rfl, b3⟩
      have HS3 : Hid (Lies w3 w.heap.size #[.int .i64 0, .int .i64 0] 30) := HS0.out.below b3 HS0.out.lt
      have HB3 : Hid (Below w.heap.size w w3) := HB0.out.trans (b3.mono HB0.out.size)
      have hs3 : w.heap.size < w3.heap.size := Nat.lt_of_lt_of_le hws b3.size
      clear b3 hct HS0 HB0 HT hbad hbad'
      go_wp2_with fail
      have HC4 : Hid (CtAt (w3.alloc (.cells #[.int .i32 128, .int .i64 0, .int .i64 N, .int .i64 72, .bool false] 58)) w3.heap.size 128 ((0 : Nat) : Int) ((N : Nat) : Int) ((72 : Nat) : Int) false) := Lies.new w3 _ _
      have HS4 : Hid (Lies (w3.alloc (.cells #[.int .i32 128, .int .i64 0, .int .i64 N, .int .i64 72, .bool false] 58)) w.heap.size #[.int .i64 0, .int .i64 0] 30) := HS3.out.alloc _
      have HB4 : Hid (Below w.heap.size w (w3.alloc (.cells #[.int .i32 128, .int .i64 0, .int .i64 N, .int .i64 72, .bool false] 58))) := HB3.out.alloc HB3.out.size _
      have HP4 : Hid (unpD s.data.toList = match unL s.data.toList s.data.toList.length S 128 0 N 72 (!false) with
        | .inl e => .inl e
        | .inr ps => .inr ([] ++ ps)) := by
        show _ = _
        rw [HUD.out, Bool.not_false]
        cases unL s.data.toList s.data.toList.length S 128 0 N 72 true <;> rfl
      generalize w3.alloc (.cells #[.int .i32 128, .int .i64 0, .int .i64 N, .int .i64 72, .bool false] 58) = w4 at HC4 HS4 HB4 ⊢
      go_loopw [5, 8] (fun av v wr => ∃ (fuel at' : Nat) (n : Int) (i h bias : Nat) (gone : Bool) (acc : List (Int × Nat)), av = .int .i64 at' ∧ at' ≤ s.size ∧ s.size ≤ at' + fuel ∧ bias ≤ 4294967330 ∧ h = N + acc.length ∧ acc.length ≤ at' ∧ i ≤ h ∧ 128 ≤ n ∧ n ≤ 1114111 ∧ Hid (wr.ownsRow w3.heap.size 65 2 v acc.length (cellsP acc)) ∧ Hid (CtAt wr w3.heap.size n i h bias gone) ∧ Hid (Lies wr w.heap.size #[.int .i64 0, .int .i64 0] 30) ∧ Hid (Below w.heap.size w wr) ∧ Hid (unpD s.data.toList = match unL s.data.toList fuel at' n i h bias (!gone) with
        | .inl e => .inl e
        | .inr ps => .inr (acc ++ ps))) (fun av _ _ => s.size - (intOf av).toNat)
      case atStart => exact ⟨s.data.toList.length, S, 128, 0, N, 72, false, [], by rw [HS00.out]; rfl, hSs, by omega, by omega, by simp, by simp, by omega, by omega, by omega, own_nilP _ _, HC4, HS4, HB4, HP4⟩
      case round =>
        obtain ⟨fuel, at', n, i, h, bias, gone, acc, rfl, hat, hfu, hbi, hh, hacc, hih, hn0, hn1, HO, HC, HS, HB, HP⟩ := hrel
        have hCs := Lies.lt HC.out
        by_cases hlt : at' < s.size
        · obtain ⟨fuel, rfl⟩ : ∃ f, fuel = f + 1 := ⟨fuel - 1, by omega⟩
          have HTr : Table wr := fun c hc => (HB.out.cell (p := ⟨2, c, none⟩) hg0).trans (HT0.out c hc)
          have hrd := rds_any s at' bias wr HTr (by have := HB.out.size; omega) (by omega) hat (by omega)
          have HP2 := HP.out
          unfold unL at HP2
          rw [if_neg (by rw [hll]; omega)] at HP2
          have c3 : wr.cell? ⟨w3.heap.size, 3, none⟩ = some (.int .i64 bias) := Lies.cell HC.out 3
          have hlt' : (at' : Int) < (s.size : Int) := by omega
          clear HTr HP
          cases hR : rdS bias (s.data.toList.drop at') 0 at' 0 1 with
          | inl e =>
            obtain ⟨c, q⟩ := e
            rw [hR] at HP2 hrd
            have HP3 : Hid (unpD s.data.toList = .inl (c, q)) := HP2
            have HZT2 : Hid (unpT s.data.toList = []) := by show _ = _; rw [HZT.out, HP3.out]
            have HZV2 : Hid (unpV s.data.toList = #[.int .i64 (c : Nat), .int .i64 (q : Nat)]) := by show _ = _; rw [HUV.out, HZE.out, HP3.out]
            have hcne : (((c : Nat) : Int) != 0) = true := by
              have : c = 51 ∨ c = 52 := rdS_err hR
              rcases this with rfl | rfl <;> rfl
            unfold rdV at hrd
            simp only at hrd
            clear HP2 hR
            go_wp2_with fail
            refine hrd.mono ?_
            rintro e w5 ⟨rfl, b5⟩
            have HS5 : Hid (Lies w5 w.heap.size #[.int .i64 0, .int .i64 0] 30) := HS.out.below b5 HS.out.lt
            have HB5 : Hid (Below w.heap.size w w5) := HB.out.trans (b5.mono HB.out.size)
            have hs5 : w.heap.size < w5.heap.size := HS5.out.lt
            clear b5 hrd
            go_wp2_with fail
            have z0 := (HS5.out.alloc (.cells #[.int .i64 (c : Nat), .int .i64 (q : Nat)] 30)).cell 0
            have z1 := (HS5.out.alloc (.cells #[.int .i64 (c : Nat), .int .i64 (q : Nat)] 30)).cell 1
            have y0 := (HS5.out.alloc (.cells #[.int .i64 (c : Nat), .int .i64 (q : Nat)] 30)).frozen 0
            have y1 := (HS5.out.alloc (.cells #[.int .i64 (c : Nat), .int .i64 (q : Nat)] 30)).frozen 1
            have x0 := (Lies.new w5 #[.int .i64 (c : Nat), .int .i64 (q : Nat)] 30).cell 0
            have x1 := (Lies.new w5 #[.int .i64 (c : Nat), .int .i64 (q : Nat)] 30).cell 1
            simp only [List.getElem?_toArray, List.getElem?_cons_zero, List.getElem?_cons_succ] at z0 z1 x0 x1
            have HBZ : Hid (Below w.heap.size w (w5.alloc (.cells #[.int .i64 (c : Nat), .int .i64 (q : Nat)] 30))) := HB5.out.alloc HB5.out.size _
            generalize w5.alloc (.cells #[.int .i64 (c : Nat), .int .i64 (q : Nat)] 30) = w6 at z0 z1 y0 y1 x0 x1 HBZ ⊢
            generalize w5.heap.size = g5 at *
            go_region
            all_goals go_wp2
            all_goals (try simp only [Exit.inBlock, Exit.then])
            all_goals refine bodyPost_ret (v := .tuple #[.slice none 0 0, .agg #[.int .i64 (c : Nat), .int .i64 (q : Nat)]]) (by simp [results, Tryz.results10, go_sem, z0, z1]) rfl ⟨⟨.slice none 0 0, by rw [HZV2.out], ?_⟩, ?_⟩
            all_goals first
              | (rw [HZT2.out]; exact own_nilN _ _ _ _)
              | exact ((HBZ.out.setCell (p := ⟨w.heap.size, 0, none⟩) (Nat.le_refl _) _).setCell (p := ⟨w.heap.size, 1, none⟩) (Nat.le_refl _) _).drew
              | exact ((HBZ.out.drew.setCell (p := ⟨w.heap.size, 0, none⟩) (Nat.le_refl _) _).setCell (p := ⟨w.heap.size, 1, none⟩) (Nat.le_refl _) _)
          | inr sb =>
            obtain ⟨st, bh⟩ := sb
            rw [hR] at HP2 hrd
            simp only at HP2
            obtain ⟨hb1, hb2, hst⟩ := rdS_some hR
            rw [List.length_drop, hll] at hb2
            unfold rdV at hrd
            simp only at hrd
            clear hR
            go_wp2_with fail
            refine hrd.mono ?_
            rintro e w5 ⟨rfl, b5⟩
            have HS5 : Hid (Lies (w5.alloc (.cells #[.int .i64 0, .int .i64 0] 30)) w.heap.size #[.int .i64 0, .int .i64 0] 30) := (HS.out.below b5 HS.out.lt).alloc _
            have HB5 : Hid (Below w.heap.size w (w5.alloc (.cells #[.int .i64 0, .int .i64 0] 30))) := (HB.out.trans (b5.mono HB.out.size)).alloc (Nat.le_trans HB.out.size b5.size) _
            have HC5 : Hid (CtAt (w5.alloc (.cells #[.int .i64 0, .int .i64 0] 30)) w3.heap.size n i h bias gone) := (Lies.below HC.out b5 hCs).alloc _
            have HO5 : Hid ((w5.alloc (.cells #[.int .i64 0, .int .i64 0] 30)).ownsRow w3.heap.size 65 2 u8 acc.length (cellsP acc)) := (ownN_below HO.out b5).alloc _
            have hcp := cput_any w3.heap.size n i h st bias gone (w5.alloc (.cells #[.int .i64 0, .int .i64 0] 30)) HC5.out ⟨by omega, hn1⟩ (by omega) (by omega) (by omega)
            have hD0 : (i + st) / (h + 1) ≤ i + st := Nat.div_le_self _ _
            have hM0 : (i + st) % (h + 1) < h + 1 := Nat.mod_lt _ (by omega)
            have x0 := (Lies.new w5 #[.int .i64 0, .int .i64 0] 30).cell 0
            simp only [List.getElem?_toArray, List.getElem?_cons_zero] at x0
            generalize (i + st) / (h + 1) = DD at *
            generalize (i + st) % (h + 1) = MM at *
            clear b5 hrd HO HC HS HB c3
            go_wp2_with fail
            generalize w5.alloc (.cells #[.int .i64 0, .int .i64 0] 30) = w6 at *
            generalize w5.heap.size = g5 at *
            refine hcp.mono ?_
            rintro e w7 ⟨rfl, rfl⟩
            have HS7 : Hid (Lies w6.drew.drew w.heap.size #[.int .i64 0, .int .i64 0] 30) := HS5.out
            have HB7 : Hid (Below w.heap.size w w6.drew.drew) := HB5.out.drew.drew
            have HC7 : Hid (CtAt w6.drew.drew w3.heap.size n i h bias gone) := HC5.out
            have HO7 : Hid (w6.drew.drew.ownsRow w3.heap.size 65 2 u8 acc.length (cellsP acc)) := ownN_keep HO5.out (fun _ _ => rfl)
            clear hcp HS5 HB5 HC5 HO5 x0
            generalize w6.drew.drew = w7 at *
            by_cases hR1 : isR (n + (DD : Nat))
            · rw [if_pos hR1] at HP2
              obtain ⟨r, hr⟩ : ∃ r : Int, n + (DD : Int) = r := ⟨_, rfl⟩
              simp only [hr] at HP2 hR1
              have hr0 : 128 ≤ r := by omega
              have hr1 : r ≤ 1114111 := hR1.2.1
              have his := isr_any r w7
              rw [decide_eq_true hR1] at his
              have hrw : IntKind.i32.wrap r = r := by rw [IntKind.wrap_i32]; omega
              have HR1 : Hid (isR r) := hR1
              have hbb := biasB_le st (h + 1) (!gone)
              have HP3 : Hid (unpD s.data.toList = match unL s.data.toList fuel bh r (MM + 1) (h + 1) (biasB st (h + 1) (!gone)) (!true) with
                | .inl e => .inl e
                | .inr ps => .inr ((acc ++ [(r, MM)]) ++ ps)) := by
                show _ = _
                rw [HP2]
                simp only [Bool.not_true]
                cases unL s.data.toList fuel bh r (MM + 1) (h + 1) (biasB st (h + 1) (!gone)) false with
                | inl e => rfl
                | inr ps => simp
              have hnr : ¬ (1114111 : Int) < r := by omega
              clear HP2 hR1
              rw [hr]
              go_wp2_with fail
              refine his.mono ?_
              rintro e w8 ⟨rfl, rfl⟩
              clear his
              go_wp2_with (at_builtin; refine wpList_append_put rfl _ _ rfl w3.heap.size _ acc.length acc rfl (HO7.out.alloc _) w8 r MM rfl 1 rfl (by omega) (by have := Lies.lt HC7.out; omega) ?_)
              intro v9 w9 hown9 hgrow9
              have HO9 : Hid (w9.ownsRow w3.heap.size 65 2 v9 (acc ++ [(r, MM)]).length (cellsP (acc ++ [(r, MM)]))) := by
                show World.ownsRow _ _ _ _ _ _ _
                rw [List.length_append]
                exact hown9
              have HC9 : Hid (CtAt w9 w3.heap.size n i h bias gone) := (hgrow9.block _ (Lies.lt HC7.out) (fun e => ownN_apart HO7.out HC7.out (by decide) _ e.symm rfl)).trans HC7.out
              have HS9 : Hid (Lies w9 w.heap.size #[.int .i64 0, .int .i64 0] 30) := (hgrow9.block _ (Lies.lt HS7.out) (fun e => ownN_apart HO7.out HS7.out (by decide) _ e.symm rfl)).trans HS7.out
              have HB9 : Hid (Below w.heap.size w w9) := HB7.out.grown hgrow9 HB7.out.size (fun q hq => Nat.le_trans (Nat.le_of_lt hs3) (HO7.out.lt q hq).1)
              have hcn := cnext_any w3.heap.size n i h st MM bias gone r w9 HC9.out (by omega) (by omega) (by omega)
              obtain ⟨a9, k9, rfl⟩ := ownN_shape hown9
              clear hown9 hgrow9
              go_wp2_with fail
              refine hcn.mono ?_
              rintro e wa ⟨rfl, ba, ma⟩
              have HOa : Hid (wa.ownsRow w3.heap.size 65 2 (.slice a9 (acc.length + 1) k9) (acc ++ [(r, MM)]).length (cellsP (acc ++ [(r, MM)]))) := ownN_keep HO9.out (fun q hq => ba.block q (HO9.out.lt q hq).2 (fun e => ownN_apart HO9.out HC9.out (by decide) q hq e))
              have HCa : Hid (CtAt wa w3.heap.size r ((MM + 1 : Nat) : Int) ((h + 1 : Nat) : Int) (biasB st (h + 1) (!gone) : Nat) true) := ma
              have HSa : Hid (Lies wa w.heap.size #[.int .i64 0, .int .i64 0] 30) := ba.lies HS9.out (by omega)
              have HBa : Hid (Below w.heap.size w wa) := HB9.out.trans (ba.below (by omega) HB9.out.size)
              generalize biasB st (h + 1) (!gone) = BB at *
              clear ba ma hcn
              go_wp2
              go_roundw
              case rel => exact ⟨fuel, bh, r, MM + 1, h + 1, BB, true, acc ++ [(r, MM)], rfl, by omega, by omega, by omega, by simp; omega, by simp; omega, by omega, hr0, hr1, HOa, HCa, HSa, HBa, HP3⟩
              case measure => simp [intOf]; omega
            · rw [if_neg hR1] at HP2
              have HP3 : Hid (unpD s.data.toList = .inl (50, bh - 1)) := HP2
              have HZT2 : Hid (unpT s.data.toList = []) := by show _ = _; rw [HZT.out, HP3.out]
              have HZV2 : Hid (unpV s.data.toList = #[.int .i64 50, .int .i64 ((bh - 1 : Nat) : Int)]) := by show _ = _; rw [HUV.out, HZE.out, HP3.out]; rfl
              obtain ⟨r, hr⟩ : ∃ r : Int, n + (DD : Int) = r := ⟨_, rfl⟩
              simp only [hr] at hR1
              have HBH : Hid ((bh : Int) - 1 = ((bh - 1 : Nat) : Int)) := by show _ = _; omega
              have c0 := HS7.out.cell 0
              have c1 := HS7.out.cell 1
              have f0 := HS7.out.frozen 0
              have f1 := HS7.out.frozen 1
              simp at c0 c1
              rw [hr]
              have fin : ∀ x : Int, x = ((bh - 1 : Nat) : Int) → ∀ v : Value, v = .tuple #[.slice none 0 0, .agg #[.int .i64 50, .int .i64 x]] → (∃ v', Ending.returned v = .returned (.tuple #[v', .agg (unpV s.data.toList)]) ∧ ((w7.setCell ⟨w.heap.size, 0, none⟩ (.int .i64 50)).setCell ⟨w.heap.size, 1, none⟩ (.int .i64 x)).ownsRow w.heap.size 21 1 v' (unpT s.data.toList).length (cellsN .i32 (unpT s.data.toList))) ∧ Below w.heap.size w ((w7.setCell ⟨w.heap.size, 0, none⟩ (.int .i64 50)).setCell ⟨w.heap.size, 1, none⟩ (.int .i64 x)) := by
                rintro x rfl v rfl
                refine ⟨⟨.slice none 0 0, by rw [HZV2.out], ?_⟩, (HB7.out.setCell (p := ⟨w.heap.size, 0, none⟩) (Nat.le_refl _) _).setCell (p := ⟨w.heap.size, 1, none⟩) (Nat.le_refl _) _⟩
                rw [HZT2.out]
                exact own_nilN _ _ _ _
              have FIN : Hid (∀ x : Int, x = ((bh - 1 : Nat) : Int) → ∀ v : Value, v = .tuple #[.slice none 0 0, .agg #[.int .i64 50, .int .i64 x]] → (∃ v', Ending.returned v = .returned (.tuple #[v', .agg (unpV s.data.toList)]) ∧ ((w7.setCell ⟨w.heap.size, 0, none⟩ (.int .i64 50)).setCell ⟨w.heap.size, 1, none⟩ (.int .i64 x)).ownsRow w.heap.size 21 1 v' (unpT s.data.toList).length (cellsN .i32 (unpT s.data.toList))) ∧ Below w.heap.size w ((w7.setCell ⟨w.heap.size, 0, none⟩ (.int .i64 50)).setCell ⟨w.heap.size, 1, none⟩ (.int .i64 x))) := fin
              have his := isr_any r w7
              rw [decide_eq_false hR1] at his
              have hHI : Hid (¬ isR r) := hR1
              clear HP2 hR1 fin
              by_cases hbig : (1114111 : Int) < r
              · clear his
                go_wp2
                (try simp only [Exit.inBlock, Exit.then])
                refine bodyPost_ret (v := .tuple #[.slice none 0 0, .agg #[.int .i64 50, .int .i64 ((bh : Int) - 1)]]) (by simp [results, Tryz.results10, go_sem, c0, c1]) rfl (FIN.out _ HBH.out _ rfl)
              · have hrw : IntKind.i32.wrap r = r := by rw [IntKind.wrap_i32]; omega
                go_wp2_with fail
                refine his.mono ?_
                rintro e w8 ⟨rfl, rfl⟩
                go_wp2
                (try simp only [Exit.inBlock, Exit.then])
                refine bodyPost_ret (v := .tuple #[.slice none 0 0, .agg #[.int .i64 50, .int .i64 ((bh : Int) - 1)]]) (by simp [results, Tryz.results10, go_sem, c0, c1]) rfl (FIN.out _ HBH.out _ rfl)
        · have HP2 : Hid (unpD s.data.toList = .inr acc) := by
            have := HP.out
            have e : unL s.data.toList fuel at' n i h bias (!gone) = .inr [] := by
              cases fuel with
              | zero => rfl
              | succ f => unfold unL; rw [if_pos (by rw [hll]; omega)]
            rw [e] at this
            simp only [List.append_nil] at this
            exact this
          have HOK : Hid (PsOk N acc) := by
            have := HP2.out
            rw [HUD.out] at this
            exact (unL_ok _ _ _ _ _ _ _ _ _ (by omega) this).1
          obtain ⟨a9, k9, rfl, hps9, _⟩ := own_ps HO.out
          have hla := laid_any A a9 acc k9 wr (by omega) hps9 (by rw [hAN]; exact HOK.out) HASC.out
          rw [hAl, hAN] at hla
          have HZT2 : Hid (unpT s.data.toList = insAll (lowR (s.data.toList.take N)) acc) := by show _ = _; rw [HZT.out, HP2.out]
          have HZV2 : Hid (unpV s.data.toList = #[.int .i64 0, .int .i64 0]) := by show _ = _; rw [HUV.out, HZE.out, HP2.out]; rfl
          have hUL : (unpT s.data.toList).length = N + acc.length := by
            rw [HZT2.out, insAll_length _ _ (by unfold lowR; rw [List.length_map, List.length_take, hll, Nat.min_eq_left hNs]; exact HOK.out)]
            unfold lowR
            rw [List.length_map, List.length_take, hll, Nat.min_eq_left hNs]
          rw [← HZT2.out] at hla
          have hlt' : ¬ (at' : Int) < (s.size : Int) := by omega
          clear HP hps9
          go_wp2_with fail
          refine hla.mono ?_
          rintro e w5 ⟨v5, rfl, o5, b5⟩
          have HS5 : Hid (Lies w5 w.heap.size #[.int .i64 0, .int .i64 0] 30) := HS.out.below b5 HS.out.lt
          have HB5 : Hid (Below w.heap.size w w5) := HB.out.trans (b5.mono HB.out.size)
          have HO5 : Hid (w5.ownsRow w.heap.size 21 1 v5 (unpT s.data.toList).length (cellsN .i32 (unpT s.data.toList))) := by
            show World.ownsRow _ _ _ _ _ _ _
            rw [hUL]
            exact base_le o5 HB.out.size
          have hHU : Hid ((unpT s.data.toList).length = N + acc.length) := hUL
          clear hla o5 b5 hUL
          have c0 := HS5.out.cell 0
          have c1 := HS5.out.cell 1
          have f0 := HS5.out.frozen 0
          have f1 := HS5.out.frozen 1
          simp at c0 c1
          go_wp2
          (try simp only [Exit.inBlock, Exit.then])
          refine bodyPost_ret (v := .tuple #[v5, .agg #[.int .i64 0, .int .i64 0]]) (by simp [results, Tryz.results10, go_sem, c0, c1]) rfl ⟨⟨v5, by rw [HZV2.out], ?_⟩, (HB5.out.setCell (p := ⟨w.heap.size, 0, none⟩) (Nat.le_refl _) _).setCell (p := ⟨w.heap.size, 1, none⟩) (Nat.le_refl _) _⟩
          have hap := ownN_apart HO5.out HS5.out (by decide)
          exact ownN_keep HO5.out (fun k hk => (Below.heap_setCell _ _ _ _ (hap k hk)).trans (Below.heap_setCell _ _ _ _ (hap k hk)))
end Go.Proofs.YtedgimkffkflbabGreatDoor
