/-
  The document's Whole, Long, Check.
-/
import Derived.Test.YtfifpepcmpaipaaDf14
import Derived.Test.YtfifpepcmpaipaaHp14
namespace Go.Proofs.Ytfifpepcmpaipaa
open Go.RowKit

theorem pe_cellD {w : World} {g n c : Nat} {l : List Pe} (h : Ow celP 27 1 w (.slice (some ⟨g, 0, none⟩) n c) l) (i : Nat) (hi : i < l.length) : w.cell? ⟨g, i, none⟩ = some (.slice l[i].a l[i].l.length l[i].c) := by
  have hl : (l.flatMap celP).length = l.length * 1 := flat_length celP_length l
  rw [h.cells i (by omega)]
  have := flat_at celP_length l i 0 hi (by decide)
  rw [Nat.mul_one, Nat.add_zero] at this
  rw [this]
  rfl
theorem lns_len : ∀ (r cur : List UInt8), (lns cur r).1.length ≤ r.length ∧ (lns cur r).2.length ≤ cur.length + r.length ∧ ∀ x ∈ (lns cur r).1, x.length ≤ cur.length + r.length
  | [], cur => by simp [lns]
  | c :: r, cur => by
    rw [lns_cons]
    split
    · have := lns_len r []
      refine ⟨by simp; omega, by simp at this ⊢; omega, ?_⟩
      intro x hx
      rcases List.mem_cons.1 hx with e | h
      · rw [e]; simp; omega
      · have := this.2.2 x h
        simp at this ⊢
        omega
    · have := lns_len r (cur ++ [c])
      simp at this ⊢
      refine ⟨by omega, by omega, fun x hx => ?_⟩
      have := this.2.2 x hx
      omega
set_option maxHeartbeats 1000000 in
theorem ewhole_any (a : Option Addr) (l : List UInt8) (n cap : Nat) (hn : n = l.length) (w : World) (hp : PeOk w ⟨a, l, cap⟩) (hl : l.length ≤ 1099511627776) :
    Calls Try.prog 32 #[.slice a n cap] w fun e w' => e = .returned (.int .i64 (wholeI l)) ∧ Below w.heap.size w w' := by
  subst hn
  have HBA := ebare_any a l l.length cap rfl hl w hp.bt
  have HLI := elines_any a l l.length cap rfl w hp hl
  have HWI : Hid (wholeI l = if whE false l = true then 130 else if (lns [] l).2 = [] then 0 else 141) := whole_lns l
  obtain ⟨Y, hY⟩ : ∃ Y, wholeI l = Y := ⟨_, rfl⟩
  rw [hY] at HWI ⊢
  clear hY hp
  cases hb : whE false l with
  | true =>
    rw [hb] at HBA
    have HY : Hid (Y = 130) := by rw [HWI.out, hb]; rfl
    clear hb HLI HWI
    go_enter Try.func32, Try.ntmps32
    go_wp2_with fail
    refine HBA.mono ?_
    rintro e w2 ⟨rfl, rfl⟩
    go_wp2_with fail
    go_ret
    exact ⟨by rw [HY.out]; rfl, Below.refl _ _⟩
  | false =>
    rw [hb] at HBA
    have HY : Hid (Y = if (lns [] l).2 = [] then 0 else 141) := by rw [HWI.out, hb]; rfl
    have hrl : (lns [] l).2.length ≤ l.length := by have := (lns_len l []).2.1; simpa using this
    clear hb HWI
    generalize (lns [] l).2 = R at *
    go_enter Try.func32, Try.ntmps32
    go_wp2_with fail
    refine HBA.mono ?_
    rintro e w2 ⟨rfl, rfl⟩
    clear HBA
    go_wp2_with fail
    refine HLI.mono ?_
    rintro e w3 ⟨v, ys, ra, rc, rfl, hL, -⟩
    have HB3 : Hid (Below w2.heap.size w2 w3) := hL.be
    obtain ⟨va, vc, hv, -⟩ := hL.ow.shape
    subst hv
    clear hL HLI
    by_cases h0 : R = []
    · have HY2 : Hid (Y = 0) := by rw [HY.out, if_pos h0]; exact rfl
      have hR : ¬ (0 : Int) < (R.length : Int) := by rw [h0]; decide
      clear h0 HY
      go_wp2_with fail
      go_ret
      exact ⟨by rw [HY2.out]; rfl, HB3.out⟩
    · have HY2 : Hid (Y = 141) := by rw [HY.out, if_neg h0]; exact rfl
      have hR : (0 : Int) < (R.length : Int) := by have := List.length_pos_iff.2 h0; omega
      clear h0 HY
      go_wp2_with fail
      go_ret
      exact ⟨by rw [HY2.out]; rfl, HB3.out⟩
set_option maxHeartbeats 2000000 in
set_option maxRecDepth 20000 in
theorem elong_any (a : Option Addr) (l : List UInt8) (n cap t : Nat) (hn : n = l.length) (w : World) (hp : PeOk w ⟨a, l, cap⟩) (hl : l.length ≤ 1099511627776) (_ : t ≤ 16777216) :
    Calls Try.prog 35 #[.slice a n cap, .int .i64 (t : Int)] w fun e w' => e = .returned (.bool (((lns [] l).1 ++ [(lns [] l).2]).any (fun x => decide (t < x.length)))) ∧ Below w.heap.size w w' := by
  subst hn
  have HLI := elines_any a l l.length cap rfl w hp hl
  have HRL : Hid ((lns [] l).2.length ≤ l.length ∧ (lns [] l).1.length ≤ l.length ∧ ∀ x ∈ (lns [] l).1, x.length ≤ l.length) := by have := lns_len l []; exact ⟨by simpa using this.2.1, this.1, by simpa using this.2.2⟩
  have HPE : Hid (PeOk w ⟨a, l, cap⟩) := hp
  obtain ⟨Y, hY⟩ : ∃ Y, ((lns [] l).1 ++ [(lns [] l).2]).any (fun x => decide (t < x.length)) = Y := ⟨_, rfl⟩
  rw [hY]
  have HY : Hid (((lns [] l).1 ++ [(lns [] l).2]).any (fun x => decide (t < x.length)) = Y) := hY
  clear hY hp
  go_enter Try.func35, Try.ntmps35
  go_wp2_with fail
  refine HLI.mono ?_
  rintro e w3 ⟨v, ys, ra, rc, rfl, hL, hpr⟩
  have HB3 : Hid (Below w.heap.size w w3) := hL.be
  have HO3 : Hid (Ow celP 27 1 w3 v ys) := hL.ow
  have HN3 : Hid (∀ k, v.ownBlock = some k → w.heap.size ≤ k) := hL.nw
  have HLS : Hid (ys.map Pe.l = (lns [] l).1) := hL.ls
  obtain ⟨va, vc, hv, -⟩ := hL.ow.shape
  subst hv
  have HYL : Hid (ys.length ≤ 1099511627776) := by have := HRL.out.2.1; rw [← HLS.out, List.length_map] at this; show _ ≤ _; omega
  have HRQ : Hid ((lns [] l).2.length ≤ 1099511627776) := by have := HRL.out.1; show _ ≤ _; omega
  have HYA : Hid ((ys ++ [(⟨ra, (lns [] l).2, rc⟩ : Pe)]).any (fun x => decide (t < x.l.length)) = Y) := by
    show _ = _
    rw [← HY.out, ← HLS.out, List.any_append, List.any_append, List.any_map]
    simp [Function.comp_def]
  have HQL : Hid (∀ x ∈ ys ++ [(⟨ra, (lns [] l).2, rc⟩ : Pe)], x.l.length ≤ 1099511627776) := fun x hx => by
    rcases List.mem_append.1 hx with h | h
    · have : x.l ∈ (lns [] l).1 := by rw [← HLS.out]; exact List.mem_map_of_mem h
      have := HRL.out.2.2 x.l this
      omega
    · rw [List.mem_singleton.1 h]; exact HRQ.out
  clear hL hpr HLI HLS HY HRL HPE
  generalize (lns [] l).2 = R at *
  have HNW : Hid (∀ j u, (celP ⟨ra, R, rc⟩)[j]? = some u → (w3.alloc (.cells #[.slice ra R.length rc] 27)).cell? ⟨w3.heap.size, j, none⟩ = some u) := fun j u h => new_cells _ j u h
  have HLN : Hid ((ys ++ [(⟨ra, R, rc⟩ : Pe)]).length = ys.length + 1) := by show _ = _; simp
  generalize hz : (⟨ra, R, rc⟩ : Pe) = P at *
  clear hz
  go_wp2_with (at_builtin; refine wpList_append_ow celP_length (by decide) oneP rfl _ _ 63 rfl Try.underlying63 (.slice none 0 0) 24 infoTB rfl _ ys rfl (HO3.out.below ((Below.refl _ _).alloc (Nat.le_refl _) _)) w3.heap.size 1 P rfl HNW.out (by have := HYL.out; omega) (by have := HYL.out; omega) ?_; intro g8 cap8 w8 HO8 HC8 HG8; apply Hid.out)
  unfold Hid
  have HO9 : Hid (Ow celP 27 1 w8 (.slice (some ⟨g8, 0, none⟩) (ys.length + 1) cap8) (ys ++ [P])) := HO8
  have HB9 : Hid (Below w.heap.size w w8) := (HB3.out.alloc HB3.out.size _).trans (HC8.to_below (by have := HB3.out.size; simp; omega) (fun i e => HN3.out i e))
  have hyl : ys.length ≤ 1099511627776 := HYL.out
  clear HO8 HC8 HG8 HO3 HN3 HB3 HNW
  generalize ys ++ [P] = zs at *
  go_wp2_with fail
  go_loopw [8, 19] (fun _ jv wr => ∃ j : Nat, j ≤ ys.length + 1 ∧ jv = .int .i64 j ∧ wr = w8 ∧ Hid ((zs.drop j).any (fun x => decide (t < x.l.length)) = Y)) (fun _ jv _ => ys.length + 1 - (intOf jv).toNat)
  case atStart => exact ⟨0, Nat.zero_le _, rfl, rfl, by rw [List.drop_zero]; exact HYA.out⟩
  case round =>
    obtain ⟨j, hj, rfl, rfl, HJ⟩ := hrel
    by_cases hlt : j < ys.length + 1
    · have hlt' : (j : Int) < (ys.length : Int) + 1 := by omega
      have hjz : j < zs.length := by rw [HLN.out]; exact hlt
      have hcl := pe_cellD HO9.out j hjz
      have hql := HQL.out _ (List.getElem_mem hjz)
      have hjj := HJ.out
      rw [List.drop_eq_getElem_cons hjz, List.any_cons] at hjj
      have HJ2 : Hid ((decide (t < zs[j].l.length) || (zs.drop (j + 1)).any (fun x => decide (t < x.l.length))) = Y) := hjj
      clear hjj HJ
      generalize zs[j] = X at *
      obtain ⟨xa, xl, xc⟩ := X
      dsimp only at *
      by_cases hx : t < xl.length
      · have hx' : (t : Int) < (xl.length : Int) := by omega
        have HYT : Hid (Y = true) := by rw [← HJ2.out, decide_eq_true hx]; exact rfl
        clear HJ2 hx
        go_wp2_with fail
        go_ret
        exact ⟨by rw [HYT.out]; rfl, HB9.out⟩
      · have hx' : ¬ (t : Int) < (xl.length : Int) := by omega
        have HJ3 : Hid ((zs.drop (j + 1)).any (fun x => decide (t < x.l.length)) = Y) := by rw [← HJ2.out, decide_eq_false hx]; exact rfl
        clear HJ2 hx
        go_wp2_with fail
        go_round
        case rel => exact ⟨j + 1, hlt, by go_num, trivial, HJ3.out⟩
        case measure => simp [intOf]; omega
    · have hlt' : ¬ (j : Int) < (ys.length : Int) + 1 := by omega
      have HYF : Hid (Y = false) := by
        rw [← HJ.out, List.drop_eq_nil_of_le (by rw [HLN.out]; omega)]
        exact rfl
      go_wp2_with fail
      go_ret
      exact ⟨by rw [HYF.out]; rfl, HB9.out⟩
set_option maxHeartbeats 1000000 in
theorem echeck_arg (ad : Option Addr) (n cap : Nat) (t : Int) (ht : okLim t = false) (w : World) : Calls Try.prog 18 #[.slice ad n cap, .int .i64 t] w fun e w' => e = .returned (.int .i64 2) ∧ w' = w := by
  have HL := emay_any t w
  rw [ht] at HL
  clear ht
  go_enter Try.func18, Try.ntmps18
  go_wp2_with fail
  refine HL.mono ?_
  rintro e w2 ⟨rfl, rfl⟩
  go_wp2_with fail
  go_ret
  exact ⟨rfl, rfl⟩
set_option maxHeartbeats 1000000 in
theorem echeck_ok (a : Option Addr) (l : List UInt8) (n cap t : Nat) (hn : n = l.length) (w : World) (hp : PeOk w ⟨a, l, cap⟩) (hl : l.length ≤ 1099511627776) (h1 : 1 ≤ t) (h2 : t ≤ 16777216) : Calls Try.prog 18 #[.slice a n cap, .int .i64 (t : Int)] w fun e w' => e = .returned (.int .i64 (checkI t l)) ∧ Below w.heap.size w w' := by
  subst hn
  have HM := emay_any (t : Int) w
  rw [show okLim (t : Int) = true from decide_eq_true ⟨by omega, by omega⟩] at HM
  have HW := ewhole_any a l l.length cap rfl w hp hl
  have HLG : Hid (∀ w', Below w.heap.size w w' → Calls Try.prog 35 #[.slice a l.length cap, .int .i64 (t : Int)] w' fun e w'' => e = .returned (.bool (((lns [] l).1 ++ [(lns [] l).2]).any (fun x => decide (t < x.length)))) ∧ Below w'.heap.size w' w'') := fun w' hb => elong_any a l l.length cap t rfl w' (hp.below hb) hl h2
  obtain ⟨Y, hY⟩ : ∃ Y, checkI t l = Y := ⟨_, rfl⟩
  obtain ⟨Z, hZ⟩ : ∃ Z, wholeI l = Z := ⟨_, rfl⟩
  rw [hZ] at HW
  rw [hY]
  by_cases hz : Z = 0
  · have HYZ : Hid (Y = if ((lns [] l).1 ++ [(lns [] l).2]).any (fun x => decide (t < x.length)) = true then 140 else 0) := by rw [← hY]; exact check_lns (hZ.trans hz)
    have hzz : (Z == 0) = true := by simp [hz]
    generalize ((lns [] l).1 ++ [(lns [] l).2]).any (fun x => decide (t < x.length)) = B at *
    have HZ0 : Hid (Z = 0) := hz
    clear hY hZ hz hp
    go_enter Try.func18, Try.ntmps18
    go_wp2_with fail
    refine HM.mono ?_
    rintro e w2 ⟨rfl, rfl⟩
    go_wp2_with fail
    refine HW.mono ?_
    rintro e w3 ⟨rfl, hB3⟩
    have HB3 : Hid (Below w2.heap.size w2 w3) := hB3
    clear hB3 HM HW
    go_wp2_with fail
    refine (HLG.out w3 HB3.out).mono ?_
    rintro e w4 ⟨rfl, hB4⟩
    have HB4 : Hid (Below w2.heap.size w2 w4) := HB3.out.trans (hB4.mono HB3.out.size)
    clear hB4
    cases B with
    | true =>
      have HYY : Hid (Y = 140) := HYZ.out
      go_wp2_with fail
      go_ret
      exact ⟨by rw [HYY.out]; rfl, HB4.out⟩
    | false =>
      have HYY : Hid (Y = Z) := by rw [HZ0.out]; exact HYZ.out
      go_wp2_with fail
      go_ret
      exact ⟨by rw [HYY.out]; rfl, HB4.out⟩
  · have HYZ : Hid (Y = Z) := by rw [← hY]; unfold Hid checkI; rw [hZ, if_neg hz]
    have hzz : (Z == 0) = false := by simp [hz]
    clear hY hZ hz hp HLG
    go_enter Try.func18, Try.ntmps18
    go_wp2_with fail
    refine HM.mono ?_
    rintro e w2 ⟨rfl, rfl⟩
    go_wp2_with fail
    refine HW.mono ?_
    rintro e w3 ⟨rfl, hB3⟩
    have HB3 : Hid (Below w2.heap.size w2 w3) := hB3
    clear hB3 HM HW
    go_wp2_with fail
    go_ret
    exact ⟨by rw [HYZ.out]; rfl, HB3.out⟩
end Go.Proofs.Ytfifpepcmpaipaa
