/-
  The statements' fed: a text in pieces.
-/
import Derived.Test.YtenfopabdegmhabDoorClose
import Derived.Test.YtenfopabdegmhabDoorOpenN
namespace Go.Proofs.YtenfopabdegmhabDoor
open Go.RowKit

theorem ints_below {a : Option Addr} {zs : List Int} {w w' : World} (h : Ints a zs w) (hb : Below w.heap.size w w') : Ints a zs w' := by
  rcases h with h | ⟨g, o, e, hg, hr⟩
  · exact .inl h
  · exact .inr ⟨g, o, e, Nat.lt_of_lt_of_le hg hb.size, fun j hj => (hb.cell (p := ⟨g, o + j, none⟩) hg).trans (hr j hj)⟩
theorem rdT_len (b : List UInt8) : (rdT [] b).length ≤ b.length := by
  unfold rdT
  have := noCr_le b
  rw [List.nil_append, List.length_take]
  omega
theorem dec_rd_len (b : List UInt8) : (decL (rdT [] b)).length ≤ b.length := by
  have h1 := decL_le (rdT [] b)
  have h2 := rdT_len b
  omega
theorem rd_nil_ok (b : List UInt8) : okN 0 (rdT [] b) = (rdT [] b).length := rdT_ok [] b rfl
/-- One piece more. -/
theorem fed_go (l : List UInt8) (p q : Nat) (h : rdE [] (l.take p) = 0) :
    rdT (rdT [] (l.take p)) ((l.drop p).take q) = rdT [] (l.take (p + q)) ∧ rdE (rdT [] (l.take p)) ((l.drop p).take q) = rdE [] (l.take (p + q)) ∧ decL (rdT [] (l.take (p + q))) = decL (rdT [] (l.take p)) ++ rdL (rdT [] (l.take p)) ((l.drop p).take q) := by
  obtain ⟨h1, h2⟩ := rd_join [] (l.take p) ((l.drop p).take q) rfl h
  have e : l.take p ++ (l.drop p).take q = l.take (p + q) := List.take_add.symm
  rw [e] at h1 h2
  refine ⟨h1, h2, ?_⟩
  rw [← h1]
  exact rdL_dec _ _
theorem fed_stay (l : List UInt8) (p q : Nat) (h : rdE [] (l.take p) ≠ 0) : rdT [] (l.take (p + q)) = rdT [] (l.take p) ∧ rdE [] (l.take (p + q)) = rdE [] (l.take p) := by
  have e : l.take p ++ (l.drop p).take q = l.take (p + q) := List.take_add.symm
  obtain ⟨h1, h2⟩ := rd_cut [] (l.take p) ((l.drop p).take q) h
  rw [e] at h1 h2
  exact ⟨h1, h2⟩

theorem bts_map {a : Option Addr} {l : List UInt8} {w : World} (h : Bts a l w) (p : Nat) : Bts (a.map fun x => x.add p) (l.drop p) w := by
  rcases h with rfl | ⟨g, o, rfl, hg, hr⟩
  · exact .inl (by simp)
  · have := Bts.drop' (.inr ⟨g, o, rfl, hg, hr⟩ : Bts (some ⟨g, o, none⟩) l w) p
    simpa [Addr.add_lit] using this
theorem bts_block {a : Option Addr} {l : List UInt8} {w : World} (h : Bts a l w) (hne : l ≠ []) : ∀ ad, a = some ad → ad.block < w.heap.size := by
  rcases h with rfl | ⟨g, o, rfl, hg, hr⟩
  · exact absurd rfl hne
  · intro ad e
    injection e with e
    rw [← e]
    exact hg

set_option maxHeartbeats 8000000 in
set_option maxRecDepth 100000 in
theorem fed_any (a : Option Addr) (l : List UInt8) (cap n : Nat) (ca : Option Addr) (cs : List Int) (ccap m : Nat) (w : World) (hn : n = l.length) (hb : Bts a l w) (hl : l.length ≤ 140737488351232) (hcap : l.length ≤ cap) (hcap2 : cap ≤ 9223372036854775807) (hnn : a = none → cap = 0) (hm : m = cs.length) (hcs : Ints ca cs w) (hml : cs.length ≤ 1125899906842624) (hint : ∀ z ∈ cs, -9223372036854775808 ≤ z ∧ z ≤ 9223372036854775807) :
    Calls Tryd.prog 12 #[.slice a n cap, .slice ca m ccap] w fun e w' => ∃ v, e = .returned (.tuple #[v, .int .i64 (rdE [] l : Nat), .int .i64 (clE (rdT [] l) (rdE [] l) : Nat), .bool true]) ∧
      w'.ownsRow w.heap.size 5 1 v (decL (rdT [] l)).length (cellsB (decL (rdT [] l))) ∧ Below w.heap.size w w' := by
  have HBT : Hid (Bts a l w) := hb
  have HCS : Hid (Ints ca cs w) := hcs
  have HN : Hid (n = l.length) := hn
  have HM : Hid (m = cs.length) := hm
  have HINT : Hid (∀ z ∈ cs, -9223372036854775808 ≤ z ∧ z ≤ 9223372036854775807) := hint
  rw [← hn] at hl hcap
  rw [← hm] at hml
  clear hb hcs hn hm hint
  go_enter Tryd.func12, Tryd.ntmps12
  go_wp2_with fail
  refine Calls.mono (new_any w) ?_
  rintro e w1 ⟨rfl, hr1, hb1⟩
  obtain ⟨G, hG⟩ : ∃ G, G = w.heap.size := ⟨_, rfl⟩
  have HR1 : Hid (RdAt w1 G [] 0) := by rw [hG]; exact hr1
  have HB1 : Hid (Below w.heap.size w w1) := hb1
  rw [← hG]
  have hGa : w.heap.size ≤ G := by omega
  clear hr1 hb1 hG
  go_wp2_with fail
  go_loopw [9, 10, 11, 12] (fun v e at' i wr => ∃ (p k : Nat), p ≤ n ∧ k ≤ m + 1 ∧ (k = m + 1 → p = n) ∧ i = .int .i64 k ∧ at' = .int .i64 p ∧ e = .int .i64 ((rdE [] (l.take p) : Nat) : Int) ∧ Hid (RdAt wr G (rdT [] (l.take p)) (rdE [] (l.take p))) ∧ Hid (wr.ownsRow w.heap.size 5 1 v (decL (rdT [] (l.take p))).length (cellsB (decL (rdT [] (l.take p))))) ∧ Hid (Below w.heap.size w wr)) (fun _ _ _ i _ => m + 1 - (intOf i).toNat)
  case atStart => exact ⟨0, 0, by omega, by omega, by omega, rfl, rfl, rfl, HR1, own_nil _ _, HB1⟩
  case round =>
    clear HR1 HB1
    obtain ⟨p, k, hp, hk, hkp, rfl, rfl, rfl, HR, HO, HB⟩ := hrel
    by_cases hlt : k < m + 1
    · have hle : (k : Int) ≤ (m : Int) := by omega
      obtain ⟨E, hE⟩ : ∃ E, E = rdE [] (l.take p) := ⟨_, rfl⟩
      have HE : Hid (E = rdE [] (l.take p)) := hE
      rw [← hE] at HR ⊢
      have hdl := dec_rd_len (l.take p)
      rw [List.length_take, ← HN.out, Nat.min_eq_left hp] at hdl
      clear hE
      by_cases hkm : k < m
      · obtain ⟨cg, co, rfl, hcg, hcc⟩ : ∃ cg co, ca = some ⟨cg, co, none⟩ ∧ cg < w.heap.size ∧ ∀ j, (h : j < cs.length) → w.cell? ⟨cg, co + j, none⟩ = some (.int .i64 cs[j]) := by
          rcases HCS.out with h | h
          · have := HM.out
            rw [h] at this
            simp at this
            omega
          · exact h
        have hkc : k < cs.length := by rw [← HM.out]; exact hkm
        obtain ⟨z, hz⟩ : ∃ z, z = cs[k] := ⟨_, rfl⟩
        have hzc : wr.cell? ⟨cg, co + k, none⟩ = some (.int .i64 z) := by rw [HB.out.cell (p := ⟨cg, co + k, none⟩) hcg, hz]; exact hcc k hkc
        obtain ⟨hz0, hz1⟩ := HINT.out z (by rw [hz]; exact List.getElem_mem hkc)
        clear hz hkc hcc
        obtain ⟨q, hq⟩ : ∃ q : Nat, min ((n : Int) - (p : Int)) (max 0 (z.tmod 9)) = (q : Int) := ⟨(min ((n : Int) - (p : Int)) (max 0 (z.tmod 9))).toNat, by omega⟩
        have hpq : p + q ≤ n := by omega
        have HQL : Hid (((l.drop p).take q).length = q) := by
          show _ = _
          rw [List.length_take, List.length_drop, ← HN.out]
          omega
        have htn : ((p : Int) + (q : Int)).toNat - p = q := by omega
        have hh1 : (p : Int) ≤ (p : Int) + (q : Int) := by omega
        have hh2 : (p : Int) + (q : Int) ≤ (cap : Int) := by omega
        have HBR : Hid (Bts a l wr) := HBT.out.below HB.out
        have HNB : Hid ((l.drop p).take q ≠ [] → ∀ ad, a = some ad → ad.block ≠ G) := fun hne ad ha => by
          have h1 := bts_block HBT.out (fun e => hne (by rw [e]; simp)) ad ha
          omega
        by_cases hcp : cap = p
        · obtain rfl : p = cap := hcp.symm
          have HNE : Hid ((l.drop p).take q ≠ [] → ∀ ad, a = some ad → ad.block ≠ G) := HNB.out
          have hq0 : (l.drop p).take q = [] := by
            rw [List.drop_eq_nil_of_le (by rw [← HN.out]; omega)]
            simp
          have HBP : Hid (Bts a ((l.drop p).take q) wr) := .inl hq0
          clear hq0
          by_cases hEE : E = 0
          · subst hEE
            have HF : Hid (Calls Tryd.prog 18 #[.pointer (some ⟨G, 0, none⟩), .slice a q 0] wr fun e w' => ∃ v', e = .returned (.tuple #[v', .int .i64 ((rdE [] (l.take (p + q)) : Nat) : Int)]) ∧ w'.ownsRow wr.heap.size 5 1 v' (rdL (rdT [] (l.take p)) ((l.drop p).take q)).length (cellsB (rdL (rdT [] (l.take p)) ((l.drop p).take q))) ∧ RdAt w' G (rdT [] (l.take (p + q))) (rdE [] (l.take (p + q))) ∧ But G wr w') := by
              obtain ⟨g1, g2, _⟩ := fed_go l p q HE.out.symm
              have hf := feed_any G (rdT [] (l.take p)) a ((l.drop p).take q) 0 q wr HR.out HQL.out.symm HBP.out (by rw [HQL.out]; omega) HNE.out
              rw [g1, g2] at hf
              exact hf
            obtain ⟨_, _, g3⟩ := fed_go l p q HE.out.symm
            have HG3 : Hid _ := g3
            have hE0 : (((0 : Nat) : Int) != 0) = false := rfl
            clear g3
            go_wp2_with fail
            refine Calls.mono HF.out ?_
            rintro e w2 ⟨v2, rfl, ho2, hr2, hb2⟩
            obtain ⟨E2, hE2⟩ : ∃ E2, E2 = rdE [] (l.take (p + q)) := ⟨_, rfl⟩
            rw [← hE2] at hr2 ⊢
            have HE2 : Hid (E2 = rdE [] (l.take (p + q))) := hE2
            have HR2 : Hid (RdAt w2 G (rdT [] (l.take (p + q))) E2) := hr2
            have HB2 : Hid (Below w.heap.size w w2) := HB.out.trans (hb2.below hGa HB.out.size)
            have HO2 : Hid (w2.ownsRow w.heap.size 5 1 u9 (decL (rdT [] (l.take p))).length (cellsB (decL (rdT [] (l.take p))))) := own_keep HO.out (fun j hj => hb2.block j (HO.out.lt j hj).2 (HR.out.apart HO.out j hj))
            obtain ⟨a2, c2, rfl, hbt2, hln2, hnn2, hcp2, _⟩ := own_bts ho2
            have hca2 : c2 ≤ 9223372036854775807 := own_cap ho2
            have HBT2 : Hid (Bts a2 (rdL (rdT [] (l.take p)) ((l.drop p).take q)) w2) := hbt2
            have HNN2 : Hid (a2 = none → c2 = 0) := hnn2
            have hsum : (decL (rdT [] (l.take p))).length + (rdL (rdT [] (l.take p)) ((l.drop p).take q)).length ≤ n := by
              have h1 := dec_rd_len (l.take (p + q))
              rw [HG3.out, List.length_append, List.length_take, ← HN.out] at h1
              omega
            have HSZ := Nat.le_trans (Nat.le_refl _) HB2.out.size
            obtain ⟨r, hrr⟩ : ∃ r, r = (rdL (rdT [] (l.take p)) ((l.drop p).take q)).length := ⟨_, rfl⟩
            rw [← hrr] at hsum hcp2 ⊢
            have HRR : Hid (r = (rdL (rdT [] (l.take p)) ((l.drop p).take q)).length) := hrr
            clear ho2 hr2 hb2 hbt2 hln2 hnn2 hE2 hrr HO HR HB HF
            go_wp2_with (at_builtin; refine wpList_append_keep rfl _ _ rfl w.heap.size _ _ _ rfl HO2.out a2 _ r c2 rfl HRR.out HBT2.out HNN2.out (by omega) HSZ ?_)
            intro v4 w4 ho4 hg4
            have HO4 : Hid (w4.ownsRow w.heap.size 5 1 v4 (decL (rdT [] (l.take (p + q)))).length (cellsB (decL (rdT [] (l.take (p + q)))))) := by
              show World.ownsRow _ _ _ _ _ _ _
              rw [HG3.out, List.length_append, ← HRR.out]
              exact ho4
            have HR4 : Hid (RdAt w4 G (rdT [] (l.take (p + q))) (rdE [] (l.take (p + q)))) := by
              rw [← HE2.out]
              exact HR2.out.of (hg4.block G HR2.out.lt (fun e => HR2.out.apart HO2.out G e.symm rfl))
            have HB4 : Hid (Below w.heap.size w w4) := HB2.out.grown hg4 HSZ (fun j hj => (HO2.out.lt j hj).1)
            clear ho4 hg4 HR2 HB2 HO2 HBT2
            go_wp2
            go_roundw
            case rel => exact ⟨p + q, k + 1, by omega, by omega, by omega, by go_num, by go_num, by rw [HE2.out], HR4, HO4, HB4⟩
            case measure => simp [intOf] <;> omega
          · obtain ⟨g1, g2⟩ := fed_stay l p q (by rw [← HE.out]; exact hEE)
            have HG : Hid (rdT [] (l.take (p + q)) = rdT [] (l.take p) ∧ rdE [] (l.take (p + q)) = rdE [] (l.take p)) := ⟨g1, g2⟩
            have hE1 : ((E : Int) != 0) = true := by simp; omega
            clear g1 g2
            go_wp2_with fail
            refine Calls.mono (feed_spoilt G _ E hEE _ wr HR.out) ?_
            rintro e w2 ⟨rfl, j2, rfl⟩
            have HR2 : Hid (RdAt (wr.drewN j2) G (rdT [] (l.take p)) E) := HR.out.of rfl
            have HB2 : Hid (Below w.heap.size w (wr.drewN j2)) := ⟨HB.out.os, HB.out.tape, HB.out.output, HB.out.size, HB.out.block⟩
            have HO2 : Hid ((wr.drewN j2).ownsRow w.heap.size 5 1 u9 (decL (rdT [] (l.take p))).length (cellsB (decL (rdT [] (l.take p))))) := own_keep HO.out (fun _ _ => rfl)
            have HSZ := Nat.le_trans (Nat.le_refl _) HB2.out.size
            clear HR HB HO
            generalize wr.drewN j2 = w2 at HR2 HB2 HO2 HSZ ⊢
            go_wp2_with (at_builtin; refine wpList_append_keep rfl _ _ rfl w.heap.size _ _ _ rfl HO2.out none [] 0 0 rfl rfl (.inl rfl) (fun _ => rfl) (by omega) HSZ ?_)
            intro v4 w4 ho4 hg4
            have HO4 : Hid (w4.ownsRow w.heap.size 5 1 v4 (decL (rdT [] (l.take (p + q)))).length (cellsB (decL (rdT [] (l.take (p + q)))))) := by
              show World.ownsRow _ _ _ _ _ _ _
              rw [HG.out.1]
              first
                | exact ho4
                | (rw [List.append_nil] at ho4; exact ho4)
            have HR4 : Hid (RdAt w4 G (rdT [] (l.take (p + q))) (rdE [] (l.take (p + q)))) := by
              rw [HG.out.1, HG.out.2, ← HE.out]
              exact HR2.out.of (hg4.block G HR2.out.lt (fun e => HR2.out.apart HO2.out G e.symm rfl))
            have HB4 : Hid (Below w.heap.size w w4) := HB2.out.grown hg4 HSZ (fun j hj => (HO2.out.lt j hj).1)
            clear ho4 hg4 HR2 HB2 HO2
            go_wp2
            go_roundw
            case rel => exact ⟨p + q, k + 1, by omega, by omega, by omega, by go_num, by go_num, by rw [HG.out.2, ← HE.out], HR4, HO4, HB4⟩
            case measure => simp [intOf] <;> omega
        · have HNE : Hid ((l.drop p).take q ≠ [] → ∀ ad, (a.map fun x => x.add p) = some ad → ad.block ≠ G) := fun hne ad ha => by
            cases a with
            | none => cases ha
            | some x =>
              injection ha with ha
              have h9 := HNB.out hne x rfl
              rw [← ha]
              obtain ⟨b9, o9, s9⟩ := x
              show (Addr.add ⟨b9, o9, s9⟩ p).block ≠ G
              unfold Addr.add
              split <;> exact h9
          have HBP : Hid (Bts (a.map fun x => x.add p) ((l.drop p).take q) wr) := (bts_map HBR.out p).take q
          by_cases hEE : E = 0
          · subst hEE
            have HF : Hid (Calls Tryd.prog 18 #[.pointer (some ⟨G, 0, none⟩), .slice (a.map fun x => x.add p) q (cap - p)] wr fun e w' => ∃ v', e = .returned (.tuple #[v', .int .i64 ((rdE [] (l.take (p + q)) : Nat) : Int)]) ∧ w'.ownsRow wr.heap.size 5 1 v' (rdL (rdT [] (l.take p)) ((l.drop p).take q)).length (cellsB (rdL (rdT [] (l.take p)) ((l.drop p).take q))) ∧ RdAt w' G (rdT [] (l.take (p + q))) (rdE [] (l.take (p + q))) ∧ But G wr w') := by
              obtain ⟨g1, g2, _⟩ := fed_go l p q HE.out.symm
              have hf := feed_any G (rdT [] (l.take p)) (a.map fun x => x.add p) ((l.drop p).take q) (cap - p) q wr HR.out HQL.out.symm HBP.out (by rw [HQL.out]; omega) HNE.out
              rw [g1, g2] at hf
              exact hf
            obtain ⟨_, _, g3⟩ := fed_go l p q HE.out.symm
            have HG3 : Hid _ := g3
            have hE0 : (((0 : Nat) : Int) != 0) = false := rfl
            clear g3
            go_wp2_with fail
            refine Calls.mono HF.out ?_
            rintro e w2 ⟨v2, rfl, ho2, hr2, hb2⟩
            obtain ⟨E2, hE2⟩ : ∃ E2, E2 = rdE [] (l.take (p + q)) := ⟨_, rfl⟩
            rw [← hE2] at hr2 ⊢
            have HE2 : Hid (E2 = rdE [] (l.take (p + q))) := hE2
            have HR2 : Hid (RdAt w2 G (rdT [] (l.take (p + q))) E2) := hr2
            have HB2 : Hid (Below w.heap.size w w2) := HB.out.trans (hb2.below hGa HB.out.size)
            have HO2 : Hid (w2.ownsRow w.heap.size 5 1 u9 (decL (rdT [] (l.take p))).length (cellsB (decL (rdT [] (l.take p))))) := own_keep HO.out (fun j hj => hb2.block j (HO.out.lt j hj).2 (HR.out.apart HO.out j hj))
            obtain ⟨a2, c2, rfl, hbt2, hln2, hnn2, hcp2, _⟩ := own_bts ho2
            have hca2 : c2 ≤ 9223372036854775807 := own_cap ho2
            have HBT2 : Hid (Bts a2 (rdL (rdT [] (l.take p)) ((l.drop p).take q)) w2) := hbt2
            have HNN2 : Hid (a2 = none → c2 = 0) := hnn2
            have hsum : (decL (rdT [] (l.take p))).length + (rdL (rdT [] (l.take p)) ((l.drop p).take q)).length ≤ n := by
              have h1 := dec_rd_len (l.take (p + q))
              rw [HG3.out, List.length_append, List.length_take, ← HN.out] at h1
              omega
            have HSZ := Nat.le_trans (Nat.le_refl _) HB2.out.size
            obtain ⟨r, hrr⟩ : ∃ r, r = (rdL (rdT [] (l.take p)) ((l.drop p).take q)).length := ⟨_, rfl⟩
            rw [← hrr] at hsum hcp2 ⊢
            have HRR : Hid (r = (rdL (rdT [] (l.take p)) ((l.drop p).take q)).length) := hrr
            clear ho2 hr2 hb2 hbt2 hln2 hnn2 hE2 hrr HO HR HB HF
            go_wp2_with (at_builtin; refine wpList_append_keep rfl _ _ rfl w.heap.size _ _ _ rfl HO2.out a2 _ r c2 rfl HRR.out HBT2.out HNN2.out (by omega) HSZ ?_)
            intro v4 w4 ho4 hg4
            have HO4 : Hid (w4.ownsRow w.heap.size 5 1 v4 (decL (rdT [] (l.take (p + q)))).length (cellsB (decL (rdT [] (l.take (p + q)))))) := by
              show World.ownsRow _ _ _ _ _ _ _
              rw [HG3.out, List.length_append, ← HRR.out]
              exact ho4
            have HR4 : Hid (RdAt w4 G (rdT [] (l.take (p + q))) (rdE [] (l.take (p + q)))) := by
              rw [← HE2.out]
              exact HR2.out.of (hg4.block G HR2.out.lt (fun e => HR2.out.apart HO2.out G e.symm rfl))
            have HB4 : Hid (Below w.heap.size w w4) := HB2.out.grown hg4 HSZ (fun j hj => (HO2.out.lt j hj).1)
            clear ho4 hg4 HR2 HB2 HO2 HBT2
            go_wp2
            go_roundw
            case rel => exact ⟨p + q, k + 1, by omega, by omega, by omega, by go_num, by go_num, by rw [HE2.out], HR4, HO4, HB4⟩
            case measure => simp [intOf] <;> omega
          · obtain ⟨g1, g2⟩ := fed_stay l p q (by rw [← HE.out]; exact hEE)
            have HG : Hid (rdT [] (l.take (p + q)) = rdT [] (l.take p) ∧ rdE [] (l.take (p + q)) = rdE [] (l.take p)) := ⟨g1, g2⟩
            have hE1 : ((E : Int) != 0) = true := by simp; omega
            clear g1 g2
            go_wp2_with fail
            refine Calls.mono (feed_spoilt G _ E hEE _ wr HR.out) ?_
            rintro e w2 ⟨rfl, j2, rfl⟩
            have HR2 : Hid (RdAt (wr.drewN j2) G (rdT [] (l.take p)) E) := HR.out.of rfl
            have HB2 : Hid (Below w.heap.size w (wr.drewN j2)) := ⟨HB.out.os, HB.out.tape, HB.out.output, HB.out.size, HB.out.block⟩
            have HO2 : Hid ((wr.drewN j2).ownsRow w.heap.size 5 1 u9 (decL (rdT [] (l.take p))).length (cellsB (decL (rdT [] (l.take p))))) := own_keep HO.out (fun _ _ => rfl)
            have HSZ := Nat.le_trans (Nat.le_refl _) HB2.out.size
            clear HR HB HO
            generalize wr.drewN j2 = w2 at HR2 HB2 HO2 HSZ ⊢
            go_wp2_with (at_builtin; refine wpList_append_keep rfl _ _ rfl w.heap.size _ _ _ rfl HO2.out none [] 0 0 rfl rfl (.inl rfl) (fun _ => rfl) (by omega) HSZ ?_)
            intro v4 w4 ho4 hg4
            have HO4 : Hid (w4.ownsRow w.heap.size 5 1 v4 (decL (rdT [] (l.take (p + q)))).length (cellsB (decL (rdT [] (l.take (p + q)))))) := by
              show World.ownsRow _ _ _ _ _ _ _
              rw [HG.out.1]
              first
                | exact ho4
                | (rw [List.append_nil] at ho4; exact ho4)
            have HR4 : Hid (RdAt w4 G (rdT [] (l.take (p + q))) (rdE [] (l.take (p + q)))) := by
              rw [HG.out.1, HG.out.2, ← HE.out]
              exact HR2.out.of (hg4.block G HR2.out.lt (fun e => HR2.out.apart HO2.out G e.symm rfl))
            have HB4 : Hid (Below w.heap.size w w4) := HB2.out.grown hg4 HSZ (fun j hj => (HO2.out.lt j hj).1)
            clear ho4 hg4 HR2 HB2 HO2
            go_wp2
            go_roundw
            case rel => exact ⟨p + q, k + 1, by omega, by omega, by omega, by go_num, by go_num, by rw [HG.out.2, ← HE.out], HR4, HO4, HB4⟩
            case measure => simp [intOf] <;> omega
      · obtain rfl : k = m := by omega
        have hnk : ¬ (k : Int) < (k : Int) := by omega
        obtain ⟨q, hq⟩ : ∃ q : Nat, (n : Int) - (p : Int) = (q : Int) := ⟨n - p, by omega⟩
        have hpq : p + q ≤ n := by omega
        have HQL : Hid (((l.drop p).take q).length = q) := by
          show _ = _
          rw [List.length_take, List.length_drop, ← HN.out]
          omega
        have htn : ((p : Int) + (q : Int)).toNat - p = q := by omega
        have hh1 : (p : Int) ≤ (p : Int) + (q : Int) := by omega
        have hh2 : (p : Int) + (q : Int) ≤ (cap : Int) := by omega
        have HBR : Hid (Bts a l wr) := HBT.out.below HB.out
        have HNB : Hid ((l.drop p).take q ≠ [] → ∀ ad, a = some ad → ad.block ≠ G) := fun hne ad ha => by
          have h1 := bts_block HBT.out (fun e => hne (by rw [e]; simp)) ad ha
          omega
        by_cases hcp : cap = p
        · obtain rfl : p = cap := hcp.symm
          have HNE : Hid ((l.drop p).take q ≠ [] → ∀ ad, a = some ad → ad.block ≠ G) := HNB.out
          have hq0 : (l.drop p).take q = [] := by
            rw [List.drop_eq_nil_of_le (by rw [← HN.out]; omega)]
            simp
          have HBP : Hid (Bts a ((l.drop p).take q) wr) := .inl hq0
          clear hq0
          by_cases hEE : E = 0
          · subst hEE
            have HF : Hid (Calls Tryd.prog 18 #[.pointer (some ⟨G, 0, none⟩), .slice a q 0] wr fun e w' => ∃ v', e = .returned (.tuple #[v', .int .i64 ((rdE [] (l.take (p + q)) : Nat) : Int)]) ∧ w'.ownsRow wr.heap.size 5 1 v' (rdL (rdT [] (l.take p)) ((l.drop p).take q)).length (cellsB (rdL (rdT [] (l.take p)) ((l.drop p).take q))) ∧ RdAt w' G (rdT [] (l.take (p + q))) (rdE [] (l.take (p + q))) ∧ But G wr w') := by
              obtain ⟨g1, g2, _⟩ := fed_go l p q HE.out.symm
              have hf := feed_any G (rdT [] (l.take p)) a ((l.drop p).take q) 0 q wr HR.out HQL.out.symm HBP.out (by rw [HQL.out]; omega) HNE.out
              rw [g1, g2] at hf
              exact hf
            obtain ⟨_, _, g3⟩ := fed_go l p q HE.out.symm
            have HG3 : Hid _ := g3
            have hE0 : (((0 : Nat) : Int) != 0) = false := rfl
            clear g3
            go_wp2_with fail
            refine Calls.mono HF.out ?_
            rintro e w2 ⟨v2, rfl, ho2, hr2, hb2⟩
            obtain ⟨E2, hE2⟩ : ∃ E2, E2 = rdE [] (l.take (p + q)) := ⟨_, rfl⟩
            rw [← hE2] at hr2 ⊢
            have HE2 : Hid (E2 = rdE [] (l.take (p + q))) := hE2
            have HR2 : Hid (RdAt w2 G (rdT [] (l.take (p + q))) E2) := hr2
            have HB2 : Hid (Below w.heap.size w w2) := HB.out.trans (hb2.below hGa HB.out.size)
            have HO2 : Hid (w2.ownsRow w.heap.size 5 1 u9 (decL (rdT [] (l.take p))).length (cellsB (decL (rdT [] (l.take p))))) := own_keep HO.out (fun j hj => hb2.block j (HO.out.lt j hj).2 (HR.out.apart HO.out j hj))
            obtain ⟨a2, c2, rfl, hbt2, hln2, hnn2, hcp2, _⟩ := own_bts ho2
            have hca2 : c2 ≤ 9223372036854775807 := own_cap ho2
            have HBT2 : Hid (Bts a2 (rdL (rdT [] (l.take p)) ((l.drop p).take q)) w2) := hbt2
            have HNN2 : Hid (a2 = none → c2 = 0) := hnn2
            have hsum : (decL (rdT [] (l.take p))).length + (rdL (rdT [] (l.take p)) ((l.drop p).take q)).length ≤ n := by
              have h1 := dec_rd_len (l.take (p + q))
              rw [HG3.out, List.length_append, List.length_take, ← HN.out] at h1
              omega
            have HSZ := Nat.le_trans (Nat.le_refl _) HB2.out.size
            obtain ⟨r, hrr⟩ : ∃ r, r = (rdL (rdT [] (l.take p)) ((l.drop p).take q)).length := ⟨_, rfl⟩
            rw [← hrr] at hsum hcp2 ⊢
            have HRR : Hid (r = (rdL (rdT [] (l.take p)) ((l.drop p).take q)).length) := hrr
            clear ho2 hr2 hb2 hbt2 hln2 hnn2 hE2 hrr HO HR HB HF
            go_wp2_with (at_builtin; refine wpList_append_keep rfl _ _ rfl w.heap.size _ _ _ rfl HO2.out a2 _ r c2 rfl HRR.out HBT2.out HNN2.out (by omega) HSZ ?_)
            intro v4 w4 ho4 hg4
            have HO4 : Hid (w4.ownsRow w.heap.size 5 1 v4 (decL (rdT [] (l.take (p + q)))).length (cellsB (decL (rdT [] (l.take (p + q)))))) := by
              show World.ownsRow _ _ _ _ _ _ _
              rw [HG3.out, List.length_append, ← HRR.out]
              exact ho4
            have HR4 : Hid (RdAt w4 G (rdT [] (l.take (p + q))) (rdE [] (l.take (p + q)))) := by
              rw [← HE2.out]
              exact HR2.out.of (hg4.block G HR2.out.lt (fun e => HR2.out.apart HO2.out G e.symm rfl))
            have HB4 : Hid (Below w.heap.size w w4) := HB2.out.grown hg4 HSZ (fun j hj => (HO2.out.lt j hj).1)
            clear ho4 hg4 HR2 HB2 HO2 HBT2
            go_wp2
            go_roundw
            case rel => exact ⟨p + q, k + 1, by omega, by omega, by omega, by go_num, by go_num, by rw [HE2.out], HR4, HO4, HB4⟩
            case measure => simp [intOf] <;> omega
          · obtain ⟨g1, g2⟩ := fed_stay l p q (by rw [← HE.out]; exact hEE)
            have HG : Hid (rdT [] (l.take (p + q)) = rdT [] (l.take p) ∧ rdE [] (l.take (p + q)) = rdE [] (l.take p)) := ⟨g1, g2⟩
            have hE1 : ((E : Int) != 0) = true := by simp; omega
            clear g1 g2
            go_wp2_with fail
            refine Calls.mono (feed_spoilt G _ E hEE _ wr HR.out) ?_
            rintro e w2 ⟨rfl, j2, rfl⟩
            have HR2 : Hid (RdAt (wr.drewN j2) G (rdT [] (l.take p)) E) := HR.out.of rfl
            have HB2 : Hid (Below w.heap.size w (wr.drewN j2)) := ⟨HB.out.os, HB.out.tape, HB.out.output, HB.out.size, HB.out.block⟩
            have HO2 : Hid ((wr.drewN j2).ownsRow w.heap.size 5 1 u9 (decL (rdT [] (l.take p))).length (cellsB (decL (rdT [] (l.take p))))) := own_keep HO.out (fun _ _ => rfl)
            have HSZ := Nat.le_trans (Nat.le_refl _) HB2.out.size
            clear HR HB HO
            generalize wr.drewN j2 = w2 at HR2 HB2 HO2 HSZ ⊢
            go_wp2_with (at_builtin; refine wpList_append_keep rfl _ _ rfl w.heap.size _ _ _ rfl HO2.out none [] 0 0 rfl rfl (.inl rfl) (fun _ => rfl) (by omega) HSZ ?_)
            intro v4 w4 ho4 hg4
            have HO4 : Hid (w4.ownsRow w.heap.size 5 1 v4 (decL (rdT [] (l.take (p + q)))).length (cellsB (decL (rdT [] (l.take (p + q)))))) := by
              show World.ownsRow _ _ _ _ _ _ _
              rw [HG.out.1]
              first
                | exact ho4
                | (rw [List.append_nil] at ho4; exact ho4)
            have HR4 : Hid (RdAt w4 G (rdT [] (l.take (p + q))) (rdE [] (l.take (p + q)))) := by
              rw [HG.out.1, HG.out.2, ← HE.out]
              exact HR2.out.of (hg4.block G HR2.out.lt (fun e => HR2.out.apart HO2.out G e.symm rfl))
            have HB4 : Hid (Below w.heap.size w w4) := HB2.out.grown hg4 HSZ (fun j hj => (HO2.out.lt j hj).1)
            clear ho4 hg4 HR2 HB2 HO2
            go_wp2
            go_roundw
            case rel => exact ⟨p + q, k + 1, by omega, by omega, by omega, by go_num, by go_num, by rw [HG.out.2, ← HE.out], HR4, HO4, HB4⟩
            case measure => simp [intOf] <;> omega
        · have HNE : Hid ((l.drop p).take q ≠ [] → ∀ ad, (a.map fun x => x.add p) = some ad → ad.block ≠ G) := fun hne ad ha => by
            cases a with
            | none => cases ha
            | some x =>
              injection ha with ha
              have h9 := HNB.out hne x rfl
              rw [← ha]
              obtain ⟨b9, o9, s9⟩ := x
              show (Addr.add ⟨b9, o9, s9⟩ p).block ≠ G
              unfold Addr.add
              split <;> exact h9
          have HBP : Hid (Bts (a.map fun x => x.add p) ((l.drop p).take q) wr) := (bts_map HBR.out p).take q
          by_cases hEE : E = 0
          · subst hEE
            have HF : Hid (Calls Tryd.prog 18 #[.pointer (some ⟨G, 0, none⟩), .slice (a.map fun x => x.add p) q (cap - p)] wr fun e w' => ∃ v', e = .returned (.tuple #[v', .int .i64 ((rdE [] (l.take (p + q)) : Nat) : Int)]) ∧ w'.ownsRow wr.heap.size 5 1 v' (rdL (rdT [] (l.take p)) ((l.drop p).take q)).length (cellsB (rdL (rdT [] (l.take p)) ((l.drop p).take q))) ∧ RdAt w' G (rdT [] (l.take (p + q))) (rdE [] (l.take (p + q))) ∧ But G wr w') := by
              obtain ⟨g1, g2, _⟩ := fed_go l p q HE.out.symm
              have hf := feed_any G (rdT [] (l.take p)) (a.map fun x => x.add p) ((l.drop p).take q) (cap - p) q wr HR.out HQL.out.symm HBP.out (by rw [HQL.out]; omega) HNE.out
              rw [g1, g2] at hf
              exact hf
            obtain ⟨_, _, g3⟩ := fed_go l p q HE.out.symm
            have HG3 : Hid _ := g3
            have hE0 : (((0 : Nat) : Int) != 0) = false := rfl
            clear g3
            go_wp2_with fail
            refine Calls.mono HF.out ?_
            rintro e w2 ⟨v2, rfl, ho2, hr2, hb2⟩
            obtain ⟨E2, hE2⟩ : ∃ E2, E2 = rdE [] (l.take (p + q)) := ⟨_, rfl⟩
            rw [← hE2] at hr2 ⊢
            have HE2 : Hid (E2 = rdE [] (l.take (p + q))) := hE2
            have HR2 : Hid (RdAt w2 G (rdT [] (l.take (p + q))) E2) := hr2
            have HB2 : Hid (Below w.heap.size w w2) := HB.out.trans (hb2.below hGa HB.out.size)
            have HO2 : Hid (w2.ownsRow w.heap.size 5 1 u9 (decL (rdT [] (l.take p))).length (cellsB (decL (rdT [] (l.take p))))) := own_keep HO.out (fun j hj => hb2.block j (HO.out.lt j hj).2 (HR.out.apart HO.out j hj))
            obtain ⟨a2, c2, rfl, hbt2, hln2, hnn2, hcp2, _⟩ := own_bts ho2
            have hca2 : c2 ≤ 9223372036854775807 := own_cap ho2
            have HBT2 : Hid (Bts a2 (rdL (rdT [] (l.take p)) ((l.drop p).take q)) w2) := hbt2
            have HNN2 : Hid (a2 = none → c2 = 0) := hnn2
            have hsum : (decL (rdT [] (l.take p))).length + (rdL (rdT [] (l.take p)) ((l.drop p).take q)).length ≤ n := by
              have h1 := dec_rd_len (l.take (p + q))
              rw [HG3.out, List.length_append, List.length_take, ← HN.out] at h1
              omega
            have HSZ := Nat.le_trans (Nat.le_refl _) HB2.out.size
            obtain ⟨r, hrr⟩ : ∃ r, r = (rdL (rdT [] (l.take p)) ((l.drop p).take q)).length := ⟨_, rfl⟩
            rw [← hrr] at hsum hcp2 ⊢
            have HRR : Hid (r = (rdL (rdT [] (l.take p)) ((l.drop p).take q)).length) := hrr
            clear ho2 hr2 hb2 hbt2 hln2 hnn2 hE2 hrr HO HR HB HF
            go_wp2_with (at_builtin; refine wpList_append_keep rfl _ _ rfl w.heap.size _ _ _ rfl HO2.out a2 _ r c2 rfl HRR.out HBT2.out HNN2.out (by omega) HSZ ?_)
            intro v4 w4 ho4 hg4
            have HO4 : Hid (w4.ownsRow w.heap.size 5 1 v4 (decL (rdT [] (l.take (p + q)))).length (cellsB (decL (rdT [] (l.take (p + q)))))) := by
              show World.ownsRow _ _ _ _ _ _ _
              rw [HG3.out, List.length_append, ← HRR.out]
              exact ho4
            have HR4 : Hid (RdAt w4 G (rdT [] (l.take (p + q))) (rdE [] (l.take (p + q)))) := by
              rw [← HE2.out]
              exact HR2.out.of (hg4.block G HR2.out.lt (fun e => HR2.out.apart HO2.out G e.symm rfl))
            have HB4 : Hid (Below w.heap.size w w4) := HB2.out.grown hg4 HSZ (fun j hj => (HO2.out.lt j hj).1)
            clear ho4 hg4 HR2 HB2 HO2 HBT2
            go_wp2
            go_roundw
            case rel => exact ⟨p + q, k + 1, by omega, by omega, by omega, by go_num, by go_num, by rw [HE2.out], HR4, HO4, HB4⟩
            case measure => simp [intOf] <;> omega
          · obtain ⟨g1, g2⟩ := fed_stay l p q (by rw [← HE.out]; exact hEE)
            have HG : Hid (rdT [] (l.take (p + q)) = rdT [] (l.take p) ∧ rdE [] (l.take (p + q)) = rdE [] (l.take p)) := ⟨g1, g2⟩
            have hE1 : ((E : Int) != 0) = true := by simp; omega
            clear g1 g2
            go_wp2_with fail
            refine Calls.mono (feed_spoilt G _ E hEE _ wr HR.out) ?_
            rintro e w2 ⟨rfl, j2, rfl⟩
            have HR2 : Hid (RdAt (wr.drewN j2) G (rdT [] (l.take p)) E) := HR.out.of rfl
            have HB2 : Hid (Below w.heap.size w (wr.drewN j2)) := ⟨HB.out.os, HB.out.tape, HB.out.output, HB.out.size, HB.out.block⟩
            have HO2 : Hid ((wr.drewN j2).ownsRow w.heap.size 5 1 u9 (decL (rdT [] (l.take p))).length (cellsB (decL (rdT [] (l.take p))))) := own_keep HO.out (fun _ _ => rfl)
            have HSZ := Nat.le_trans (Nat.le_refl _) HB2.out.size
            clear HR HB HO
            generalize wr.drewN j2 = w2 at HR2 HB2 HO2 HSZ ⊢
            go_wp2_with (at_builtin; refine wpList_append_keep rfl _ _ rfl w.heap.size _ _ _ rfl HO2.out none [] 0 0 rfl rfl (.inl rfl) (fun _ => rfl) (by omega) HSZ ?_)
            intro v4 w4 ho4 hg4
            have HO4 : Hid (w4.ownsRow w.heap.size 5 1 v4 (decL (rdT [] (l.take (p + q)))).length (cellsB (decL (rdT [] (l.take (p + q)))))) := by
              show World.ownsRow _ _ _ _ _ _ _
              rw [HG.out.1]
              first
                | exact ho4
                | (rw [List.append_nil] at ho4; exact ho4)
            have HR4 : Hid (RdAt w4 G (rdT [] (l.take (p + q))) (rdE [] (l.take (p + q)))) := by
              rw [HG.out.1, HG.out.2, ← HE.out]
              exact HR2.out.of (hg4.block G HR2.out.lt (fun e => HR2.out.apart HO2.out G e.symm rfl))
            have HB4 : Hid (Below w.heap.size w w4) := HB2.out.grown hg4 HSZ (fun j hj => (HO2.out.lt j hj).1)
            clear ho4 hg4 HR2 HB2 HO2
            go_wp2
            go_roundw
            case rel => exact ⟨p + q, k + 1, by omega, by omega, by omega, by go_num, by go_num, by rw [HG.out.2, ← HE.out], HR4, HO4, HB4⟩
            case measure => simp [intOf] <;> omega
    · obtain rfl : p = n := hkp (by omega)
      have hgt : ¬ (k : Int) ≤ (m : Int) := by omega
      have hta : l.take p = l := List.take_of_length_le (by rw [← HN.out]; omega)
      rw [hta] at HR HO ⊢
      clear hta
      go_wp2_with (go_at_call 25; refine Calls.mono (close_any G _ _ wr HR.out) ?_; rintro e w5 ⟨rfl, rfl⟩)
      refine bodyPost_ret (v := .tuple #[u9, .int .i64 (rdE [] l : Nat), .int .i64 (clE (rdT [] l) (rdE [] l) : Nat), .bool true]) (by simp [results, Tryd.results12, go_sem]) rfl ⟨_, rfl, HO.out, HB.out⟩
end Go.Proofs.YtenfopabdegmhabDoor
