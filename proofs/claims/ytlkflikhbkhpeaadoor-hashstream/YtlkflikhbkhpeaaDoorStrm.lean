/-
  The walk of the statement on three hashes in turns.
-/
import Derived.Test.YtlkflikhbkhpeaaDoorDoes
import Derived.Test.YtlkflikhbkhpeaaDoorScript
namespace Go.Proofs.YtlkflikhbkhpeaaDoor
open Go.RowKit

/-- Take number i first: its guard lets it. -/
theorem wpAnyH_tk {P : Program} {ops : Array Oper} {Q : Exit → Act → World → Prop} {md : Region.Mode} {S : World → Prop} {i : Nat} {oi : Oper} {d : Option Tmp} {v : Value} {fuel : Nat} {listed : Array Bool} {a : Act} {w : World} (hi : ops[i]? = some oi)
    (hs : Region.noSelect ops = true) (hf : Region.free md ops listed i = true) (hr : (Region.ready md ops listed).contains i = true)
    (hQ : ∀ c a w, Q (.panic c) (a.put d v) w → Q (.panic c) a w) (hd : oi.dst = d) (hg : Region.wanted oi (yielded ops a.tmps) = true) (hy : ∀ w', S w' → (execOp a.eval oi).run P w' = .ok (.value v) w') (hS : S w)
    (h : wpAnyH P md ops Q S fuel (listed.setIfInBounds i true) (a.put d v) w) : wpAnyH P md ops Q S (fuel + 1) listed a w := by
  subst hd
  exact wpAnyH_take hi hs hf hr hQ (.inl ⟨hg, hy⟩) hS h
/-- One alone may come up, and its guard lets it. -/
theorem wpAnyH_oneG {P : Program} {ops : Array Oper} {Q : Exit → Act → World → Prop} {md : Region.Mode} {S : World → Prop} {i : Nat} {o : Oper} {fuel : Nat} {listed : Array Bool} {a : Act} {w : World} (hr : Region.ready md ops listed = [i]) (hi : ops[i]? = some o) (hg : Region.wanted o (yielded ops a.tmps) = true)
    (h : o.wp P a w (fun a' w' => S w' ∧ wpAnyH P md ops Q S fuel (listed.setIfInBounds i true) a' w') Q) : wpAnyH P md ops Q S (fuel + 1) listed a w :=
  ⟨fun h0 => (by rw [h0] at hr; cases hr), fun j hj => by
    rw [hr, List.mem_singleton] at hj
    subst hj
    unfold wpOp
    simp only [hi, hg, if_true]
    exact .inl h⟩

set_option maxRecDepth 100000 in
set_option maxHeartbeats 4000000 in
theorem stream_walk (a : Option Addr) (st : List Cl) (cap : Nat) {w : World} (hst : Scr st a w) (sl : st.length ≤ 4000000000000) (ht : Tabs w) :
    Calls Tryd.prog 6 #[.slice a st.length cap] w fun e w' => e = .returned (.bool true) ∧ Below w.heap.size w w' := by
  have HST : Hid (Scr st a w) := hst
  have HT : Hid (Tabs w) := ht
  obtain ⟨K, hK⟩ : ∃ K, K = st.length := ⟨_, rfl⟩
  have hwr := written_any a st cap w hst sl
  rw [← hK] at hwr sl ⊢
  have HK : Hid (K = st.length) := hK
  obtain ⟨B, hB⟩ : ∃ B, B = decide (1073741824 < gsum (pcs st)) := ⟨_, rfl⟩
  rw [← hB] at hwr
  have HWR : Hid _ := hwr
  have HBB : Hid (B = decide (1073741824 < gsum (pcs st))) := hB
  clear hwr hst ht hK hB
  go_enter Tryd.func6, Tryd.ntmps6
  go_wp2_with fail
  refine Calls.mono HWR.out ?_
  rintro e w1 ⟨rfl, hb1⟩
  have HB1 : Hid (Below w.heap.size w w1) := hb1
  clear hb1 HWR
  cases B with
  | true =>
    go_wp2
    go_ret
    exact ⟨rfl, HB1.out⟩
  | false =>
    have HG : Hid (gsum (pcs st) ≤ 1073741824) := by
      have := HBB.out
      simp at this
      exact this
    clear HBB
    go_wp2_with fail
    refine (new_any w1).mono ?_
    rintro e w2 ⟨g0, rfl, hg0, hh0, hb2⟩
    have HS2 : Hid (Below w.heap.size w w2 ∧ HashAt w2 g0 [] ∧ w.heap.size ≤ g0 ∧ g0 < w2.heap.size) := ⟨HB1.out.trans (hb2.mono HB1.out.size), hh0, Nat.le_trans HB1.out.size hg0, hh0.lt⟩
    clear hg0 hh0 hb2
    go_wp2_with fail
    refine (new_any w2).mono ?_
    rintro e w3 ⟨g1, rfl, hg1, hh1, hb3⟩
    have HS3 : Hid (Below w.heap.size w w3 ∧ HashAt w3 g0 [] ∧ HashAt w3 g1 [] ∧ w.heap.size ≤ g0 ∧ g0 < g1 ∧ g1 < w3.heap.size) := ⟨HS2.out.1.trans (hb3.mono HS2.out.1.size), HS2.out.2.1.below hb3, hh1, HS2.out.2.2.1, Nat.lt_of_lt_of_le HS2.out.2.2.2 hg1, hh1.lt⟩
    clear hg1 hh1 hb3 HS2
    go_wp2_with fail
    refine (new_any w3).mono ?_
    rintro e w4 ⟨g2, rfl, hg2, hh2, hb4⟩
    have HS4 : Hid (Below w.heap.size w w4 ∧ HashAt w4 g0 [] ∧ HashAt w4 g1 [] ∧ HashAt w4 g2 [] ∧ w.heap.size ≤ g0 ∧ g0 < g1 ∧ g1 < g2 ∧ g2 < w4.heap.size) := ⟨HS3.out.1.trans (hb4.mono HS3.out.1.size), HS3.out.2.1.below hb4, HS3.out.2.2.1.below hb4, hh2, HS3.out.2.2.2.1, HS3.out.2.2.2.2.1, Nat.lt_of_lt_of_le HS3.out.2.2.2.2.2 hg2, hh2.lt⟩
    clear hg2 hh2 hb4 HS3
    have hz := zero_hash
    go_wp2_with fail
    clear hz
    obtain ⟨w7, hw7⟩ : ∃ w7, w7 = ((w4.alloc (.cells #[.pointer (some ⟨g0, 0, none⟩), .pointer (some ⟨g1, 0, none⟩), .pointer (some ⟨g2, 0, none⟩)] 36)).alloc (.cells zeroH 43)).alloc (.cells #[.slice none 0 0, .slice none 0 0, .slice none 0 0] 44) := ⟨_, rfl⟩
    rw [← hw7]
    have HSM : Hid (Sm w w7 w4.heap.size (w4.heap.size + 2) (w4.heap.size + 1) (fun i => match i with | 0 => g0 | 1 => g1 | _ => g2) (fun _ => []) (fun _ => []) (fun _ => .slice none 0 0)) := by
      obtain ⟨q1, q2, q3, q4, q5, q6, q7, q8⟩ := HS4.out
      have hb : Below w4.heap.size w4 w7 := by rw [hw7]; exact (((Below.refl _ _).alloc (Nat.le_refl _) _).alloc (by simp) _).alloc (by simp; omega) _
      have e := q1.size
      refine ⟨q1.trans (hb.mono q1.size), by rw [hw7]; exact ((Lies.new w4 _ _).alloc _).alloc _, by rw [hw7]; exact new_two w4 _ _ _ _, by rw [hw7]; exact (new_one w4 _ _ _).alloc _, fun i hi => ?_, fun i j hi hj hne => ?_, fun i hi => World.ownsRow_nil _ _ _ _, e, by omega, by omega, fun i hi => ?_⟩
      · match i, hi with
        | 0, _ => exact q2.below hb
        | 1, _ => exact q3.below hb
        | 2, _ => exact q4.below hb
      · match i, j, hi, hj with
        | 0, 0, _, _ | 1, 1, _, _ | 2, 2, _, _ => exact absurd rfl hne
        | 0, 1, _, _ => show g0 ≠ g1; omega
        | 0, 2, _, _ => show g0 ≠ g2; omega
        | 1, 0, _, _ => show g1 ≠ g0; omega
        | 1, 2, _, _ => show g1 ≠ g2; omega
        | 2, 0, _, _ => show g2 ≠ g0; omega
        | 2, 1, _, _ => show g2 ≠ g1; omega
      · match i, hi with
        | 0, _ => exact q5
        | 1, _ => show _ ≤ g1; omega
        | 2, _ => show _ ≤ g2; omega
    clear HS4 hw7
    generalize w4.heap.size = hb at HSM ⊢
    obtain ⟨gf, hgf⟩ : ∃ gf : Nat → Nat, gf = (fun i => match i with | 0 => g0 | 1 => g1 | _ => g2) := ⟨_, rfl⟩
    rw [← hgf] at HSM
    clear hgf
    go_loopw [32] (fun i wr => ∃ (k : Nat) (g : Nat → Nat) (T : Nat → List UInt8) (b : Nat → Value), k ≤ K ∧ i = .int .i64 k ∧ Hid (Sm w wr hb (hb + 2) (hb + 1) g T T b) ∧ Hid (∀ j, j < 3 → (T j).length ≤ gsum ((pcs st).take k))) (fun i _ => K - (intOf i).toNat)
    case atStart => exact ⟨0, gf, fun _ => [], fun _ => .slice none 0 0, by omega, rfl, HSM, fun _ _ => Nat.zero_le _⟩
    case round =>
      obtain ⟨k, g, T, b, hk, rfl, HS, HTL⟩ := hrel
      clear HSM
      by_cases hlt : k < K
      · have hkp : k < st.length := by rw [← HK.out]; exact hlt
        obtain ⟨gs, o, rfl, hg, hc0, hc1, hc2, hc3⟩ := HST.out.cell k hkp
        have HPB : Hid (Bts st[k].p.at_ st[k].p.bs w ∧ (st[k].p.at_ = none → st[k].p.cap = 0)) := ⟨HST.out.bts k hkp, HST.out.nn k hkp⟩
        have HGS : Hid (gsum ((pcs st).take (k + 1)) = gsum ((pcs st).take k) + (1 + st[k].p.bs.length)) := by
          show _ = _
          rw [gsum_snoc (pcs st) k (by rw [pcs_length]; exact hkp)]
          simp [pcs]
        have HGL : Hid (gsum ((pcs st).take (k + 1)) ≤ 1073741824) := Nat.le_trans (gsum_le _ _) HG.out
        obtain ⟨x, hx⟩ : ∃ x, x = st[k] := ⟨_, rfl⟩
        rw [← hx] at hc0 hc1 hc2 hc3 HPB HGS
        clear hx
        obtain ⟨kind, who, to, pa, pl, pc⟩ := x
        dsimp only at hc0 hc1 hc2 hc3 HPB HGS
        obtain ⟨n, hn⟩ : ∃ n, n = pl.length := ⟨_, rfl⟩
        rw [← hn] at hc3
        have HNN : Hid (n = pl.length) := hn
        clear hn
        have c0 := (HS.out.bel.cell (p := ⟨gs, o + k * 4, none⟩) hg).trans hc0
        have c1 := (HS.out.bel.cell (p := ⟨gs, o + k * 4 + 1, none⟩) hg).trans hc1
        have c2 := (HS.out.bel.cell (p := ⟨gs, o + k * 4 + 2, none⟩) hg).trans hc2
        have c3 := (HS.out.bel.cell (p := ⟨gs, o + k * 4 + 3, none⟩) hg).trans hc3
        clear hc0 hc1 hc2 hc3 hg
        have HS1 : Hid (Sm w (wr.alloc (.cells #[.int .i64 kind, .int .i64 who, .int .i64 to, .slice pa n pc] 46)) hb (hb + 2) (hb + 1) g T T b) := HS.out.below ((Below.refl _ _).alloc (Nat.le_refl _) _)
        by_cases hw : 0 ≤ who ∧ who ≤ 2
        · obtain ⟨q, hq⟩ : ∃ q : Nat, who = (q : Int) := ⟨who.toNat, by omega⟩
          subst hq
          have hq3 : q < 3 := by omega
          obtain ⟨hw1, hw2⟩ := hw
          go_wp2_with fail
          refine (does_any w _ hb (hb + 2) (hb + 1) g T b _ kind to q pa pl n pc (gsum ((pcs st).take k)) HS1.out hq3 rfl rfl rfl rfl HNN.out HPB.out.1 HPB.out.2 HT.out HTL.out (by have h1 := HGS.out; have h2 := HGL.out; omega)).mono ?_
          rintro e v2 ⟨rfl, g', T', b', hs', hl'⟩
          have HS' : Hid (Sm w v2 hb (hb + 2) (hb + 1) g' T' T' b') := hs'
          have HL' : Hid (∀ j, j < 3 → (T' j).length ≤ gsum ((pcs st).take (k + 1))) := fun j hj => Nat.le_trans (hl' j hj) (by have h1 := HGS.out; omega)
          clear hs' hl' HS HS1 HTL c0 c1 c2 c3
          go_wp2
          go_round
          case rel => exact ⟨k + 1, g', T', b', by omega, by go_num, HS', HL'⟩
          case measure => simp [intOf]; omega
        · have HL1 : Hid (∀ j, j < 3 → (T j).length ≤ gsum ((pcs st).take (k + 1))) := fun j hj => Nat.le_trans (HTL.out j hj) (by have h1 := HGS.out; omega)
          by_cases h3 : who = 3
          · subst h3
            go_wp2_with fail
            refine (nothing_any (.pointer (some ⟨hb + 1, 0, none⟩)) _ kind pa pl n pc _ rfl rfl HNN.out (.inr ⟨_, _, _, _, rfl, HS1.out.zero⟩) (HPB.out.1.below HS1.out.bel) (by have h1 := HGS.out; have h2 := HGL.out; omega)).mono ?_
            rintro e v2 ⟨rfl, hb2⟩
            have HS' : Hid (Sm w v2 hb (hb + 2) (hb + 1) g T T b) := HS1.out.below hb2
            clear hb2 HS HS1 HTL c0 c1 c2 c3
            go_wp2
            go_round
            case rel => exact ⟨k + 1, g, T, b, by omega, by go_num, HS', HL1⟩
            case measure => simp [intOf]; omega
          · have hout : who < 0 ∨ 3 < who := by omega
            rcases hout with hout | hout
            · go_wp2_with fail
              refine (nothing_any (.pointer none) _ kind pa pl n pc _ rfl rfl HNN.out (.inl rfl) (HPB.out.1.below HS1.out.bel) (by have h1 := HGS.out; have h2 := HGL.out; omega)).mono ?_
              rintro e v2 ⟨rfl, hb2⟩
              have HS' : Hid (Sm w v2 hb (hb + 2) (hb + 1) g T T b) := HS1.out.below hb2
              clear hb2 HS HS1 HTL c0 c1 c2 c3
              go_wp2
              go_round
              case rel => exact ⟨k + 1, g, T, b, by omega, by go_num, HS', HL1⟩
              case measure => simp [intOf]; omega
            · go_wp2_with fail
              refine (nothing_any (.pointer none) _ kind pa pl n pc _ rfl rfl HNN.out (.inl rfl) (HPB.out.1.below HS1.out.bel) (by have h1 := HGS.out; have h2 := HGL.out; omega)).mono ?_
              rintro e v2 ⟨rfl, hb2⟩
              have HS' : Hid (Sm w v2 hb (hb + 2) (hb + 1) g T T b) := HS1.out.below hb2
              clear hb2 HS HS1 HTL c0 c1 c2 c3
              go_wp2
              go_round
              case rel => exact ⟨k + 1, g, T, b, by omega, by go_num, HS', HL1⟩
              case measure => simp [intOf]; omega
      · have HTB : Hid (∀ j, j < 3 → (T j).length ≤ 1073741824) := fun j hj => Nat.le_trans (HTL.out j hj) (Nat.le_trans (gsum_le _ _) HG.out)
        clear HTL
        go_wp2_with fail
        go_loopw [10] (fun i wq => ∃ (m : Nat), m ≤ 3 ∧ i = .int .i64 m ∧ Hid (Sm w wq hb (hb + 2) (hb + 1) g T T b)) (fun i _ => 3 - (intOf i).toNat)
        case atStart => exact ⟨0, by omega, rfl, HS⟩
        case round =>
          obtain ⟨m, hm, rfl, HQ⟩ := hrel
          clear HS
          by_cases hm3 : m < 3
          · obtain ⟨a1, c1, hbi, hbt1, hlen1, hn1, hc1, hlt1⟩ := own_bts (HQ.out.own m hm3)
            obtain ⟨N1, hN1⟩ : ∃ N1, N1 = (T m).length := ⟨_, rfl⟩
            rw [← hN1] at hbi
            have HN1L : Hid (N1 = (T m).length) := hN1
            have HN1 : Hid (a1 = none → c1 = 0) := hn1
            have hN1b : N1 ≤ 1073741824 := by rw [hN1]; exact HTB.out m hm3
            have HBT1 : Hid (Bts a1 (T m) wr) := hbt1
            obtain ⟨gi, hgi⟩ : ∃ gi, gi = g m := ⟨_, rfl⟩
            have HGI : Hid (gi = g m) := hgi
            have mI : (m : Int) < 3 := by omega
            have HSS : Hid (∀ w', Sm w w' hb (hb + 2) (hb + 1) g T T b → At (fun w' => w'.cell? ⟨hb, m, none⟩ = some (.pointer (some ⟨gi, 0, none⟩)) ∧ w'.cell? ⟨hb + 2, m, none⟩ = some (.slice a1 N1 c1)) w') := fun w' hs => ⟨by rw [hgi]; exact (hs.here.cell m).trans (hereA_at g m hm3), by rw [← hbi]; exact (hs.all.cell m).trans (allA_at b m hm3)⟩
            clear hbi hbt1 hlen1 hn1 hc1 hlt1 hN1 hgi
            go_wp2_with fail
            refine wp_region_held_drew (S := At (fun w' => w'.cell? ⟨hb, m, none⟩ = some (.pointer (some ⟨gi, 0, none⟩)) ∧ w'.cell? ⟨hb + 2, m, none⟩ = some (.slice a1 N1 c1))) (by kernel_rfl) (HSS.out _ (HQ.out.same rfl rfl rfl rfl)) (fun hHeld => ?_)
            refine wpAnyH_tk (i := 0) (d := some 60) (v := ?_) rfl (by kernel_rfl) (by kernel_rfl) (by kernel_rfl) (fun _ _ _ h => h) rfl rfl ?hy (by assumption) ?_
            case hy => (intro w' hSw; unfold At at hSw; (try dsimp only at hSw); go_simp <;> (try with_reducible rfl))
            simp only [Act.put, List.setIfInBounds_toArray, List.set_cons_zero, List.set_cons_succ]
            refine wpAnyH_tk (i := 1) (d := some 61) (v := ?_) rfl (by kernel_rfl) (by kernel_rfl) (by kernel_rfl) (fun _ _ _ h => h) rfl rfl ?hy (by assumption) ?_
            case hy => (intro w' hSw; unfold At at hSw; (try dsimp only at hSw); go_simp <;> (try with_reducible rfl))
            simp only [Act.put, List.setIfInBounds_toArray, List.set_cons_zero, List.set_cons_succ]
            refine wpAnyH_tk (i := 2) (d := some 62) (v := ?_) rfl (by kernel_rfl) (by kernel_rfl) (by kernel_rfl) (fun _ _ _ h => h) rfl rfl ?hy (by assumption) ?_
            case hy => (intro w' hSw; unfold At at hSw; (try dsimp only at hSw); go_simp <;> (try with_reducible rfl))
            simp only [Act.put, List.setIfInBounds_toArray, List.set_cons_zero, List.set_cons_succ]
            refine wpAnyH_tk (i := 4) (d := some 64) (v := ?_) rfl (by kernel_rfl) (by kernel_rfl) (by kernel_rfl) (fun _ _ _ h => h) rfl rfl ?hy (by assumption) ?_
            case hy => (intro w' hSw; unfold At at hSw; (try dsimp only at hSw); go_simp <;> (try with_reducible rfl))
            simp only [Act.put, List.setIfInBounds_toArray, List.set_cons_zero, List.set_cons_succ]
            refine wpAnyH_tk (i := 5) (d := some 65) (v := ?_) rfl (by kernel_rfl) (by kernel_rfl) (by kernel_rfl) (fun _ _ _ h => h) rfl rfl ?hy (by assumption) ?_
            case hy => (intro w' hSw; unfold At at hSw; (try dsimp only at hSw); go_simp <;> (try with_reducible rfl))
            simp only [Act.put, List.setIfInBounds_toArray, List.set_cons_zero, List.set_cons_succ]
            refine wpAnyH_tk (i := 6) (d := some 66) (v := ?_) rfl (by kernel_rfl) (by kernel_rfl) (by kernel_rfl) (fun _ _ _ h => h) rfl rfl ?hy (by assumption) ?_
            case hy => (intro w' hSw; unfold At at hSw; (try dsimp only at hSw); go_simp <;> (try with_reducible rfl))
            simp only [Act.put, List.setIfInBounds_toArray, List.set_cons_zero, List.set_cons_succ]
            refine wpAnyH_oneG (i := 3) (by kernel_rfl) rfl rfl ?_
            go_simp
            refine (sum_any gi (T m) wr.drew (by rw [HGI.out]; exact (HQ.out.same rfl rfl rfl rfl : Sm w wr.drew hb (hb + 2) (hb + 1) g T T b).hash m hm3) (HT.out.below (HQ.out.same rfl rfl rfl rfl : Sm w wr.drew hb (hb + 2) (hb + 1) g T T b).bel) (by rw [← HN1L.out]; omega)).mono ?_
            rintro e v2 ⟨rfl, hb0⟩
            have hb2 : Below wr.heap.size wr v2 := ⟨hb0.os, hb0.tape, hb0.output, hb0.size, hb0.block⟩
            have HQ2 : Hid (Sm w v2 hb (hb + 2) (hb + 1) g T T b) := HQ.out.below hb2
            have HBT2 : Hid (Bts a1 (T m) v2) := HBT1.out.below hb2
            clear hb0 hb2 hHeld HQ HBT1
            refine ⟨HSS.out _ HQ2.out, ?_⟩
            refine wpAnyH_oneG (i := 7) (by kernel_rfl) rfl rfl ?_
            go_simp
            have hmd := rmd5_any a1 (T m) c1 v2 HBT2.out HN1.out (by rw [← HN1L.out]; omega)
            rw [← HN1L.out] at hmd
            refine hmd.mono ?_
            clear hmd
            rintro e v3 ⟨rfl, hb3⟩
            have HQ3 : Hid (Sm w v3 hb (hb + 2) (hb + 1) g T T b) := HQ2.out.below hb3
            clear hb3 HQ2 HBT2
            have hH3 := HSS.out _ HQ3.out
            refine ⟨hH3, ?_⟩
            have hneq := neq_row (md5 (T m)) (md5_length _)
            refine wpAnyH_oneG (i := 8) (by kernel_rfl) rfl rfl ?_
            go_simp
            refine wpAnyH_oneG (i := 9) (by kernel_rfl) rfl rfl ?_
            go_simp
            clear hneq
            refine wpAnyH_tk (i := 10) (d := some 70) (v := ?_) rfl (by kernel_rfl) (by kernel_rfl) (by kernel_rfl) (fun _ _ _ h => h) rfl rfl ?hy (by assumption) ?_
            case hy => (intro w' hSw; unfold At at hSw; (try dsimp only at hSw); go_simp <;> (try with_reducible rfl))
            simp only [Act.put, List.setIfInBounds_toArray, List.set_cons_zero, List.set_cons_succ]
            refine wpAnyH_tk (i := 11) (d := some 71) (v := ?_) rfl (by kernel_rfl) (by kernel_rfl) (by kernel_rfl) (fun _ _ _ h => h) rfl rfl ?hy (by assumption) ?_
            case hy => (intro w' hSw; unfold At at hSw; (try dsimp only at hSw); go_simp <;> (try with_reducible rfl))
            simp only [Act.put, List.setIfInBounds_toArray, List.set_cons_zero, List.set_cons_succ]
            refine wpAnyH_tk (i := 12) (d := some 72) (v := ?_) rfl (by kernel_rfl) (by kernel_rfl) (by kernel_rfl) (fun _ _ _ h => h) rfl rfl ?hy (by assumption) ?_
            case hy => (intro w' hSw; unfold At at hSw; (try dsimp only at hSw); go_simp <;> (try with_reducible rfl))
            simp only [Act.put, List.setIfInBounds_toArray, List.set_cons_zero, List.set_cons_succ]
            refine wpAnyH_tk (i := 14) (d := some 74) (v := ?_) rfl (by kernel_rfl) (by kernel_rfl) (by kernel_rfl) (fun _ _ _ h => h) rfl rfl ?hy (by assumption) ?_
            case hy => (intro w' hSw; unfold At at hSw; (try dsimp only at hSw); go_simp <;> (try with_reducible rfl))
            simp only [Act.put, List.setIfInBounds_toArray, List.set_cons_zero, List.set_cons_succ]
            refine wpAnyH_tk (i := 15) (d := some 75) (v := ?_) rfl (by kernel_rfl) (by kernel_rfl) (by kernel_rfl) (fun _ _ _ h => h) rfl rfl ?hy (by assumption) ?_
            case hy => (intro w' hSw; unfold At at hSw; (try dsimp only at hSw); go_simp <;> (try with_reducible rfl))
            simp only [Act.put, List.setIfInBounds_toArray, List.set_cons_zero, List.set_cons_succ]
            refine wpAnyH_tk (i := 16) (d := some 76) (v := ?_) rfl (by kernel_rfl) (by kernel_rfl) (by kernel_rfl) (fun _ _ _ h => h) rfl rfl ?hy (by assumption) ?_
            case hy => (intro w' hSw; unfold At at hSw; (try dsimp only at hSw); go_simp <;> (try with_reducible rfl))
            simp only [Act.put, List.setIfInBounds_toArray, List.set_cons_zero, List.set_cons_succ]
            refine wpAnyH_tk (i := 17) (d := some 77) (v := ?_) rfl (by kernel_rfl) (by kernel_rfl) (by kernel_rfl) (fun _ _ _ h => h) rfl rfl ?hy (by assumption) ?_
            case hy => (intro w' hSw; unfold At at hSw; (try dsimp only at hSw); go_simp <;> (try with_reducible rfl))
            simp only [Act.put, List.setIfInBounds_toArray, List.set_cons_zero, List.set_cons_succ]
            refine wpAnyH_oneG (i := 13) (by kernel_rfl) rfl rfl ?_
            go_simp
            have hlen := len_any gi (T m) v3 (by rw [HGI.out]; exact HQ3.out.hash m hm3)
            rw [← HN1L.out] at hlen
            refine hlen.mono ?_
            clear hlen
            rintro e v4 ⟨rfl, hw4⟩
            rw [hw4]
            clear hw4
            refine ⟨hH3, ?_⟩
            refine wpAnyH_oneG (i := 18) (by kernel_rfl) rfl rfl ?_
            go_simp
            refine wpAnyH_oneG (i := 19) (by kernel_rfl) rfl rfl ?_
            go_simp
            refine wpAnyH_done (by kernel_rfl) ?_ _
            clear hH3 HSS
            go_wp2
            go_round
            case rel => exact ⟨m + 1, by omega, by go_num, HQ3⟩
            case measure => simp [intOf]; omega
          · go_wp2
            go_ret
            exact ⟨rfl, HQ.out.bel⟩
end Go.Proofs.YtlkflikhbkhpeaaDoor
