/-
  The document's Feed.
-/
import Derived.Test.YtenfopabdegmhaaRRd4
import Derived.Deep.AppendLies
import Derived.BigRegion
namespace Go.Proofs.Ytenfopabdegmhaa
open Go.RowKit

/-- What is told so far. -/
theorem rd_told (t b : List UInt8) : decL (rdT t b) = decL t ++ rdL t b := by
  have e : rdT t b = t.take (t.length / 4 * 4) ++ heldG t b := by
    unfold rdT heldG tailG
    rw [← List.append_assoc, List.take_append_drop]
  have hK : (t.take (t.length / 4 * 4)).length = 4 * (t.length / 4) := by rw [List.length_take]; omega
  rw [e, decL_append _ _ _ hK, decL_take, rdL_held]
theorem grp_of (s : ByteArray) (l : List UInt8) (hs : s.data.toList = l) (h4 : l.length = 4) : ∃ h : s.size = 4, grp (s[0]'(by omega)) (s[1]'(by omega)) (s[2]'(by omega)) (s[3]'(by omega)) = decL l := by
  have h : s.size = 4 := by rw [← len_list, hs]; exact h4
  refine ⟨h, ?_⟩
  match l, h4 with
  | [a, b, c, d], _ =>
    have e0 : s[0]'(by omega) = a := by have : s.data.toList[0]'(by rw [len_list]; omega) = a := by simp only [hs]; rfl
                                        exact this
    have e1 : s[1]'(by omega) = b := by have : s.data.toList[1]'(by rw [len_list]; omega) = b := by simp only [hs]; rfl
                                        exact this
    have e2 : s[2]'(by omega) = c := by have : s.data.toList[2]'(by rw [len_list]; omega) = c := by simp only [hs]; rfl
                                        exact this
    have e3 : s[3]'(by omega) = d := by have : s.data.toList[3]'(by rw [len_list]; omega) = d := by simp only [hs]; rfl
                                        exact this
    rw [e0, e1, e2, e3]
    simp [decL]
/-- A group, by its text. -/
theorem group_text (s : ByteArray) (l : List UInt8) (hs : s.data.toList = l) (h4 : l.length = 4) (w : World) : Calls Try.prog 23 #[.string s] w fun e w' => ∃ b, e = .returned (.slice (some ⟨b, 0, none⟩) (decL l).length 3) ∧ w.heap.size ≤ b ∧ Bts (some ⟨b, 0, none⟩) (decL l) w' ∧ (decL l).length ≤ 3 ∧ 0 < (decL l).length ∧ Below w.heap.size w w' := by
  obtain ⟨h, e⟩ := grp_of s l hs h4
  refine (group_any s h w).mono ?_
  rintro r w' ⟨b, rfl, h1, h2, h3⟩
  have hl := grp_len (s[0]'(by omega)) (s[1]'(by omega)) (s[2]'(by omega)) (s[3]'(by omega))
  rw [e] at h2 hl ⊢
  exact ⟨b, rfl, h1, h2, hl.2, hl.1, h3⟩
theorem bts_from {g o : Nat} {l : List UInt8} {w : World} (h : Bts (some ⟨g, o, none⟩) l w) (k : Nat) : Bts (some ⟨g, o + k, none⟩) (l.drop k) w := by
  rcases h with rfl | ⟨g', o', e, hg, hr⟩
  · exact .inl (by simp)
  · injection e with e
    injection e with e1 e2
    subst e1 e2
    exact .inr ⟨g, o + k, rfl, hg, fun j hj => by
      rw [List.length_drop] at hj
      rw [Nat.add_assoc, hr (k + j) (by omega), List.getElem_drop]⟩
/-- Two cells. -/
structure Two (w : World) (p q : Addr) (x y : Value) : Prop where
  e0 : w.cell? p = some x
  e1 : w.cell? q = some y

set_option maxHeartbeats 8000000 in
set_option maxRecDepth 100000 in
theorem rrfeed_any (B g : Nat) (t : List UInt8) (v : Value) (a : Option Addr) (b : List UInt8) (cap n : Nat) (w : World) (hr : RrAt w B g t 0 v) (hB : B ≤ w.heap.size) (hn : n = b.length) (hb : Bts a b w) (hab : b ≠ [] → ∀ ad, a = some ad → ad.block < B) (hgB : B ≤ g) (hl : t.length + b.length ≤ 140737488355200) :
    Calls Try.prog 19 #[.pointer (some ⟨g, 0, none⟩), .slice a n cap] w fun e w' => ∃ vo v', e = .returned (.tuple #[vo, .int .i64 (rdE t b : Nat)]) ∧ w'.ownsRow w.heap.size 5 1 vo (rdL t b).length (cellsB (rdL t b)) ∧ RrAt w' B g (rdT t b) (rdE t b) v' ∧
      (∀ k, v'.ownBlock = some k → v.ownBlock = some k ∨ w.heap.size ≤ k) ∧ Ap vo v' ∧ But2 g v.ownBlock w w' := by
  obtain ⟨i0, hi, hz0, hz1, hz2⟩ := info_parts info5
  obtain ⟨hok, hown⟩ := hr.own rfl
  have HL0 : Hid (Lies w g #[v, .int .i64 0] 69) := hr.lies
  have HO0 : Hid (w.ownsRow B 5 1 v t.length (cellsB t)) := hown
  have HBK : Hid (∀ k, v.ownBlock = some k → B ≤ k ∧ k < w.heap.size) := hr.blk
  have HOK : Hid (okN 0 t = t.length) := hok
  have HBT : Hid (Bts a b w) := hb
  have HN : Hid (n = b.length) := hn
  have HAB : Hid (b ≠ [] → ∀ ad, a = some ad → ad.block < B) := hab
  have c1 : w.cell? ⟨g, 1, none⟩ = some (.int .i64 0) := hr.lies.cell 1
  rw [← hn] at hl
  clear hok hown hb hn hab hr
  go_enter Try.func19, Try.ntmps19
  go_wp2_with fail
  clear c1
  go_loopw [6, 7] (fun vo i wr => ∃ (k : Nat) (v1 : Value) (X : List UInt8), k ≤ n ∧ i = .int .i64 k ∧ Hid (okN (stD 0 t) (noCr (b.take k)) = (noCr (b.take k)).length) ∧ Hid (decL t ++ X = decL (t ++ noCr (b.take k))) ∧ Hid (wr.ownsRow w.heap.size 5 1 vo X.length (cellsB X)) ∧ Hid (Lies wr g #[v1, .int .i64 0] 69) ∧ Hid (wr.ownsRow B 5 1 v1 (t ++ noCr (b.take k)).length (cellsB (t ++ noCr (b.take k)))) ∧ Hid (∀ q, v1.ownBlock = some q → v.ownBlock = some q ∨ w.heap.size ≤ q) ∧ Hid (Ap vo v1) ∧ Hid (But2 g v.ownBlock w wr)) (fun _ i _ => n - (intOf i).toNat)
  case atStart =>
    refine ⟨0, v, [], by omega, rfl, rfl, ?_, own_nil _ _, HL0, ?_, fun q hq => .inl hq, Ap.none _ _ _, But2.refl _ _ _⟩
    · show _ = _
      simp [noCr]
    · show World.ownsRow _ _ _ _ _ _ _
      rw [List.take_zero, show noCr [] = [] from rfl, List.append_nil]
      exact HO0.out
  case round =>
    clear HL0 HO0
    obtain ⟨k, v1, X, hk, rfl, HKO, HX, HO, HLi, HV, HVB, HAP, HBu⟩ := hrel
    have hsz := HBu.out.size
    by_cases hlt : k < n
    · have hkb : k < b.length := by rw [← HN.out]; exact hlt
      have hnn : b ≠ [] := fun e => by rw [e] at hkb; simp at hkb
      have hbw : Bts a b wr := HBu.out.bts HBT.out (fun h ad e => by
        have h1 := HAB.out h ad e
        exact ⟨by omega, fun e2 => by have := (HBK.out _ e2.symm).1; omega⟩)
      obtain ⟨ga, oa, rfl, hga, hca⟩ := hbw.cell k hkb
      have hgaB : ga < B := HAB.out hnn _ rfl
      have hnl : (noCr (b.take k)).length ≤ k := by
        have := noCr_le (b.take k)
        rw [List.length_take] at this
        omega
      obtain ⟨c, hc⟩ : ∃ c, c = b[k] := ⟨_, rfl⟩
      rw [← hc] at hca
      by_cases hcr : b[k] = 13 ∨ b[k] = 10
      · have HS : Hid (noCr (b.take (k + 1)) = noCr (b.take k)) := rd_same b k hkb hcr
        have hcr' : ((c.toNat : Int) == 13) = true ∨ (((c.toNat : Int) == 13) = false ∧ ((c.toNat : Int) == 10) = true) := by
          rw [← hc] at hcr
          rcases hcr with h | h
          · left; rw [h]; rfl
          · right; rw [h]; exact ⟨rfl, rfl⟩
        have HR : Hid (okN (stD 0 t) (noCr (b.take (k + 1))) = (noCr (b.take (k + 1))).length ∧ decL t ++ X = decL (t ++ noCr (b.take (k + 1))) ∧ wr.ownsRow B 5 1 v1 (t ++ noCr (b.take (k + 1))).length (cellsB (t ++ noCr (b.take (k + 1))))) := by
          show _ ∧ _ ∧ _
          rw [HS.out]
          exact ⟨HKO.out, HX.out, HV.out⟩
        clear hcr HKO HX HV HS hc hbw
        rcases hcr' with h1 | ⟨h1, h2⟩
        all_goals
          go_wp2
          go_roundw
          case rel => exact ⟨k + 1, v1, X, by omega, by go_num, HR.out.1, HR.out.2.1, HO, HLi, HR.out.2.2, HVB, HAP, HBu⟩
          case measure => simp [intOf] <;> omega
      · have hx13 : ((c.toNat : Int) == 13) = false := by
          simp
          intro h
          exact hcr (.inl (by rw [← hc]; exact UInt8.toNat_inj.1 (by simpa using (by omega : c.toNat = 13))))
        have hx10 : ((c.toNat : Int) == 10) = false := by
          simp
          intro h
          exact hcr (.inr (by rw [← hc]; exact UInt8.toNat_inj.1 (by simpa using (by omega : c.toNat = 10))))
        obtain ⟨Y, hY⟩ : ∃ Y, Y = t ++ noCr (b.take k) := ⟨_, rfl⟩
        have HY : Hid (Y = t ++ noCr (b.take k)) := hY
        have hyl : Y.length ≤ 140737488355199 := by rw [hY, List.length_append]; omega
        rw [← hY] at HV HX
        have HYO : Hid (okN 0 Y = Y.length) := by
          show _ = _
          rw [hY, okN_append _ _ _ HOK.out, HKO.out, List.length_append]
        have HC : Hid (c = b[k]) := hc
        have HCR : Hid (¬ (b[k] = 13 ∨ b[k] = 10)) := hcr
        clear hbw hY hc hcr hnn
        have hcell : wr.cell? ⟨g, 0, none⟩ = some v1 := HLi.out.cell 0
        have hg5 : ∀ q, v1.ownBlock = some q → q ≠ g := own_apart HV.out HLi.out (by decide)
        have hgw : g < wr.heap.size := HLi.out.lt
        go_wp2_with fail
        refine wp_region_late (fun w' => Two w' ⟨g, 0, none⟩ ⟨ga, oa + k, none⟩ v1 (.int .u8 (c.toNat : Int))) 10 (by kernel_rfl) ⟨hcell, hca⟩ (fun hHeld => ?_)
        refine wpAnyE_take (i := 0) (d := some 40) (v := ?_) rfl (by kernel_rfl) (by kernel_rfl) (by kernel_rfl) (by kernel_rfl) (fun _ _ _ h => h) rfl rfl ?hy (by assumption) ?_
        case hy => (intro w' hSw; have e0 := hSw.e0; have e1 := hSw.e1; clear hSw; go_simp <;> (try with_reducible rfl))
        simp only [Act.put, List.setIfInBounds_toArray, List.set_cons_zero, List.set_cons_succ]
        refine wpAnyE_take (i := 1) (d := some 41) (v := ?_) rfl (by kernel_rfl) (by kernel_rfl) (by kernel_rfl) (by kernel_rfl) (fun _ _ _ h => h) rfl rfl ?hy (by assumption) ?_
        case hy => (intro w' hSw; have e0 := hSw.e0; have e1 := hSw.e1; clear hSw; go_simp <;> (try with_reducible rfl))
        simp only [Act.put, List.setIfInBounds_toArray, List.set_cons_zero, List.set_cons_succ]
        refine wpAnyE_take (i := 2) (d := some 42) (v := ?_) rfl (by kernel_rfl) (by kernel_rfl) (by kernel_rfl) (by kernel_rfl) (fun _ _ _ h => h) rfl rfl ?hy (by assumption) ?_
        case hy => (intro w' hSw; have e0 := hSw.e0; have e1 := hSw.e1; clear hSw; go_simp <;> (try with_reducible rfl))
        simp only [Act.put, List.setIfInBounds_toArray, List.set_cons_zero, List.set_cons_succ]
        refine wpAnyE_take (i := 3) (d := some 43) (v := ?_) rfl (by kernel_rfl) (by kernel_rfl) (by kernel_rfl) (by kernel_rfl) (fun _ _ _ h => h) rfl rfl ?hy (by assumption) ?_
        case hy => (intro w' hSw; have e0 := hSw.e0; have e1 := hSw.e1; clear hSw; go_simp <;> (try with_reducible rfl))
        simp only [Act.put, List.setIfInBounds_toArray, List.set_cons_zero, List.set_cons_succ]
        refine wpAnyE_take (i := 4) (d := some 44) (v := ?_) rfl (by kernel_rfl) (by kernel_rfl) (by kernel_rfl) (by kernel_rfl) (fun _ _ _ h => h) rfl rfl ?hy (by assumption) ?_
        case hy => (intro w' hSw; have e0 := hSw.e0; have e1 := hSw.e1; clear hSw; go_simp <;> (try with_reducible rfl))
        simp only [Act.put, List.setIfInBounds_toArray, List.set_cons_zero, List.set_cons_succ]
        refine wpAnyE_take (i := 5) (d := some 45) (v := ?_) rfl (by kernel_rfl) (by kernel_rfl) (by kernel_rfl) (by kernel_rfl) (fun _ _ _ h => h) rfl rfl ?hy (by assumption) ?_
        case hy => (intro w' hSw; have e0 := hSw.e0; have e1 := hSw.e1; clear hSw; go_simp <;> (try with_reducible rfl))
        simp only [Act.put, List.setIfInBounds_toArray, List.set_cons_zero, List.set_cons_succ]
        refine wpAnyE_take (i := 6) (d := some 46) (v := ?_) rfl (by kernel_rfl) (by kernel_rfl) (by kernel_rfl) (by kernel_rfl) (fun _ _ _ h => h) rfl rfl ?hy (by assumption) ?_
        case hy => (intro w' hSw; have e0 := hSw.e0; have e1 := hSw.e1; clear hSw; go_simp <;> (try with_reducible rfl))
        simp only [Act.put, List.setIfInBounds_toArray, List.set_cons_zero, List.set_cons_succ]
        refine wpAnyE_take (i := 7) (d := some 47) (v := ?_) rfl (by kernel_rfl) (by kernel_rfl) (by kernel_rfl) (by kernel_rfl) (fun _ _ _ h => h) rfl rfl ?hy (by assumption) ?_
        case hy => (intro w' hSw; have e0 := hSw.e0; have e1 := hSw.e1; clear hSw; go_simp <;> (try with_reducible rfl))
        simp only [Act.put, List.setIfInBounds_toArray, List.set_cons_zero, List.set_cons_succ]
        refine wpAnyE_one (i := 8) (by kernel_rfl) rfl rfl ?_
        go_simp
        have hca1 : (wr.alloc (.cells #[.int .u8 (c.toNat : Int)] 5)).drew.cell? ⟨ga, oa + k, none⟩ = some (.int .u8 (c.toNat : Int)) := (((Below.refl _ wr).alloc (Nat.le_refl _) _).drew.cell (p := ⟨ga, oa + k, none⟩) hga).trans hca
        have hce1 : (wr.alloc (.cells #[.int .u8 (c.toNat : Int)] 5)).drew.cell? ⟨g, 0, none⟩ = some v1 := (((Below.refl _ wr).alloc (Nat.le_refl _) _).drew.cell (p := ⟨g, 0, none⟩) hgw).trans hcell
        refine ⟨⟨hce1, hca1⟩, ?_⟩
        refine wpAnyE_one (i := 9) (by kernel_rfl) rfl rfl ?_
        refine wp_append_lies _ _ _ 22 rfl B 5 i0 (.int .u8 0) 1 1 Try.underlying22 hi hz0 hz1 hz2 rfl (by decide) _ Y.length _ rfl ((HV.out.alloc _).drew) ⟨wr.heap.size, 0, none⟩ 1 1 (cellsB [c]) rfl (by simp [cellsB]) ?n1 (cellsB_one _) (by decide) (by unfold maxLen; omega) (by omega) (by have := HBu.out.size; simp; omega) _ rfl ?_
        case n1 =>
          intro j u hj
          match j, hj with
          | 0, hj => simp [cellsB] at hj; subst hj; simp [Addr.add]
        intro gg cc w3 hown3 hgrow3 hat3 hlt3
        have HV3 : Hid (w3.ownsRow B 5 1 (.slice (some ⟨gg, 0, none⟩) (Y.length + 1) cc) (Y.length + 1) (cellsB (Y ++ [c]))) := by
          show World.ownsRow _ _ _ _ _ _ _
          rw [cellsB_append]
          exact hown3
        have hne0 : ∀ q, q < wr.heap.size → some q ≠ v1.ownBlock → w3.heap[q]? = wr.heap[q]? := fun q hq hne => (hgrow3.block q (by simp; omega) hne).trans (((Below.refl _ wr).alloc (Nat.le_refl _) _).block q hq)
        have HL3 : Hid (Lies w3 g #[v1, .int .i64 0] 69) := (hne0 g hgw (fun e => hg5 g e.symm rfl)).trans HLi.out
        have HO3 : Hid (w3.ownsRow w.heap.size 5 1 u6 X.length (cellsB X)) := own_keep HO.out (fun q hq => hne0 q (HO.out.lt q hq).2 (fun e => HAP.out q hq e.symm))
        have HBu3 : Hid (But2 g v.ownBlock w w3) := (HBu.out.below ((Below.refl _ wr).alloc (Nat.le_refl _) _).drew).grown hgrow3 HVB.out
        have hgg : v1.ownBlock = some gg ∨ gg = wr.heap.size + 1 := by
          rcases hat3 with h | h
          · exact .inl h
          · refine .inr ?_
            rw [h]
            simp
        have HVB3 : Hid (∀ q, (Value.slice (some ⟨gg, 0, none⟩) (Y.length + 1) cc).ownBlock = some q → v.ownBlock = some q ∨ w.heap.size ≤ q) := fun q hq => by
          have hq' : gg = q := by injection hq
          subst hq'
          rcases hgg with h | h
          · exact HVB.out _ h
          · exact .inr (by omega)
        have HAP3 : Hid (Ap u6 (.slice (some ⟨gg, 0, none⟩) (Y.length + 1) cc)) := fun q hq e => by
          have hq' : gg = q := by injection e
          subst hq'
          rcases hgg with h | h
          · exact HAP.out _ hq h
          · have := (HO.out.lt _ hq).2
            omega
        have hca3 : w3.cell? ⟨ga, oa + k, none⟩ = some (.int .u8 (c.toNat : Int)) := (World.cell?_of_block (hne0 ga hga (fun e => by
          have h1 := (HV.out.lt ga e.symm).1
          omega))).trans hca
        have hce3 : w3.cell? ⟨g, 0, none⟩ = some v1 := HL3.out.cell 0
        have hce4 : w3.cell? ⟨g, 1, none⟩ = some (.int .i64 0) := HL3.out.cell 1
        have hf0 := HL3.out.frozen 0
        have hf1 := HL3.out.frozen 1
        have HBK1 : Hid (∀ q, v1.ownBlock = some q → B ≤ q ∧ q < w3.heap.size) := fun q hq => ⟨(HV.out.lt q hq).1, Nat.lt_of_lt_of_le (HV.out.lt q hq).2 (Nat.le_trans (by simp) hgrow3.size)⟩
        clear hown3 hgrow3 hat3 hgg HLi HO HV HBu hne0 hHeld hca1 hce1 hcell hca
        refine ⟨.inr ⟨hce3, hca3⟩, ?_⟩
        refine wpAnyE_one (i := 10) (by kernel_rfl) rfl rfl ?_
        go_simp
        refine wpAnyE_done (by kernel_rfl) ?_ _
        obtain ⟨K, hK⟩ : ∃ K, K = Y.length / 4 * 4 - 4 := ⟨_, rfl⟩
        have HK : Hid (K = Y.length / 4 * 4 - 4) := hK
        have hKy : K ≤ Y.length := by omega
        have hmax : max 0 ((Y.length : Int) / 4 * 4 - 4) = (K : Int) := by omega
        have hcap3 : Y.length + 1 ≤ cc := by
          obtain ⟨_, _, e, _, _, _, h, _⟩ := own_bts HV3.out
          injection e with _ _ e
          omega
        have hccm : cc ≤ 9223372036854775807 := own_cap HV3.out
        clear hK
        have hZl : (Y ++ [c]).length = Y.length + 1 := by simp
        have hBT3 : Bts (some ⟨gg, 0, none⟩) (Y ++ [c]) w3 := by
          obtain ⟨_, _, e, h, _⟩ := own_bts HV3.out
          injection e with e
          rw [e]
          exact h
        have cvK := bts_back (bts_from hBT3 K) (cc - K)
        rw [List.length_drop, hZl, Nat.zero_add] at cvK
        obtain ⟨S1, hS1⟩ : ∃ S1 : ByteArray, S1 = ⟨((Y ++ [c]).drop K).toArray⟩ := ⟨_, rfl⟩
        have hS1L : S1.data.toList = (Y ++ [c]).drop K := by rw [hS1]
        rw [← hS1] at cvK
        have hon : onB ((Y ++ [c]).drop K) (Y.length - K) = (nextD (stD 0 Y) c).isSome := by
          rw [on_shift _ _ _ HK.out, on_iff (Y ++ [c]) Y.length (by simp) (by rw [List.take_left]; exact HYO.out), List.take_left]
          congr 2
          simp
        have HON : Hid (Calls Try.prog 21 #[.string S1, .int .i64 ((Y.length : Int) - (K : Int))] w3 fun e w' => e = .returned (.bool (nextD (stD 0 Y) c).isSome) ∧ w' = w3) := by
          have h := on_any S1 (Y.length - K) (by rw [← len_list, hS1L, List.length_drop, hZl]; omega) (by unfold maxLen; rw [← len_list, hS1L, List.length_drop, hZl]; omega) w3
          rw [hS1L, hon, show ((Y.length - K : Nat) : Int) = (Y.length : Int) - (K : Int) by omega] at h
          exact h
        have HW : Hid (∀ wx, Calls Try.prog 22 #[.int .u8 (c.toNat : Int)] wx fun e w' => e = .returned (.int .i64 (errC c : Nat)) ∧ w' = wx) := fun wx => why_any c wx
        have HBT3 : Hid (Bts (some ⟨gg, 0, none⟩) (Y ++ [c]) w3) := hBT3
        clear hS1 hS1L hon hBT3
        cases hn : nextD (stD 0 Y) c with
        | none =>
          have hst := rd_stop t b k hkb HCR.out HOK.out HKO.out (by rw [← HY.out, ← HC.out]; exact hn)
          rw [hn] at HON
          have HE : Hid (rdE t b = errC c ∧ rdT t b = Y) := ⟨by rw [hst.2.1, HC.out], by rw [hst.2.2.1, HY.out]⟩
          have HXR : Hid (X = rdL t b) := by
            have h1 := rd_told t b
            rw [HE.out.2, ← HX.out] at h1
            exact List.append_cancel_left h1
          have HEP : Hid (errC c ≠ 0) := errC_pos c
          clear hst hn
          generalize errC c = EC at HE HW HEP
          go_wp2_with (first | (go_at_call 21; refine Calls.mono HON.out ?_; rintro e w4 ⟨rfl, rfl⟩) | (go_at_call 22; refine Calls.mono (HW.out _) ?_; rintro e w5 ⟨rfl, rfl⟩))
          have LE : Lies (w5.setCell ⟨g, 1, none⟩ (.int .i64 (EC : Nat))) g #[v1, .int .i64 (EC : Nat)] 69 := HL3.out.set 1 _
          have HLE : Hid (Lies (w5.setCell ⟨g, 1, none⟩ (.int .i64 (EC : Nat))) g #[v1, .int .i64 (EC : Nat)] 69) := LE
          have HOE : Hid ((w5.setCell ⟨g, 1, none⟩ (.int .i64 (EC : Nat))).ownsRow w.heap.size 5 1 u6 X.length (cellsB X)) := own_keep HO3.out (fun q hq => Below.heap_setCell _ _ _ _ (own_apart HO3.out HL3.out (by decide) q hq))
          have HBE : Hid (But2 g v.ownBlock w (w5.setCell ⟨g, 1, none⟩ (.int .i64 (EC : Nat)))) := HBu3.out.set 1 _
          have HSE : Hid ((w5.setCell ⟨g, 1, none⟩ (.int .i64 (EC : Nat))).heap.size = w5.heap.size) := World.size_setCell ..
          have hcE := LE.cell 1
          simp only [List.getElem?_toArray, List.getElem?_cons_zero, List.getElem?_cons_succ] at hcE
          clear LE hce3 hce4 hf0 hf1 cvK HON HW
          generalize w5.setCell ⟨g, 1, none⟩ (.int .i64 (EC : Nat)) = w6 at HLE HOE HBE HSE hcE ⊢
          go_quiet (fail)
          go_wp2
          go_ret2
          refine ⟨u6, v1, by rw [HE.out.1]; rfl, ?_, ⟨?_, ?_, ?_⟩, HVB.out, HAP.out, ?_⟩
          · rw [← HXR.out]
            exact HOE.out
          · rw [HE.out.1]
            exact HLE.out
          · rw [HE.out.1]
            exact fun e => absurd e HEP.out
          · intro q hq
            have := HBK1.out q hq
            have hs := HSE.out
            show B ≤ q ∧ q < w6.heap.size
            omega
          · exact ⟨HBE.out.os, HBE.out.tape, HBE.out.output, HBE.out.size, HBE.out.block⟩
        | some d' =>
          have hmo := rd_more t b k hkb HCR.out HOK.out HKO.out d' (by rw [← HY.out, ← HC.out]; exact hn)
          rw [hn] at HON
          have HNY : Hid (t ++ noCr (b.take (k + 1)) = Y ++ [c]) := by
            show _ = _
            rw [hmo.1, ← HC.out, ← List.append_assoc, ← HY.out]
          have HKO2 : Hid (okN (stD 0 t) (noCr (b.take (k + 1))) = (noCr (b.take (k + 1))).length) := hmo.2.1
          have hds := dec_snoc Y c
          clear hmo hn HKO
          obtain ⟨NV, hNV⟩ : ∃ NV, NV = Value.slice (some ⟨gg, 0, none⟩) (Y.length + 1) cc := ⟨_, rfl⟩
          have hg5' : ∀ q, (Value.slice (some ⟨gg, 0, none⟩) (Y.length + 1) cc).ownBlock = some q → q ≠ g := own_apart HV3.out HL3.out (by decide)
          have HL4 : Hid (Lies (w3.setCell ⟨g, 0, none⟩ (.slice (some ⟨gg, 0, none⟩) (Y.length + 1) cc)) g #[.slice (some ⟨gg, 0, none⟩) (Y.length + 1) cc, .int .i64 0] 69) := HL3.out.set 0 _
          have HV4 : Hid ((w3.setCell ⟨g, 0, none⟩ (.slice (some ⟨gg, 0, none⟩) (Y.length + 1) cc)).ownsRow B 5 1 (.slice (some ⟨gg, 0, none⟩) (Y.length + 1) cc) (Y.length + 1) (cellsB (Y ++ [c]))) := own_keep HV3.out (fun q hq => Below.heap_setCell _ _ _ _ (hg5' q hq))
          have HO4 : Hid ((w3.setCell ⟨g, 0, none⟩ (.slice (some ⟨gg, 0, none⟩) (Y.length + 1) cc)).ownsRow w.heap.size 5 1 u6 X.length (cellsB X)) := own_keep HO3.out (fun q hq => Below.heap_setCell _ _ _ _ (own_apart HO3.out HL3.out (by decide) q hq))
          have HBu4 : Hid (But2 g v.ownBlock w (w3.setCell ⟨g, 0, none⟩ (.slice (some ⟨gg, 0, none⟩) (Y.length + 1) cc))) := HBu3.out.set 0 _
          have HW4 : Hid (w3 = w3) := rfl
          clear hNV HV3 HO3 HBu3 hg5' HW
          by_cases h4 : (Y.length + 1) % 4 = 0
          · rw [if_pos h4] at hds
            obtain ⟨K4, hK4⟩ : ∃ K4, K4 = Y.length - 3 := ⟨_, rfl⟩
            rw [← hK4] at hds
            have hk4 : (Y.length : Int) + 1 - 4 = (K4 : Int) := by omega
            have hk4y : K4 ≤ Y.length := by omega
            have hm4 : (((Y.length : Int) + 1) % 4 == 0) = true := by simp; omega
            have hG4 : ((Y ++ [c]).drop K4).length = 4 := by rw [List.length_drop, hZl]; omega
            have hBT4 : Bts (some ⟨gg, 0, none⟩) (Y ++ [c]) (w3.setCell ⟨g, 0, none⟩ (.slice (some ⟨gg, 0, none⟩) (Y.length + 1) cc)) := by
              obtain ⟨x1, x2, e, h, _⟩ := own_bts HV4.out
              injection e with e
              subst e
              exact h
            have cv4 := bts_back (bts_from hBT4 K4) (cc - K4)
            rw [List.length_drop, hZl, Nat.zero_add] at cv4
            obtain ⟨S4, hS4⟩ : ∃ S4 : ByteArray, S4 = ⟨((Y ++ [c]).drop K4).toArray⟩ := ⟨_, rfl⟩
            have HGR : Hid (∀ wx : World, Calls Try.prog 23 #[.string S4] wx fun e w' => ∃ b, e = .returned (.slice (some ⟨b, 0, none⟩) (decL ((Y ++ [c]).drop K4)).length 3) ∧ wx.heap.size ≤ b ∧ Bts (some ⟨b, 0, none⟩) (decL ((Y ++ [c]).drop K4)) w' ∧ (decL ((Y ++ [c]).drop K4)).length ≤ 3 ∧ 0 < (decL ((Y ++ [c]).drop K4)).length ∧ Below wx.heap.size wx w') := fun wx => group_text S4 _ (by rw [hS4]) hG4 wx
            rw [← hS4] at cv4
            have hXl : X.length ≤ 140737488355199 := by
              have h1 := congrArg List.length HX.out
              have h2 := decL_le Y
              rw [List.length_append] at h1
              omega
            generalize decL ((Y ++ [c]).drop K4) = G at hds HGR
            have HX4 : Hid (decL t ++ (X ++ G) = decL (t ++ noCr (b.take (k + 1)))) := by
              show _ = _
              rw [HNY.out, hds, ← HX.out, List.append_assoc]
            clear hds HX hK4 hG4 hBT4 hS4
            go_wp2_with (first
              | (go_at_call 21; refine Calls.mono HON.out ?_; rintro e w4 ⟨rfl, rfl⟩)
              | (go_at_call 23; refine Calls.mono (HGR.out _) ?_; rintro e w5 ⟨bg, rfl, hbg, hbtg, hl3, hl0, hbel⟩; have HO5 : Hid (w5.ownsRow w.heap.size 5 1 u6 X.length (cellsB X)) := own_below HO4.out hbel; have HV5 : Hid (w5.ownsRow B 5 1 (.slice (some ⟨gg, 0, none⟩) (Y.length + 1) cc) (Y.length + 1) (cellsB (Y ++ [c]))) := own_below HV4.out hbel; have HL5 : Hid (Lies w5 g #[.slice (some ⟨gg, 0, none⟩) (Y.length + 1) cc, .int .i64 0] 69) := HL4.out.below hbel HL4.out.lt; have HBu5 : Hid (But2 g v.ownBlock w w5) := HBu4.out.below hbel; have HBG : Hid (Bts (some ⟨bg, 0, none⟩) G w5) := hbtg; clear hbel hbtg hbg)
              | (at_builtin; refine wpList_append_lies _ rfl _ _ 22 rfl w.heap.size 5 i0 (.int .u8 0) 1 1 Try.underlying22 hi hz0 hz1 hz2 rfl (by decide) _ X.length _ rfl HO5.out ⟨bg, 0, none⟩ G.length 3 (cellsB G) rfl (by rw [cellsB_length, Nat.mul_one]) (bts_news HBG.out) (cellsB_one _) hl0 (by unfold maxLen; omega) (by omega) HBu5.out.size _ rfl ?_; intro g6 c6 w6 hown6 hgrow6 hat6 hlt6))
            have HO6 : Hid (w6.ownsRow w.heap.size 5 1 (.slice (some ⟨g6, 0, none⟩) (X.length + G.length) c6) (X ++ G).length (cellsB (X ++ G))) := by
              show World.ownsRow _ _ _ _ _ _ _
              rw [List.length_append, cellsB_append]
              exact hown6
            have HV6 : Hid (w6.ownsRow B 5 1 (.slice (some ⟨gg, 0, none⟩) (Y.length + 1) cc) (Y.length + 1) (cellsB (Y ++ [c]))) := own_keep HV5.out (fun q hq => hgrow6.block q (HV5.out.lt q hq).2 (fun e => HAP3.out q e.symm hq))
            have HL6 : Hid (Lies w6 g #[.slice (some ⟨gg, 0, none⟩) (Y.length + 1) cc, .int .i64 0] 69) := (hgrow6.block g HL5.out.lt (fun e => own_apart HO5.out HL5.out (by decide) g e.symm rfl)).trans HL5.out
            have HBu6 : Hid (But2 g v.ownBlock w w6) := HBu5.out.grown hgrow6 (fun q hq => .inr (HO5.out.lt q hq).1)
            have HAP6 : Hid (Ap (.slice (some ⟨g6, 0, none⟩) (X.length + G.length) c6) (.slice (some ⟨gg, 0, none⟩) (Y.length + 1) cc)) := fun q hq e => by
              have h1 : g6 = q := by injection hq
              subst h1
              rcases hat6 with h | h
              · exact HAP3.out _ h e
              · have := (HV5.out.lt _ e).2
                omega
            clear hown6 hgrow6 hat6 hlt6 HO5 HV5 HL5 HBu5 HO4 HV4 HL4 HBu4
            go_wp2
            go_roundw
            case rel =>
              refine ⟨k + 1, .slice (some ⟨gg, 0, none⟩) (Y.length + 1) cc, X ++ G, by omega, by go_num, HKO2, HX4, HO6, HL6, ?_, HVB3, HAP6, HBu6⟩
              show World.ownsRow _ _ _ _ _ _ _
              rw [HNY.out, hZl]
              exact HV6.out
            case measure => simp [intOf] <;> omega
          · rw [if_neg h4] at hds
            have HX4 : Hid (decL t ++ X = decL (t ++ noCr (b.take (k + 1)))) := by
              show _ = _
              rw [HNY.out, hds]
              exact HX.out
            have hm4 : (((Y.length : Int) + 1) % 4 == 0) = false := by simp; omega
            clear hds HX
            go_wp2_with (go_at_call 21; refine Calls.mono HON.out ?_; rintro e w4 ⟨rfl, rfl⟩)
            go_roundw
            case rel =>
              refine ⟨k + 1, .slice (some ⟨gg, 0, none⟩) (Y.length + 1) cc, X, by omega, by go_num, HKO2, HX4, HO4, HL4, ?_, HVB3, HAP3, HBu4⟩
              show World.ownsRow _ _ _ _ _ _ _
              rw [HNY.out, hZl]
              exact HV4.out
            case measure => simp [intOf] <;> omega
    · obtain rfl : k = n := by omega
      have hbt : b.take k = b := List.take_of_length_le (by rw [← HN.out]; exact Nat.le_refl _)
      rw [hbt] at HKO HX HV
      have hend := rd_end t b HKO.out
      have HXR : Hid (X = rdL t b) := by
        have h1 := rd_told t b
        rw [hend.2.1, ← HX.out] at h1
        exact List.append_cancel_left h1
      have HE : Hid (rdE t b = 0 ∧ rdT t b = t ++ noCr b) := ⟨hend.1, hend.2.1⟩
      clear hend hbt
      go_wp2
      go_ret2
      refine ⟨u6, v1, by rw [HE.out.1]; rfl, ?_, ⟨?_, ?_, ?_⟩, HVB.out, HAP.out, HBu.out⟩
      · rw [← HXR.out]
        exact HO.out
      · rw [HE.out.1]
        exact HLi.out
      · rw [HE.out.2]
        refine fun _ => ⟨?_, HV.out⟩
        rw [okN_append _ _ _ HOK.out, HKO.out, List.length_append]
      · exact fun q hq => HV.out.lt q hq
end Go.Proofs.Ytenfopabdegmhaa
