/-
  over; header.fold, begin, take.
-/
import Derived.Test.YtpepjiocjcjeeabDoorPaP
import Derived.Test.YtpepjiocjcjeeabDoorRb16
import Derived.Test.YtpepjiocjcjeeabDoorSpB16
namespace Go.Proofs.YtpepjiocjcjeeabDoor
open Go.RowKit

set_option maxHeartbeats 1000000 in
theorem over_any (ad : Option Addr) (l : List UInt8) (cap a : Nat) (hs : l.length ≤ 140737488355328) (ha : a ≤ l.length) (w : World) (hb : Bts ad l w) : Calls Tryd.prog 19 #[.slice ad l.length cap, .int .i64 (a : Int)] w fun e w' => e = .returned (.tuple #[.int .i64 ((if a = l.length then a else a + 2 : Nat) : Int), .bool (decide (a = l.length) || leH (l.drop a))]) ∧ w' = w := by
  have HLE : Hid (Calls Tryd.prog 39 #[.slice ad l.length cap, .int .i64 (a : Int)] w fun e w' => e = .returned (.bool (leH (l.drop a))) ∧ w' = w) := leb_any ad l l.length cap a rfl (by omega) (by omega) w hb
  clear hb
  by_cases h : a = l.length
  · have hI : ((a : Int) == (l.length : Int)) = true := by rw [beq_iff_eq]; omega
    rw [if_pos h, decide_eq_true h, Bool.true_or]
    clear h
    go_enter Tryd.func19, Tryd.ntmps19
    go_wp2_with fail
    go_ret2
    exact ⟨rfl, rfl⟩
  · have hI : ((a : Int) == (l.length : Int)) = false := by rw [beq_eq_false_iff_ne]; omega
    have e2 : IntKind.i64.wrap ((a : Int) + 2) = (a : Int) + 2 := by rw [IntKind.wrap_i64]; omega
    have e3 : ((a + 2 : Nat) : Int) = (a : Int) + 2 := by omega
    rw [if_neg h, decide_eq_false h, Bool.false_or, e3]
    clear h
    go_enter Tryd.func19, Tryd.ntmps19
    go_wp2_with fail
    refine HLE.out.mono ?_
    rintro e w1 ⟨rfl, rfl⟩
    go_wp2_with fail
    go_ret2
    exact ⟨rfl, rfl⟩
/-- Places in memory. -/
def cellsPl (ps : List Plc) : List Value := ps.flatMap fun p => [Value.int .i64 (p.f : Int), .int .i64 (p.c : Int), .int .i64 (p.t : Int)]
theorem cellsPl_append (x y : List Plc) : cellsPl (x ++ y) = cellsPl x ++ cellsPl y := List.flatMap_append
theorem cellsPl_length : ∀ l : List Plc, (cellsPl l).length = l.length * 3
  | [] => rfl
  | p :: r => by
    have e : cellsPl (p :: r) = [Value.int .i64 (p.f : Int), .int .i64 (p.c : Int), .int .i64 (p.t : Int)] ++ cellsPl r := rfl
    rw [e, List.length_append, cellsPl_length r]
    simp only [List.length_cons, List.length_nil]
    omega
theorem cellsPl_one (p : Plc) : cellsPl [p] = [Value.int .i64 (p.f : Int), .int .i64 (p.c : Int), .int .i64 (p.t : Int)] := rfl
theorem infoPl : (Tryd.prog.info? 70).map (fun i => (i.zero, i.size, i.bytes)) = some (some (.agg #[.int .i64 0, .int .i64 0, .int .i64 0]), 3, 24) := by kernel_rfl
theorem infoSp2 : (Tryd.prog.info? 27).map (·.size) = some 2 := by kernel_rfl
/-- Rows of places from block B on. -/
def Fp (B : Nat) (w : World) (k : Nat) : Prop := B ≤ k ∧ ∃ cur, w.heap[k]? = some (.cells cur 70 (0, 0))
/-- A header in memory. -/
structure Hd (B : Nat) (W : World) (h : Nat) (ps : List Plc) (v : Value) : Prop where
  hd : Lies W h #[v] 46
  own : W.ownsRow B 70 3 v ps.length (cellsPl ps)
def spE (r : Except (Nat × Nat) (List Plc)) : Nat × Nat := match r with
  | .error p => p
  | .ok _ => (0, 0)
def psV (r : Except (Nat × Nat) (List Plc)) (ps : List Plc) : List Plc := match r with
  | .error _ => ps
  | .ok q => q
theorem ret_sp {P : Program} {fn : Func} {r : Tmp} {ty : TypeId} (h : fn.results = #[.cell r ty]) (tmps : Array Value) (w : World) (g : Nat) (cs : Array Value) (d : TypeDesc) (hr : tmps.getD r undef = .pointer (some ⟨g, 0, none⟩)) (hg : Lies w g cs ty)
    (hu : P.underlying ty = some d) (ha : (match d with | .struct _ | .array _ _ => true | _ => false) = true) (hz : (P.info? ty).map (·.size) = some cs.size) : (results fn tmps).run P w = .ok (.agg cs) w := by
  have hr' : tmps[r]?.getD undef = .pointer (some ⟨g, 0, none⟩) := by simpa using hr
  simp [results, h, hr', asAddr, run_loadVar_row w g ty ty cs (0, 0) d hg hu ha hz]
theorem ownX_keep {w w' : World} {B n t k : Nat} {v : Value} {xs : List Value} (h : w.ownsRow B t k v n xs) (hb : ∀ j, v.ownBlock = some j → w'.heap[j]? = w.heap[j]?) : w'.ownsRow B t k v n xs := by
  obtain ⟨h1, h2⟩ := h
  refine ⟨h1, ?_⟩
  rcases h2 with h2 | ⟨g, cap, cur, rfl, hB, hg, hr⟩
  · exact .inl h2
  · exact .inr ⟨g, cap, cur, rfl, hB, by rw [hb g rfl]; exact hg, hr⟩
theorem sp_set {F : Nat → Prop} {B h b : Nat} {ps : List Plc} {v : Value} {w W : World} {a0 b0 : Value} (hh : Hd B W h ps v) (hs : Lies W b #[a0, b0] 27) (hc : Chg F w W) (hb : w.heap.size ≤ b) (hhb : h ≠ b) (x y : Int) :
    Lies ((W.setCell ⟨b, 0, none⟩ (.int .i64 x)).setCell ⟨b, 1, none⟩ (.int .i64 y)) b #[.int .i64 x, .int .i64 y] 27 ∧ Hd B ((W.setCell ⟨b, 0, none⟩ (.int .i64 x)).setCell ⟨b, 1, none⟩ (.int .i64 y)) h ps v ∧ Chg F w ((W.setCell ⟨b, 0, none⟩ (.int .i64 x)).setCell ⟨b, 1, none⟩ (.int .i64 y)) := by
  have h1 := (hs.set 0 (.int .i64 x)).set 1 (.int .i64 y)
  have e : ((#[a0, b0] : Array Value).setIfInBounds 0 (.int .i64 x)).setIfInBounds 1 (.int .i64 y) = #[.int .i64 x, .int .i64 y] := rfl
  rw [e] at h1
  refine ⟨h1, ⟨(hh.hd.set_other (a := ⟨b, 0, none⟩) hhb _).set_other (a := ⟨b, 1, none⟩) hhb _, ?_⟩, (hc.set (p := ⟨b, 0, none⟩) (.inr hb) _).set (p := ⟨b, 1, none⟩) (.inr hb) _⟩
  refine ownX_keep hh.own (fun j hj => ?_)
  have hne : j ≠ b := fun e => by
    subst e
    rcases hh.own.2 with ⟨e1, _⟩ | ⟨g', cp, cur, e1, _, hg', _⟩
    · rw [e1] at hj; cases hj
    · rw [e1] at hj
      cases hj
      exact absurd (lies_kind hs hg') (by decide)
  exact (Below.heap_setCell _ _ _ _ hne).trans (Below.heap_setCell _ _ _ _ hne)
theorem chg_pl {B n : Nat} {w w1 w2 : World} {u : Value} {xs : List Value} (h : Chg (Fp B w) w w1) (ho : w1.ownsRow B 70 3 u n xs) {row : Option Nat} (hg : w1.grownBy w2 row) (hrow : ∀ k, row = some k → u.ownBlock = some k) : Chg (Fp B w) w w2 := h.grown hg (fun k hk => by
  have hk := hrow k hk
  rcases ho.2 with ⟨rfl, _⟩ | ⟨g, cap, cur, rfl, hB, hc, _⟩
  · cases hk
  · cases hk
    rcases Nat.lt_or_ge g w.heap.size with hlt | hge
    · refine .inl (Classical.byContradiction fun hn => hn ⟨hB, cur, ?_⟩)
      rw [← h.block g hlt hn]
      exact hc
    · exact .inr hge)
theorem Fp.no {B g t : Nat} {w : World} {cs : Array Value} (h : Lies w g cs t) (ht : t ≠ 70) : ¬ Fp B w g := fun ⟨_, _, e⟩ => ht (lies_kind h e)
theorem lies_grown {B n g t : Nat} {A w3 : World} {u : Value} {xs : List Value} {cs : Array Value} (hl : Lies A g cs t) (ho : A.ownsRow B 70 3 u n xs) (hg : A.grownBy w3 u.ownBlock) (ht : t ≠ 70) : Lies w3 g cs t := (hg.block g hl.lt (fun e => by
  rcases ho.2 with ⟨rfl, _⟩ | ⟨g', cap, cur, rfl, hB, hc, _⟩
  · cases e
  · cases e
    exact ht (lies_kind hl hc))).trans hl
set_option maxRecDepth 100000 in
set_option maxHeartbeats 2000000 in
theorem hfold_any (l : List UInt8) (ps : List Plc) (f t h cap B : Nat) (ra : Option Addr) (v : Value) (w : World) (hft : f ≤ t) (htl : t ≤ l.length) (hs : l.length ≤ 140737488355328) (hpl : ps.length ≤ 4096) (hh : Hd B w h ps v) (hr : Bts ra (stE l f t) w) :
    Calls Tryd.prog 41 #[.pointer (some ⟨h, 0, none⟩), .slice ra (t - f) cap, .int .i64 (f : Int)] w fun e w' => e = .returned (.agg #[.int .i64 ((spE (foldH l ps f t)).1 : Int), .int .i64 ((spE (foldH l ps f t)).2 : Int)]) ∧ Hd B w' h (psV (foldH l ps f t) ps) v ∧ Chg (Fp B w) w w' := by
  have hsl : (stE l f t).length = t - f := stE_len l f t htl
  obtain ⟨i0, hi, hz0, hz1, hz2⟩ := info_parts infoPl
  obtain ⟨pa, pc, rfl⟩ : ∃ pa pc, v = .slice pa ps.length pc := by
    rcases hh.own.2 with ⟨rfl, h0⟩ | ⟨g, cp, cur, rfl, _⟩
    · exact ⟨none, 0, by rw [h0]⟩
    · exact ⟨_, cp, rfl⟩
  obtain ⟨W1, hW1⟩ : ∃ W1, W1 = w.alloc (.cells #[.int .i64 0, .int .i64 0] 27) := ⟨_, rfl⟩
  have hlt := hh.hd.lt
  have hb1 : Below w.heap.size w W1 := by rw [hW1]; exact (Below.refl _ _).alloc (Nat.le_refl _) _
  have HW1 : Hid (w.alloc (.cells #[.int .i64 0, .int .i64 0] 27) = W1) := hW1.symm
  have HSP : Hid (Lies W1 w.heap.size #[.int .i64 0, .int .i64 0] 27) := by rw [hW1]; exact Lies.new w _ _
  have HH1 : Hid (Hd B W1 h ps (.slice pa ps.length pc)) := ⟨hh.hd.below hb1 hlt, by rw [hW1]; exact hh.own.alloc _⟩
  have HC1 : Hid (Chg (Fp B w) w W1) := Chg.of_below hb1
  have HFI : Hid (∀ wx, Below w.heap.size w wx → Calls Tryd.prog 50 #[.slice ra (t - f) cap] wx fun e w' => e = .returned (.bool (fldB (stE l f t))) ∧ w' = wx) := fun wx hx => fisfb_any ra (stE l f t) (t - f) cap hsl.symm (by omega) wx (hr.below hx)
  have HB1 : Hid (Below w.heap.size w W1) := hb1
  have c0 := HH1.out.hd.cell 0
  rw [show (#[Value.slice pa ps.length pc] : Array Value)[0]? = some (.slice pa ps.length pc) from rfl] at c0
  have s0 := HSP.out.cell 0
  have s1 := HSP.out.cell 1
  have y0 := HSP.out.frozen 0
  have y1 := HSP.out.frozen 1
  simp only [List.getElem?_toArray, List.getElem?_cons_zero, List.getElem?_cons_succ] at s0 s1
  have hplI : (ps.length : Int) ≤ 4096 := by omega
  clear hh hr hW1 hb1 hsl
  by_cases h0 : ps = []
  · subst h0
    have HF : Hid (foldH l [] f t = .error (161, f)) := by show foldH _ _ _ _ = _; unfold foldH; rw [if_pos (.inl rfl)]
    go_enter Tryd.func41, Tryd.ntmps41
    go_wp2_with (rw [HW1.out])
    obtain ⟨q1, q2, q3⟩ := sp_set HH1.out HSP.out HC1.out (Nat.le_refl _) (by omega) 161 f
    rw [HF.out]
    refine bodyPost_ret (ret_sp rfl _ _ w.heap.size #[.int .i64 161, .int .i64 (f : Int)] _ rfl q1 Tryd.underlying27 rfl infoSp2) rfl ⟨rfl, q2, q3⟩
  · obtain ⟨q, p, rfl⟩ := snoc_of ps h0
    have hpn : (q ++ [p]).length = q.length + 1 := by simp
    have hql : (((q ++ [p]).length : Nat) : Int) - 1 = (q.length : Int) := by omega
    have hneg : ¬ (q.length : Int) < 0 := by omega
    have hplI : (q.length : Int) + 1 ≤ 4096 := by rw [hpn] at hpl; omega
    cases hfb : fldB (stE l f t) with
    | false =>
      rw [hfb] at HFI
      have HF : Hid (foldH l (q ++ [p]) f t = .error (161, f)) := by show foldH _ _ _ _ = _; unfold foldH; rw [if_pos (.inr hfb)]
      rw [hpn] at c0
      clear hfb hql hpl hpn
      go_enter Tryd.func41, Tryd.ntmps41
      go_wp2_with (first
        | (go_at_call 50; refine (HFI.out W1 HB1.out).mono ?_; rintro e w2 ⟨rfl, h2⟩; rw [h2]; clear h2 w2)
        | (rw [HW1.out]))
      obtain ⟨q1, q2, q3⟩ := sp_set HH1.out HSP.out HC1.out (Nat.le_refl _) (by omega) 161 f
      rw [HF.out]
      refine bodyPost_ret (ret_sp rfl _ _ w.heap.size #[.int .i64 161, .int .i64 (f : Int)] _ rfl q1 Tryd.underlying27 rfl infoSp2) rfl ⟨rfl, q2, q3⟩
    | true =>
      rw [hfb] at HFI
      have HF : Hid (foldH l (q ++ [p]) f t = .ok (q ++ [⟨p.f, p.c, t⟩])) := by
        show foldH _ _ _ _ = _
        unfold foldH
        rw [if_neg (fun e => e.elim h0 (fun e => by rw [hfb] at e; cases e)), setLast_snoc]
      obtain ⟨pg, rfl⟩ : ∃ pg, pa = some ⟨pg, 0, none⟩ := by
        rcases HH1.out.own.2 with ⟨e1, e2⟩ | ⟨g', cp, cur, e1, _⟩
        · rw [hpn] at e2; cases e2
        · injection e1 with e1
          exact ⟨g', e1⟩
      have hcl : (cellsPl (q ++ [p])).length = (q.length + 1) * 3 := by rw [cellsPl_length, hpn]
      have z0 : W1.cell? ⟨pg, q.length * 3 + 2, none⟩ = some (.int .i64 (p.t : Int)) := by
        rw [HH1.out.own.cellAt (q.length * 3 + 2) (by rw [hpn]; omega), cellsPl_append, List.getElem?_append_right (by rw [cellsPl_length]; omega), cellsPl_length]
        have : q.length * 3 + 2 - q.length * 3 = 2 := by omega
        rw [this]
        rfl
      have z1 := HH1.out.own.frozenAt (q.length * 3 + 2)
      have s9 := HH1.out.own.stored (q.length * 3 + 2) (.int .i64 (t : Int))
      have hset : (cellsPl (q ++ [p])).set (q.length * 3 + 2) (.int .i64 (t : Int)) = cellsPl (q ++ [⟨p.f, p.c, t⟩]) := by
        rw [cellsPl_append, cellsPl_append, List.set_append_right _ _ (by rw [cellsPl_length]; omega), cellsPl_length]
        have : q.length * 3 + 2 - q.length * 3 = 2 := by omega
        rw [this]
        rfl
      rw [hset] at s9
      have hnh : h ≠ pg := fun e => by
        rcases HH1.out.own.2 with ⟨e1, e2⟩ | ⟨g', cp, cur, e1, _, hg', _⟩
        · cases e1
        · cases e1
          rw [← e] at hg'
          exact absurd (lies_kind HH1.out.hd hg') (by decide)
      have hns : w.heap.size ≠ pg := fun e => by
        rcases HH1.out.own.2 with ⟨e1, e2⟩ | ⟨g', cp, cur, e1, _, hg', _⟩
        · cases e1
        · cases e1
          rw [← e] at hg'
          exact absurd (lies_kind HSP.out hg') (by decide)
      have HH2 : Hid (Hd B (W1.setCell ⟨pg, q.length * 3 + 2, none⟩ (.int .i64 (t : Int))) h (q ++ [⟨p.f, p.c, t⟩]) (.slice (some ⟨pg, 0, none⟩) (q ++ [p]).length pc)) := ⟨HH1.out.hd.set_other (a := ⟨pg, q.length * 3 + 2, none⟩) hnh _, by
        have e : (q ++ [(⟨p.f, p.c, t⟩ : Plc)]).length = (q ++ [p]).length := by simp
        rw [e]
        exact s9.1⟩
      have HC2 : Hid (Chg (Fp B w) w (W1.setCell ⟨pg, q.length * 3 + 2, none⟩ (.int .i64 (t : Int)))) := chg_pl HC1.out HH1.out.own s9.2 (fun k hk => hk)
      have HS2 : Hid (Lies (W1.setCell ⟨pg, q.length * 3 + 2, none⟩ (.int .i64 (t : Int))) w.heap.size #[.int .i64 0, .int .i64 0] 27) := HSP.out.set_other (a := ⟨pg, q.length * 3 + 2, none⟩) hns _
      have x0 := HS2.out.cell 0
      have x1 := HS2.out.cell 1
      have x2 := HS2.out.frozen 0
      have x3 := HS2.out.frozen 1
      simp only [List.getElem?_toArray, List.getElem?_cons_zero, List.getElem?_cons_succ] at x0 x1
      have ef : (f : Int) + ((t - f : Nat) : Int) = (t : Int) := by omega
      have ew : IntKind.i64.wrap ((f : Int) + ((t - f : Nat) : Int)) = (t : Int) := by rw [ef, IntKind.wrap_i64]; omega
      rw [hpn] at c0
      have hlt1 : (q.length : Int) < (q.length : Int) + 1 := by omega
      clear s9 hset hcl hfb hql hpl
      obtain ⟨W2, hW2⟩ : ∃ W2, W2 = W1.setCell ⟨pg, q.length * 3 + 2, none⟩ (.int .i64 (t : Int)) := ⟨_, rfl⟩
      rw [← hW2] at HH2 HC2 HS2 x0 x1 x2 x3
      have HW2 : Hid (W1.setCell ⟨pg, q.length * 3 + 2, none⟩ (.int .i64 (t : Int)) = W2) := hW2.symm
      clear hW2
      go_enter Tryd.func41, Tryd.ntmps41
      go_wp2_with (first
        | (go_at_call 50; refine (HFI.out W1 HB1.out).mono ?_; rintro e w2 ⟨rfl, h2⟩; rw [h2]; clear h2 w2)
        | (rw [HW1.out]) | (rw [HW2.out]))
      obtain ⟨q1, q2, q3⟩ := sp_set HH2.out HS2.out HC2.out (Nat.le_refl _) (by omega) 0 0
      rw [HF.out]
      refine bodyPost_ret (ret_sp rfl _ _ w.heap.size #[.int .i64 0, .int .i64 0] _ rfl q1 Tryd.underlying27 rfl infoSp2) rfl ⟨rfl, q2, q3⟩
end Go.Proofs.YtpepjiocjcjeeabDoor
