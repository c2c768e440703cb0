/-
  Steps through a statement whose order is the text's, one operation at a time.
-/
import Derived.Test.YtnlgbopdbihnjabGreatDoorCard8
import Derived.Test.YtnlgbopdbihnjabGreatDoorSm8
import Derived.Test.YtnlgbopdbihnjabGreatDoorDmX
namespace Go.Proofs.YtnlgbopdbihnjabGreatDoor
open Go.RowKit

theorem wpList_yieldG {P : Program} {ops : Array Oper} {rest : List Oper} {op : Oper} {a : Act} {w : World} {Q : Exit → Act → World → Prop} (v : Value) (hw : Region.wanted op (yielded ops a.tmps) = true)
    (hy : (execOp a.eval op).run P w = .ok (.value v) w) (h : wpList P ops Q rest (a.put op.dst v) w) : wpList P ops Q (op :: rest) a w := by
  unfold wpList
  rw [if_pos hw]
  left
  unfold Oper.wp
  rw [hy]
  exact h
theorem wpList_skipG {P : Program} {ops : Array Oper} {rest : List Oper} {op : Oper} {a : Act} {w : World} {Q : Exit → Act → World → Prop} (hw : Region.wanted op (yielded ops a.tmps) = false)
    (h : wpList P ops Q rest (a.put op.dst undef) w) : wpList P ops Q (op :: rest) a w := by
  unfold wpList
  rw [if_neg (by rw [hw]; simp)]
  exact h
theorem wpList_onG {P : Program} {ops : Array Oper} {rest : List Oper} {op : Oper} {a : Act} {w : World} {Q : Exit → Act → World → Prop} (hw : Region.wanted op (yielded ops a.tmps) = true)
    (h : op.wp P a w (wpList P ops Q rest) Q) : wpList P ops Q (op :: rest) a w := by
  unfold wpList
  rw [if_pos hw]
  exact .inl h
theorem exec_neq16 {op : Oper} {a : Act} {w : World} (p q : Operand) (r : TypeId) (ho : op.op = .binOp .neq 23 p q r) (x y : List Nat) (hp : a.eval p = .agg (bytesV x)) (hq : a.eval q = .agg (bytesV y)) (hx : x.length = 16) (hy : y.length = 16) : (execOp a.eval op).run Tryz.prog w = .ok (.value (.bool (!decide (x = y)))) w := by
  have hgu : Tryz.prog.eqGuardType Tryz.prog.depth 23 = false := by kernel_rfl
  have h := neq16 x y hx hy w
  have hg := run_eqGuard_agg (P := Tryz.prog) w .neq 23 p q (bytesV x) (bytesV y) hgu
  unfold execOp
  simp only [ho, hp, hq, Sem.run_bind, hg, Result.andThen_ok, h, Sem.run_pure]
set_option maxRecDepth 100000 in
theorem eq4 (d : Nat) (a b : List Nat) (ha : a.length = 4) (hb : b.length = 4) (w : World) : (Op.equalIn (d + 2) 22 (.agg (bytesV a)) (.agg (bytesV b))).run Tryz.prog w = .ok (decide (a = b)) w := by
  obtain ⟨i, hi, _⟩ := info5e
  rw [run_equalIn_array w (d + 1) _ _ Tryz.underlying22 hi, cells5, eqItems_bytes d a b _ (fun i hi => by rw [List.mem_range] at hi; omega) w, eq_list a b 4 ha hb]
theorem neq4 (a b : List Nat) (ha : a.length = 4) (hb : b.length = 4) (w : World) : (binOp .neq 22 (.agg (bytesV a)) (.agg (bytesV b))).run Tryz.prog w = .ok (.bool (!decide (a = b))) w := by
  rw [run_neq_struct, eq4 9998 a b ha hb]
  rfl
theorem exec_neq4 {op : Oper} {a : Act} {w : World} (p q : Operand) (r : TypeId) (ho : op.op = .binOp .neq 22 p q r) (x y : List Nat) (hp : a.eval p = .agg (bytesV x)) (hq : a.eval q = .agg (bytesV y)) (hx : x.length = 4) (hy : y.length = 4) : (execOp a.eval op).run Tryz.prog w = .ok (.value (.bool (!decide (x = y)))) w := by
  have hgu : Tryz.prog.eqGuardType Tryz.prog.depth 22 = false := by kernel_rfl
  have h := neq4 x y hx hy w
  have hg := run_eqGuard_agg (P := Tryz.prog) w .neq 22 p q (bytesV x) (bytesV y) hgu
  unfold execOp
  simp only [ho, hp, hq, Sem.run_bind, hg, Result.andThen_ok, h, Sem.run_pure]
end Go.Proofs.YtnlgbopdbihnjabGreatDoor
/-
  A label on old wires is a label: what asciiDomain asks of its labels.
-/
namespace Go.Proofs.YtnlgbopdbihnjabGreatDoor
open Go.RowKit

theorem dgt_fin : ∀ v : Fin 36, lbB (dgt v.val) = true ∧ smB (dgt v.val) = dgt v.val ∧ dgt v.val ≠ 45 ∧ (dgt v.val).toNat < 128 := by decide +kernel
/-- A digit on old wires. -/
def DgW (c : UInt8) : Prop := lbB c = true ∧ smB c = c ∧ c ≠ 45 ∧ c.toNat < 128
theorem dgt_dgw (v : Nat) (h : v < 36) : DgW (dgt v) := dgt_fin ⟨v, h⟩
theorem digs_dgw (q : Nat) : ∀ i bias, ∀ x ∈ digs q i bias, DgW x := by
  induction q using Nat.strongRecOn with
  | _ q ih =>
    intro i bias x hx
    have b1 := bnd_pos i bias
    have b2 := bnd_le i bias
    by_cases h : q < bnd i bias
    · rw [digs_last h] at hx
      rw [List.mem_singleton] at hx
      subst hx
      exact dgt_dgw q (by omega)
    · rw [digs_more h] at hx
      rcases List.mem_cons.1 hx with rfl | hx
      · have := Nat.mod_lt (q - bnd i bias) (show 36 - bnd i bias > 0 by omega)
        exact dgt_dgw _ (by omega)
      · exact ih _ (digs_less h) _ _ x hx
theorem digs_ne (q i bias : Nat) : digs q i bias ≠ [] := by
  by_cases h : q < bnd i bias
  · rw [digs_last h]; simp
  · rw [digs_more h]; simp
theorem punL_dgw (l : List Int) : ∀ (rest : List Nat) (f : Nat → Int) (n : Int) (i h bias : Nat) (first : Bool) (d : List UInt8), punL l rest f n i h bias first = some d → (∀ x ∈ d, DgW x) ∧ (rest ≠ [] → d ≠ [])
  | [], _, _, _, _, _, _, d, e => by
    simp only [punL] at e
    injection e with e
    subst e
    exact ⟨fun x hx => (by cases hx), fun h => (h rfl).elim⟩
  | a :: rest, f, n, i, h, bias, first, d, e => by
    simp only [punL] at e
    split at e
    · cases e
    · rw [Option.map_eq_some_iff] at e
      obtain ⟨d', e1, e2⟩ := e
      subst e2
      have h1 := punL_dgw l rest _ _ _ _ _ _ d' e1
      refine ⟨fun x hx => ?_, fun _ hn => ?_⟩
      · rcases List.mem_append.1 hx with hx | hx
        · exact digs_dgw _ _ _ x hx
        · exact h1.1 x hx
      · exact digs_ne _ _ _ (List.append_eq_nil_iff.1 hn).1
/-- Few runes: no step is too great. -/
theorem punL_some (l : List Int) (hl : l.length ≤ 63) : ∀ (rest : List Nat) (f : Nat → Int) (n : Int) (i h bias : Nat) (first : Bool), PunOk l rest f n i h → ∃ d, punL l rest f n i h bias first = some d
  | [], _, _, _, _, _, _, _ => ⟨[], rfl⟩
  | a :: rest, f, n, i, h, bias, first, H => by
    have hh := H.hle
    obtain ⟨ha, _, ra, rb, _⟩ := H.nxt a (by simp)
    have hp := H.preh (j := a) (Nat.le_of_lt ha)
    have hn := H.n01
    have hs : ¬ 2147483647 < stp l f n i h a := by
      unfold stp
      have h1 : (rn l a - n) * ((h : Int) + 1) ≤ 1114111 * 64 := by
        rcases Int.lt_or_le (rn l a - n) 0 with h0 | h0
        · have : (rn l a - n) * ((h : Int) + 1) ≤ 0 := Int.mul_nonpos_of_nonpos_of_nonneg (by omega) (by omega)
          omega
        · exact Int.mul_le_mul (by omega) (by omega) (by omega) (by omega)
      omega
    obtain ⟨d, hd⟩ := punL_some l hl rest _ _ _ _ (biasB (stp l f n i h a).toNat (h + 1) first) false H.step
    exact ⟨_, by simp only [punL]; rw [if_neg hs, hd]; rfl⟩
theorem enc_low (r : Int) (h0 : 0 ≤ r) (h : r < 128) : Lib.encodeRune r = [UInt8.ofNat r.toNat] := by
  have h1 : Lib.encodeRuneZ r = [r] := by
    unfold Lib.encodeRuneZ
    exact if_pos (by omega)
  unfold Lib.encodeRune
  rw [h1]
  rfl
theorem mem_enc {l : List Int} {r : Int} (h : r ∈ l) {c : UInt8} (hc : c ∈ Lib.encodeRune r) : c ∈ encL l := by
  unfold encL
  exact List.mem_flatMap.2 ⟨r, h, hc⟩
theorem getLast_app {α : Type} (x y : List α) (h : y ≠ []) : (x ++ y).getLast? = y.getLast? := by
  rw [List.getLast?_append]
  cases hy : y.getLast? with
  | none => exact (h (List.getLast?_eq_none_iff.1 hy)).elim
  | some v => rfl
theorem labs_ascii : Labs asciiL := ⟨fun l hl hs hw hle => by
  by_cases ha : l.all (fun c => decide (c.toNat < 128)) = true
  · have e : asciiL l = l := if_pos ha
    rw [e]
    refine ⟨⟨hl.ne, hl.le, fun c hc => ?_, hl.hd, hl.la⟩, hs, e⟩
    have := List.all_eq_true.1 ha c hc
    rw [decide_eq_true_eq] at this
    rcases hl.ch c hc with h | h
    · exact h
    · omega
  · have e : asciiL l = [120, 110, 45, 45] ++ (punT (decR l)).data.toList := if_neg ha
    have ew : badU l = l.length := hw
    have ed : decR l = decL l := if_neg (by omega)
    have hR := decL_isR l
    have hlen : (decL l).length ≤ 63 := Nat.le_trans (decL_length l) hl.le
    have henc : encL (decL l) = l := by rw [encL_decL, ew, List.take_length]
    obtain ⟨d, hd⟩ := punL_some (decL l) hlen _ _ _ _ _ 72 true (punOk_start (decL l) hR)
    have hd' : punD (decL l) = some d := hd
    have hT : (punT (decR l)).data.toList = punH (decL l) ++ d := by
      rw [ed]
      unfold punT
      rw [if_neg (by rw [(noR_all _).2 hR]; omega), hd']
    obtain ⟨g1, g2⟩ := punL_dgw (decL l) _ _ _ _ _ _ _ d hd
    have hwide : ordW (decL l) ≠ [] := by
      intro h0
      apply ha
      rw [List.all_eq_true]
      intro c hc
      rw [decide_eq_true_eq]
      rw [← henc] at hc
      unfold encL at hc
      obtain ⟨r, hr, hcr⟩ := List.mem_flatMap.1 hc
      have h128 : r < 128 := by
        apply Classical.byContradiction
        intro hn
        obtain ⟨j, hj, rfl⟩ := List.getElem_of_mem hr
        have : j ∈ ordW (decL l) := by
          unfold ordW
          rw [List.mem_mergeSort]
          unfold wideK
          rw [List.mem_filter, List.mem_range, decide_eq_true_eq]
          exact ⟨hj, by rw [rn_get _ _ hj]; omega⟩
        rw [h0] at this
        cases this
      have h0' := (hR r hr).1
      rw [enc_low r h0' h128, List.mem_singleton] at hcr
      subst hcr
      rw [UInt8.toNat_ofNat']
      omega
    have hdne := g2 hwide
    have hlow : ∀ c ∈ lowB (decL l) (decL l).length, c ∈ l ∧ c.toNat < 128 := by
      intro c hc
      unfold lowB at hc
      obtain ⟨r, hr, rfl⟩ := List.mem_map.1 hc
      obtain ⟨hr1, hr2⟩ := List.mem_filter.1 hr
      rw [decide_eq_true_eq] at hr2
      have hr3 := List.mem_of_mem_take hr1
      have h0' := (hR r hr3).1
      refine ⟨?_, by rw [UInt8.toNat_ofNat']; omega⟩
      rw [← henc]
      exact mem_enc hr3 (by rw [enc_low r h0' hr2]; simp)
    have hall : ∀ c ∈ asciiL l, lbB c = true ∧ smB c = c ∧ c.toNat < 128 := by
      intro c hc
      rw [e, hT] at hc
      rcases List.mem_append.1 hc with hc | hc
      · simp only [List.mem_cons, List.not_mem_nil, or_false] at hc
        rcases hc with rfl | rfl | rfl | rfl <;> decide
      · rcases List.mem_append.1 hc with hc | hc
        · unfold punH at hc
          rcases List.mem_append.1 hc with hc | hc
          · obtain ⟨c1, c2⟩ := hlow c hc
            refine ⟨?_, ?_, c2⟩
            · rcases hl.ch c c1 with h | h
              · exact h
              · omega
            · obtain ⟨j, hj, rfl⟩ := List.getElem_of_mem c1
              have h3 := congrArg (fun x => x[j]?) hs
              unfold sml at h3
              simp only [List.getElem?_map, List.getElem?_eq_getElem hj, Option.map_some, Option.some.injEq] at h3
              exact h3
          · split at hc
            · cases hc
            · rw [List.mem_singleton] at hc
              subst hc
              decide
        · obtain ⟨c1, c2, _, c4⟩ := g1 c hc
          exact ⟨c1, c2, c4⟩
    have hasc : (asciiL l).all (fun c => decide (c.toNat < 128)) = true := by
      rw [List.all_eq_true]
      intro c hc
      rw [decide_eq_true_eq]
      exact (hall c hc).2.2
    refine ⟨⟨by rw [e]; simp, hle, fun c hc => (hall c hc).1, by rw [e]; simp, ?_⟩, ?_, if_pos hasc⟩
    · rw [e, hT, ← List.append_assoc, getLast_app _ _ hdne]
      intro h
      exact (g1 45 (List.mem_of_getLast? h)).2.2.1 rfl
    · unfold sml
      rw [List.map_congr_left (fun c hc => (hall c hc).2.1), List.map_id']⟩
theorem ascii_len8 {h : Ho} (sh : h.n.length ≤ 140737488351232) : (ascii asciiL h).1.n.length ≤ 140737488351232 := by
  unfold ascii
  split
  · split
    · split
      · show (asciiD asciiL h.n).1.length ≤ _
        unfold asciiD
        split
        · exact Nat.zero_le _
        · split
          · exact Nat.zero_le _
          · rename_i hl
            show (joinL _ _).length ≤ _
            omega
      · exact Nat.zero_le _
    · split
      · show (tagS h.n).length ≤ _
        rw [tagS_len]
        exact sh
      · exact sh
  · exact Nat.zero_le _
#print axioms labs_ascii
end Go.Proofs.YtnlgbopdbihnjabGreatDoor
