/-
  Bytes behind a CR and an LF; what follows for what is held.
-/
import Derived.Test.YtfifpepcmpaipabHs14
import Derived.Test.YtfifpepcmpaipabBg14
import Derived.Test.YtfifpepcmpaipabHr14
import Derived.ArgAppend
namespace Go.Proofs.Ytfifpepcmpaipab
open Go.RowKit

theorem lead_app (g : Nat) (a : Option Addr) (t : List UInt8) (n cap : Nat) (hn : n = t.length) (W : World) (hg : Bts (some ⟨g, 0, none⟩) [13, 10] W) (ht : Bts a t W) (h0 : 0 < t.length) (hl : t.length ≤ 1099511627776) :
    ∃ g' c w', (Builtin.append_ #[22, 22] 22 #[.slice (some ⟨g, 0, none⟩) 2 2, .slice a n cap]).run Try.prog W = .ok (.slice g' (2 + n) c) w' ∧ PeOk w' ⟨g', [13, 10] ++ t, c⟩ ∧ Below W.heap.size W w' := by
  subst hn
  obtain ⟨i0, hi, hz0, hz1, hz2⟩ := info_parts info5
  rcases id ht with e | ⟨g1, o1, rfl, _, _⟩
  · rw [e] at h0; cases h0
  · obtain ⟨v', w', hr, ho, hgr⟩ := run_append_arg_grows (P := Try.prog) W 22 22 5 i0 (.int .u8 0) 1 1 Try.underlying22 hi hz0 hz1 hz2 rfl (by decide) ⟨g, 0, none⟩ 2 2 (cellsB [13, 10]) rfl (bts_news hg) ⟨g1, o1, none⟩ t.length cap (cellsB t) (by rw [cellsB_length]; omega) (bts_news ht) (by omega) (by unfold maxLen; omega) (by omega)
    rw [← cellsB_append] at ho
    obtain ⟨ga, c, rfl, hb, hlen, hnn, hcc, -⟩ := own_bts ho
    refine ⟨ga, c, w', hr, ⟨hb, ?_, own_cap ho, hnn⟩, (Below.refl _ _).grown hgr (Nat.le_refl _) (fun k e => by cases e)⟩
    dsimp only
    omega
/-- An append whose run is known, behind a guard or not. -/
theorem wpList_append_runG {P : Program} {ops : Array Oper} {rest : List Oper} {op : Oper} {a : Act} {w w' : World} {Q : Exit → Act → World → Prop} (hw : Region.wanted op (yielded ops a.tmps) = true) (s x : Operand) (t : TypeId) (ho : op.op = .call { callee := .builtin .append, args := #[s, x], argTypes := #[t, t] }) (v1 v2 v3 : Value) (hs : a.eval s = v1) (hx : a.eval x = v2) (hr : (Builtin.append_ #[t, t] op.type #[v1, v2]).run P w = .ok v3 w') (h : wpList P ops Q rest (a.put op.dst v3) w') : wpList P ops Q (op :: rest) a w := by
  unfold wpList
  rw [if_pos hw]
  left
  unfold Oper.wp execOp
  simp only [ho, resolve, invoke, builtin, Sem.run_bind, Sem.run_pure, Result.andThen_ok, List.map_toArray, List.map_cons, List.map_nil, hs, hx, hr]
  exact h
def sep5 : List UInt8 := [13, 10, 46, 13, 10]
/-- Does it end with a line of one dot? -/
def endsB (t : List UInt8) : Bool := decide (sep5.length ≤ ([13, 10] ++ t).length ∧ ([13, 10] ++ t).drop (([13, 10] ++ t).length - sep5.length) = sep5)
theorem ends_of {t u : List UInt8} (h : t = u ++ [46, 13, 10]) (hl : lb u) : endsB t = true ∧ 3 ≤ t.length := by
  have : ∃ v, [13, 10] ++ t = v ++ sep5 := by
    rcases hl with e | ⟨v, e⟩
    · exact ⟨[], by rw [h, e]; rfl⟩
    · exact ⟨[13, 10] ++ v, by rw [h, e]; simp [sep5]⟩
  obtain ⟨v, e⟩ := this
  refine ⟨?_, by rw [h]; simp⟩
  unfold endsB
  rw [e]
  simp
theorem ends_held {t : List UInt8} {x : Ds} (h : endsB t = true) (h3 : 3 ≤ t.length) (hs : Stt t x) : x.held = 0 := by
  unfold endsB at h
  have h2 := (of_decide_eq_true h).2
  have hl : t.getLast? = some 10 := by
    have e := congrArg List.getLast? h2
    rw [List.getLast?_drop, if_neg (by simp [sep5]; omega)] at e
    rw [List.getLast?_append] at e
    cases ht : t.getLast? with
    | none => rw [List.getLast?_eq_none_iff] at ht; rw [ht] at h3; cases h3
    | some d => rw [ht] at e; simpa [sep5] using e
  rcases hs with ⟨h1, _⟩ | ⟨h1, u, e, _⟩ | ⟨h1, u, e, _⟩ | ⟨h1, _⟩ | ⟨h1, _⟩
  · simp [Ds.held, h1]
  · rw [e] at hl; simp at hl
  · rw [e] at hl; simp at hl
  · simp [Ds.held, h1]
  · simp [Ds.held, h1]
theorem held_max (x : Ds) : x.held ≤ 2 ∧ x.held - 1 = if x.p = 3 then 1 else 0 := by
  unfold Ds.held
  split
  · rename_i h; rw [if_neg (by omega)]; simp
  · split <;> simp
theorem drp_take (B : List Nat) (t : List UInt8) (j : Nat) (hj : j < B.length) : (B.take (j + 1)).countP (dotAt t) = (B.take j).countP (dotAt t) + (if dotAt t B[j] = true then 1 else 0) := by
  rw [List.take_succ_eq_append_getElem hj, List.countP_append]
  simp [List.countP_cons]
end Go.Proofs.Ytfifpepcmpaipab
