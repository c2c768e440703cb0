/-
  bytes.Index of bytes behind a CR and an LF.
-/
import Derived.Test.YtfifpepcmpaipaaHr14
import Derived.Test.YtfifpepcmpaipaaEnP
import Derived.Test.YtfifpepcmpaipaaShi
import Derived.ArgAppend
import Derived.Deep.Upon
namespace Go.Proofs.Ytfifpepcmpaipaa
open Go.RowKit

theorem lead_any (g : Nat) (a : Option Addr) (t : List UInt8) (n cap : Nat) (hn : n = t.length) (W : World) (hg : Bts (some ⟨g, 0, none⟩) [13, 10] W) (ht : Bts a t W) (hl : t.length ≤ 1099511627776) :
    ∃ g' c w', (Builtin.append_ #[27, 27] 27 #[.slice (some ⟨g, 0, none⟩) 2 2, .slice a n cap]).run Try.prog W = .ok (.slice g' (2 + n) c) w' ∧ PeOk w' ⟨g', [13, 10] ++ t, c⟩ ∧ Below W.heap.size W w' := by
  subst hn
  obtain ⟨i0, hi, hz0, hz1, hz2⟩ := info_parts info5
  by_cases h0 : 0 < t.length
  · rcases id ht with e | ⟨g1, o1, rfl, _, _⟩
    · rw [e] at h0; cases h0
    · obtain ⟨v', w', hr, ho, hgr⟩ := run_append_arg_grows (P := Try.prog) W 27 27 5 i0 (.int .u8 0) 1 1 Try.underlying27 hi hz0 hz1 hz2 rfl (by decide) ⟨g, 0, none⟩ 2 2 (cellsB [13, 10]) rfl (bts_news hg) ⟨g1, o1, none⟩ t.length cap (cellsB t) (by rw [cellsB_length]; omega) (bts_news ht) (by omega) (by unfold maxLen; omega) (by omega)
      rw [← cellsB_append] at ho
      obtain ⟨ga, c, rfl, hb, hlen, hnn, hcc, -⟩ := own_bts ho
      refine ⟨ga, c, w', hr, ⟨hb, ?_, own_cap ho, hnn⟩, (Below.refl _ _).grown hgr (Nat.le_refl _) (fun k e => by cases e)⟩
      dsimp only
      omega
  · obtain rfl : t = [] := List.eq_nil_of_length_eq_zero (by omega)
    have hr := run_append_nothing (P := Try.prog) W 27 27 27 5 i0 Try.underlying27 hi (some ⟨g, 0, none⟩) 2 2 (Nat.le_refl _) (.slice a 0 cap) ⟨.inl ⟨5, Try.underlying27⟩, fun w' => by simp [Builtin.lenOf], by cases a <;> simp [Builtin.firstCells, loadCells, loadCellsFrom], by cases a <;> simp [Builtin.firstCells, loadCells, loadCellsFrom], by simp, by simp⟩
    exact ⟨some ⟨g, 0, none⟩, 2, W, hr, ⟨hg, by simp, by simp, fun e => by cases e⟩, Below.refl _ _⟩
/-- An append whose run is known, behind a guard or not. -/
theorem wpList_append_runG {P : Program} {ops : Array Oper} {rest : List Oper} {op : Oper} {a : Act} {w w' : World} {Q : Exit → Act → World → Prop} (hw : Region.wanted op (yielded ops a.tmps) = true) (s x : Operand) (t : TypeId) (ho : op.op = .call { callee := .builtin .append, args := #[s, x], argTypes := #[t, t] }) (v1 v2 v3 : Value) (hs : a.eval s = v1) (hx : a.eval x = v2) (hr : (Builtin.append_ #[t, t] op.type #[v1, v2]).run P w = .ok v3 w') (h : wpList P ops Q rest (a.put op.dst v3) w') : wpList P ops Q (op :: rest) a w := by
  unfold wpList
  rw [if_pos hw]
  left
  unfold Oper.wp execOp
  simp only [ho, resolve, invoke, builtin, Sem.run_bind, Sem.run_pure, Result.andThen_ok, List.map_toArray, List.map_cons, List.map_nil, hs, hx, hr]
  exact h
def nums (l : List UInt8) : List Int := l.map fun c => (c.toNat : Int)
theorem bytes_nums (l : List UInt8) : Lib.bytesOf (nums l) = l := by
  unfold Lib.bytesOf nums
  rw [List.map_map]
  conv => rhs; rw [← List.map_id l]
  apply List.map_congr_left
  intro c _
  simp
theorem nums_at {l : List UInt8} {g o : Nat} {w : World} (h : Bts (some ⟨g, o, none⟩) l w) : ∀ i, i < l.length → w.cell? ((⟨g, o, none⟩ : Addr).add i) = some (.int .u8 ((nums l).getD i 0)) := fun i hi => by
  rcases h with e | ⟨g', o', e, _, hrow⟩
  · rw [e] at hi; cases hi
  · cases e
    rw [addr_add, hrow i hi]
    unfold nums
    simp [List.getD, hi]
theorem nums_in (l : List UInt8) : ∀ x ∈ nums l, 0 ≤ x ∧ x < 256 := fun x hx => by
  unfold nums at hx
  obtain ⟨c, _, rfl⟩ := List.mem_map.1 hx
  have := c.toNat_lt
  omega
theorem bidx_any (a : Option Addr) (l : List UInt8) (n c : Nat) (hn : n = l.length) (h0 : 0 < l.length) (g2 : Nat) (r : List UInt8) (k c2 : Nat) (hk : k = r.length) (hr0 : 0 < r.length) (m : Int) (w : World) (ha : PeOk w ⟨a, l, c⟩) (hb : Bts (some ⟨g2, 0, none⟩) r w) (hl : l.length < 4294967281) (hr : r.length ≤ 1048576) (hm : w.cell? ⟨0, 0, none⟩ = some (.int .i64 m)) :
    Calls Try.prog 27 #[.slice a n c, .slice (some ⟨g2, 0, none⟩) k c2] w fun e w' => e = .returned (.int .i64 (Lib.index l r)) ∧ Below w.heap.size w w' := by
  have hbt := ha.bt
  have hlc := ha.lc
  dsimp only at hbt hlc
  rcases id hbt with e | ⟨g1, o1, rfl, _, _⟩
  · rw [e] at h0; cases h0
  · have := Try.bytes_Index_at ⟨g1, o1, none⟩ ⟨g2, 0, none⟩ n c k c2 (nums l) (nums r) m w (by simp [nums, hn]) (by simp [nums, hk]) (nums_in l) (nums_in r) (fun i hi => nums_at hbt i (by omega)) (fun i hi => nums_at hb i (by omega)) (by omega) (by omega) (by omega) hm
    rw [bytes_nums, bytes_nums] at this
    refine this.mono ?_
    rintro e w' ⟨he, q, rfl⟩
    exact ⟨he, below_drewN w q⟩
/-- The world that a call begins in holds bytealg's number. -/
theorem maxlen_of {W : World} (h : W.ShapedOpen Try.prog) : ∃ m, W.cell? ⟨0, 0, none⟩ = some (.int .i64 m) := Try.laysM185.s1_3 W h
/-- As the library's lifting of a row with a condition, with the world's shape at hand. -/
theorem handed_shaped {a : Assume} {C : Checked} {os : Os} {f : FuncId} {fn : Func} {H : Type} {enc : TypeId × Value → H} {s : OpenSpec} {k : (H : Type) → List (DataW H) → Bool} (hk : s.cond = some k) {F : Stop.Interp} {conds : List PathCond} {apart fresh handsOn again : Bool}
    (own : ownKnob C.prog.godebug = none) (started : os.Started) (noInit : C.prog.inits.idxOf? f = none) (hfn : C.prog.funcs[f]? = some fn)
    (witness : ∃ (w : World) (tape : Tape) (i : Input), w.os = os ∧ (w.forCall tape i).Shaped C.prog ∧ i.vars = [] ∧ Input.okWide C.prog (w.forCall tape i) .any w.heap.size f i ∧ s.pre6 enc C.prog fn conds apart (w.forCall tape i).memory i.args ∧ a.holds C.prog (lone (Frame.enter C.prog f i.args .normal) [] (w.forCall tape i)))
    (contract : ∀ (W : World) (base : Nat) (args : Array Value) (ds gs : List (DataW H)) (before : List MemPlace), (∀ (j : Nat) t v, fn.params[j]? = some t → args[j]? = some v → Value.okWide C.prog W .any base t v) → DataW.Whole enc C.prog fn.params.toList s.vars apart W args.toList ds gs before → k H (ds ++ gs) = true → W.ShapedOpen C.prog →
      Calls C.prog f args W fun e W' => ∃ v, e = .returned v ∧ (s.at F).post enc C.prog fn apart fresh handsOn again W args v W') :
    ReturnsInHanded a C os f .any (s.pre6 enc C.prog fn conds apart) ((s.at F).post enc C.prog fn apart fresh handsOn again) := by
  refine returnsInHanded_of_calls own started noInit witness (fun w tape i _ hsh _ hok hpre _ => ?_)
  obtain ⟨_, _, _, f2, hf2, _, _, _, _, hval⟩ := hok
  obtain rfl : f2 = fn := Option.some.inj (hf2.symm.trans hfn)
  obtain ⟨ds, gs, before, hw, _, hc⟩ := (OpenSpec.pre_some hk conds apart _ _).1 hpre.1
  exact (contract (w.forCall tape i) w.heap.size i.args ds gs before hval (DataW.Whole.of_heap (w' := w.forCall tape i) (by rfl) hw) hc hsh).mono (fun e W' ⟨v, he, hp⟩ => by subst he; exact ChangeSpec.post_blind hp)
end Go.Proofs.Ytfifpepcmpaipaa
