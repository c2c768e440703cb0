/-
  Two digests that are the same, compared; a guarded call in a statement whose order is drawn.
-/
import Derived.Test.YtlkflikhbkhpeabDoorTell
import Derived.Laws.StructEq
import Derived.Test.YtlkflikhbkhpeabDoorLate
namespace Go.Proofs.YtlkflikhbkhpeabDoor
open Go.RowKit

theorem forIn_yield {P : Program} {β : Type} (f : Nat → β → Sem (ForInStep β)) (b : β) (w : World) : ∀ L : List Nat, (∀ i ∈ L, (f i b).run P w = .ok (.yield b) w) → (forIn L b f : Sem β).run P w = .ok b w
  | [], _ => by simp
  | i :: L, h => by
    rw [List.forIn_cons, Sem.run_bind, h i (by simp)]
    simp only [Result.andThen_ok]
    exact forIn_yield f b w L (fun j hj => h j (by simp [hj]))
theorem size_u8 (w : World) : (sizeOf 5).run Tryd.prog w = .ok 1 w := by
  have h5 : (Tryd.prog.info? 5).map (·.size) = some 1 := by kernel_rfl
  cases hq : Tryd.prog.info? 5 with
  | none => simp [hq] at h5
  | some i =>
    have hs : i.size = 1 := by simpa [hq] using h5
    simp [sizeOf, typeInfo, hq, hs]
theorem part_row (l : List UInt8) (k : Nat) (hk : k < l.length) (w : World) : (part 5 (rowV l) k).run Tryd.prog w = .ok (.int .u8 (l[k].toNat : Int)) w := by
  simp [part, isAgg, run_underlying Tryd.underlying5, rowV_at l k hk]
theorem eq_row (l : List UInt8) (hl : l.length = 16) (d : Nat) (w : World) : (Op.equalIn (d + 2) 24 (.agg (rowV l)) (.agg (rowV l))).run Tryd.prog w = .ok true w := by
  rw [Op.equalIn]
  simp only [Sem.run_bind, run_underlying Tryd.underlying24, Result.andThen_ok, size_u8, Std.Legacy.Range.forIn_eq_forIn_range']
  rw [forIn_yield]
  · simp
  · intro i hi
    have hi' : i < l.length := by
      simp at hi
      omega
    simp [part_row l i hi', run_equalIn_int (P := Tryd.prog) w d 5 .u8 .u8 _ _ Tryd.underlying5]
theorem eql_row (l : List UInt8) (hl : l.length = 16) (w : World) : (binOp .eql 24 (.agg (rowV l)) (.agg (rowV l))).run Tryd.prog w = .ok (.bool true) w := by
  rw [run_eql_struct, eq_row l hl 9998]
  rfl
theorem neq_row (l : List UInt8) (hl : l.length = 16) (w : World) : (binOp .neq 24 (.agg (rowV l)) (.agg (rowV l))).run Tryd.prog w = .ok (.bool false) w := by
  rw [run_neq_struct, eq_row l hl 9998]
  rfl

/-- One alone may come up, and its guard lets it. -/
theorem wpAnyE_oneG {P : Program} {ops : Array Oper} {Q : Exit → Act → World → Prop} {md : Region.Mode} {S : World → Prop} {L : Nat} {i : Nat} {o : Oper} {fuel : Nat} {listed : Array Bool} {a : Act} {w : World} (hr : Region.ready md ops listed = [i]) (hi : ops[i]? = some o) (hg : Region.wanted o (yielded ops a.tmps) = true)
    (h : o.wp P a w (fun a' w' => (i = L ∨ S w') ∧ wpAnyE P md ops Q S L fuel (listed.setIfInBounds i true) a' w') Q) : wpAnyE P md ops Q S L (fuel + 1) listed a w :=
  ⟨fun h0 => (by rw [h0] at hr; cases hr), fun j hj => by
    rw [hr, List.mem_singleton] at hj
    subst hj
    unfold wpOp
    simp only [hi, hg, if_true]
    exact .inl h⟩
end Go.Proofs.YtlkflikhbkhpeabDoor
