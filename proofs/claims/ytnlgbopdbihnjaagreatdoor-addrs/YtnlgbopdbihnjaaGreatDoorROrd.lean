/-
  The document's order.
-/
import Derived.Test.YtnlgbopdbihnjaaGreatDoorRStp
import Derived.Test.YtnlgbopdbihnjaaGreatDoorWst
import Derived.Test.YtnlgbopdbihnjaaGreatDoorRUn
import Derived.Test.YtnlgbopdbihnjaaGreatDoorLate5
namespace Go.Proofs.YtnlgbopdbihnjaaGreatDoor
open Go.RowKit

/-- One list behind another, as one operation. -/
theorem wp_append_nums {o : Oper} {a : Act} {w : World} {K : Act → World → Prop} {Q : Exit → Act → World → Prop} (s x : Operand) (T e by' : Nat) (k : IntKind)
    (hT : Tryz.prog.underlying T = some (.slice e)) (hI : (Tryz.prog.info? e).map (fun i => (i.zero, i.size, i.bytes)) = some (some (.int k 0), 1, by')) (hby : 0 < by')
    (ho : o.op = .call { callee := .builtin .append, args := #[s, x], argTypes := #[T, T] }) (base : Nat) (v : Value) (n : Nat) (xs : List Int) (hs : a.eval s = v) (hown : w.ownsRow base e 1 v n (cellsN k xs))
    (sp : Option Addr) (l : List Int) (m c : Nat) (hx : a.eval x = .slice sp m c) (hm : m = l.length) (hb : Nts k sp l w) (hnc : sp = none → c = 0) (hbytes : (n + m) * by' ≤ 140737488355328) (hbase : base ≤ w.heap.size)
    (h : ∀ v' w', w'.ownsRow base e 1 v' (n + m) (cellsN k (xs ++ l)) → w.grownBy w' v.ownBlock → K (a.put o.dst v') w') : o.wp Tryz.prog a w K Q := by
  obtain ⟨i0, hi, hz0, hz1, hz2⟩ := info_parts hI
  subst hm
  have hn : n + l.length ≤ 140737488355328 := Nat.le_trans (Nat.le_mul_of_pos_right _ hby) hbytes
  cases sp with
  | none =>
    obtain rfl := nts_none hb
    obtain rfl := hnc rfl
    have hrun := run_append_owned_none (P := Tryz.prog) (w := w) base T o.type e i0 1 hT hi v n _ hown
    have hK := h v w (by simpa using hown) (World.grownBy.refl w _)
    rw [List.length_nil] at hx
    unfold Oper.wp
    simp [execOp, ho, resolve, invoke, builtin, hs, hx, hrun, Result.andThen]
    exact hK
  | some ad =>
    refine wp_append_own _ s x T ho base e i0 (.int k 0) 1 by' hT hi hz0 hz1 hz2 rfl (by decide) v n _ hs hown ad l.length c (cellsN k l) hx (by rw [cellsN_length]; omega) (nts_news hb) (cellsN_one k _) (by unfold maxLen; omega) hbytes hbase ?_
    intro v' w' hown' hgrow _
    exact h v' w' (by rw [cellsN_append]; exact hown') hgrow
theorem natI_append (l r : List Nat) : natI (l ++ r) = natI l ++ natI r := by simp [natI]

end Go.Proofs.YtnlgbopdbihnjaaGreatDoor
