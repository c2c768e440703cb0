/-
  append of bytes to a row of the call's own.
-/
import Derived.Test.YtlkflikhbkhpeabDoorBytes
import Derived.Laws.AppendOwnNone
namespace Go.Proofs.YtlkflikhbkhpeabDoor
open Go.RowKit

theorem wpList_append_bts {ops : Array Oper} {rest : List Oper} {o : Oper} {a : Act} {w : World} {Q : Exit → Act → World → Prop} (hgd : o.guard = none) (s x : Operand)
    (ho : o.op = .call { callee := .builtin .append, args := #[s, x], argTypes := #[22, 22] }) (base : Nat) (v : Value) (n : Nat) (xs : List UInt8) (hs : a.eval s = v) (hown : w.ownsRow base 5 1 v n (cellsB xs))
    (sp : Option Addr) (l : List UInt8) (c : Nat) (hx : a.eval x = .slice sp l.length c) (hb : Bts sp l w) (hnc : sp = none → c = 0) (hbytes : n + l.length ≤ 140737488355328) (hbase : base ≤ w.heap.size)
    (h : ∀ v' w', w'.ownsRow base 5 1 v' (n + l.length) (cellsB (xs ++ l)) → (∀ B w0, Below B w0 w → B ≤ base → Below B w0 w') → wpList Tryd.prog ops Q rest (a.put o.dst v') w') : wpList Tryd.prog ops Q (o :: rest) a w := by
  obtain ⟨i0, hi, hz0, hz1, hz2⟩ := info_parts info5
  cases sp with
  | none =>
    obtain rfl := bts_none hb
    obtain rfl := hnc rfl
    refine wpList_append_own_none hgd s x 22 ho base 5 i0 1 Tryd.underlying22 hi v n _ hs hown hx ?_
    exact h v w (by simpa using hown) (fun _ _ hb _ => hb)
  | some ad =>
    refine wpList_append_own _ hgd s x 22 ho base 5 i0 (.int .u8 0) 1 1 Tryd.underlying22 hi hz0 hz1 hz2 rfl (by decide) v n _ hs hown ad l.length c (cellsB l) hx (by rw [cellsB_length]; omega) (bts_news hb) (cellsB_one l) (by unfold maxLen; omega) (by omega) hbase ?_
    intro v' w' hown' hgrow _
    exact h v' w' (by rw [cellsB_append]; exact hown') (fun B w0 hb hB => hb.grown hgrow (by omega) (fun q hq => Nat.le_trans hB (hown.lt q hq).1))
/-- One byte more. -/
theorem wpList_append_byte {ops : Array Oper} {rest : List Oper} {o : Oper} {a : Act} {w : World} {Q : Exit → Act → World → Prop} (hgd : o.guard = none) (s x : Operand)
    (ho : o.op = .call { callee := .builtin .append, args := #[s, x], argTypes := #[22, 22] }) (base : Nat) (v : Value) (n : Nat) (xs : List UInt8) (hs : a.eval s = v) (hown : w.ownsRow base 5 1 v n (cellsB xs))
    (w0 : World) (b : UInt8) (y : Int) (hy : y = (b.toNat : Int)) (hw : w = w0.alloc (.cells #[.int .u8 y] 5)) (c : Nat) (hx : a.eval x = .slice (some ⟨w0.heap.size, 0, none⟩) 1 c) (hbytes : n + 1 ≤ 140737488355328) (hbase : base ≤ w0.heap.size)
    (h : ∀ v' w', w'.ownsRow base 5 1 v' (n + 1) (cellsB (xs ++ [b])) → (∀ B w1, Below B w1 w0 → B ≤ base → Below B w1 w') → wpList Tryd.prog ops Q rest (a.put o.dst v') w') : wpList Tryd.prog ops Q (o :: rest) a w := by
  subst hw hy
  refine wpList_append_bts hgd s x ho base v n xs hs hown (some ⟨w0.heap.size, 0, none⟩) [b] c hx ?_ (fun e => by cases e) (by simpa using hbytes) (by simp; omega) ?_
  · exact .inr ⟨w0.heap.size, 0, rfl, by simp, fun j hj => by
      obtain rfl : j = 0 := by simpa using hj
      simp⟩
  · intro v' w' ho' hb'
    exact h v' w' ho' (fun B w1 hb1 hB => hb' B w1 (hb1.alloc (by omega) _) hB)
end Go.Proofs.YtlkflikhbkhpeabDoor
