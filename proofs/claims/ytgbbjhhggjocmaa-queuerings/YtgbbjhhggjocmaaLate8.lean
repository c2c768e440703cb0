/-
  A statement whose order is drawn: one alone may come up, and it is not wanted.
-/
import Derived.Test.YtgbbjhhggjocmaaLate7
namespace Go.Proofs.Ytgbbjhhggjocmaa

theorem wpAnyE_off {P : Program} {ops : Array Oper} {Q : Exit → Act → World → Prop} {md : Region.Mode} {S : World → Prop} {L : Nat} {i : Nat} {o : Oper} {d : Option Tmp} {fuel : Nat} {listed : Array Bool} {a : Act} {w : World} (hr : Region.ready md ops listed = [i]) (hi : ops[i]? = some o) (hd : o.dst = d)
    (hw : Region.wanted o (yielded ops a.tmps) = false) (hS : S w) (h : wpAnyE P md ops Q S L fuel (listed.setIfInBounds i true) (a.put d undef) w) : wpAnyE P md ops Q S L (fuel + 1) listed a w :=
  ⟨fun h0 => (by rw [h0] at hr; cases hr), fun x hx => by
    rw [hr, List.mem_singleton] at hx
    subst hx
    subst hd
    unfold wpOp
    simp only [hi, hw, Bool.false_eq_true, if_false]
    exact ⟨.inr hS, h⟩⟩
end Go.Proofs.Ytgbbjhhggjocmaa
