/-
  What an append leaves alone; guarded operations in a statement whose order is drawn.
-/
import Derived.Test.YtlkflikhbkhpeabDoorApps
import Derived.Test.YtlkflikhbkhpeabDoorEqd
import Derived.Test.YtlkflikhbkhpeabDoorMd5
namespace Go.Proofs.YtlkflikhbkhpeabDoor
open Go.RowKit

theorem lies_kind {w : World} {g t u : Nat} {cs ds : Array Value} (h : Lies w g cs t) (k : Lies w g ds u) : t = u := by
  have := h.symm.trans k
  injection this with e
  injection e
theorem own_keep {w w' : World} {B n : Nat} {v : Value} {xs : List Value} (h : w.ownsRow B 5 1 v n xs) (hb : ∀ k, v.ownBlock = some k → w'.heap[k]? = w.heap[k]?) : w'.ownsRow B 5 1 v n xs := by
  obtain ⟨h1, h2⟩ := h
  refine ⟨h1, ?_⟩
  rcases h2 with h2 | ⟨g, cap, cur, rfl, hB, hg, hr⟩
  · exact .inl h2
  · exact .inr ⟨g, cap, cur, rfl, hB, by rw [hb g rfl]; exact hg, hr⟩
theorem own_below {w w' : World} {B n : Nat} {v : Value} {xs : List Value} (h : w.ownsRow B 5 1 v n xs) (hb : Below w.heap.size w w') : w'.ownsRow B 5 1 v n xs := own_keep h (fun k hk => hb.block k (h.lt k hk).2)
/-- A row of bytes and a block of another kind are apart. -/
theorem own_apart {w : World} {B n g t : Nat} {v : Value} {xs : List Value} {cs : Array Value} (h : w.ownsRow B 5 1 v n xs) (hl : Lies w g cs t) (ht : t ≠ 5) : ∀ k, v.ownBlock = some k → k ≠ g := by
  intro k hk e
  subst e
  rcases h.2 with ⟨rfl, _⟩ | ⟨g', cap, cur, rfl, hB, hg, _⟩
  · cases hk
  · injection hk with hk
    subst hk
    exact ht (lies_kind hl hg)
theorem HashAt.of {w w' : World} {g : Nat} {t : List UInt8} (h : HashAt w g t) (e : w'.heap[g]? = w.heap[g]?) : HashAt w' g t := by
  obtain ⟨row, h1, h2, h3⟩ := h.ex
  exact ⟨row, h1, h2, e.trans h3⟩
theorem HashAt.below {w w' : World} {g : Nat} {t : List UInt8} (h : HashAt w g t) (hb : Below w.heap.size w w') : HashAt w' g t := h.of (hb.block g h.lt)
theorem HashAt.but {w w' : World} {g k : Nat} {t : List UInt8} (h : HashAt w g t) (hb : But k w w') (hne : g ≠ k) : HashAt w' g t := h.of (hb.block g h.lt hne)
theorem HashAt.apart {w : World} {B n g : Nat} {v : Value} {xs : List Value} {t : List UInt8} (h : HashAt w g t) (ho : w.ownsRow B 5 1 v n xs) : ∀ k, v.ownBlock = some k → k ≠ g := by
  obtain ⟨row, _, _, h3⟩ := h.ex
  exact own_apart ho h3 (by decide)
theorem own_but {w w' : World} {B n g : Nat} {v : Value} {xs : List Value} {t : List UInt8} (ho : w.ownsRow B 5 1 v n xs) (h : HashAt w g t) (hb : But g w w') : w'.ownsRow B 5 1 v n xs :=
  own_keep ho (fun k hk => hb.block k (ho.lt k hk).2 (h.apart ho k hk))

theorem wpList_append_keep {ops : Array Oper} {rest : List Oper} {o : Oper} {a : Act} {w : World} {Q : Exit → Act → World → Prop} (hgd : o.guard = none) (s x : Operand)
    (ho : o.op = .call { callee := .builtin .append, args := #[s, x], argTypes := #[22, 22] }) (base : Nat) (v : Value) (n : Nat) (xs : List UInt8) (hs : a.eval s = v) (hown : w.ownsRow base 5 1 v n (cellsB xs))
    (sp : Option Addr) (l : List UInt8) (m c : Nat) (hx : a.eval x = .slice sp m c) (hm : m = l.length) (hb : Bts sp l w) (hnc : sp = none → c = 0) (hbytes : n + m ≤ 140737488355328) (hbase : base ≤ w.heap.size)
    (h : ∀ v' w', w'.ownsRow base 5 1 v' (n + m) (cellsB (xs ++ l)) → w.grownBy w' v.ownBlock → wpList Tryd.prog ops Q rest (a.put o.dst v') w') : wpList Tryd.prog ops Q (o :: rest) a w := by
  obtain ⟨i0, hi, hz0, hz1, hz2⟩ := info_parts info5
  subst hm
  cases sp with
  | none =>
    obtain rfl := bts_none hb
    obtain rfl := hnc rfl
    refine wpList_append_own_none hgd s x 22 ho base 5 i0 1 Tryd.underlying22 hi v n _ hs hown hx ?_
    exact h v w (by simpa using hown) (World.grownBy.refl w _)
  | some ad =>
    refine wpList_append_own _ hgd s x 22 ho base 5 i0 (.int .u8 0) 1 1 Tryd.underlying22 hi hz0 hz1 hz2 rfl (by decide) v n _ hs hown ad l.length c (cellsB l) hx (by rw [cellsB_length]; omega) (bts_news hb) (cellsB_one l) (by unfold maxLen; omega) (by omega) hbase ?_
    intro v' w' hown' hgrow _
    exact h v' w' (by rw [cellsB_append]; exact hown') hgrow
theorem HashAt.grown {w w' : World} {B n g : Nat} {v : Value} {xs : List Value} {t : List UInt8} (h : HashAt w g t) (ho : w.ownsRow B 5 1 v n xs) (hg : w.grownBy w' v.ownBlock) : HashAt w' g t :=
  h.of (hg.block g h.lt (fun e => h.apart ho g e.symm rfl))

/-- Take number i first: its guard lets it. -/
theorem wpAnyE_takeG {P : Program} {ops : Array Oper} {Q : Exit → Act → World → Prop} {md : Region.Mode} {S : World → Prop} {L : Nat} {i : Nat} {oi : Oper} {d : Option Tmp} {v : Value} {fuel : Nat} {listed : Array Bool} {a : Act} {w : World} (hi : ops[i]? = some oi)
    (hs : Region.noSelect ops = true) (hf : Region.free md ops listed i = true) (hr : (Region.ready md ops listed).contains i = true) (hL : waits md ops L i = true)
    (hQ : ∀ c a w, Q (.panic c) (a.put d v) w → Q (.panic c) a w) (hd : oi.dst = d) (hg : Region.wanted oi (yielded ops a.tmps) = true) (hy : ∀ w', S w' → (execOp a.eval oi).run P w' = .ok (.value v) w') (hS : S w)
    (h : wpAnyE P md ops Q S L fuel (listed.setIfInBounds i true) (a.put d v) w) : wpAnyE P md ops Q S L (fuel + 1) listed a w := by
  subst hd
  exact wpAnyE_first hi (Region.noSelect_spec hs) hQ hL fuel listed a w (Region.free_spec hi hf) (by simpa using hr) (.inl ⟨hg, hy⟩) hS h
end Go.Proofs.YtlkflikhbkhpeabDoor
