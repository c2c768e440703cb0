/-
  cost, text and word of bytes in a coding.
-/
import Derived.Test.YtdgepnfgjgbkoaaDoorWq17
import Derived.Test.YtdgepnfgjgbkoaaDoorB64W
import Derived.Test.YtdgepnfgjgbkoaaDoorUnhex4
import Derived.Test.YtdgepnfgjgbkoaaDoorWp17
import Derived.Test.YtdgepnfgjgbkoaaDoorScP
namespace Go.Proofs.YtdgepnfgjgbkoaaDoor
open Go.RowKit

theorem wcost_any (q : Bool) (a : Option Addr) (l : List UInt8) (cap n : Nat) (w : World) (hn : n = l.length) (ht : Table w) (hb : Bts a l w) (hl : l.length ≤ 1099511627776) (hcap : n ≤ cap) (hcap2 : cap ≤ 9223372036854775807) :
    Calls Tryd.prog 46 #[.string (cdS q), .slice a n cap] w fun e w' => e = .returned (.int .i64 (coW q l : Nat)) ∧ Below w.heap.size w w' := by
  have hQ := wquote_any a l cap n w hn ht hb hl hcap hcap2
  have hql : (⟨(qL l).toArray⟩ : ByteArray).size = (qL l).length := by show (qL l).toArray.size = _; simp
  have HN : Hid (n = l.length) := hn
  cases q with
  | false =>
    have HC : Hid (coW false l = n) := by show _ = _; rw [hn]; rfl
    clear hn hb ht hl hQ hql
    unfold cdS
    go_enter Tryd.func46, Tryd.ntmps46
    go_wp2
    go_ret
    exact ⟨by rw [HC.out]; rfl, Below.refl _ _⟩
  | true =>
    have HC : Hid (coW true l = (qL l).length) := rfl
    have HQ := hQ
    obtain ⟨X, hX⟩ : ∃ X : ByteArray, X = ⟨(qL l).toArray⟩ := ⟨_, rfl⟩
    rw [← hX] at hQ hql
    have HL : Hid (X.size = (qL l).length) := hql
    clear hn hb ht hl HQ hql hX
    unfold cdS
    go_enter Tryd.func46, Tryd.ntmps46
    go_wp2_with fail
    refine hQ.mono ?_
    rintro e w2 ⟨rfl, hb2⟩
    go_wp2
    go_ret
    exact ⟨by rw [HC.out, HL.out]; rfl, hb2⟩
theorem wtxt_any (q : Bool) (a : Option Addr) (l : List UInt8) (cap n : Nat) (w : World) (hn : n = l.length) (ht : Table w) (hb : Bts a l w) (hl : l.length ≤ 1099511627776) (hcap : n ≤ cap) (hcap2 : cap ≤ 9223372036854775807) :
    Calls Tryd.prog 67 #[.string (cdS q), .slice a n cap] w fun e w' => e = .returned (.string ⟨(txW q l).toArray⟩) ∧ Below w.heap.size w w' := by
  have hQ := wquote_any a l cap n w hn ht hb hl hcap hcap2
  have hB := b64_any a l cap n w hn hb (by omega) (by omega) hcap2
  have HN : Hid (n = l.length) := hn
  clear hn hb ht hl
  cases q
  all_goals
    unfold cdS txW
    simp only [Bool.false_eq_true, if_false, if_true]
    go_enter Tryd.func67, Tryd.ntmps67
    go_wp2_with fail
    refine (by first | exact hQ | exact hB : Calls _ _ _ _ _).mono ?_
    rintro e w2 ⟨rfl, hb2⟩
    go_wp2
    go_ret
    exact ⟨rfl, hb2⟩
theorem txW_len (q : Bool) (l : List UInt8) : (txW q l).length ≤ 3 * l.length + 4 := by
  unfold txW
  cases q
  · simp only [Bool.false_eq_true, if_false]
    rw [e64L_len]
    omega
  · simp only [if_true]
    have := qL_len l
    omega
theorem wword_any (q : Bool) (a : Option Addr) (l : List UInt8) (cap n : Nat) (w : World) (hn : n = l.length) (ht : Table w) (hb : Bts a l w) (hl : l.length ≤ 1099511627776) (hcap : n ≤ cap) (hcap2 : cap ≤ 9223372036854775807) :
    Calls Tryd.prog 47 #[.string (cdS q), .slice a n cap] w fun e w' => e = .returned (.string ⟨(wrd q l).toArray⟩) ∧ Below w.heap.size w w' := by
  have hT := wtxt_any q a l cap n w hn ht hb hl hcap hcap2
  have hlen := txW_len q l
  have HN : Hid (n = l.length) := hn
  obtain ⟨X, hX⟩ : ∃ X : ByteArray, X = ⟨(txW q l).toArray⟩ := ⟨_, rfl⟩
  have hXs : X.size ≤ 3 * n + 4 := by
    rw [hX, hn]
    show (txW q l).toArray.size ≤ _
    simpa using hlen
  have hW : ((⟨#[61, 63, 85, 84, 70, 45, 56, 63]⟩ ++ cdS q) ++ ⟨#[63]⟩ ++ X) ++ ⟨#[63, 61]⟩ = (⟨(wrd q l).toArray⟩ : ByteArray) := by
    rw [hX]
    apply ByteArray.ext
    apply Array.ext'
    cases q <;> simp [wrd, cdS]
  have HW : Hid (((⟨#[61, 63, 85, 84, 70, 45, 56, 63]⟩ ++ cdS q) ++ ⟨#[63]⟩ ++ X) ++ ⟨#[63, 61]⟩ = (⟨(wrd q l).toArray⟩ : ByteArray)) := hW
  rw [← hX] at hT
  rw [← hn] at hl
  clear hn hb ht hX hW hlen
  have hcd : (cdS q).size = 1 := by cases q <;> rfl
  have hT := hT
  obtain ⟨cd, hcdd⟩ : ∃ cd, cd = cdS q := ⟨_, rfl⟩
  rw [← hcdd] at hT hcd HW ⊢
  have hs1 : (⟨#[61, 63, 85, 84, 70, 45, 56, 63]⟩ : ByteArray).size = 8 := rfl
  have hs2 : (⟨#[63]⟩ : ByteArray).size = 1 := rfl
  have hs3 : (⟨#[63, 61]⟩ : ByteArray).size = 2 := rfl
  clear hcdd
  go_enter Tryd.func47, Tryd.ntmps47
  go_wp2_with fail
  refine hT.mono ?_
  rintro e w2 ⟨rfl, hb2⟩
  go_wp2
  go_ret
  exact ⟨by rw [← HW.out]; rfl, hb2⟩
end Go.Proofs.YtdgepnfgjgbkoaaDoor
/-
  Rows of texts that a call made.
-/
namespace Go.Proofs.YtdgepnfgjgbkoaaDoor
open Go.RowKit

def cellsS (L : List (List UInt8)) : List Value := L.map fun x => Value.string (bS x)
theorem cellsS_len (L : List (List UInt8)) : (cellsS L).length = L.length := by simp [cellsS]
theorem cellsS_one (L : List (List UInt8)) : ∀ v ∈ cellsS L, v.oneCell' = true := by
  intro v hv
  simp only [cellsS, List.mem_map] at hv
  obtain ⟨b, _, rfl⟩ := hv
  rfl
theorem info9 : (Tryd.prog.info? 9).map (fun i => (i.zero, i.size, i.bytes)) = some (some (.string ⟨#[]⟩), 1, 16) := by kernel_rfl
theorem info_partsG {e : TypeId} {z : Value} {n b : Nat} (h : (Tryd.prog.info? e).map (fun i => (i.zero, i.size, i.bytes)) = some (some z, n, b)) : ∃ i, Tryd.prog.info? e = some i ∧ i.zero = some z ∧ i.size = n ∧ i.bytes = b := by
  cases hq : Tryd.prog.info? e with
  | none => rw [hq] at h; cases h
  | some i =>
    rw [hq] at h
    simp at h
    exact ⟨i, rfl, h.1, h.2.1, h.2.2⟩
/-- One text more behind a row of the call's own. -/
theorem wpList_append_str {ops : Array Oper} {rest : List Oper} {o : Oper} {a : Act} {w : World} {Q : Exit → Act → World → Prop} (hgd : o.guard = none) (s x : Operand)
    (ho : o.op = .call { callee := .builtin .append, args := #[s, x], argTypes := #[35, 35] }) (base : Nat) (v : Value) (n : Nat) (xs : List (List UInt8)) (hs : a.eval s = v) (hown : w.ownsRow base 9 1 v n (cellsS xs))
    (g : Nat) (y : List UInt8) (c : Nat) (hx : a.eval x = .slice (some ⟨g, 0, none⟩) 1 c) (hb : w.cell? ⟨g, 0, none⟩ = some (.string (bS y))) (hbytes : (n + 1) * 16 ≤ 140737488355328) (hbase : base ≤ w.heap.size)
    (h : ∀ v' w', w'.ownsRow base 9 1 v' (n + 1) (cellsS (xs ++ [y])) → w.grownBy w' v.ownBlock → wpList Tryd.prog ops Q rest (a.put o.dst v') w') : wpList Tryd.prog ops Q (o :: rest) a w := by
  obtain ⟨i0, hi, hz0, hz1, hz2⟩ := info_partsG info9
  refine wpList_append_own _ hgd s x 35 ho base 9 i0 (.string ⟨#[]⟩) 1 16 Tryd.underlying35 hi hz0 hz1 hz2 rfl (by decide) v n _ hs hown ⟨g, 0, none⟩ 1 c (cellsS [y]) hx rfl (fun j u hu => ?_) (cellsS_one _) (by unfold maxLen; omega) hbytes hbase ?_
  · cases j with
    | zero =>
      obtain rfl : Value.string (bS y) = u := by simpa [cellsS] using hu
      exact hb
    | succ j => simp [cellsS] at hu
  · intro v' w' ho' hg' _
    exact h v' w' (by rw [cellsS, List.map_append]; exact ho') hg'
/-- Nothing of a row is left. -/
theorem own_empty {w : World} {base : Nat} {a : Option Addr} {n cp : Nat} {xs : List Value} (h : w.ownsRow base 5 1 (.slice a n cp) n xs) : w.ownsRow base 5 1 (.slice a 0 cp) 0 (cellsB []) := by
  rcases h.2 with ⟨hv, h0⟩ | ⟨g, cap, cur, hv, hbg, hg, hnc, hcm, hcs, ht⟩
  · injection hv with e1 e2 e3
    subst e1 e3
    exact ⟨rfl, .inl ⟨rfl, rfl⟩⟩
  · injection hv with e1 e2 e3
    subst e1 e3
    exact ⟨rfl, .inr ⟨g, cp, cur, rfl, hbg, hg, Nat.zero_le _, hcm, hcs, by simp [cellsB]⟩⟩
theorem rowS_cells {w : World} {base n : Nat} {v : Value} {L : List (List UInt8)} (h : w.ownsRow base 9 1 v n (cellsS L)) : n = L.length ∧ (L = [] ∨ ∃ g cp, v = .slice (some ⟨g, 0, none⟩) n cp ∧ g < w.heap.size ∧ n ≤ cp ∧ ∀ j x, L[j]? = some x → w.cell? ⟨g, j, none⟩ = some (.string (bS x))) := by
  have hl : n = L.length := by have := h.1; rw [cellsS_len] at this; omega
  refine ⟨hl, ?_⟩
  rcases h.2 with ⟨hv, h0⟩ | ⟨g, cap, cur, hv, hbg, hg, hnc, hcm, hcs, ht⟩
  · exact .inl (List.eq_nil_of_length_eq_zero (by omega))
  · refine .inr ⟨g, cap, hv, (Array.getElem?_eq_some_iff.1 hg).1, hnc, fun j x hx => ?_⟩
    subst hv
    have hj := (List.getElem?_eq_some_iff.1 hx).1
    have := h.cellAt j (by omega)
    rw [this]
    simp [cellsS, hx]
theorem own_shapeS {w : World} {base n : Nat} {v : Value} {L : List (List UInt8)} (h : w.ownsRow base 9 1 v n (cellsS L)) : ∃ a cp, v = .slice a n cp ∧ (L ≠ [] → ∃ g, a = some ⟨g, 0, none⟩ ∧ g < w.heap.size ∧ n ≤ cp ∧ ∀ j x, L[j]? = some x → w.cell? ⟨g, j, none⟩ = some (.string (bS x))) := by
  obtain ⟨hl, hL⟩ := rowS_cells h
  rcases h.2 with ⟨hv, h0⟩ | ⟨g, cap, cur, hv, hbg, hg, hnc, hcm, hcs, ht⟩
  · refine ⟨none, 0, by rw [hv, h0], fun hne => ?_⟩
    exact absurd (List.eq_nil_of_length_eq_zero (by omega)) hne
  · refine ⟨_, cap, hv, fun hne => ?_⟩
    rcases hL with hL | ⟨g', cp', hv', h1, h2, h3⟩
    · exact absurd hL hne
    · rw [hv] at hv'
      injection hv' with e1 _ e3
      injection e1 with e1
      injection e1 with e1
      exact ⟨g, rfl, by rw [e1]; exact h1, hnc, by rw [e1]; exact h3⟩
/-- strings.Join of texts with a blank. -/
theorem join_any {w : World} {base n : Nat} {v : Value} {L : List (List UInt8)} (h : w.ownsRow base 9 1 v n (cellsS L)) (hs : ∀ x ∈ L, x.length ≤ 75) (hn : n ≤ 2000000) :
    Calls Tryd.prog 48 #[v, .string ⟨#[32]⟩] w fun e w' => e = .returned (.string (bS (jnW L))) ∧ Below w.heap.size w w' := by
  obtain ⟨hl, _⟩ := rowS_cells h
  obtain ⟨a, cp, rfl, hc⟩ := own_shapeS h
  by_cases hL : L = []
  · subst hL
    subst hl
    refine (Tryd.strings_Join_none a cp ⟨#[32]⟩ w).mono ?_
    rintro e w' ⟨rfl, rfl⟩
    exact ⟨rfl, Below.refl _ _⟩
  · obtain ⟨g, rfl, hg, hnc, hcell⟩ := hc hL
    have e1 : (L.map bS).map (·.data.toList) = L := by
      rw [List.map_map]
      have : ((fun x : ByteArray => x.data.toList) ∘ bS) = id := by
        funext x
        exact bS_list x
      rw [this, List.map_id]
    have hj := jn_len L hs
    have := Tryd.strings_Join g 0 cp (L.map bS) ⟨#[32]⟩ w (fun j x hx => by
      rw [List.getElem?_map] at hx
      cases hq : L[j]? with
      | none => rw [hq] at hx; cases hx
      | some y =>
        rw [hq] at hx
        injection hx with hx
        rw [Nat.zero_add, hcell j y hq, hx]) hg (by rw [List.length_map]; omega) (by rw [List.length_map]; omega) (by
      rw [e1]
      show (List.intercalate [32] L).length ≤ _
      rw [join_jn]
      omega)
    rw [e1, List.length_map, ← hl] at this
    refine this.mono ?_
    rintro e w' ⟨rfl, hb⟩
    refine ⟨?_, hb⟩
    show _ = Ending.returned (Value.string (bS (jnW L)))
    rw [← join_jn]
    rfl
end Go.Proofs.YtdgepnfgjgbkoaaDoor
