/-
  Bytes cut at places.
-/
import Derived.Test.YtekjhfhakodooaaOverPure
import Derived.Laws.Small
namespace Go.Proofs.Ytekjhfhakodooaa
open Go.RowKit

/-- The numbers zs lie in block g from place o on. -/
def Ints (a : Option Addr) (zs : List Int) (w : World) : Prop := zs = [] ∨ ∃ g o, a = some ⟨g, o, none⟩ ∧ g < w.heap.size ∧ ∀ j, (h : j < zs.length) → w.cell? ⟨g, o + j, none⟩ = some (.int .i64 zs[j])
theorem Ints.below {a : Option Addr} {zs : List Int} {w w' : World} (h : Ints a zs w) (hb : Below w.heap.size w w') : Ints a zs w' := by
  rcases h with h | ⟨g, o, e, hg, hr⟩
  · exact .inl h
  · exact .inr ⟨g, o, e, Nat.lt_of_lt_of_le hg hb.size, fun j hj => (hb.cell (p := ⟨g, o + j, none⟩) hg).trans (hr j hj)⟩

/-- A part of a list that has room ca, from i to j. -/
def pv (ad : Addr) (ca i j : Nat) : Value := .slice (if ca = i then some ad else some (ad.add i)) (j - i) (ca - i)
/-- The parts between m + 1 places. -/
def parts (ad : Addr) (ca : Nat) (p : Nat → Nat) (m : Nat) : List Value := (List.range m).map fun k => pv ad ca (p k) (p (k + 1))
/-- Places that go up from 0, none beyond n. -/
structure Places (n : Nat) (p : Nat → Nat) (m : Nat) : Prop where
  start : p 0 = 0
  up : ∀ k, k < m → p k ≤ p (k + 1)
  top : ∀ k, k ≤ m → p k ≤ n
theorem Places.next {n m t : Nat} {p : Nat → Nat} (h : Places n p m) (h1 : p m ≤ t) (h2 : t ≤ n) : Places n (fun k => if k ≤ m then p k else t) (m + 1) := by
  refine ⟨by simp [h.start], fun k hk => ?_, fun k hk => ?_⟩
  · by_cases e : k = m
    · subst e
      have e3 : ¬ k + 1 ≤ k := by omega
      simp only [Nat.le_refl, if_true, e3, if_false]
      exact h1
    · have e1 : k ≤ m := by omega
      have e2 : k + 1 ≤ m := by omega
      simp only [e1, e2, if_true]
      exact h.up k (by omega)
  · by_cases e : k ≤ m
    · simp only [e, if_true]
      exact h.top k e
    · simp only [e, if_false]
      exact h2
theorem parts_next (ad : Addr) (ca : Nat) (p : Nat → Nat) (m t : Nat) : parts ad ca (fun k => if k ≤ m then p k else t) (m + 1) = parts ad ca p m ++ [pv ad ca (p m) t] := by
  unfold parts
  rw [List.range_succ, List.map_append]
  congr 1
  · apply List.map_congr_left
    intro k hk
    have hk' := List.mem_range.1 hk
    have e1 : k ≤ m := by omega
    have e2 : k + 1 ≤ m := by omega
    simp only [e1, e2, if_true]
  · have e3 : ¬ m + 1 ≤ m := by omega
    simp only [List.map_cons, List.map_nil, Nat.le_refl, if_true, e3, if_false]
theorem parts_length (ad : Addr) (ca : Nat) (p : Nat → Nat) (m : Nat) : (parts ad ca p m).length = m := by simp [parts]
theorem parts_at (ad : Addr) (ca : Nat) (p : Nat → Nat) (m k : Nat) (h : k < m) : (parts ad ca p m)[k]? = some (pv ad ca (p k) (p (k + 1))) := by simp [parts, h]
theorem info22 : (Try.prog.info? 22).map (fun i => (i.zero, i.size, i.bytes)) = some (some (.slice none 0 0), 1, 24) := by kernel_rfl
theorem bts_part {ad : Addr} {l : List UInt8} {ca i j : Nat} {w : World} (h : Bts (some ad) l w) (hij : i ≤ j) (hj : j ≤ l.length) (hc : l.length ≤ ca) :
    Bts (if ca = i then some ad else some (ad.add i)) ((l.drop i).take (j - i)) w := by
  rcases h with rfl | ⟨g, o, e, hg, hr⟩
  · exact .inl (by simp)
  · by_cases e0 : j = i
    · exact .inl (by rw [e0, Nat.sub_self, List.take_zero])
    · injection e with e
      subst e
      refine .inr ⟨g, o + i, ?_, hg, fun k hk => ?_⟩
      · rw [if_neg (by omega), Addr.add_lit]
      · rw [List.length_take, List.length_drop] at hk
        rw [Nat.add_assoc, hr (i + k) (by omega), List.getElem_take, List.getElem_drop]

set_option maxRecDepth 100000 in
theorem pieces_some (ad : Addr) (l : List UInt8) (ca : Nat) (b : Option Addr) (zs : List Int) (cb : Nat) (w : World) (hz : Ints b zs w) (hl : l.length ≤ 1048576) (hq : l.length ≤ ca) (hn : zs.length ≤ 1048576) :
    Calls Try.prog 28 #[.slice (some ad) l.length ca, .slice b zs.length cb] w fun e w' => ∃ v p, e = .returned v ∧ w'.ownsRow w.heap.size 22 1 v (zs.length + 1) (parts ad ca p (zs.length + 1)) ∧ Places l.length p (zs.length + 1) ∧ p (zs.length + 1) = l.length ∧ Below w.heap.size w w' := by
  obtain ⟨i0, hi, hz0, hz1, hz2⟩ := info_parts info22
  have HZ : Hid (Ints b zs w) := hz
  clear hz
  go_enter Try.func28, Try.ntmps28
  go_wp2_with fail
  go_loopw [5, 6, 12] (fun v f i wr => ∃ (k fr : Nat) (p : Nat → Nat), k ≤ zs.length ∧ fr ≤ l.length ∧ i = .int .i64 k ∧ f = .int .i64 fr ∧ Hid (fr = p k) ∧ Hid (wr.ownsRow w.heap.size 22 1 v k (parts ad ca p k)) ∧ Hid (Places l.length p k) ∧ Hid (Below w.heap.size w wr)) (fun _ _ i _ => zs.length - (intOf i).toNat)
  case atStart => exact ⟨0, 0, fun _ => 0, by omega, by omega, rfl, rfl, rfl, World.ownsRow_nil _ _ _ _, ⟨rfl, fun _ h => by omega, fun _ _ => by omega⟩, Below.refl _ _⟩
  case round =>
    obtain ⟨k, fr, p, hk, hf, rfl, rfl, HF, HO, HP, HB⟩ := hrel
    by_cases hlt : k < zs.length
    · obtain ⟨g, o, rfl, hg, hc⟩ : ∃ g o, b = some ⟨g, o, none⟩ ∧ g < w.heap.size ∧ wr.cell? ⟨g, o + k, none⟩ = some (.int .i64 zs[k]) := by
        rcases HZ.out with h | ⟨g, o, e, hg, hr⟩
        · rw [h] at hlt
          exact absurd hlt (by simp)
        · exact ⟨g, o, e, hg, (HB.out.cell (p := ⟨g, o + k, none⟩) hg).trans (hr k hlt)⟩
      generalize zs[k] = c at hc
      obtain ⟨M, hM⟩ : ∃ M : Int, M = max c (fr : Int) := ⟨_, rfl⟩
      obtain ⟨t, ht⟩ : ∃ t : Nat, t = (min M (l.length : Int)).toNat := ⟨_, rfl⟩
      have hmx : (if c < (fr : Int) then (fr : Int) else c) = M := by split <;> omega
      have hmn : (if (l.length : Int) < M then (l.length : Int) else M) = (t : Int) := by split <;> omega
      have ht1 : fr ≤ t := by omega
      have ht2 : t ≤ l.length := by omega
      clear hM ht
      have i1 : (fr : Int) ≤ (t : Int) := by omega
      have i2 : (t : Int) ≤ (ca : Int) := by omega
      have i3 : (fr : Int) ≤ (ca : Int) := by omega
      have hown := HO.out
      obtain ⟨A, hA⟩ : ∃ A, (if ca = fr then some ad else some (ad.add fr)) = some A := by split <;> exact ⟨_, rfl⟩
      have HPV : Hid (pv ad ca fr t = .slice (some A) (t - fr) (ca - fr)) := by show _ = _; unfold pv; rw [hA]
      go_wp2_with (at_builtin; refine wpList_append_own _ rfl _ _ 54 rfl w.heap.size 22 i0 (.slice none 0 0) 1 24 Try.underlying54 hi hz0 hz1 hz2 rfl (by decide) _ _ _ rfl (hown.alloc _) ⟨wr.heap.size, 0, none⟩ 1 1 [pv ad ca fr t] rfl rfl ?c1 ?c2 ?c3 ?c4 ?c5 ?_)
      case c1 =>
        intro j u hj
        match j, hj with
        | 0, hj => simp at hj; subst hj; rw [HPV.out]; simp [Addr.add]
      case c2 => intro u hu; simp at hu; subst hu; rfl
      case c3 => unfold maxLen; omega
      case c4 => omega
      case c5 => have := HB.out.size; simp; omega
      intro v' w2 hown' hgrow _
      have R : Hid (w2.ownsRow w.heap.size 22 1 v' (k + 1) (parts ad ca (fun j => if j ≤ k then p j else t) (k + 1))) := by
        show w2.ownsRow _ _ _ _ _ _
        rw [parts_next, ← HF.out]
        exact hown'
      have HB3 : Hid (Below w.heap.size w w2) := (HB.out.alloc HB.out.size _).grown hgrow (by have := HB.out.size; simp; omega) (fun q hq => (hown.lt q hq).1)
      have HP3 : Hid (Places l.length (fun j => if j ≤ k then p j else t) (k + 1)) := HP.out.next (by rw [← HF.out]; exact ht1) ht2
      clear hown' hgrow hown HO HB HPV hmx hmn hA
      go_wp2
      go_roundw
      case rel => exact ⟨k + 1, t, fun j => if j ≤ k then p j else t, by omega, ht2, by go_num, rfl, by show t = if k + 1 ≤ k then p (k + 1) else t; rw [if_neg (by omega)], R, HP3, HB3⟩
      case measure => simp [intOf]; omega
    · obtain rfl : k = zs.length := by omega
      have i3 : (fr : Int) ≤ (l.length : Int) := by omega
      have i4 : (l.length : Int) ≤ (ca : Int) := by omega
      have hown := HO.out
      obtain ⟨A, hA⟩ : ∃ A, (if ca = fr then some ad else some (ad.add fr)) = some A := by split <;> exact ⟨_, rfl⟩
      have HPV : Hid (pv ad ca fr l.length = .slice (some A) (l.length - fr) (ca - fr)) := by show _ = _; unfold pv; rw [hA]
      go_wp2_with (at_builtin; refine wpList_append_own _ rfl _ _ 54 rfl w.heap.size 22 i0 (.slice none 0 0) 1 24 Try.underlying54 hi hz0 hz1 hz2 rfl (by decide) _ _ _ rfl (hown.alloc _) ⟨wr.heap.size, 0, none⟩ 1 1 [pv ad ca fr l.length] rfl rfl ?c1 ?c2 ?c3 ?c4 ?c5 ?_)
      case c1 =>
        intro j u hj
        match j, hj with
        | 0, hj => simp at hj; subst hj; rw [HPV.out]; simp [Addr.add]
      case c2 => intro u hu; simp at hu; subst hu; rfl
      case c3 => unfold maxLen; omega
      case c4 => omega
      case c5 => have := HB.out.size; simp; omega
      intro v' w2 hown' hgrow _
      have R : Hid (w2.ownsRow w.heap.size 22 1 v' (zs.length + 1) (parts ad ca (fun j => if j ≤ zs.length then p j else l.length) (zs.length + 1))) := by
        show w2.ownsRow _ _ _ _ _ _
        rw [parts_next, ← HF.out]
        exact hown'
      have HB3 : Hid (Below w.heap.size w w2) := (HB.out.alloc HB.out.size _).grown hgrow (by have := HB.out.size; simp; omega) (fun q hq => (hown.lt q hq).1)
      have HP3 : Hid (Places l.length (fun j => if j ≤ zs.length then p j else l.length) (zs.length + 1)) := HP.out.next (by rw [← HF.out]; exact hf) (Nat.le_refl _)
      clear hown' hgrow hown HO HB HPV hA
      go_wp2
      go_ret
      exact ⟨_, _, rfl, R, HP3, by rw [if_neg (by omega)], HB3⟩

set_option maxRecDepth 100000 in
theorem pieces_none (b : Option Addr) (zs : List Int) (cb : Nat) (w : World) (hz : Ints b zs w) (hn : zs.length ≤ 1048576) :
    Calls Try.prog 28 #[.slice none 0 0, .slice b zs.length cb] w fun e w' => ∃ v, e = .returned v ∧ w'.ownsRow w.heap.size 22 1 v (zs.length + 1) (List.replicate (zs.length + 1) (.slice none 0 0)) ∧ Below w.heap.size w w' := by
  obtain ⟨i0, hi, hz0, hz1, hz2⟩ := info_parts info22
  have HZ : Hid (Ints b zs w) := hz
  clear hz
  go_enter Try.func28, Try.ntmps28
  go_wp2_with fail
  go_loopw [5, 6, 12] (fun v f i wr => ∃ (k : Nat), k ≤ zs.length ∧ i = .int .i64 k ∧ f = .int .i64 0 ∧ Hid (wr.ownsRow w.heap.size 22 1 v k (List.replicate k (.slice none 0 0))) ∧ Hid (Below w.heap.size w wr)) (fun _ _ i _ => zs.length - (intOf i).toNat)
  case atStart => exact ⟨0, by omega, rfl, rfl, World.ownsRow_nil _ _ _ _, Below.refl _ _⟩
  case round =>
    obtain ⟨k, hk, rfl, rfl, HO, HB⟩ := hrel
    by_cases hlt : k < zs.length
    · obtain ⟨g, o, rfl, hg, hc⟩ : ∃ g o, b = some ⟨g, o, none⟩ ∧ g < w.heap.size ∧ wr.cell? ⟨g, o + k, none⟩ = some (.int .i64 zs[k]) := by
        rcases HZ.out with h | ⟨g, o, e, hg, hr⟩
        · rw [h] at hlt
          exact absurd hlt (by simp)
        · exact ⟨g, o, e, hg, (HB.out.cell (p := ⟨g, o + k, none⟩) hg).trans (hr k hlt)⟩
      generalize zs[k] = c at hc
      obtain ⟨M, hM⟩ : ∃ M : Int, M = max c 0 := ⟨_, rfl⟩
      have hmx : (if c < 0 then 0 else c) = M := by split <;> omega
      have hmn : (if 0 < M then 0 else M) = 0 := by split <;> omega
      clear hM
      have hown := HO.out
      go_wp2_with (at_builtin; refine wpList_append_own _ rfl _ _ 54 rfl w.heap.size 22 i0 (.slice none 0 0) 1 24 Try.underlying54 hi hz0 hz1 hz2 rfl (by decide) _ _ _ rfl (hown.alloc _) ⟨wr.heap.size, 0, none⟩ 1 1 [.slice none 0 0] rfl rfl ?c1 ?c2 ?c3 ?c4 ?c5 ?_)
      case c1 =>
        intro j u hj
        match j, hj with
        | 0, hj => simp at hj; subst hj; simp [Addr.add]
      case c2 => intro u hu; simp at hu; subst hu; rfl
      case c3 => unfold maxLen; omega
      case c4 => omega
      case c5 => have := HB.out.size; simp; omega
      intro v' w2 hown' hgrow _
      have R : Hid (w2.ownsRow w.heap.size 22 1 v' (k + 1) (List.replicate (k + 1) (.slice none 0 0))) := by
        show w2.ownsRow _ _ _ _ _ _
        rw [List.replicate_succ']
        exact hown'
      have HB3 : Hid (Below w.heap.size w w2) := (HB.out.alloc HB.out.size _).grown hgrow (by have := HB.out.size; simp; omega) (fun q hq => (hown.lt q hq).1)
      clear hown' hgrow hown HO HB hmx hmn
      go_wp2
      go_roundw
      case rel => exact ⟨k + 1, by omega, by go_num, rfl, R, HB3⟩
      case measure => simp [intOf]; omega
    · obtain rfl : k = zs.length := by omega
      have hown := HO.out
      go_wp2_with (at_builtin; refine wpList_append_own _ rfl _ _ 54 rfl w.heap.size 22 i0 (.slice none 0 0) 1 24 Try.underlying54 hi hz0 hz1 hz2 rfl (by decide) _ _ _ rfl (hown.alloc _) ⟨wr.heap.size, 0, none⟩ 1 1 [.slice none 0 0] rfl rfl ?c1 ?c2 ?c3 ?c4 ?c5 ?_)
      case c1 =>
        intro j u hj
        match j, hj with
        | 0, hj => simp at hj; subst hj; simp [Addr.add]
      case c2 => intro u hu; simp at hu; subst hu; rfl
      case c3 => unfold maxLen; omega
      case c4 => omega
      case c5 => have := HB.out.size; simp; omega
      intro v' w2 hown' hgrow _
      have R : Hid (w2.ownsRow w.heap.size 22 1 v' (zs.length + 1) (List.replicate (zs.length + 1) (.slice none 0 0))) := by
        show w2.ownsRow _ _ _ _ _ _
        rw [List.replicate_succ']
        exact hown'
      have HB3 : Hid (Below w.heap.size w w2) := (HB.out.alloc HB.out.size _).grown hgrow (by have := HB.out.size; simp; omega) (fun q hq => (hown.lt q hq).1)
      clear hown' hgrow hown HO HB
      go_wp2
      go_ret
      exact ⟨_, rfl, R, HB3⟩

/-- What is cut: parts one behind the other, that make the whole. -/
theorem pieces_any (a : Option Addr) (l : List UInt8) (ca : Nat) (b : Option Addr) (zs : List Int) (cb : Nat) (w : World) (h : Bts a l w) (hz : Ints b zs w) (hl : l.length ≤ 1048576) (hq : l.length ≤ ca) (hn : zs.length ≤ 1048576) (h0 : a = none → ca = 0) :
    Calls Try.prog 28 #[.slice a l.length ca, .slice b zs.length cb] w fun e w' => ∃ v p cells, e = .returned v ∧ w'.ownsRow w.heap.size 22 1 v (zs.length + 1) cells ∧ Places l.length p (zs.length + 1) ∧ p (zs.length + 1) = l.length ∧
      (∀ k, k < zs.length + 1 → ∃ A c, cells[k]? = some (.slice A (p (k + 1) - p k) c) ∧ ∀ w0, Bts a l w0 → Bts A ((l.drop (p k)).take (p (k + 1) - p k)) w0) ∧ Below w.heap.size w w' := by
  cases a with
  | some ad =>
    refine (pieces_some ad l ca b zs cb w hz hl hq hn).mono ?_
    rintro e w' ⟨v, p, rfl, ho, hp, he, hb⟩
    exact ⟨v, p, _, rfl, ho, hp, he, fun k hk => ⟨_, _, parts_at ad ca p _ k hk, fun _ h => bts_part h (hp.up k hk) (hp.top (k + 1) (by omega)) hq⟩, hb⟩
  | none =>
    obtain rfl : l = [] := by
      rcases h with h | ⟨g, o, e, _⟩
      · exact h
      · cases e
    obtain rfl := h0 rfl
    refine (pieces_none b zs cb w hz hn).mono ?_
    rintro e w' ⟨v, rfl, ho, hb⟩
    exact ⟨v, fun _ => 0, _, rfl, ho, ⟨rfl, fun _ _ => Nat.le_refl _, fun _ _ => Nat.le_refl _⟩, rfl, fun k hk => ⟨none, 0, by simp [hk], fun _ _ => .inl (by simp)⟩, hb⟩
end Go.Proofs.Ytekjhfhakodooaa
