/-
  The statements' own lent and kept.
-/
import Derived.Test.YtpepjiocjcjeeaaDoorFe16
import Derived.Deep.DeepAppendRoom
namespace Go.Proofs.YtpepjiocjcjeeaaDoor
open Go.RowKit

/-- The mark behind what is lent. -/
def mrk : Fd := ⟨[126], []⟩
theorem cellsF_mrk (n : Nat) : cellsF (List.replicate (n + 1) mrk) = cellsF (List.replicate n mrk) ++ [.string ⟨#[126]⟩, .string ⟨#[]⟩] := by
  rw [List.replicate_succ', cellsF_append]
  rfl
theorem newM (w : World) : ∀ j u, [Value.string ⟨#[126]⟩, .string ⟨#[]⟩][j]? = some u → (w.alloc (.cells #[.string ⟨#[126]⟩, .string ⟨#[]⟩] 34)).cell? ((⟨w.heap.size, 0, none⟩ : Addr).add j) = some u := by
  intro j u hj
  match j, hj with
  | 0, hj => simp at hj; subst hj; simp [Addr.add]
  | 1, hj => simp at hj; subst hj; simp [Addr.add]
theorem oneM : ∀ u ∈ [Value.string ⟨#[126]⟩, .string ⟨#[]⟩], u.oneCell' = true := by
  intro u hu
  simp at hu
  rcases hu with rfl | rfl <;> rfl
set_option maxHeartbeats 8000000 in
set_option maxRecDepth 100000 in
theorem lentF_any (a : Option Addr) (cap : Nat) (l : List Fd) (w : World) (ha : Fds a l w) (hnc : a = none → cap = 0) (hl : l.length ≤ 4398046511104) :
    Calls Tryd.prog 13 #[.slice a l.length cap] w fun e w' => ∃ g, e = .returned (.slice (some ⟨g, 0, none⟩) l.length (l.length + 70)) ∧ w'.ownsRow w.heap.size 34 2 (.slice (some ⟨g, 0, none⟩) (l.length + 70) (l.length + 70)) (l.length + 70) (cellsF (l ++ List.replicate 70 mrk)) ∧ Below w.heap.size w w' := by
  obtain ⟨i0, hi, hz0, hz1, hz2⟩ := info_parts infoF16
  have HA : Hid (Fds a l w) := ha
  clear ha
  go_enter Tryd.func13, Tryd.ntmps13
  go_wp2_with (at_make; refine wpList_make_own _ rfl _ _ 24 rfl w.heap.size 34 i0 (.agg #[.string ⟨#[]⟩, .string ⟨#[]⟩]) 2 Tryd.underlying24 hi hz0 hz1 .i64 .i64 _ (l.length + 70) rfl rfl (by omega) (by rw [hz2]; omega) (by unfold maxLen; omega) (Nat.le_refl _) ?_)
  intro w1 hown hgrow
  have HB1 : Hid (Below w.heap.size w w1) := (Below.refl _ _).grown hgrow (Nat.le_refl _) (fun k h => by cases h)
  have HP1 : Hid (Fds a l w1) := HA.out.below HB1.out
  have HL : Hid (∀ (w2 : World), w2.ownsRow w.heap.size 34 2 (.slice (some ⟨w.heap.size, 0, none⟩) l.length (l.length + 70)) l.length (cellsF l) → Below w.heap.size w w2 → True) := fun _ _ _ => trivial
  clear hgrow
  have HAP : ∀ {ops : Array Oper} {rest : List Oper} {o : Oper} {ac : Act} {Q : Exit → Act → World → Prop} (hgd : o.guard = none) (s x : Operand) (ho : o.op = .call { callee := .builtin .append, args := #[s, x], argTypes := #[24, 24] }) (hs : ac.eval s = .slice (some ⟨w.heap.size, 0, none⟩) 0 (l.length + 70)) (hx : ac.eval x = .slice a l.length cap)
      (h : ∀ w', w'.ownsRow w.heap.size 34 2 (.slice (some ⟨w.heap.size, 0, none⟩) l.length (l.length + 70)) l.length (cellsF l) → Below w.heap.size w w' → wpList Tryd.prog ops Q rest (ac.put o.dst (.slice (some ⟨w.heap.size, 0, none⟩) l.length (l.length + 70))) w'), wpList Tryd.prog ops Q (o :: rest) ac w1 := by
    intro ops rest o ac Q hgd s x ho hs hx h
    cases a with
    | none =>
      have hnil := fds_none HP1.out
      have hc0 := hnc rfl
      subst hnil
      subst hc0
      refine wpList_append_own_none hgd s x 24 ho w.heap.size 34 i0 2 Tryd.underlying24 hi _ 0 [] hs hown hx ?_
      exact h w1 hown HB1.out
    | some ad =>
      refine wpList_append_own_spare _ hgd s x 24 ho w.heap.size 34 i0 2 Tryd.underlying24 hi hz1 w.heap.size 0 (l.length + 70) [] hs hown ad l.length cap (cellsF l) hx (by rw [cellsF_length]; omega) (fds_news HP1.out) (cellsF_oneC l) (by omega) ?_
      intro w' ho' hg'
      have e1 : (0 : Nat) + l.length = l.length := Nat.zero_add _
      rw [e1] at ho' ⊢
      exact h w' ho' (HB1.out.grown hg' HB1.out.size (fun q hq => by injection hq with hq; omega))
  clear hown
  go_wp2_with (at_builtin; refine HAP rfl _ _ rfl rfl rfl ?_)
  intro w2 ho2 hb2
  have HO2 : Hid (w2.ownsRow w.heap.size 34 2 (.slice (some ⟨w.heap.size, 0, none⟩) (l.length + 0) (l.length + 70)) (l.length + 0) (cellsF (l ++ List.replicate 0 mrk))) := by
    show World.ownsRow _ _ _ _ _ _ _
    rw [List.replicate_zero, List.append_nil]
    exact ho2
  have HB2 : Hid (Below w.heap.size w w2) := hb2
  clear ho2 hb2 HAP HB1 HP1 HL HA
  go_wp2
  go_loopw [3, 11] (fun u i wr => ∃ k : Nat, k ≤ 70 ∧ i = .int .i64 k ∧ u = .slice (some ⟨w.heap.size, 0, none⟩) (l.length + k) (l.length + 70) ∧ Hid (wr.ownsRow w.heap.size 34 2 (.slice (some ⟨w.heap.size, 0, none⟩) (l.length + k) (l.length + 70)) (l.length + k) (cellsF (l ++ List.replicate k mrk))) ∧ Hid (Below w.heap.size w wr)) (fun _ i _ => 70 - (intOf i).toNat)
  case atStart => exact ⟨0, Nat.zero_le _, rfl, rfl, HO2, HB2⟩
  case round =>
    clear HO2 HB2
    obtain ⟨k, hk, rfl, rfl, HO, HB⟩ := hrel
    by_cases hlt : k < 70
    · have ho := HO.out.alloc (.cells #[.string ⟨#[126]⟩, .string ⟨#[]⟩] 34)
      have hroom : l.length + k + 1 ≤ l.length + 70 := by omega
      go_wp2_with (at_builtin; refine wpList_append_own_spare _ rfl _ _ 24 rfl w.heap.size 34 i0 2 Tryd.underlying24 hi hz1 w.heap.size (l.length + k) (l.length + 70) _ rfl ho ⟨wr.heap.size, 0, none⟩ 1 1 [Value.string ⟨#[126]⟩, .string ⟨#[]⟩] rfl rfl ?c1 ?c2 hroom ?_)
      case c1 => exact newM _
      case c2 => exact oneM
      intro w3 ho3 hg3
      have HO3 : Hid (w3.ownsRow w.heap.size 34 2 (.slice (some ⟨w.heap.size, 0, none⟩) (l.length + (k + 1)) (l.length + 70)) (l.length + (k + 1)) (cellsF (l ++ List.replicate (k + 1) mrk))) := by
        show World.ownsRow _ _ _ _ _ _ _
        rw [cellsF_append, cellsF_mrk, ← List.append_assoc, ← cellsF_append]
        exact ho3
      have HB3 : Hid (Below w.heap.size w w3) := (HB.out.alloc HB.out.size _).grown hg3 (by have := HB.out.size; simp; omega) (fun q hq => by injection hq with hq; omega)
      clear ho ho3 hg3 HO HB
      go_wp2
      go_roundw
      case rel => exact ⟨k + 1, by omega, by go_num, rfl, HO3, HB3⟩
      case measure => simp [intOf]; omega
    · obtain rfl : k = 70 := by omega
      go_wp2
      go_ret
      exact ⟨w.heap.size, rfl, HO.out, HB.out⟩
set_option maxHeartbeats 8000000 in
set_option maxRecDepth 100000 in
theorem keptF_any (a : Option Addr) (cap g B : Nat) (l : List Fd) (w : World) (ha : Fds a l w) (hl : l.length ≤ 4398046511104)
    (ho : w.ownsRow B 34 2 (.slice (some ⟨g, 0, none⟩) (l.length + 70) (l.length + 70)) (l.length + 70) (cellsF (l ++ List.replicate 70 mrk))) :
    Calls Tryd.prog 18 #[.slice (some ⟨g, 0, none⟩) l.length (l.length + 70), .slice a l.length cap] w fun e w' => e = .returned (.bool true) ∧ Below w.heap.size w w' := by
  have hg : g < w.heap.size := (ho.lt g rfl).2
  have hce : ∀ j u, (cellsF (l ++ List.replicate 70 mrk))[j]? = some u → w.cell? ⟨g, j, none⟩ = some u := fun j u hj => by
    have := ho.cells rfl j u hj
    rw [Addr.add_lit, Nat.zero_add] at this
    exact this
  have HP : Fds (some ⟨g, 0, none⟩) l w := .inr ⟨g, 0, rfl, hg, fun j u hj => by
    rw [Nat.zero_add]
    refine hce j u ?_
    rw [cellsF_append, List.getElem?_append_left]
    · exact hj
    · rcases Nat.lt_or_ge j (cellsF l).length with h' | h'
      · exact h'
      · rw [List.getElem?_eq_none h'] at hj; cases hj⟩
  have HM : Hid (∀ wx, Below w.heap.size w wx → ∀ i, l.length ≤ i → i < l.length + 70 → wx.cell? ⟨g, i * 2, none⟩ = some (.string ⟨#[126]⟩) ∧ wx.cell? ⟨g, i * 2 + 1, none⟩ = some (.string ⟨#[]⟩)) := fun wx hx i h1 h2 => by
    obtain ⟨q0, q1⟩ := cellsF_at (l ++ List.replicate 70 mrk) i (by simp; omega)
    have e : (l ++ List.replicate 70 mrk)[i]'(by simp; omega) = mrk := by
      rw [List.getElem_append_right h1, List.getElem_replicate]
    rw [e] at q0 q1
    exact ⟨(hx.cell (p := ⟨g, i * 2, none⟩) hg).trans (hce _ _ q0), (hx.cell (p := ⟨g, i * 2 + 1, none⟩) hg).trans (hce _ _ q1)⟩
  have HS : Hid (Calls Tryd.prog 10 #[.slice (some ⟨g, 0, none⟩) l.length (l.length + 70), .slice a l.length cap] w fun e w' => e = .returned (.bool true) ∧ Below w.heap.size w w') := usame_eq _ _ _ _ l w HP ha (by omega)
  clear HP hce ho ha hg
  go_enter Tryd.func18, Tryd.ntmps18
  go_wp2_with (go_at_call 10; refine HS.out.mono ?_; rintro e w1 ⟨rfl, hb1⟩)
  have HB0 : Hid (Below w.heap.size w w1) := hb1
  clear hb1 HS
  go_loopw [6] (fun i wr => ∃ k : Nat, k ≤ 70 ∧ i = .int .i64 (l.length + k : Nat) ∧ Hid (Below w.heap.size w wr)) (fun i _ => l.length + 70 - (intOf i).toNat)
  case atStart => exact ⟨0, Nat.zero_le _, rfl, HB0⟩
  case round =>
    obtain ⟨k, hk, rfl, HB⟩ := hrel
    clear HB0
    by_cases hlt : k < 70
    · obtain ⟨m0, m1⟩ := HM.out wr HB.out (l.length + k) (by omega) (by omega)
      go_wp2
      go_roundw
      case rel => exact ⟨k + 1, by omega, by go_num, HB⟩
      case measure => simp [intOf]; omega
    · obtain rfl : k = 70 := by omega
      go_wp2
      go_ret
      exact ⟨rfl, HB.out⟩
end Go.Proofs.YtpepjiocjcjeeaaDoor
