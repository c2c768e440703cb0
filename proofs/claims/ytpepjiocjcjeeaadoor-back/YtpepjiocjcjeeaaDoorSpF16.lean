/-
  The contract of the statements' own spoil: it writes into the row that is handed in and into new memory alone.
-/
import Derived.Test.YtpepjiocjcjeeaaDoorFe16
import Derived.Deep.DeepAppendRoom
namespace Go.Proofs.YtpepjiocjcjeeaaDoor
open Go.RowKit

theorem owns_nonePF {w : World} {base n cap : Nat} {xs : List Value} (h : w.ownsRow base 34 2 (.slice none n cap) n xs) : n = 0 ∧ cap = 0 := by
  obtain ⟨_, ⟨h1, h2⟩ | ⟨g, c, cur, hv, _⟩⟩ := h
  · injection h1 with _ a b
    exact ⟨h2, b⟩
  · injection hv with a
    cases a
theorem owns_holdsPF {w : World} {base n cap : Nat} {ao : Option Addr} {xs : List Value} (h : w.ownsRow base 34 2 (.slice ao n cap) n xs) : ∀ b, ao = some b → ∀ j u, xs[j]? = some u → w.cell? (b.add j) = some u := by
  intro b hb
  subst hb
  have hf : b = ⟨b.block, 0, none⟩ := by
    obtain ⟨_, ⟨h1, _⟩ | ⟨g, c, cur, hv, _⟩⟩ := h
    · cases h1
    · injection hv with a
      injection a with a
      subst a
      rfl
  rw [hf] at h ⊢
  exact h.cells rfl
/-- What is owned stays so where another row was written. -/
theorem owns_otherPF {w w' : World} {base n : Nat} {v : Value} {xs : List Value} {row : Option Nat} (h : w.ownsRow base 34 2 v n xs) (hg : w.grownBy w' row) (hne : ∀ k, row = some k → v.ownBlock ≠ some k) : w'.ownsRow base 34 2 v n xs := by
  refine h.kept hg ?_
  cases hv : v.ownBlock with
  | none => exact .inl rfl
  | some g =>
    right
    intro e
    exact hne g e.symm hv
theorem slice_of_ownsPF {w : World} {base n : Nat} {v : Value} {xs : List Value} (h : w.ownsRow base 34 2 v n xs) (hn : 0 < n) : ∃ g cap, v = .slice (some ⟨g, 0, none⟩) n cap ∧ base ≤ g ∧ g < w.heap.size ∧ n ≤ cap ∧ cap ≤ maxLen := by
  obtain ⟨_, ⟨_, h0⟩ | ⟨g, cap, cur, rfl, hg, hh, hnc, hcm, _⟩⟩ := h
  · omega
  · exact ⟨g, cap, rfl, hg, (Array.getElem?_eq_some_iff.1 hh).1, hnc, hcm⟩
/-- The fore part of an own row. -/
theorem own_forePF {w : World} {base g n m cap : Nat} {xs : List Value} (h : w.ownsRow base 34 2 (.slice (some ⟨g, 0, none⟩) m cap) m xs) (hnm : n ≤ m) : w.ownsRow base 34 2 (.slice (some ⟨g, 0, none⟩) n cap) n (xs.take (n * 2)) := by
  obtain ⟨h1, ⟨h2, _⟩ | ⟨g', cap', cur, hv, hg, hh, hnc, hcm, hs, ht⟩⟩ := h
  · cases h2
  · injection hv with e1 _ e3
    injection e1 with e1
    injection e1 with e1
    subst e1 e3
    refine ⟨by rw [List.length_take]; omega, .inr ⟨g, cap, cur, rfl, hg, hh, by omega, hcm, hs, ?_⟩⟩
    rw [← ht, List.take_take]
    congr 1
    omega

theorem new3F (w : World) : ∀ j u, [Value.string ⟨#[33]⟩, .string ⟨#[]⟩][j]? = some u → (w.alloc (.cells #[.string ⟨#[33]⟩, .string ⟨#[]⟩] 34)).cell? ((⟨w.heap.size, 0, none⟩ : Addr).add j) = some u := by
  intro j u hj
  match j, hj with
  | 0, hj => simp at hj; subst hj; simp [Addr.add]
  | 1, hj => simp at hj; subst hj; simp [Addr.add]
theorem one3F : ∀ u ∈ [Value.string ⟨#[33]⟩, .string ⟨#[]⟩], u.oneCell' = true := by
  intro u hu
  simp at hu
  rcases hu with rfl | rfl | rfl <;> rfl
set_option maxRecDepth 100000 in
theorem made_oneF : ∀ u ∈ (madeCells #[.string ⟨#[]⟩, .string ⟨#[]⟩] 140).toList, u.oneCell' = true := by
  have h : ((madeCells #[.string ⟨#[]⟩, .string ⟨#[]⟩] 140).toList.all (·.oneCell')) = true := by kernel_rfl
  exact fun u hu => List.all_eq_true.1 h u hu
set_option maxRecDepth 100000 in
set_option maxHeartbeats 8000000 in
theorem spoilF_any (base : Nat) (ao : Option Addr) (n cap : Nat) (xs : List Value) (w : World) (hown : w.ownsRow base 34 2 (.slice ao n cap) n xs) (hn : n ≤ 1000000) (hcap : cap ≤ 9223372036854775807) :
    Calls Tryd.prog 12 #[.slice ao n cap] w fun e w' => e = .returned (.tuple #[]) ∧ w.grownBy w' (Value.slice ao n cap).ownBlock := by
  obtain ⟨i0, hi, hz0, hz1, hz2⟩ := info_parts infoF16
  have HO0 : Hid (w.ownsRow base 34 2 (.slice ao n cap) n xs) := hown
  have HLB : Hid (∀ k, (Value.slice ao n cap).ownBlock = some k → k < w.heap.size) := fun k h => (hown.lt k h).2
  have hnc : n ≤ cap := by
    obtain ⟨_, ⟨h1, h2⟩ | ⟨g, c, cur, hv, _, _, h3, _⟩⟩ := hown
    · omega
    · injection hv with _ _ e
      omega
  clear hown
  go_enter Tryd.func12, Tryd.ntmps12
  go_wp2
  go_loopw [7] (fun i wr => ∃ (k : Nat) (ys : List Value), k ≤ n ∧ i = .int .i64 k ∧ Hid (wr.ownsRow base 34 2 (.slice ao n cap) n ys) ∧ Hid (w.grownBy wr (Value.slice ao n cap).ownBlock)) (fun i _ => n - (intOf i).toNat)
  case atStart => exact ⟨0, xs, Nat.zero_le _, rfl, HO0, World.grownBy.refl _ _⟩
  case round =>
    obtain ⟨k, ys, hk, rfl, HO, HG⟩ := hrel
    by_cases hlt : k < n
    · obtain ⟨g, cap', hv, hg0, hg1, _, _⟩ := slice_of_ownsPF HO.out (by omega)
      injection hv with ha _ _
      subst ha
      have hl : ys.length = n * 2 := HO.out.1
      have c0 : wr.cell? ⟨g, k * 2, none⟩ = some (ys[k * 2]'(by omega)) := by rw [HO.out.cellAt (k * 2) (by omega)]; exact List.getElem?_eq_getElem (by omega)
      have c1 : wr.cell? ⟨g, k * 2 + 1, none⟩ = some (ys[k * 2 + 1]'(by omega)) := by rw [HO.out.cellAt (k * 2 + 1) (by omega)]; exact List.getElem?_eq_getElem (by omega)
      have f0 := HO.out.frozenAt (k * 2)
      have f1 := HO.out.frozenAt (k * 2 + 1)
      have s1 := HO.out.stored (k * 2) (.string ⟨#[33]⟩)
      have s2 := s1.1.stored (k * 2 + 1) (.string ⟨#[]⟩)
      have HO2 : Hid _ := s2.1
      have HG2 : Hid (w.grownBy ((wr.setCell ⟨g, k * 2, none⟩ (.string ⟨#[33]⟩)).setCell ⟨g, k * 2 + 1, none⟩ (.string ⟨#[]⟩)) (Value.slice (some ⟨g, 0, none⟩) n cap).ownBlock) := grown_on (grown_on HG.out s1.2 (fun q hq => .inl hq.symm)) s2.2 (fun q hq => .inl hq.symm)
      clear s1 s2 HO HG
      go_wp2
      go_roundw
      case rel => exact ⟨k + 1, _, by omega, by go_num, HO2, HG2⟩
      case measure => simp [intOf]; omega
    · clear HO0
      go_wp2
      clear hk hlt
      go_loopw [3, 16] (fun v i wr => ∃ (k m : Nat) (ys zs : List Value), k ≤ 20 ∧ i = .int .i64 k ∧ m ≤ n + k ∧ Hid (wr.ownsRow base 34 2 (.slice ao n cap) n ys) ∧ Hid (w.grownBy wr (Value.slice ao n cap).ownBlock) ∧ ((v = .slice ao m cap ∧ n ≤ m ∧ Hid (wr.ownsRow base 34 2 (.slice ao m cap) m zs)) ∨ Hid (wr.ownsRow w.heap.size 34 2 v m zs))) (fun _ i _ => 20 - (intOf i).toNat)
      case atStart => exact ⟨0, n, ys, ys, Nat.zero_le _, rfl, Nat.le_refl _, HO, HG, .inl ⟨rfl, Nat.le_refl _, HO⟩⟩
      case round =>
        clear HO HG
        obtain ⟨k, m, ys, zs, hk, rfl, hm, HO, HG, hv⟩ := hrel
        have hsz := HG.out.size
        by_cases hlt : k < 20
        · rcases hv with ⟨rfl, hnm, HV⟩ | HV
          · have ho := HV.out.alloc (.cells #[.string ⟨#[33]⟩, .string ⟨#[]⟩] 34)
            have hl : zs.length = m * 2 := HV.out.1
            by_cases hroom : m + 1 ≤ cap
            · have hao : ao ≠ none := fun e => by subst e; have := owns_nonePF HV.out; omega
              obtain ⟨ad, rfl⟩ := Option.ne_none_iff_exists'.1 hao
              obtain ⟨g, rfl⟩ : ∃ g, ad = ⟨g, 0, none⟩ := by
                obtain ⟨_, ⟨h1, _⟩ | ⟨g, c, cur, hv, _⟩⟩ := HV.out
                · cases h1
                · injection hv with a
                  injection a with a
                  exact ⟨g, a⟩
              go_wp2_with (at_builtin; refine wpList_append_own_spare _ rfl _ _ 24 rfl base 34 i0 2 Tryd.underlying24 hi hz1 g m cap zs rfl ho ⟨wr.heap.size, 0, none⟩ 1 1 [Value.string ⟨#[33]⟩, .string ⟨#[]⟩] rfl rfl ?c1 ?c2 hroom ?_)
              case c1 => exact new3F _
              case c2 => exact one3F
              intro w3 hown' hgrow
              have HV3 : Hid (w3.ownsRow base 34 2 (.slice (some ⟨g, 0, none⟩) (m + 1) cap) (m + 1) (zs ++ [Value.string ⟨#[33]⟩, .string ⟨#[]⟩])) := hown'
              have HO3 : Hid (w3.ownsRow base 34 2 (.slice (some ⟨g, 0, none⟩) n cap) n ((zs ++ [Value.string ⟨#[33]⟩, .string ⟨#[]⟩]).take (n * 2))) := own_forePF hown' (by omega)
              have HG3 : Hid (w.grownBy w3 (Value.slice (some ⟨g, 0, none⟩) n cap).ownBlock) := grown_on (grown_on HG.out (World.grownBy_alloc wr _ none) (fun q hq => by cases hq)) hgrow (fun q hq => .inl hq.symm)
              clear hown' hgrow ho hl HO HG HV hao
              go_wp2
              go_roundw
              case rel => exact ⟨k + 1, m + 1, _, _, by omega, by go_num, by omega, HO3, HG3, .inl ⟨rfl, by omega, HV3⟩⟩
              case measure => simp [intOf]; omega
            · have hnone : ao = none → m = 0 ∧ cap = 0 := fun e => by subst e; exact owns_nonePF HV.out
              have hh := owns_holdsPF ho
              go_wp2_with (at_builtin; refine wpList_append_grows _ rfl _ _ 24 rfl 34 i0 (.agg #[.string ⟨#[]⟩, .string ⟨#[]⟩]) 2 32 Tryd.underlying24 hi hz0 hz1 hz2 rfl (by decide) ao m cap zs rfl hnone hl hh ⟨wr.heap.size, 0, none⟩ 1 1 [Value.string ⟨#[33]⟩, .string ⟨#[]⟩] rfl rfl ?c1 ?c2 (by omega) ?c3 ?c4 ?_)
              case c1 => exact new3F _
              case c2 => exact one3F
              case c3 => unfold maxLen; omega
              case c4 => omega
              intro v' w3 hown' hgrow
              have HV3 : Hid (w3.ownsRow w.heap.size 34 2 v' (m + 1) (zs ++ [Value.string ⟨#[33]⟩, .string ⟨#[]⟩])) := base_le hown' (by omega)
              have HO3 : Hid (w3.ownsRow base 34 2 (.slice ao n cap) n ys) := owns_otherPF (HO.out.alloc _) hgrow (fun q hq => by cases hq)
              have HG3 : Hid (w.grownBy w3 (Value.slice ao n cap).ownBlock) := grown_on (grown_on HG.out (World.grownBy_alloc wr _ none) (fun q hq => by cases hq)) hgrow (fun q hq => by cases hq)
              clear hown' hgrow ho hl hnone hh HO HG HV
              go_wp2
              go_roundw
              case rel => exact ⟨k + 1, m + 1, ys, _, by omega, by go_num, by omega, HO3, HG3, .inr HV3⟩
              case measure => simp [intOf]; omega
          · have hown := HV.out
            go_wp2_with (at_builtin; refine wpList_append_own _ rfl _ _ 24 rfl w.heap.size 34 i0 (.agg #[.string ⟨#[]⟩, .string ⟨#[]⟩]) 2 32 Tryd.underlying24 hi hz0 hz1 hz2 rfl (by decide) _ _ _ rfl (hown.alloc _) ⟨wr.heap.size, 0, none⟩ 1 1 [Value.string ⟨#[33]⟩, .string ⟨#[]⟩] rfl rfl ?d1 ?d2 ?d3 ?d4 ?d5 ?_)
            case d1 => exact new3F _
            case d2 => exact one3F
            case d3 => unfold maxLen; omega
            case d4 => omega
            case d5 => simp; omega
            intro v' w3 hown' hgrow _
            have HV3 : Hid (w3.ownsRow w.heap.size 34 2 v' (m + 1) (zs ++ [Value.string ⟨#[33]⟩, .string ⟨#[]⟩])) := hown'
            have HO3 : Hid (w3.ownsRow base 34 2 (.slice ao n cap) n ys) := owns_otherPF (HO.out.alloc _) hgrow (fun q hq e => by have h1 := (hown.lt q hq).1; have h2 := HLB.out q e; omega)
            have HG3 : Hid (w.grownBy w3 (Value.slice ao n cap).ownBlock) := grown_on (grown_on HG.out (World.grownBy_alloc wr _ none) (fun q hq => by cases hq)) hgrow (fun q hq => .inr (hown.lt q hq).1)
            clear hown' hgrow hown HO HG HV
            go_wp2
            go_roundw
            case rel => exact ⟨k + 1, m + 1, ys, _, by omega, by go_num, by omega, HO3, HG3, .inr HV3⟩
            case measure => simp [intOf]; omega
        · clear hv hm
          obtain ⟨wb, rfl⟩ : ∃ wb : World, wb = wr := ⟨_, rfl⟩
          go_wp2_with (at_make; refine wpList_make_full _ rfl _ _ 24 rfl w.heap.size 34 i0 (.agg #[.string ⟨#[]⟩, .string ⟨#[]⟩]) 2 Tryd.underlying24 hi hz0 hz1 .i64 .i64 _ _ 70 rfl rfl (by omega) (by omega) (by rw [hz2]; omega) (by unfold maxLen; omega) (by omega) ?_)
          intro w4 hown4 hgrow4
          have HO4 : Hid (w4.ownsRow base 34 2 (.slice ao n cap) n ys) := owns_otherPF HO.out hgrow4 (fun q hq => by cases hq)
          have HG4 : Hid (w.grownBy w4 (Value.slice ao n cap).ownBlock) := grown_on HG.out hgrow4 (fun q hq => by cases hq)
          have hone := made_oneF
          generalize (madeCells #[.string ⟨#[]⟩, .string ⟨#[]⟩] 140).toList = MC at hown4 hone
          have hnl : MC.length = 70 * 2 := hown4.1
          have hnc70 : ∀ j u, MC[j]? = some u → w4.cell? ((⟨wb.heap.size, 0, none⟩ : Addr).add j) = some u := hown4.cells rfl
          have hpos : (0 : Int) < (n : Int) + 70 := by omega
          have hsz4 := HG4.out.size
          clear HO HG hgrow4
          by_cases hroom : n + 70 ≤ cap
          · have hao : ao ≠ none := fun e => by subst e; have := owns_nonePF HO4.out; omega
            obtain ⟨ad, rfl⟩ := Option.ne_none_iff_exists'.1 hao
            obtain ⟨g, rfl⟩ : ∃ g, ad = ⟨g, 0, none⟩ := by
              obtain ⟨_, ⟨h1, _⟩ | ⟨g, c, cur, hv, _⟩⟩ := HO4.out
              · cases h1
              · injection hv with a
                injection a with a
                exact ⟨g, a⟩
            clear hown4
            go_wp2_with (at_builtin; refine wpList_append_own_spare _ rfl _ _ 24 rfl base 34 i0 2 Tryd.underlying24 hi hz1 g n cap ys rfl HO4.out ⟨wb.heap.size, 0, none⟩ 70 70 MC rfl hnl hnc70 hone hroom ?_)
            intro w6 hown' hgrow
            have hl6 := hown'.1
            have c0 : ∃ u, w6.cell? ⟨g, 0, none⟩ = some u := by rw [hown'.cellAt 0 (by omega)]; exact ⟨_, List.getElem?_eq_getElem (by omega)⟩
            have c1 : ∃ u, w6.cell? ⟨g, 1, none⟩ = some u := by rw [hown'.cellAt 1 (by omega)]; exact ⟨_, List.getElem?_eq_getElem (by omega)⟩
            obtain ⟨u0, c0⟩ := c0
            obtain ⟨u1, c1⟩ := c1
            have f0 := hown'.frozenAt 0
            have f1 := hown'.frozenAt 1
            have s1 := hown'.stored 0 (.string ⟨#[33]⟩)
            have s2 := s1.1.stored 1 (.string ⟨#[]⟩)
            have HG7 : Hid (w.grownBy ((w6.setCell ⟨g, 0, none⟩ (.string ⟨#[33]⟩)).setCell ⟨g, 1, none⟩ (.string ⟨#[]⟩)) (Value.slice (some ⟨g, 0, none⟩) n cap).ownBlock) := grown_on (grown_on (grown_on HG4.out hgrow (fun q hq => .inl hq.symm)) s1.2 (fun q hq => .inl hq.symm)) s2.2 (fun q hq => .inl hq.symm)
            clear s1 s2 hown' hgrow HO4 HG4 hnl hnc70 hone hl6
            go_wp2
            go_end0
            exact ⟨rfl, HG7.out⟩
          · have hnone : ao = none → n = 0 ∧ cap = 0 := fun e => by subst e; exact owns_nonePF HO4.out
            have hh := owns_holdsPF HO4.out
            have hl : ys.length = n * 2 := HO4.out.1
            clear hown4
            go_wp2_with (at_builtin; refine wpList_append_grows _ rfl _ _ 24 rfl 34 i0 (.agg #[.string ⟨#[]⟩, .string ⟨#[]⟩]) 2 32 Tryd.underlying24 hi hz0 hz1 hz2 rfl (by decide) ao n cap ys rfl hnone hl hh ⟨wb.heap.size, 0, none⟩ 70 70 MC rfl hnl hnc70 hone (by omega) ?c3 ?c4 ?_)
            case c3 => unfold maxLen; omega
            case c4 => omega
            intro v' w6 hown' hgrow
            obtain ⟨g6, cap6, hv6, hg6, hg7, hnc6, hcm6⟩ := slice_of_ownsPF hown' (by omega)
            rw [hv6] at hown'
            rw [hv6]
            clear hnone hl hh
            have hl6 := hown'.1
            have c0 : ∃ u, w6.cell? ⟨g6, 0, none⟩ = some u := by rw [hown'.cellAt 0 (by omega)]; exact ⟨_, List.getElem?_eq_getElem (by omega)⟩
            have c1 : ∃ u, w6.cell? ⟨g6, 1, none⟩ = some u := by rw [hown'.cellAt 1 (by omega)]; exact ⟨_, List.getElem?_eq_getElem (by omega)⟩
            obtain ⟨u0, c0⟩ := c0
            obtain ⟨u1, c1⟩ := c1
            have f0 := hown'.frozenAt 0
            have f1 := hown'.frozenAt 1
            have s1 := hown'.stored 0 (.string ⟨#[33]⟩)
            have s2 := s1.1.stored 1 (.string ⟨#[]⟩)
            have HG7 : Hid (w.grownBy ((w6.setCell ⟨g6, 0, none⟩ (.string ⟨#[33]⟩)).setCell ⟨g6, 1, none⟩ (.string ⟨#[]⟩)) (Value.slice ao n cap).ownBlock) := grown_on (grown_on (grown_on HG4.out hgrow (fun q hq => by cases hq)) s1.2 (fun q hq => by injection hq with hq; exact .inr (by omega))) s2.2 (fun q hq => by injection hq with hq; exact .inr (by omega))
            clear s1 s2 hown' hgrow HO4 HG4 hnl hnc70 hone hl6
            go_wp2
            go_end0
            exact ⟨rfl, HG7.out⟩
end Go.Proofs.YtpepjiocjcjeeaaDoor
