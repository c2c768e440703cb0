/-
  The document's Bare, May.
-/
import Derived.Test.YtfifpepcmpaipaaRlP
import Derived.Test.YtfifpepcmpaipaaPc14
import Derived.Test.YtfifpepcmpaipaaCk14
namespace Go.Proofs.Ytfifpepcmpaipaa
open Go.RowKit

set_option maxHeartbeats 2000000 in
theorem ebare_any (ad : Option Addr) (l : List UInt8) (n cap : Nat) (hn : n = l.length) (hl : l.length ≤ 1099511627776) (w : World) (hb : Bts ad l w) : Calls Try.prog 47 #[.slice ad n cap] w fun e w' => e = .returned (.bool (whE false l)) ∧ w' = w := by
  subst hn
  obtain ⟨Y, hY⟩ : ∃ Y, whE false l = Y := ⟨_, rfl⟩
  rw [hY]
  have HY : Hid (whE false l = Y) := hY
  have HB : Hid (Bts ad l w) := hb
  clear hb hY
  go_enter Try.func47, Try.ntmps47
  go_wp2_with fail
  go_loopw [3, 6] (fun _ iv wr => ∃ (k : Nat) (h : Bool), k ≤ l.length ∧ iv = .int .i64 k ∧ wr = w ∧ Hid (whE false l = whE h (l.drop k)) ∧ Hid ((h = true → l[k]? = some 10) ∧ (h = false → k = 0 ∨ ¬ l[k - 1]? = some 13) ∧ (h = true → 0 < k ∧ l[k - 1]? = some 13))) (fun _ iv _ => l.length - (intOf iv).toNat)
  case atStart => exact ⟨0, false, Nat.zero_le _, rfl, rfl, by show _ = _; simp, ⟨fun h => (by cases h), fun _ => .inl rfl, fun h => (by cases h)⟩⟩
  case round =>
    obtain ⟨k, h, hk, rfl, rfl, HE, HI⟩ := hrel
    by_cases hlt : k < l.length
    · obtain ⟨g, q, rfl, hg, hrow⟩ := HB.out.resolve_left (fun e => by rw [e] at hlt; cases hlt)
      have hce := hrow k hlt
      have HE2 : Hid (whE false l = if (h != (l[k] == 10)) = true then true else whE (l[k] == 13) (l.drop (k + 1))) := by
        have := HE.out
        rw [List.drop_eq_getElem_cons hlt, whE_cons] at this
        exact this
      have HGK : Hid (l[k]? = some l[k]) := List.getElem?_eq_getElem hlt
      have hq1 : q + k + 1 = q + (k + 1) := Nat.add_assoc _ _ _
      by_cases h13 : l[k] = 13
      · have hh : h = false := by
          cases h with
          | false => rfl
          | true => have := HI.out.1 rfl; rw [HGK.out, h13] at this; cases this
        subst hh
        by_cases hk1 : k + 1 < l.length
        · have hce2 := hrow (k + 1) hk1
          have hk1' : ((k : Int) + 1 == (l.length : Int)) = false := by simp; omega
          have HG1 : Hid (l[k + 1]? = some l[k + 1]) := List.getElem?_eq_getElem hk1
          have HE3 : Hid (whE false l = whE true (l.drop (k + 1))) := by rw [HE2.out, h13]; rfl
          have HE4 : Hid (¬ l[k + 1] = 10 → Y = true) := fun hne => by
            rw [← HY.out, HE3.out, List.drop_eq_getElem_cons hk1, whE_cons, beq_false_of_ne hne]
            rfl
          have HGD : Hid (l[k]? = some 13) := by rw [HGK.out, h13]; exact rfl
          have k13 : ((l[k].toNat : Int) == 13) = true := u8v h13
          have k10 : ((l[k].toNat : Int) == 10) = false := u8w (k := 10) (by rw [h13]; decide)
          clear hrow HE HE2 HGK h13
          generalize l[k] = d at *
          generalize l[k + 1] = d2 at *
          by_cases h10 : d2 = 10
          · have m10 : ((d2.toNat : Int) == 10) = true := u8v h10
            have m11 : ((d2.toNat : Int) != 10) = false := by simp [bne, m10]
            have HN : Hid (l[k + 1]? = some 10) := by rw [HG1.out, h10]; exact rfl
            clear h10 HG1
            go_wp2_with fail
            go_round
            case rel => exact ⟨k + 1, true, hlt, by go_num, trivial, HE3.out, ⟨fun _ => HN.out, fun e => (by cases e), fun _ => ⟨Nat.succ_pos _, by rw [Nat.add_sub_cancel]; exact HGD.out⟩⟩⟩
            case measure => simp [intOf]; omega
          · have m10 : ((d2.toNat : Int) == 10) = false := u8w h10
            have m11 : ((d2.toNat : Int) != 10) = true := by simp [bne, m10]
            have HYT : Hid (Y = true) := HE4.out h10
            clear h10 HG1
            go_wp2_with fail
            go_ret
            exact ⟨by rw [HYT.out]; rfl, rfl⟩
        · have hk1' : ((k : Int) + 1 == (l.length : Int)) = true := by simp; omega
          have HYT : Hid (Y = true) := by
            rw [← HY.out, HE2.out, h13, List.drop_eq_nil_of_le (by omega)]
            rfl
          have k13 : ((l[k].toNat : Int) == 13) = true := u8v h13
          clear hrow HE HE2 HGK h13
          generalize l[k] = d at *
          go_wp2_with fail
          go_ret
          exact ⟨by rw [HYT.out]; rfl, rfl⟩
      · have k13 : ((l[k].toNat : Int) == 13) = false := u8w h13
        have HGD : Hid (¬ l[k]? = some 13) := by rw [HGK.out]; exact fun e => h13 (Option.some.inj e)
        by_cases h10 : l[k] = 10
        · have k10 : ((l[k].toNat : Int) == 10) = true := u8v h10
          by_cases hk0 : k = 0
          · have HYT : Hid (Y = true) := by
              have hh : h = false := by
                cases h with
                | false => rfl
                | true => have := (HI.out.2.2 rfl).1; omega
              rw [← HY.out, HE2.out, hh, h10]
              rfl
            have hk0' : ((k : Int) == 0) = true := by simp; omega
            clear hrow HE HE2 HGK h13 h10 hk0
            generalize l[k] = d at *
            go_wp2_with fail
            go_ret
            exact ⟨by rw [HYT.out]; rfl, rfl⟩
          · have hk0' : ((k : Int) == 0) = false := by simp; omega
            have hcp := hrow (k - 1) (by omega)
            have e1 : (k : Int) - 1 = ((k - 1 : Nat) : Int) := by omega
            have HGP : Hid (l[k - 1]? = some (l[k - 1]'(by omega))) := List.getElem?_eq_getElem (by omega)
            have HH : Hid ((l[k - 1]'(by omega) = 13 → h = true) ∧ (¬ l[k - 1]'(by omega) = 13 → h = false)) := by
              constructor
              · intro e
                cases h with
                | true => rfl
                | false =>
                  rcases HI.out.2.1 rfl with h0 | h0
                  · exact absurd h0 hk0
                  · rw [HGP.out, e] at h0; exact absurd rfl h0
              · intro e
                cases h with
                | false => rfl
                | true =>
                  have := (HI.out.2.2 rfl).2
                  rw [HGP.out] at this
                  exact absurd (Option.some.inj this) e
            have HE3 : Hid (whE false l = if (h != true) = true then true else whE false (l.drop (k + 1))) := by rw [HE2.out, h10]; rfl
            clear hrow HE HE2 HGK h13 h10 HGP
            generalize l[k] = d at *
            generalize l[k - 1]'(by omega) = d2 at *
            by_cases hp : d2 = 13
            · have m13 : ((d2.toNat : Int) == 13) = true := u8v hp
              have m14 : ((d2.toNat : Int) != 13) = false := by simp [bne, m13]
              have hh := HH.out.1 hp
              subst hh
              have HE4 : Hid (whE false l = whE false (l.drop (k + 1))) := HE3.out
              clear HE3 HH hp hk0
              go_wp2_with fail
              go_round
              case rel => exact ⟨k + 1, false, hlt, by go_num, trivial, HE4.out, ⟨fun e => (by cases e), fun _ => .inr (by rw [Nat.add_sub_cancel]; exact HGD.out), fun e => (by cases e)⟩⟩
              case measure => simp [intOf]; omega
            · have m13 : ((d2.toNat : Int) == 13) = false := u8w hp
              have m14 : ((d2.toNat : Int) != 13) = true := by simp [bne, m13]
              have hh := HH.out.2 hp
              subst hh
              have HYT : Hid (Y = true) := HY.out.symm.trans HE3.out
              clear HE3 HH hp hk0
              go_wp2_with fail
              go_ret
              exact ⟨by rw [HYT.out]; rfl, rfl⟩
        · have k10 : ((l[k].toNat : Int) == 10) = false := u8w h10
          have hh : h = false := by
            cases h with
            | false => rfl
            | true => have := HI.out.1 rfl; rw [HGK.out] at this; exact absurd (Option.some.inj this) h10
          subst hh
          have HE4 : Hid (whE false l = whE false (l.drop (k + 1))) := by rw [HE2.out, beq_false_of_ne h10, beq_false_of_ne h13]; exact rfl
          clear hrow HE HE2 HGK h13 h10
          generalize l[k] = d at *
          go_wp2_with fail
          go_round
          case rel => exact ⟨k + 1, false, hlt, by go_num, trivial, HE4.out, ⟨fun e => (by cases e), fun _ => .inr (by rw [Nat.add_sub_cancel]; exact HGD.out), fun e => (by cases e)⟩⟩
          case measure => simp [intOf]; omega
    · obtain rfl : k = l.length := by omega
      have HYF : Hid (Y = false) := by
        have hh : h = false := by
          cases h with
          | false => rfl
          | true => have := HI.out.1 rfl; simp at this
        rw [← HY.out, HE.out, List.drop_length, hh]
        rfl
      go_wp2_with fail
      go_ret
      exact ⟨by rw [HYF.out]; rfl, rfl⟩
set_option maxHeartbeats 400000 in
theorem emay_any (n : Int) (w : World) : Calls Try.prog 34 #[.int .i64 n] w fun e w' => e = .returned (.bool (okLim n)) ∧ w' = w := by
  unfold okLim
  by_cases h1 : n < 1
  · have h2 : ¬ 1 ≤ n := by omega
    rw [decide_eq_false (fun h => h2 h.1)]
    go_enter Try.func34, Try.ntmps34
    go_wp2
    go_ret
    exact ⟨rfl, rfl⟩
  · have h2 : 1 ≤ n := by omega
    by_cases h3 : n ≤ 16777216
    · rw [decide_eq_true ⟨h2, h3⟩]
      have h4 : ¬ 16777216 < n := by omega
      go_enter Try.func34, Try.ntmps34
      go_wp2
      go_ret
      exact ⟨rfl, rfl⟩
    · rw [decide_eq_false (fun h => h3 h.2)]
      have h4 : 16777216 < n := by omega
      go_enter Try.func34, Try.ntmps34
      go_wp2
      go_ret
      exact ⟨rfl, rfl⟩
end Go.Proofs.Ytfifpepcmpaipaa
