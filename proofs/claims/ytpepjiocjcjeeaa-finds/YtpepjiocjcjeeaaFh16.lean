/-
  The document's Find; sameInts.
-/
import Derived.Test.YtpepjiocjcjeeaaFg16
namespace Go.Proofs.Ytpepjiocjcjeeaa
open Go.RowKit

set_option maxHeartbeats 4000000 in
set_option maxRecDepth 100000 in
theorem ufind_any (a : Option Addr) (cap : Nat) (l : List Fd) (nm : ByteArray) (w : World) (ha : Fds a l w) (hl : l.length ≤ 4398046511104) (hn : nm.size ≤ 140737488351232) (ht : ∀ p ∈ l, p.name.length ≤ 140737488351232) :
    Calls Try.prog 8 #[.slice a l.length cap, .string nm] w fun e w' => ∃ v, e = .returned v ∧ w'.ownsRow w.heap.size 3 1 v (fndP l nm l.length).length (cellsN (fndP l nm l.length)) ∧ Below w.heap.size w w' := by
  obtain ⟨i0, hi, hz0, hz1, hz2⟩ := info_parts infoI16
  have HA : Hid (Fds a l w) := ha
  have hlI : (l.length : Int) ≤ 4398046511104 := by omega
  clear ha
  go_enter Try.func8, Try.ntmps8
  go_wp2_with fail
  go_loopw [5, 6] (fun v iv wr => ∃ k : Nat, k ≤ l.length ∧ iv = .int .i64 (k : Int) ∧ Hid (wr.ownsRow w.heap.size 3 1 v (fndP l nm k).length (cellsN (fndP l nm k))) ∧ Hid (Below w.heap.size w wr)) (fun _ iv _ => l.length - (intOf iv).toNat)
  case atStart => exact ⟨0, Nat.zero_le _, rfl, ⟨rfl, .inl ⟨rfl, rfl⟩⟩, Below.refl _ _⟩
  case round =>
    obtain ⟨k, hk, rfl, HO, HB⟩ := hrel
    by_cases hlt : k < l.length
    · obtain ⟨g, o, hga, a0, a1⟩ := (HA.out.below HB.out).at k hlt
      subst hga
      have hki : (k : Int) < (l.length : Int) := by omega
      have hsz0 : (tx l[k].name).size ≤ 140737488351232 := by rw [tx_size]; exact ht _ (List.getElem_mem hlt)
      have HSM : Hid (∀ wx, Calls Try.prog 17 #[.string (tx l[k].name), .string nm] wx fun e w' => e = .returned (.bool (sameB (tx l[k].name) nm)) ∧ Below wx.heap.size wx w') := fun wx => rsamet_any _ _ wx hsz0 hn
      have HFN : Hid (fndP l nm (k + 1) = fndP l nm k ++ (if sameB (tx l[k].name) nm then [k] else [])) := fndP_succ l nm k hlt
      have HLN : Hid ((fndP l nm k).length ≤ k) := fndP_len l nm k
      generalize tx l[k].name = t at *
      clear a1
      generalize sameB t nm = b at *
      cases b with
      | true =>
        have HN1 : Hid (fndP l nm (k + 1) = fndP l nm k ++ [k]) := HFN.out
        go_wp2_with fail
        refine (HSM.out _).mono ?_
        rintro e w2 ⟨rfl, hb2⟩
        have HO2 : Hid (w2.ownsRow w.heap.size 3 1 u5 (fndP l nm k).length (cellsN (fndP l nm k))) := ownN_below HO.out hb2
        have HB2 : Hid (Below w.heap.size w w2) := HB.out.trans (hb2.mono HB.out.size)
        clear hb2 HFN HSM HO HB
        go_wp2_with (at_builtin; refine wpList_append_own _ rfl _ _ 26 rfl w.heap.size 3 i0 (.int .i64 0) 1 8 Try.underlying26 hi hz0 hz1 hz2 rfl (by decide) _ _ _ rfl (HO2.out.alloc _) ⟨w2.heap.size, 0, none⟩ 1 1 [Value.int .i64 (k : Int)] rfl rfl ?d1 ?d2 ?d3 ?d4 ?d5 ?_)
        case d1 => exact one_new _
        case d2 => intro u hu; rw [List.mem_singleton.1 hu]; rfl
        case d3 => have := HLN.out; unfold maxLen; omega
        case d4 => have := HLN.out; omega
        case d5 => have := HB2.out.size; simp; omega
        intro v3 w3 ho3 hg3 _
        have HO3 : Hid (w3.ownsRow w.heap.size 3 1 v3 (fndP l nm (k + 1)).length (cellsN (fndP l nm (k + 1)))) := by
          rw [HN1.out, List.length_append, cellsN_append]
          exact ho3
        have HB3 : Hid (Below w.heap.size w w3) := (HB2.out.alloc HB2.out.size _).grown hg3 (by have := HB2.out.size; simp; omega) (fun q hq => (HO2.out.lt q hq).1)
        clear ho3 hg3 HO2 HB2
        go_wp2_with fail
        go_roundw
        case rel => exact ⟨k + 1, by omega, by go_num, HO3.out, HB3.out⟩
        case measure => simp [intOf]; omega
      | false =>
        have HN1 : Hid (fndP l nm (k + 1) = fndP l nm k) := by rw [HFN.out]; show _ = _; simp
        go_wp2_with fail
        refine (HSM.out _).mono ?_
        rintro e w2 ⟨rfl, hb2⟩
        have HO2 : Hid (w2.ownsRow w.heap.size 3 1 u5 (fndP l nm k).length (cellsN (fndP l nm k))) := ownN_below HO.out hb2
        have HB2 : Hid (Below w.heap.size w w2) := HB.out.trans (hb2.mono HB.out.size)
        clear hb2 HFN HSM HO HB
        go_wp2_with fail
        go_roundw
        case rel => exact ⟨k + 1, by omega, by go_num, by rw [HN1.out]; exact HO2.out, HB2.out⟩
        case measure => simp [intOf]; omega
    · obtain rfl : k = l.length := by omega
      go_wp2_with fail
      go_ret
      exact ⟨_, rfl, HO.out, HB.out⟩
/-- Places in memory. -/
def Its (a : Option Addr) (l : List Nat) (w : World) : Prop := l = [] ∨ ∃ g o, a = some ⟨g, o, none⟩ ∧ g < w.heap.size ∧ ∀ j (h : j < l.length), w.cell? ⟨g, o + j, none⟩ = some (.int .i64 (l[j] : Int))
theorem own_its {w : World} {B : Nat} {v : Value} {l : List Nat} (h : w.ownsRow B 3 1 v l.length (cellsN l)) : ∃ a cap, v = .slice a l.length cap ∧ Its a l w := by
  obtain ⟨h1, h2⟩ := id h
  rcases h2 with ⟨rfl, h0⟩ | ⟨g, cap, cur, rfl, hB, hg, hr⟩
  · have := List.eq_nil_of_length_eq_zero h0
    subst this
    exact ⟨none, 0, rfl, .inl rfl⟩
  · refine ⟨_, cap, rfl, .inr ⟨g, 0, rfl, (h.lt g rfl).2, fun j hj => ?_⟩⟩
    rw [Nat.zero_add, h.cellAt j (by omega), cellsN_at l j hj]
theorem Its.below {a : Option Addr} {l : List Nat} {w w' : World} (h : Its a l w) (hb : Below w.heap.size w w') : Its a l w' := by
  rcases h with h | ⟨g, o, e, hg, hr⟩
  · exact .inl h
  · exact .inr ⟨g, o, e, Nat.lt_of_lt_of_le hg hb.size, fun j hj => (hb.cell (p := ⟨g, o + j, none⟩) hg).trans (hr j hj)⟩
theorem own_capN {w : World} {B n c t k : Nat} {a : Option Addr} {xs : List Value} (h : w.ownsRow B t k (.slice a n c) n xs) : c ≤ 9223372036854775807 := by
  obtain ⟨_, ⟨h1, _⟩ | ⟨g, cap, cur, hv, _, _, _, hcm, _⟩⟩ := h
  · injection h1 with _ _ e
    omega
  · injection hv with _ _ e
    unfold maxLen at hcm
    omega
theorem fds_fore {w : World} {B n c g : Nat} {l r : List Fd} (h : w.ownsRow B 32 2 (.slice (some ⟨g, 0, none⟩) n c) n (cellsF (l ++ r))) : Fds (some ⟨g, 0, none⟩) l w := .inr ⟨g, 0, rfl, (h.lt g rfl).2, fun j u hj => by
  have := h.cells rfl j u (by
    rw [cellsF_append, List.getElem?_append_left]
    · exact hj
    · rcases Nat.lt_or_ge j (cellsF l).length with h' | h'
      · exact h'
      · rw [List.getElem?_eq_none h'] at hj; cases hj)
  rw [Addr.add_lit] at this
  exact this⟩
set_option maxHeartbeats 4000000 in
theorem samei_eq (a b : Option Addr) (ca cb : Nat) (l : List Nat) (w : World) (ha : Its a l w) (hb : Its b l w) (hl : l.length ≤ 1125899906842624) :
    Calls Try.prog 10 #[.slice a l.length ca, .slice b l.length cb] w fun e w' => e = .returned (.bool true) ∧ Below w.heap.size w w' := by
  have HA : Hid (Its a l w) := ha
  have HB : Hid (Its b l w) := hb
  clear ha hb
  go_enter Try.func10, Try.ntmps10
  go_wp2_with fail
  go_loopw [5, 13] (fun _ i wr => ∃ k : Nat, k ≤ l.length ∧ i = .int .i64 k ∧ Hid (Below w.heap.size w wr)) (fun _ i _ => l.length - (intOf i).toNat)
  case atStart => exact ⟨0, Nat.zero_le _, rfl, Below.refl _ _⟩
  case round =>
    obtain ⟨k, hk, rfl, HD⟩ := hrel
    by_cases hlt : k < l.length
    · have hki : (k : Int) < (l.length : Int) := by omega
      obtain ⟨g, o, hga, _, a0⟩ := (HA.out.below HD.out).resolve_left (fun e => by rw [e] at hlt; cases hlt)
      obtain ⟨g2, o2, hgb, _, b0⟩ := (HB.out.below HD.out).resolve_left (fun e => by rw [e] at hlt; cases hlt)
      subst hga
      subst hgb
      have a1 := a0 k hlt
      have b1 := b0 k hlt
      clear a0 b0
      generalize l[k] = x at *
      go_wp2_with fail
      go_quiet (fail)
      go_wp2
      go_roundw
      case rel => exact ⟨k + 1, by omega, by go_num, below_dN HD.out _⟩
      case measure => simp [intOf]; omega
    · go_wp2
      go_ret
      exact ⟨rfl, HD.out⟩
end Go.Proofs.Ytpepjiocjcjeeaa
