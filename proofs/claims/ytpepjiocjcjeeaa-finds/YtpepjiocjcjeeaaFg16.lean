/-
  Find, the program's and the document's; lists of places.
-/
import Derived.Test.YtpepjiocjcjeeaaFe16
import Derived.Test.YtpepjiocjcjeeaaSame
import Derived.Test.YtpepjiocjcjeeaaRSameT
namespace Go.Proofs.Ytpepjiocjcjeeaa
open Go.RowKit

def cellsN (l : List Nat) : List Value := l.map fun (n : Nat) => Value.int .i64 (n : Int)
theorem cellsN_length (l : List Nat) : (cellsN l).length = l.length := by simp [cellsN]
theorem cellsN_append (l r : List Nat) : cellsN (l ++ r) = cellsN l ++ cellsN r := by simp [cellsN]
theorem cellsN_at (l : List Nat) (j : Nat) (h : j < l.length) : (cellsN l)[j]? = some (.int .i64 (l[j] : Int)) := by simp [cellsN, List.getElem?_eq_getElem h]
/-- The places of the fields of a name, of the first k. -/
def fndP (l : List Fd) (nm : ByteArray) (k : Nat) : List Nat := (List.range k).filter fun i => sameB (tx (l.getD i ⟨[], []⟩).name) nm
theorem fndP_succ (l : List Fd) (nm : ByteArray) (k : Nat) (h : k < l.length) : fndP l nm (k + 1) = fndP l nm k ++ (if sameB (tx l[k].name) nm then [k] else []) := by
  unfold fndP
  rw [List.range_succ, List.filter_append]
  congr 1
  have e : l.getD k ⟨[], []⟩ = l[k] := by rw [List.getD_eq_getElem?_getD, List.getElem?_eq_getElem h]; rfl
  by_cases hs : sameB (tx l[k].name) nm = true
  · rw [if_pos hs, List.filter_cons_of_pos (by rw [e]; exact hs), List.filter_nil]
  · rw [if_neg hs, List.filter_cons_of_neg (by rw [e]; exact hs), List.filter_nil]
theorem fndP_len (l : List Fd) (nm : ByteArray) (k : Nat) : (fndP l nm k).length ≤ k := by
  unfold fndP
  refine Nat.le_trans (List.length_filter_le _ _) ?_
  simp
theorem ownN_keep {w w' : World} {B n t k : Nat} {v : Value} {xs : List Value} (h : w.ownsRow B t k v n xs) (hb : ∀ j, v.ownBlock = some j → w'.heap[j]? = w.heap[j]?) : w'.ownsRow B t k v n xs := by
  obtain ⟨h1, h2⟩ := h
  refine ⟨h1, ?_⟩
  rcases h2 with h2 | ⟨g, cap, cur, rfl, hB, hg, hr⟩
  · exact .inl h2
  · exact .inr ⟨g, cap, cur, rfl, hB, by rw [hb g rfl]; exact hg, hr⟩
theorem ownN_below {w w' : World} {B n t k : Nat} {v : Value} {xs : List Value} (h : w.ownsRow B t k v n xs) (hb : Below w.heap.size w w') : w'.ownsRow B t k v n xs := ownN_keep h (fun j hj => hb.block j (h.lt j hj).2)
theorem sameB_len (a b : ByteArray) (h : a.size ≠ b.size) : sameB a b = false := by
  unfold sameB
  rw [beq_eq_false_iff_ne]
  intro e
  have h1 := congrArg List.length e
  rw [ByteArray.toList_eq, ByteArray.toList_eq, len_list, len_list, upS_size, upS_size] at h1
  exact h h1
set_option maxHeartbeats 4000000 in
set_option maxRecDepth 100000 in
theorem find_any (a : Option Addr) (cap : Nat) (l : List Fd) (nm : ByteArray) (w : World) (ha : Fds a l w) (hl : l.length ≤ 4398046511104) (hn : nm.size ≤ 140737488351232) (ht : ∀ p ∈ l, p.name.length ≤ 140737488351232) :
    Calls Try.prog 9 #[.slice a l.length cap, .string nm] w fun e w' => ∃ v, e = .returned v ∧ w'.ownsRow w.heap.size 3 1 v (fndP l nm l.length).length (cellsN (fndP l nm l.length)) ∧ Below w.heap.size w w' := by
  obtain ⟨i0, hi, hz0, hz1, hz2⟩ := info_parts infoI16
  have HA : Hid (Fds a l w) := ha
  have hlI : (l.length : Int) ≤ 4398046511104 := by omega
  clear ha
  go_enter Try.func9, Try.ntmps9
  go_wp2_with fail
  go_loopw [5, 6, 7, 10] (fun v _ _ iv wr => ∃ k : Nat, k ≤ l.length ∧ iv = .int .i64 (k : Int) ∧ Hid (wr.ownsRow w.heap.size 3 1 v (fndP l nm k).length (cellsN (fndP l nm k))) ∧ Hid (Below w.heap.size w wr)) (fun _ _ _ iv _ => l.length - (intOf iv).toNat)
  case atStart => exact ⟨0, Nat.zero_le _, rfl, ⟨rfl, .inl ⟨rfl, rfl⟩⟩, Below.refl _ _⟩
  case round =>
    obtain ⟨k, hk, rfl, HO, HB⟩ := hrel
    by_cases hlt : k < l.length
    · obtain ⟨g, o, hga, a0, a1⟩ := (HA.out.below HB.out).at k hlt
      subst hga
      have hki : (k : Int) < (l.length : Int) := by omega
      have hnl : l[k].name.length ≤ 140737488351232 := ht _ (List.getElem_mem hlt)
      have HSM : Hid (∀ wx, Calls Try.prog 18 #[.string (tx l[k].name), .string nm] wx fun e w' => e = .returned (.bool (sameB (tx l[k].name) nm)) ∧ Below wx.heap.size wx w') := fun wx => same_any _ _ wx (by rw [tx_size]; unfold maxLen; omega) (by unfold maxLen; omega)
      have HFN : Hid (fndP l nm (k + 1) = fndP l nm k ++ (if sameB (tx l[k].name) nm then [k] else [])) := fndP_succ l nm k hlt
      have HNE : Hid ((tx l[k].name).size ≠ nm.size → sameB (tx l[k].name) nm = false) := sameB_len _ _
      have HLN : Hid ((fndP l nm k).length ≤ k) := fndP_len l nm k
      clear hnl
      have hsz0 : (tx l[k].name).size ≤ 140737488351232 := by rw [tx_size]; exact ht _ (List.getElem_mem hlt)
      generalize tx l[k].name = t at *
      generalize tx l[k].body = t2 at *
      by_cases hsz : t.size = nm.size
      · have hszI : ((t.size : Int) == (nm.size : Int)) = true := by simp [hsz]
        clear hsz HNE
        generalize sameB t nm = b at *
        cases b with
        | true =>
          have HN1 : Hid (fndP l nm (k + 1) = fndP l nm k ++ [k]) := HFN.out
          go_wp2_with fail
          refine (HSM.out _).mono ?_
          rintro e w2 ⟨rfl, hb2⟩
          have HO2 : Hid (w2.ownsRow w.heap.size 3 1 u5 (fndP l nm k).length (cellsN (fndP l nm k))) := ownN_below (HO.out.alloc _) hb2
          have HB2 : Hid (Below w.heap.size w w2) := (HB.out.alloc HB.out.size _).trans (hb2.mono (by have := HB.out.size; simp; omega))
          clear hb2 HFN HSM HO HB
          go_wp2_with (at_builtin; refine wpList_append_own _ rfl _ _ 26 rfl w.heap.size 3 i0 (.int .i64 0) 1 8 Try.underlying26 hi hz0 hz1 hz2 rfl (by decide) _ _ _ rfl (HO2.out.alloc _) ⟨w2.heap.size, 0, none⟩ 1 1 [Value.int .i64 (k : Int)] rfl rfl ?d1 ?d2 ?d3 ?d4 ?d5 ?_)
          case d1 => exact one_new _
          case d2 => intro u hu; rw [List.mem_singleton.1 hu]; rfl
          case d3 => have := HLN.out; unfold maxLen; omega
          case d4 => have := HLN.out; omega
          case d5 => have := HB2.out.size; simp; omega
          intro v3 w3 ho3 hg3 _
          have HO3 : Hid (w3.ownsRow w.heap.size 3 1 v3 (fndP l nm (k + 1)).length (cellsN (fndP l nm (k + 1)))) := by
            rw [HN1.out, List.length_append, cellsN_append]
            exact ho3
          have HB3 : Hid (Below w.heap.size w w3) := (HB2.out.alloc HB2.out.size _).grown hg3 (by have := HB2.out.size; simp; omega) (fun q hq => (HO2.out.lt q hq).1)
          clear ho3 hg3 HO2 HB2
          go_wp2_with fail
          go_roundw
          case rel => exact ⟨k + 1, by omega, by go_num, HO3.out, HB3.out⟩
          case measure => simp [intOf]; omega
        | false =>
          have HN1 : Hid (fndP l nm (k + 1) = fndP l nm k) := by rw [HFN.out]; show _ = _; simp
          go_wp2_with fail
          refine (HSM.out _).mono ?_
          rintro e w2 ⟨rfl, hb2⟩
          have HO2 : Hid (w2.ownsRow w.heap.size 3 1 u5 (fndP l nm k).length (cellsN (fndP l nm k))) := ownN_below (HO.out.alloc _) hb2
          have HB2 : Hid (Below w.heap.size w w2) := (HB.out.alloc HB.out.size _).trans (hb2.mono (by have := HB.out.size; simp; omega))
          clear hb2 HFN HSM HO HB
          go_wp2_with fail
          go_roundw
          case rel => exact ⟨k + 1, by omega, by go_num, by rw [HN1.out]; exact HO2.out, HB2.out⟩
          case measure => simp [intOf]; omega
      · have hszI : ((t.size : Int) == (nm.size : Int)) = false := by simp; omega
        have HN1 : Hid (fndP l nm (k + 1) = fndP l nm k) := by rw [HFN.out, HNE.out hsz]; show _ = _; simp
        clear hsz HNE HFN HSM
        go_wp2_with fail
        go_roundw
        case rel => exact ⟨k + 1, by omega, by go_num, by rw [HN1.out]; exact HO.out.alloc _, HB.out.alloc HB.out.size _⟩
        case measure => simp [intOf]; omega
    · obtain rfl : k = l.length := by omega
      go_wp2_with fail
      go_ret
      exact ⟨_, rfl, HO.out, HB.out⟩
end Go.Proofs.Ytpepjiocjcjeeaa
