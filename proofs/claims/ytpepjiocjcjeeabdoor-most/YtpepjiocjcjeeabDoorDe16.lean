/-
  The document's row, blanks, name, rows.
-/
import Derived.Test.YtpepjiocjcjeeabDoorRa16
import Derived.Test.YtpepjiocjcjeeabDoorFd16
import Derived.Test.YtpepjiocjcjeeabDoorDdP
namespace Go.Proofs.YtpepjiocjcjeeabDoor
open Go.RowKit

set_option maxHeartbeats 2000000 in
theorem urow_any (s : ByteArray) (a : Nat) (hs : s.size ≤ 281474976710656) (ha : a ≤ s.size) (w : World) : Calls Tryd.prog 23 #[.string s, .int .i64 (a : Int)] w fun e w' => e = .returned (.string (s.extract a (rwE s.data.toList a))) ∧ w' = w := by
  have hsI : (s.size : Int) ≤ 281474976710656 := by omega
  go_enter Tryd.func23, Tryd.ntmps23
  go_wp2_with fail
  go_loopw [5] (fun iv wr => ∃ k : Nat, a ≤ k ∧ k ≤ s.size ∧ iv = .int .i64 (k : Int) ∧ wr = w ∧ Hid (rwE s.data.toList a = rwE s.data.toList k)) (fun iv _ => s.size - (intOf iv).toNat)
  case atStart => exact ⟨a, Nat.le_refl _, ha, rfl, rfl, rfl⟩
  case round =>
    obtain ⟨k, hak, hk, rfl, rfl, HE⟩ := hrel
    have hakI : (a : Int) ≤ (k : Int) := by omega
    by_cases hlt : k < s.size
    · have hki : (k : Int) < (s.size : Int) := by omega
      have HH : Hid (crB s[k] = true → rwE s.data.toList k = k) := fun h => rwE_hit _ _ (by rw [len_list]; exact hlt) h
      have HO : Hid (crB s[k] = false → rwE s.data.toList k = rwE s.data.toList (k + 1)) := fun h => rwE_on _ _ (by rw [len_list]; exact hlt) h
      by_cases h13 : s[k] = 13
      · have k13 := u8nv (m := 13) h13
        have HR : Hid (rwE s.data.toList a = k) := HE.out.trans (HH.out (by rw [h13]; rfl))
        clear HE HH HO h13
        go_wp2_with fail
        go_ret
        exact ⟨by rw [HR.out]; rfl, rfl⟩
      · have k13 := u8nw (m := 13) h13
        by_cases h10 : s[k] = 10
        · have k10 := u8nv (m := 10) h10
          have HR : Hid (rwE s.data.toList a = k) := HE.out.trans (HH.out (by rw [h10]; rfl))
          clear HE HH HO h13 h10
          go_wp2_with fail
          go_ret
          exact ⟨by rw [HR.out]; rfl, rfl⟩
        · have k10 := u8nw (m := 10) h10
          have HR : Hid (rwE s.data.toList a = rwE s.data.toList (k + 1)) := HE.out.trans (HO.out (by unfold crB; simp [h13, h10]))
          clear HE HH HO h13 h10
          go_wp2_with fail
          go_roundw
          case rel => exact ⟨k + 1, by omega, by omega, by go_num, trivial, HR.out⟩
          case measure => simp [intOf]; omega
    · obtain rfl : k = s.size := by omega
      have HR : Hid (rwE s.data.toList a = s.size) := HE.out.trans (rwE_end _ _ (by rw [len_list]; exact Nat.le_refl _))
      go_wp2_with fail
      go_ret
      exact ⟨by rw [HR.out]; rfl, rfl⟩
set_option maxHeartbeats 2000000 in
theorem ublanks_any (s : ByteArray) (hs : s.size ≤ 281474976710656) (w : World) : Calls Tryd.prog 26 #[.string s] w fun e w' => e = .returned (.bool (s.data.toList.all blB)) ∧ w' = w := by
  have hsI : (s.size : Int) ≤ 281474976710656 := by omega
  go_enter Tryd.func26, Tryd.ntmps26
  go_wp2_with fail
  go_loopw [3] (fun iv wr => ∃ k : Nat, k ≤ s.size ∧ iv = .int .i64 (k : Int) ∧ wr = w ∧ Hid (s.data.toList.all blB = (s.data.toList.drop k).all blB)) (fun iv _ => s.size - (intOf iv).toNat)
  case atStart => exact ⟨0, Nat.zero_le _, rfl, rfl, rfl⟩
  case round =>
    obtain ⟨k, hk, rfl, rfl, HE⟩ := hrel
    by_cases hlt : k < s.size
    · have hki : (k : Int) < (s.size : Int) := by omega
      have HE2 : Hid (s.data.toList.all blB = (blB s[k] && (s.data.toList.drop (k + 1)).all blB)) := by
        rw [HE.out, List.drop_eq_getElem_cons (show k < s.data.toList.length by rw [len_list]; exact hlt), List.all_cons]
        exact rfl
      have HIK : Hid (∀ wx, Calls Tryd.prog 25 #[.int .u8 (s[k].toNat : Int)] wx fun e w' => e = .returned (.bool (blB s[k])) ∧ w' = wx) := fun wx => ublank_any _ wx
      clear HE
      generalize blB s[k] = b at *
      cases b with
      | true =>
        go_wp2_with (go_at_call 25; refine (HIK.out _).mono ?_; rintro e w1 ⟨rfl, rfl⟩)
        go_roundw
        case rel => exact ⟨k + 1, by omega, by go_num, trivial, HE2.out⟩
        case measure => simp [intOf]; omega
      | false =>
        have HT : Hid (s.data.toList.all blB = false) := HE2.out
        go_wp2_with (go_at_call 25; refine (HIK.out _).mono ?_; rintro e w1 ⟨rfl, rfl⟩)
        go_ret
        exact ⟨by rw [HT.out]; rfl, rfl⟩
    · obtain rfl : k = s.size := by omega
      have HT : Hid (s.data.toList.all blB = true) := by
        rw [HE.out, List.drop_eq_nil_of_le (by rw [len_list]; exact Nat.le_refl _)]
        exact rfl
      go_wp2_with fail
      go_ret
      exact ⟨by rw [HT.out]; rfl, rfl⟩
set_option maxHeartbeats 1000000 in
theorem uname_any (s : ByteArray) (hs : s.size ≤ 281474976710656) (w : World) : Calls Tryd.prog 34 #[.string s] w fun e w' => e = .returned (.bool (nmB s.data.toList)) ∧ w' = w := by
  have HB : Hid (Calls Tryd.prog 27 #[.int .i64 11, .string s] w fun e w' => e = .returned (.int .i64 (badN 11 s.data.toList : Int)) ∧ w' = w) := rbad_11 s w (by unfold maxLen; omega)
  by_cases h0 : 0 < s.size
  · have h0I : (0 : Int) < (s.size : Int) := by omega
    have HN : Hid (nmB s.data.toList = ((badN 11 s.data.toList : Int) == (s.size : Int))) := by
      show nmB _ = _
      unfold nmB
      have e : s.data.toList.isEmpty = false := by
        cases hh : s.data.toList with
        | nil => have := len_list s; rw [hh] at this; simp at this; omega
        | cons c r => rfl
      rw [e, len_list, Bool.eq_iff_iff]
      simp only [Bool.not_false, Bool.true_and, beq_iff_eq]
      omega
    generalize badN 11 s.data.toList = m at *
    go_enter Tryd.func34, Tryd.ntmps34
    go_wp2_with (go_at_call 27; refine HB.out.mono ?_; rintro e w1 ⟨rfl, rfl⟩)
    go_ret
    exact ⟨by rw [HN.out]; rfl, rfl⟩
  · have h0I : ¬ (0 : Int) < (s.size : Int) := by omega
    have HN : Hid (nmB s.data.toList = false) := by
      show nmB _ = _
      unfold nmB
      have e : s.data.toList = [] := List.eq_nil_of_length_eq_zero (by rw [len_list]; omega)
      rw [e]
      rfl
    clear HB
    go_enter Tryd.func34, Tryd.ntmps34
    go_wp2_with fail
    go_ret
    exact ⟨by rw [HN.out]; rfl, rfl⟩
def cellsT (ss : List (List UInt8)) : List Value := ss.map fun t => Value.string (tx t)
theorem cellsT_append (x y : List (List UInt8)) : cellsT (x ++ y) = cellsT x ++ cellsT y := by simp [cellsT]
theorem infoS : (Tryd.prog.info? 9).map (fun i => (i.zero, i.size, i.bytes)) = some (some (.string ⟨#[]⟩), 1, 16) := by kernel_rfl
def stL (l : List UInt8) (ps : List (Nat × Nat)) : List (List UInt8) := ps.map fun p => stE l p.1 p.2
theorem stL_snoc (l : List UInt8) (ps : List (Nat × Nat)) (p : Nat × Nat) : stL l (ps ++ [p]) = stL l ps ++ [stE l p.1 p.2] := by simp [stL]
theorem oneS {x : ByteArray} : ∀ u ∈ [Value.string x], u.oneCell' = true := by
  intro u hu
  rw [List.mem_singleton.1 hu]
  rfl
theorem ownT_keep {w w' : World} {B n t k : Nat} {v : Value} {xs : List Value} (h : w.ownsRow B t k v n xs) (hb : ∀ j, v.ownBlock = some j → w'.heap[j]? = w.heap[j]?) : w'.ownsRow B t k v n xs := by
  obtain ⟨h1, h2⟩ := h
  refine ⟨h1, ?_⟩
  rcases h2 with h2 | ⟨g, cap, cur, rfl, hB, hg, hr⟩
  · exact .inl h2
  · exact .inr ⟨g, cap, cur, rfl, hB, by rw [hb g rfl]; exact hg, hr⟩
theorem ownT_below {w w' : World} {B n t k : Nat} {v : Value} {xs : List Value} (h : w.ownsRow B t k v n xs) (hb : Below w.heap.size w w') : w'.ownsRow B t k v n xs := ownT_keep h (fun j hj => hb.block j (h.lt j hj).2)
/-- Where the document's rows stand: f begins the stretch that is coming, i is the next place. -/
def Dv (l : List UInt8) (pre : List (Nat × Nat)) (f i : Nat) : Prop := dws l 0 = pre ++ dws l f ∧ pre.length ≤ f ∧ ((f ≤ i ∧ ∀ j, f ≤ j → j < i → leH (l.drop j) = false) ∨ (f = i + 1 ∧ i < l.length ∧ leH (l.drop i) = false))
theorem Dv.hit {l : List UInt8} {pre : List (Nat × Nat)} {f i : Nat} (h : Dv l pre f i) (hc : leH (l.drop i) = true) : f ≤ i ∧ Dv l (pre ++ [(f, i)]) (i + 2) (i + 1) := by
  obtain ⟨h1, h2, ⟨h3, h4⟩ | ⟨_, _, h5⟩⟩ := h
  · have hl := leH_lt l i hc
    have hfe : feE l f = i := by rw [feE_jump l f i h3 (by omega) h4, feE_hit l i hc]
    refine ⟨h3, ?_, ?_, .inr ⟨rfl, by omega, ?_⟩⟩
    · rw [h1, dws_on l f (by rw [hfe]; exact hc), hfe]
      simp
    · rw [List.length_append, List.length_singleton]
      omega
    · rw [leH_at] at hc ⊢
      rw [Bool.and_eq_true, beq_iff_eq, beq_iff_eq] at hc
      rw [hc.2]
      rfl
  · rw [h5] at hc
    cases hc
theorem Dv.on {l : List UInt8} {pre : List (Nat × Nat)} {f i : Nat} (h : Dv l pre f i) (hc : leH (l.drop i) = false) : Dv l pre f (i + 1) := by
  obtain ⟨h1, h2, ⟨h3, h4⟩ | ⟨h3, _, _⟩⟩ := h
  · refine ⟨h1, h2, .inl ⟨by omega, fun j hj1 hj2 => ?_⟩⟩
    rcases Nat.lt_or_ge j i with h5 | h5
    · exact h4 j hj1 h5
    · obtain rfl : j = i := by omega
      exact hc
  · exact ⟨h1, h2, .inl ⟨by omega, fun j hj1 hj2 => absurd hj1 (by omega)⟩⟩
theorem Dv.fin {l : List UInt8} {pre : List (Nat × Nat)} {f : Nat} (h : Dv l pre f l.length) : f ≤ l.length ∧ dws l 0 = pre ++ [(f, l.length)] := by
  obtain ⟨h1, _, ⟨h3, h4⟩ | ⟨_, h3, _⟩⟩ := h
  · have hfe : feE l f = l.length := by rw [feE_jump l f l.length h3 (Nat.le_refl _) h4, feE_end l _ (by omega)]
    have hle : leH (l.drop l.length) = false := by rw [List.drop_length]; rfl
    exact ⟨h3, by rw [h1, dws_off l f (by rw [hfe]; exact hle), hfe]⟩
  · omega
end Go.Proofs.YtpepjiocjcjeeabDoor
