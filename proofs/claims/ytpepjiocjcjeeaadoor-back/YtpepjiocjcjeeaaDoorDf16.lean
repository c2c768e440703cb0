/-
  The document's Check.
-/
import Derived.Test.YtpepjiocjcjeeaaDoorDe16
namespace Go.Proofs.YtpepjiocjcjeeaaDoor
open Go.RowKit

theorem own_strs {w : World} {B : Nat} {v : Value} {ss : List (List UInt8)} (h : w.ownsRow B 9 1 v ss.length (cellsT ss)) (hne : ss ≠ []) : ∃ g cap, v = .slice (some ⟨g, 0, none⟩) ss.length cap ∧ g < w.heap.size ∧ ∀ j (hj : j < ss.length), w.cell? ⟨g, j, none⟩ = some (.string (tx ss[j])) := by
  obtain ⟨h1, h2⟩ := id h
  rcases h2 with ⟨rfl, h0⟩ | ⟨g, cap, cur, rfl, hB, hg, hr⟩
  · exact absurd (List.eq_nil_of_length_eq_zero h0) hne
  · refine ⟨g, cap, rfl, (h.lt g rfl).2, fun j hj => ?_⟩
    rw [h.cellAt j (by omega)]
    simp [cellsT, hj]
theorem dStr_len (l : List UInt8) : ∀ t ∈ dStr l, t.length ≤ l.length := fun t ht => by
  obtain ⟨p, hp, rfl⟩ := List.mem_map.1 ht
  have := dws_in l _ 0 rfl (Nat.zero_le _) p hp
  rw [stE_len _ _ _ this.2.2]
  omega
theorem dStr_ne (l : List UInt8) : dStr l ≠ [] := by
  unfold dStr
  rw [dws_zero]
  simp
theorem dStr_num (l : List UInt8) : (dStr l).length ≤ l.length + 1 := by
  have key : ∀ (n f : Nat), l.length - f = n → f ≤ l.length → (dws l f).length ≤ l.length + 1 - f := by
    intro n
    induction n using Nat.strongRecOn with
    | ind n ih =>
      intro f hn hf
      have h1 := feE_ge l _ f rfl
      cases hc : leH (l.drop (feE l f)) with
      | true =>
        have h3 := leH_lt l _ hc
        rw [dws_on l f hc, List.length_cons]
        have := ih (l.length - (feE l f + 2)) (by omega) (feE l f + 2) rfl (by omega)
        omega
      | false =>
        rw [dws_off l f hc]
        simp
        omega
  unfold dStr
  rw [List.length_map]
  exact key _ 0 rfl (Nat.zero_le _)
/-- A stretch that is wrong. -/
def sBad (t : List UInt8) : Bool := decide (rwE t 0 < t.length) || decide (998 < t.length)
theorem dS_bad (ss : List (List UInt8)) (k : Nat) (h : k < ss.length) (hb : sBad ss[k] = true) : dS ss = 160 := by
  unfold dS
  rw [if_pos]
  exact List.any_eq_true.2 ⟨_, List.getElem_mem h, hb⟩
theorem dS_fold (ss : List (List UInt8)) (hn : ∀ j (h : j < ss.length), sBad ss[j] = false) (k : Nat) (h : k < ss.length) (h1 : 1 ≤ k) (hb : fldB ss[k] = false) : dS ss = 161 := by
  unfold dS
  rw [if_neg, if_pos]
  · refine List.any_eq_true.2 ⟨ss[k], ?_, by rw [hb]; rfl⟩
    have : ss[k] = (ss.drop 1)[k - 1]'(by rw [List.length_drop]; omega) := by
      rw [List.getElem_drop]
      congr 1
      omega
    rw [this]
    exact List.getElem_mem _
  · intro he
    obtain ⟨t, ht, hb⟩ := List.any_eq_true.1 he
    obtain ⟨j, hj, rfl⟩ := List.getElem_of_mem ht
    have := hn j hj
    unfold sBad at this
    rw [this] at hb
    cases hb
theorem dS_ok (ss : List (List UInt8)) (hn : ∀ j (h : j < ss.length), sBad ss[j] = false) (hf : ∀ j (h : j < ss.length), 1 ≤ j → fldB ss[j] = true) : dS ss = 0 := by
  unfold dS
  rw [if_neg, if_neg]
  · intro he
    obtain ⟨t, ht, hb⟩ := List.any_eq_true.1 he
    obtain ⟨j, hj, rfl⟩ := List.getElem_of_mem ht
    rw [List.getElem_drop, hf (1 + j) (by rw [List.length_drop] at hj; omega) (by omega)] at hb
    cases hb
  · intro he
    obtain ⟨t, ht, hb⟩ := List.any_eq_true.1 he
    obtain ⟨j, hj, rfl⟩ := List.getElem_of_mem ht
    have := hn j hj
    unfold sBad at this
    rw [this] at hb
    cases hb
theorem fld_is (t : List UInt8) : fldB t = (!t.all blB && (match t with
  | [] => false
  | c :: _ => blB c)) := by
  unfold fldB
  rw [Bool.and_comm]
  congr 1
  induction t with
  | nil => rfl
  | cons c r ih => rw [List.any_cons, List.all_cons, ih, Bool.not_and]
set_option maxHeartbeats 2000000 in
set_option maxRecDepth 100000 in
theorem ucheck_any (nm bd : ByteArray) (hn : nm.size ≤ 274877906944) (hb : bd.size ≤ 274877906944) (w : World) : Calls Tryd.prog 16 #[.agg #[.string nm, .string bd]] w fun e w' => e = .returned (.int .i64 (chkF nm.data.toList bd.data.toList : Int)) ∧ Below w.heap.size w w' := by
  have HNA : Hid (∀ wx, Calls Tryd.prog 37 #[.string nm] wx fun e w' => e = .returned (.bool (nmB nm.data.toList)) ∧ w' = wx) := fun wx => uname_any nm (by omega) wx
  cases hnm : nmB nm.data.toList with
  | false =>
    have HR : Hid (chkF nm.data.toList bd.data.toList = 160) := by show chkF _ _ = _; unfold chkF; rw [hnm]; rfl
    rw [hnm] at HNA
    go_enter Tryd.func16, Tryd.ntmps16
    go_wp2_with (go_at_call 37; refine (HNA.out _).mono ?_; rintro e w1 ⟨rfl, h1⟩; rw [h1]; clear h1 w1)
    go_ret
    exact ⟨by rw [HR.out]; rfl, (Below.refl _ w).alloc (Nat.le_refl _) _⟩
  | true =>
    have HR : Hid (chkF nm.data.toList bd.data.toList = dS (dStr (nm.data.toList ++ [58] ++ bd.data.toList))) := by show chkF _ _ = _; rw [chk_doc, hnm]; rfl
    rw [hnm] at HNA
    clear hnm
    go_enter Tryd.func16, Tryd.ntmps16
    go_wp2_with (go_at_call 37; refine (HNA.out _).mono ?_; rintro e w1 ⟨rfl, h1⟩; rw [h1]; clear h1 w1)
    have hX : nm ++ ⟨#[58]⟩ ++ bd = tx (nm.data.toList ++ [58] ++ bd.data.toList) := by
      rw [← tx_cat, ← tx_cat, tx_back, tx_back]
      rfl
    have hXl : (nm.data.toList ++ [58] ++ bd.data.toList).length ≤ 549755813889 := by
      rw [List.length_append, List.length_append, len_list, len_list]
      simp
      omega
    rw [hX]
    generalize nm.data.toList ++ [58] ++ bd.data.toList = X at *
    have hur := urows_any (tx X) (by rw [tx_size]; omega) (w.alloc (.cells #[.string nm, .string bd] 34))
    rw [tx_list] at hur
    refine hur.mono ?_
    rintro e w2 ⟨v2, rfl, ho2, hb2⟩
    obtain ⟨g, cp, hv2, hg2, hcl⟩ := own_strs ho2 (dStr_ne X)
    subst hv2
    have hnl : (dStr X).length ≤ 549755813890 := by have := dStr_num X; omega
    have HTL : Hid (∀ j (h : j < (dStr X).length), (dStr X)[j].length ≤ 549755813889) := fun j h => Nat.le_trans (dStr_len X _ (List.getElem_mem h)) hXl
    have HB2 : Hid (Below w.heap.size w w2) := ((Below.refl _ w).alloc (Nat.le_refl _) _).trans (hb2.mono (by simp))
    have HCL : Hid (∀ j (hj : j < (dStr X).length), w2.cell? ⟨g, j, none⟩ = some (.string (tx (dStr X)[j]))) := hcl
    have HNE : Hid (dStr X ≠ []) := dStr_ne X
    clear hur ho2 hb2 hcl hX hXl HNA
    generalize dStr X = ss at *
    have hnI : (ss.length : Int) ≤ 549755813890 := by omega
    go_wp2_with fail
    go_loopw [4] (fun iv wr => ∃ k : Nat, k ≤ ss.length ∧ iv = .int .i64 (k : Int) ∧ Hid (∀ j (h : j < ss.length), j < k → sBad ss[j] = false) ∧ Hid (∃ n, wr = w2.drewN n)) (fun iv _ => ss.length - (intOf iv).toNat)
    case atStart => exact ⟨0, Nat.zero_le _, rfl, fun j h h2 => absurd h2 (by omega), 0, rfl⟩
    case round =>
      obtain ⟨k, hk, rfl, HS, HW⟩ := hrel
      obtain ⟨nd, hnd⟩ := HW.out
      by_cases hlt : k < ss.length
      · have hki : (k : Int) < (ss.length : Int) := by omega
        have c0 : wr.cell? ⟨g, k, none⟩ = some (.string (tx ss[k])) := by rw [hnd]; exact HCL.out k hlt
        have HWD : Hid (wr = w2.drewN nd) := hnd
        have hrl : rwE ss[k] 0 ≤ ss[k].length := rwE_le _ 0 (Nat.zero_le _)
        have hrw : ∀ wx, Calls Tryd.prog 25 #[.string (tx ss[k]), .int .i64 0] wx fun e w' => e = .returned (.string ((tx ss[k]).extract 0 (rwE ss[k] 0))) ∧ w' = wx := fun wx => by
          have := urow_any (tx ss[k]) 0 (by rw [tx_size]; have := HTL.out k hlt; omega) (Nat.zero_le _) wx
          rw [tx_list] at this
          exact this
        have hx2 : ((tx ss[k]).extract 0 (rwE ss[k] 0)).size = rwE ss[k] 0 := by
          rw [ByteArray.size_extract, tx_size]
          omega
        have htz : (tx ss[k]).size = ss[k].length := tx_size _
        have HSB : Hid (sBad ss[k] = (decide (rwE ss[k] 0 < ss[k].length) || decide (998 < ss[k].length))) := rfl
        have HBD : Hid (sBad ss[k] = true → chkF nm.data.toList bd.data.toList = 160) := fun h => by rw [HR.out]; exact dS_bad ss k hlt h
        have HNX : Hid (sBad ss[k] = false → ∀ j (h : j < ss.length), j < k + 1 → sBad ss[j] = false) := fun h j hj h2 => by
          rcases Nat.lt_or_ge j k with h3 | h3
          · exact HS.out j hj h3
          · obtain rfl : j = k := by omega
            exact h
        have htl := HTL.out k hlt
        clear hnd HS HW
        generalize rwE ss[k] 0 = r at *
        generalize ss[k] = q at *
        generalize (tx q).extract 0 r = t2 at *
        generalize tx q = t1 at *
        rw [← htz] at HSB hrl htl
        clear htz
        rw [← hx2] at HSB hrl
        clear hx2
        have HRW : Hid (∀ wx, Calls Tryd.prog 25 #[.string t1, .int .i64 0] wx fun e w' => e = .returned (.string t2) ∧ w' = wx) := hrw
        clear hrw
        by_cases h1 : t2.size < t1.size
        · have h1I : (t2.size : Int) < (t1.size : Int) := by omega
          have HC : Hid (chkF nm.data.toList bd.data.toList = 160) := HBD.out (by rw [HSB.out, decide_eq_true h1, Bool.true_or])
          clear HBD HNX HSB
          go_wp2_with fail
          go_quiet ((go_at_call 25; exact Calls.quiet_of_same (HRW.out _)))
          go_wp2_with fail
          go_ret
          exact ⟨by rw [HC.out]; rfl, by rw [HWD.out]; exact below_dN (below_dN HB2.out _) _⟩
        · have h1I : ¬ (t2.size : Int) < (t1.size : Int) := by omega
          by_cases h2 : 998 < t1.size
          · have h2I : (998 : Int) < (t1.size : Int) := by omega
            have HC : Hid (chkF nm.data.toList bd.data.toList = 160) := HBD.out (by rw [HSB.out, decide_eq_true h2, Bool.or_true])
            clear HBD HNX HSB
            go_wp2_with fail
            go_quiet ((go_at_call 25; exact Calls.quiet_of_same (HRW.out _)))
            go_wp2_with fail
            go_ret
            exact ⟨by rw [HC.out]; rfl, by rw [HWD.out]; exact below_dN (below_dN HB2.out _) _⟩
          · have h2I : ¬ (998 : Int) < (t1.size : Int) := by omega
            have HC : Hid (∀ j (h : j < ss.length), j < k + 1 → sBad ss[j] = false) := HNX.out (by rw [HSB.out, decide_eq_false h1, decide_eq_false h2]; rfl)
            clear HBD HNX HSB
            go_wp2_with fail
            go_quiet ((go_at_call 25; exact Calls.quiet_of_same (HRW.out _)))
            go_wp2_with fail
            go_roundw
            case rel => exact ⟨k + 1, by omega, by go_num, HC.out, by rw [HWD.out]; exact ⟨_, by rw [World.drewN_drewN]⟩⟩
            case measure => simp [intOf]; omega
      · obtain rfl : k = ss.length := by omega
        have HNB : Hid (∀ j (h : j < ss.length), sBad ss[j] = false) := fun j h => HS.out j h h
        have HWD : Hid (wr = w2.drewN nd) := hnd
        clear HS HW hnd
        have HBW : Hid (Below w.heap.size w wr) := by rw [HWD.out]; exact below_dN HB2.out _
        have HCW : Hid (∀ j (hj : j < ss.length), wr.cell? ⟨g, j, none⟩ = some (.string (tx ss[j]))) := fun j hj => by rw [HWD.out]; exact HCL.out j hj
        have hpos : 0 < ss.length := List.length_pos_iff.2 HNE.out
        clear HWD HCL HB2 hlt hk
        go_wp2_with fail
        go_loopw [5] (fun iv wq => ∃ k : Nat, 1 ≤ k ∧ k ≤ ss.length ∧ iv = .int .i64 (k : Int) ∧ wq = wr ∧ Hid (∀ j (h : j < ss.length), 1 ≤ j → j < k → fldB ss[j] = true)) (fun iv _ => ss.length - (intOf iv).toNat)
        case atStart => exact ⟨1, Nat.le_refl _, hpos, rfl, rfl, fun j h h1 h2 => absurd h2 (by omega)⟩
        case round =>
          obtain ⟨k, hk1, hk, rfl, rfl, HS⟩ := hrel
          by_cases hlt : k < ss.length
          · have hki : (k : Int) < (ss.length : Int) := by omega
            have c0 := HCW.out k hlt
            have HBL : Hid (∀ wx, Calls Tryd.prog 28 #[.string (tx ss[k])] wx fun e w' => e = .returned (.bool (ss[k].all blB)) ∧ w' = wx) := fun wx => by
              have := ublanks_any (tx ss[k]) (by rw [tx_size]; have := HTL.out k hlt; omega) wx
              rw [tx_list] at this
              exact this
            have HFI := fld_is ss[k]
            have HFI2 : Hid (fldB ss[k] = (!ss[k].all blB && (match ss[k] with
              | [] => false
              | c :: _ => blB c))) := HFI
            have HBD : Hid (fldB ss[k] = false → chkF nm.data.toList bd.data.toList = 161) := fun h => by rw [HR.out]; exact dS_fold ss HNB.out k hlt hk1 h
            have HNX : Hid (fldB ss[k] = true → ∀ j (h : j < ss.length), 1 ≤ j → j < k + 1 → fldB ss[j] = true) := fun h j hj h1 h2 => by
              rcases Nat.lt_or_ge j k with h3 | h3
              · exact HS.out j hj h1 h3
              · obtain rfl : j = k := by omega
                exact h
            clear HS HFI
            generalize ss[k] = q at *
            cases hall : q.all blB with
            | true =>
              rw [hall] at HBL
              have HC : Hid (chkF nm.data.toList bd.data.toList = 161) := HBD.out (by rw [HFI2.out, hall]; rfl)
              clear HFI2 HBD HNX hall
              go_wp2_with (go_at_call 28; refine (HBL.out _).mono ?_; rintro e w3 ⟨rfl, h3⟩; rw [h3]; clear h3 w3)
              go_ret
              exact ⟨by rw [HC.out]; rfl, HBW.out⟩
            | false =>
              rw [hall] at HBL
              cases q with
              | nil => cases hall
              | cons c r =>
                have hpz : 0 < (tx (c :: r)).size := by rw [tx_size]; simp
                have h0c : (tx (c :: r))[0]'hpz = c := rfl
                have HIB : Hid (∀ wx, Calls Tryd.prog 27 #[.int .u8 (c.toNat : Int)] wx fun e w' => e = .returned (.bool (blB c)) ∧ w' = wx) := fun wx => ublank_any _ wx
                have HFI3 : Hid (fldB (c :: r) = blB c) := by rw [HFI2.out, hall]; rfl
                rw [HFI3.out] at HBD HNX
                clear HFI2 HFI3 hall
                have hpI : (0 : Int) < ((tx (c :: r)).size : Int) := by omega
                generalize tx (c :: r) = t1 at *
                generalize blB c = b at *
                cases b with
                | true =>
                  have HC := HNX.out rfl
                  have HC2 : Hid (∀ j (h : j < ss.length), 1 ≤ j → j < k + 1 → fldB ss[j] = true) := HC
                  clear HC HBD HNX
                  go_wp2_with (first
                    | (go_at_call 28; refine (HBL.out _).mono ?_; rintro e w3 ⟨rfl, h3⟩; rw [h3]; clear h3 w3)
                    | (go_at_call 27; refine (HIB.out _).mono ?_; rintro e w3 ⟨rfl, h3⟩; rw [h3]; clear h3 w3))
                  go_roundw
                  case rel => exact ⟨k + 1, by omega, by omega, by go_num, trivial, HC2.out⟩
                  case measure => simp [intOf]; omega
                | false =>
                  have HC : Hid (chkF nm.data.toList bd.data.toList = 161) := HBD.out rfl
                  clear HBD HNX
                  go_wp2_with (first
                    | (go_at_call 28; refine (HBL.out _).mono ?_; rintro e w3 ⟨rfl, h3⟩; rw [h3]; clear h3 w3)
                    | (go_at_call 27; refine (HIB.out _).mono ?_; rintro e w3 ⟨rfl, h3⟩; rw [h3]; clear h3 w3))
                  go_ret
                  exact ⟨by rw [HC.out]; rfl, HBW.out⟩
          · obtain rfl : k = ss.length := by omega
            have HC : Hid (chkF nm.data.toList bd.data.toList = 0) := by rw [HR.out]; exact dS_ok ss HNB.out (fun j h h1 => HS.out j h h1 h)
            go_wp2_with fail
            go_ret
            exact ⟨by rw [HC.out]; rfl, HBW.out⟩
end Go.Proofs.YtpepjiocjcjeeaaDoor
