/-
  Print.
-/
import Derived.Test.YthkoionigdnhgabGreatDoorRc16
import Derived.Test.YthkoionigdnhgabGreatDoorOpH18
namespace Go.Proofs.YthkoionigdnhgabGreatDoor
open Go.RowKit

/-- How a field is written. -/
def wrF (p : Fd) : List UInt8 := p.name ++ [58] ++ p.body ++ [13, 10]
def prL (l : List Fd) : List UInt8 := l.flatMap wrF
/-- The first error among fields. -/
def errF : List Fd → Nat
  | [] => 0
  | p :: r => if chkF p.name p.body = 0 then errF r else chkF p.name p.body
def prE (l : List Fd) : Nat := if 4096 < l.length then 160 else errF l
theorem prL_take (l : List Fd) (k : Nat) (h : k < l.length) : prL (l.take (k + 1)) = prL (l.take k) ++ wrF l[k] := by
  unfold prL
  rw [List.take_succ_eq_append_getElem h, List.flatMap_append]
  simp
theorem prL_len (l : List Fd) (k : Nat) : (prL (l.take k)).length ≤ (prL l).length := by
  unfold prL
  conv => rhs; rw [← List.take_append_drop k l]
  rw [List.flatMap_append, List.length_append]
  omega
theorem catT_wr (p : Fd) : catT [tx p.name, ⟨#[58]⟩, tx p.body, ⟨#[13, 10]⟩] = wrF p := by
  simp [catT, wrF, tx]
set_option maxHeartbeats 4000000 in
set_option maxRecDepth 100000 in
theorem fprint_any (a : Option Addr) (cap : Nat) (l : List Fd) (w : World) (ha : Fds a l w) (hl : l.length ≤ 4398046511104) (hz : ∀ p ∈ l, p.name.length ≤ 140737488351232 ∧ p.body.length ≤ 140737488351232) (ht : Table w) (hm : prE l = 0 → (prL l).length ≤ 140737488351232) :
    Calls Tryz.prog 53 #[.slice a l.length cap] w fun e w' => ∃ v, e = .returned (.tuple #[v, .int .i64 (prE l : Int)]) ∧ Below w.heap.size w w' ∧ (prE l ≠ 0 → v = .slice none 0 0) ∧ (prE l = 0 → w'.ownsRow w.heap.size 5 1 v (prL l).length (cellsB (prL l))) := by
  have HA : Hid (Fds a l w) := ha
  have HZ : Hid (∀ p ∈ l, p.name.length ≤ 140737488351232 ∧ p.body.length ≤ 140737488351232) := hz
  have HT : Hid (Table w) := ht
  have HM : Hid (prE l = 0 → (prL l).length ≤ 140737488351232) := hm
  have hlI : (l.length : Int) ≤ 4398046511104 := by omega
  clear ha hz ht hm
  by_cases hbig : 4096 < l.length
  · have hbI : (4096 : Int) < (l.length : Int) := by omega
    have HE : Hid (prE l = 160) := by show prE l = _; unfold prE; rw [if_pos hbig]
    go_enter Tryz.func53, Tryz.ntmps53
    go_wp2_with fail
    go_ret2
    rw [HE.out]
    exact ⟨_, rfl, Below.refl _ _, fun _ => rfl, fun h => by cases h⟩
  · have hbI : ¬ (4096 : Int) < (l.length : Int) := by omega
    have HE : Hid (prE l = errF l) := by show prE l = _; unfold prE; rw [if_neg hbig]
    go_enter Tryz.func53, Tryz.ntmps53
    go_wp2_with fail
    go_loopw [5, 6, 15] (fun _ _ iv wr => ∃ k : Nat, k ≤ l.length ∧ iv = .int .i64 (k : Int) ∧ Hid (errF l = errF (l.drop k)) ∧ Hid (Below w.heap.size w wr)) (fun _ _ iv _ => l.length - (intOf iv).toNat)
    case atStart => exact ⟨0, Nat.zero_le _, rfl, rfl, Below.refl _ _⟩
    case round =>
      obtain ⟨k, hk, rfl, HF, HB⟩ := hrel
      by_cases hlt : k < l.length
      · obtain ⟨g, o, hga, a0, a1⟩ := (HA.out.below HB.out).at k hlt
        subst hga
        have hki : (k : Int) < (l.length : Int) := by omega
        have hzk := HZ.out _ (List.getElem_mem hlt)
        have HCK : Hid (∀ wx, Below w.heap.size w wx → Calls Tryz.prog 87 #[.agg #[.string (tx l[k].name), .string (tx l[k].body)]] wx fun e w' => e = .returned (.int .i64 (chkF l[k].name l[k].body : Int)) ∧ Below wx.heap.size wx w') := fun wx hx => by
          have := fcheck_any (tx l[k].name) (tx l[k].body) (by rw [tx_size]; exact hzk.1) (by rw [tx_size]; exact hzk.2) wx (tab_below HT.out hx)
          rw [tx_list, tx_list] at this
          exact this
        have HF2 : Hid (errF l = if chkF l[k].name l[k].body = 0 then errF (l.drop (k + 1)) else chkF l[k].name l[k].body) := by
          rw [HF.out, List.drop_eq_getElem_cons hlt, errF]
          exact rfl
        clear hzk HF
        generalize chkF l[k].name l[k].body = c at *
        generalize tx l[k].name = t1 at *
        generalize tx l[k].body = t2 at *
        have hB1 : Below w.heap.size w (wr.alloc (.cells #[.string t1, .string t2] 23)) := HB.out.alloc HB.out.size _
        by_cases hc : c = 0
        · have hcI : ((c : Int) != 0) = false := by simp [hc]
          have HF3 : Hid (errF l = errF (l.drop (k + 1))) := by rw [HF2.out, if_pos hc]; exact rfl
          clear hc HF2
          go_wp2_with fail
          refine (HCK.out _ hB1).mono ?_
          rintro e w2 ⟨rfl, hb2⟩
          have HB2 : Hid (Below w.heap.size w w2) := hB1.trans (hb2.mono hB1.size)
          clear hb2 hB1 HCK HB
          go_wp2_with fail
          go_roundw
          case rel => exact ⟨k + 1, by omega, by go_num, HF3.out, HB2.out⟩
          case measure => simp [intOf]; omega
        · have hcI : ((c : Int) != 0) = true := by rw [bne_iff_ne]; omega
          have HF3 : Hid (prE l = c) := by rw [HE.out, HF2.out, if_neg hc]; exact rfl
          have HC0 : Hid (c ≠ 0) := hc
          clear hc HF2
          go_wp2_with fail
          refine (HCK.out _ hB1).mono ?_
          rintro e w2 ⟨rfl, hb2⟩
          have HB2 : Hid (Below w.heap.size w w2) := hB1.trans (hb2.mono hB1.size)
          clear hb2 hB1 HCK HB
          go_wp2_with fail
          go_ret2
          rw [HF3.out]
          exact ⟨_, rfl, HB2.out, fun _ => rfl, fun h => absurd h HC0.out⟩
      · obtain rfl : k = l.length := by omega
        have HF3 : Hid (prE l = 0) := by rw [HE.out, HF.out, List.drop_length]; exact rfl
        have HMX : Hid ((prL l).length ≤ 140737488351232) := HM.out HF3.out
        have HBQ : Hid (Below w.heap.size w wr) := HB.out
        clear HF HE HM hk hlt HB
        go_wp2_with fail
        go_loopw [7, 9, 27] (fun v _ iv wq => ∃ k : Nat, k ≤ l.length ∧ iv = .int .i64 (k : Int) ∧ Hid (wq.ownsRow w.heap.size 5 1 v (prL (l.take k)).length (cellsB (prL (l.take k)))) ∧ Hid (Below w.heap.size w wq)) (fun _ _ iv _ => l.length - (intOf iv).toNat)
        case atStart => exact ⟨0, Nat.zero_le _, rfl, own_nil _ _, HBQ.out⟩
        case round =>
          obtain ⟨k, hk, rfl, HO, HB⟩ := hrel
          clear HBQ
          by_cases hlt : k < l.length
          · obtain ⟨g, o, hga, a0, a1⟩ := (HA.out.below HB.out).at k hlt
            subst hga
            have hki : (k : Int) < (l.length : Int) := by omega
            have HCT : Hid (prL (l.take (k + 1)) = prL (l.take k) ++ catT [tx l[k].name, ⟨#[58]⟩, tx l[k].body, ⟨#[13, 10]⟩]) := by rw [catT_wr]; exact prL_take l k hlt
            have HLN : Hid ((prL (l.take (k + 1))).length ≤ (prL l).length) := prL_len l (k + 1)
            generalize tx l[k].name = t1 at *
            generalize tx l[k].body = t2 at *
            obtain ⟨W1, hW1⟩ : ∃ W1, W1 = (wr.alloc (.cells #[.string t1, .string t2] 23)).alloc (.cells #[.string t1, .string ⟨#[58]⟩, .string t2, .string ⟨#[13, 10]⟩] 9) := ⟨_, rfl⟩
            have HW1 : Hid ((wr.alloc (.cells #[.string t1, .string t2] 23)).alloc (.cells #[.string t1, .string ⟨#[58]⟩, .string t2, .string ⟨#[13, 10]⟩] 9) = W1) := hW1.symm
            have HO1 : Hid (W1.ownsRow w.heap.size 5 1 u7 (prL (l.take k)).length (cellsB (prL (l.take k)))) := by rw [hW1]; exact own_below HO.out (((Below.refl _ _).alloc (Nat.le_refl _) _).alloc (by simp) _)
            have HL1 : Hid (Lies W1 (wr.heap.size + 1) ([t1, ⟨#[58]⟩, t2, ⟨#[13, 10]⟩].map Value.string).toArray 9) := by rw [hW1]; exact new_one _ _ _ _
            have HB1 : Hid (Below w.heap.size w W1) := by rw [hW1]; exact (HB.out.alloc HB.out.size _).alloc (by have := HB.out.size; simp; omega) _
            clear hW1 HO
            go_wp2_with fail
            rw [HW1.out]
            refine (lay_any w.heap.size u7 (prL (l.take k)) [t1, ⟨#[58]⟩, t2, ⟨#[13, 10]⟩] (wr.heap.size + 1) 4 W1 HB1.out.size HO1.out HL1.out (by have h1 := HLN.out; have h2 := HMX.out; rw [HCT.out, List.length_append] at h1; omega) (by simp)).mono ?_
            rintro e w3 ⟨v3, rfl, hl3⟩
            have HO3 : Hid (w3.ownsRow w.heap.size 5 1 v3 (prL (l.take (k + 1))).length (cellsB (prL (l.take (k + 1))))) := by rw [HCT.out]; exact hl3.own
            have HB3 : Hid (Below w.heap.size w w3) := HB1.out.trans (hl3.chg.to_below HB1.out.size (fun i hi => hi.1))
            clear hl3 HO1 HL1 HB1 HW1
            go_wp2_with fail
            go_roundw
            case rel => exact ⟨k + 1, by omega, by go_num, HO3.out, HB3.out⟩
            case measure => simp [intOf]; omega
          · obtain rfl : k = l.length := by omega
            have HO2 : Hid (wr.ownsRow w.heap.size 5 1 u7 (prL l).length (cellsB (prL l))) := by have := HO.out; rw [List.take_length] at this; exact this
            go_wp2_with fail
            go_ret2
            rw [HF3.out]
            exact ⟨_, rfl, HB.out, fun h => absurd rfl h, fun _ => HO2.out⟩
end Go.Proofs.YthkoionigdnhgabGreatDoor
