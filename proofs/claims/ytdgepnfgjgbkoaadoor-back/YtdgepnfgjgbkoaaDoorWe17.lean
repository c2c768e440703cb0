/-
  cost, text and word of bytes in a coding.
-/
import Derived.Test.YtdgepnfgjgbkoaaDoorWq17
import Derived.Test.YtdgepnfgjgbkoaaDoorB64W
namespace Go.Proofs.YtdgepnfgjgbkoaaDoor
open Go.RowKit

theorem wcost_any (q : Bool) (a : Option Addr) (l : List UInt8) (cap n : Nat) (w : World) (hn : n = l.length) (ht : Table w) (hb : Bts a l w) (hl : l.length ≤ 1099511627776) (hcap : n ≤ cap) (hcap2 : cap ≤ 9223372036854775807) :
    Calls Tryd.prog 46 #[.string (cdS q), .slice a n cap] w fun e w' => e = .returned (.int .i64 (coW q l : Nat)) ∧ Below w.heap.size w w' := by
  have hQ := wquote_any a l cap n w hn ht hb hl hcap hcap2
  have hql : (⟨(qL l).toArray⟩ : ByteArray).size = (qL l).length := by show (qL l).toArray.size = _; simp
  have HN : Hid (n = l.length) := hn
  cases q with
  | false =>
    have HC : Hid (coW false l = n) := by show _ = _; rw [hn]; rfl
    clear hn hb ht hl hQ hql
    unfold cdS
    go_enter Tryd.func46, Tryd.ntmps46
    go_wp2
    go_ret
    exact ⟨by rw [HC.out]; rfl, Below.refl _ _⟩
  | true =>
    have HC : Hid (coW true l = (qL l).length) := rfl
    have HQ := hQ
    obtain ⟨X, hX⟩ : ∃ X : ByteArray, X = ⟨(qL l).toArray⟩ := ⟨_, rfl⟩
    rw [← hX] at hQ hql
    have HL : Hid (X.size = (qL l).length) := hql
    clear hn hb ht hl HQ hql hX
    unfold cdS
    go_enter Tryd.func46, Tryd.ntmps46
    go_wp2_with fail
    refine hQ.mono ?_
    rintro e w2 ⟨rfl, hb2⟩
    go_wp2
    go_ret
    exact ⟨by rw [HC.out, HL.out]; rfl, hb2⟩
theorem wtxt_any (q : Bool) (a : Option Addr) (l : List UInt8) (cap n : Nat) (w : World) (hn : n = l.length) (ht : Table w) (hb : Bts a l w) (hl : l.length ≤ 1099511627776) (hcap : n ≤ cap) (hcap2 : cap ≤ 9223372036854775807) :
    Calls Tryd.prog 67 #[.string (cdS q), .slice a n cap] w fun e w' => e = .returned (.string ⟨(txW q l).toArray⟩) ∧ Below w.heap.size w w' := by
  have hQ := wquote_any a l cap n w hn ht hb hl hcap hcap2
  have hB := b64_any a l cap n w hn hb (by omega) (by omega) hcap2
  have HN : Hid (n = l.length) := hn
  clear hn hb ht hl
  cases q
  all_goals
    unfold cdS txW
    simp only [Bool.false_eq_true, if_false, if_true]
    go_enter Tryd.func67, Tryd.ntmps67
    go_wp2_with fail
    refine (by first | exact hQ | exact hB : Calls _ _ _ _ _).mono ?_
    rintro e w2 ⟨rfl, hb2⟩
    go_wp2
    go_ret
    exact ⟨rfl, hb2⟩
theorem txW_len (q : Bool) (l : List UInt8) : (txW q l).length ≤ 3 * l.length + 4 := by
  unfold txW
  cases q
  · simp only [Bool.false_eq_true, if_false]
    rw [e64L_len]
    omega
  · simp only [if_true]
    have := qL_len l
    omega
theorem wword_any (q : Bool) (a : Option Addr) (l : List UInt8) (cap n : Nat) (w : World) (hn : n = l.length) (ht : Table w) (hb : Bts a l w) (hl : l.length ≤ 1099511627776) (hcap : n ≤ cap) (hcap2 : cap ≤ 9223372036854775807) :
    Calls Tryd.prog 47 #[.string (cdS q), .slice a n cap] w fun e w' => e = .returned (.string ⟨(wrd q l).toArray⟩) ∧ Below w.heap.size w w' := by
  have hT := wtxt_any q a l cap n w hn ht hb hl hcap hcap2
  have hlen := txW_len q l
  have HN : Hid (n = l.length) := hn
  obtain ⟨X, hX⟩ : ∃ X : ByteArray, X = ⟨(txW q l).toArray⟩ := ⟨_, rfl⟩
  have hXs : X.size ≤ 3 * n + 4 := by
    rw [hX, hn]
    show (txW q l).toArray.size ≤ _
    simpa using hlen
  have hW : ((⟨#[61, 63, 85, 84, 70, 45, 56, 63]⟩ ++ cdS q) ++ ⟨#[63]⟩ ++ X) ++ ⟨#[63, 61]⟩ = (⟨(wrd q l).toArray⟩ : ByteArray) := by
    rw [hX]
    apply ByteArray.ext
    apply Array.ext'
    cases q <;> simp [wrd, cdS]
  have HW : Hid (((⟨#[61, 63, 85, 84, 70, 45, 56, 63]⟩ ++ cdS q) ++ ⟨#[63]⟩ ++ X) ++ ⟨#[63, 61]⟩ = (⟨(wrd q l).toArray⟩ : ByteArray)) := hW
  rw [← hX] at hT
  rw [← hn] at hl
  clear hn hb ht hX hW hlen
  have hcd : (cdS q).size = 1 := by cases q <;> rfl
  have hT := hT
  obtain ⟨cd, hcdd⟩ : ∃ cd, cd = cdS q := ⟨_, rfl⟩
  rw [← hcdd] at hT hcd HW ⊢
  have hs1 : (⟨#[61, 63, 85, 84, 70, 45, 56, 63]⟩ : ByteArray).size = 8 := rfl
  have hs2 : (⟨#[63]⟩ : ByteArray).size = 1 := rfl
  have hs3 : (⟨#[63, 61]⟩ : ByteArray).size = 2 := rfl
  clear hcdd
  go_enter Tryd.func47, Tryd.ntmps47
  go_wp2_with fail
  refine hT.mono ?_
  rintro e w2 ⟨rfl, hb2⟩
  go_wp2
  go_ret
  exact ⟨by rw [← HW.out]; rfl, hb2⟩
end Go.Proofs.YtdgepnfgjgbkoaaDoor
