/-
  The walk of the statement P1.10: numbers and bytes there and back.
-/
import Derived.Test.YtdgbkllhcoincabDoorWakes
import Derived.Test.YtdgbkllhcoincabDoorHexOf
import Derived.Test.YtdgbkllhcoincabDoorUnhexOk
import Derived.Test.YtdgbkllhcoincabDoorDec
import Derived.Test.YtdgbkllhcoincabDoorPureDec
import Derived.Test.YtdgbkllhcoincabDoorPureBack
namespace Go.Proofs.YtdgbkllhcoincabDoor.octetBack
open Go.RowKit

theorem PowTab.below {w w' : World} (h : PowTab w) (hb : Below w.heap.size w w') : PowTab w' := Lib.tabBelow_of_tabIs h w' hb

theorem un_back {s : ByteArray} {w : World} {base g n : Nat} (hn : s.size = n) (h : w.ownsRow base 5 1 (.slice (some ⟨g, 0, none⟩) n n) n (cellsB (unL (hexL s.data.toList)))) :
    (convert 27 9 (.slice (some ⟨g, 0, none⟩) n n)).run Tryd.prog w = .ok (.string s) w := by
  rw [un_hex] at h
  have hl : s.data.toList.length = n := by rw [Array.length_toList]; exact hn
  subst hn
  rw [← hl] at h ⊢
  exact own_back s.data.toList h

set_option maxRecDepth 100000 in
set_option maxHeartbeats 4000000 in
theorem walk_one (n : Nat) (most : Int) (bs : ByteArray) (a : Option Addr) (cap : Nat) (w : World) (ht : Table w) (hp : PowTab w) (hn : n < 18446744073709551616) (m0 : 0 ≤ most) (m1 : most ≤ 18446744073709551615) (hs : bs.size ≤ 140737488351232)
    (hconv : ∀ W, Below w.heap.size w W → (convert 27 9 (.slice a bs.size cap)).run Tryd.prog W = .ok (.string bs) W)
    (hhex : ∀ W, Below w.heap.size w W → Calls Tryd.prog 15 #[.slice a bs.size cap] W fun e w' => e = .returned (.string (hexS bs)) ∧ Below W.heap.size W w')
    (vv cc : Int) (hv : numVal (Lib.decDigits n) most = vv) (hc : numCode (Lib.decDigits n) most = cc)
    (hcase : ((n : Int) ≤ most ∧ vv = (n : Int) ∧ cc = 0) ∨ (most < (n : Int) ∧ vv = 0 ∧ cc = 5)) :
    Calls Tryd.prog 5 #[.int .u64 (n : Int), .int .u64 most, .slice a bs.size cap] w fun e w' => e = .returned (.bool true) ∧ Below w.heap.size w w' := by
  have HT : Hid (Table w) := ht
  have HP : Hid (PowTab w) := hp
  have HC : Hid (∀ W, Below w.heap.size w W → (convert 27 9 (.slice a bs.size cap)).run Tryd.prog W = .ok (.string bs) W) := hconv
  have HX : Hid (∀ W, Below w.heap.size w W → Calls Tryd.prog 15 #[.slice a bs.size cap] W fun e w' => e = .returned (.string (hexS bs)) ∧ Below W.heap.size W w') := hhex
  have HN : Hid (n < 18446744073709551616) := hn
  have HDS : Hid ((⟨(Lib.decDigits n).toArray⟩ : ByteArray).size ≤ maxLen) := by have := dec_size n hn; show _ ≤ _; unfold maxLen; omega
  have HHS : Hid ((hexS bs).size = 2 * bs.size) := hexS_size bs
  have hhs : ((hexS bs).size : Int) = 2 * (bs.size : Int) := by have := hexS_size bs; omega
  have HHM : Hid ((hexS bs).size ≤ maxLen) := by have := hexS_size bs; show _ ≤ _; unfold maxLen; omega
  have hup := hexS_up bs
  have HOK : Hid (hexOk (hexS bs).data.toList) := hex_ok _
  clear ht hp hconv hhex hn
  rcases hcase with ⟨h1, rfl, rfl⟩ | ⟨h1, rfl, rfl⟩
  all_goals
    go_enter Tryd.func5, Tryd.ntmps5
    go_wp2_with fail
    refine (wakes_any _ HT.out).mono ?_
    rintro e w1 ⟨rfl, hb1⟩
    have HP1 : Hid (PowTab w1) := PowTab.below HP.out hb1
    have HT1 : Hid (Table w1) := HT.out.below hb1
    go_wp2_with fail
    refine (dec_any n HN.out _ HP1.out).mono ?_
    rintro e w2 ⟨rfl, hb2⟩
    have HT2 : Hid (Table w2) := HT1.out.below hb2
    have g2 := hb1.trans (hb2.mono hb1.size)
    go_wp2_with fail
    refine (number_any ⟨(Lib.decDigits n).toArray⟩ most _ HT2.out HDS.out m0 m1).mono ?_
    rintro e w3 ⟨rfl, hw3⟩
    subst hw3
    go_wp2_with fail
    refine (HX.out _ g2).mono ?_
    rintro e w4 ⟨rfl, hb4⟩
    have HT4 : Hid (Table w4) := HT2.out.below hb4
    have g4 := g2.trans (hb4.mono g2.size)
    go_wp2_with fail
    refine (unhex_okn (hexS bs) bs.size HHS.out _ HT4.out (by have := HHS.out; omega) HOK.out).mono ?_
    rintro e w5 ⟨g, rfl, hg, ho5, hb5⟩
    have g5 := g4.trans (hb5.mono g4.size)
    have g6 := g5.alloc g5.size (.cells #[.int .i64 0, .int .i64 0] 36)
    have hback := un_back (s := bs) rfl (ho5.alloc (.cells #[.int .i64 0, .int .i64 0] 36))
    have hcb := HC.out _ g6
    have HB6 : Hid (Below w.heap.size w (w5.alloc (.cells #[.int .i64 0, .int .i64 0] 36))) := g6
    clear ho5 hb5 hb4 hb2 hb1 g2 g4 g5 g6 HT HT1 HT2 HT4 HP HP1 HX HC
    go_wp2_with fail
    refine (upper_any (hexS bs) _ HHM.out).mono ?_
    rintro e w7 ⟨rfl, hb7⟩
    go_wp2
    go_ret
    exact ⟨rfl, HB6.out.trans (hb7.mono HB6.out.size)⟩
end Go.Proofs.YtdgbkllhcoincabDoor.octetBack
