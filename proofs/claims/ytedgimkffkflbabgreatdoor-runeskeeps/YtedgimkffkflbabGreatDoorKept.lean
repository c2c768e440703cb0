/-
  The statements' kept: what is handed in stays.
-/
import Derived.Test.YtedgimkffkflbabGreatDoorKpC
import Derived.Test.YtedgimkffkflbabGreatDoorRPu
import Derived.Test.YtedgimkffkflbabGreatDoorWak
import Derived.Test.YtedgimkffkflbabGreatDoorBgn
import Derived.Test.YtedgimkffkflbabGreatDoorCutF
namespace Go.Proofs.YtedgimkffkflbabGreatDoor
open Go.RowKit

theorem encE_two (l : List Int) : ∃ x y, encE l = #[.int .i64 x, .int .i64 y] := by
  unfold encE
  split
  · exact ⟨_, _, rfl⟩
  · exact ⟨_, _, rfl⟩

/-- Bytes of which the first k are 255. -/
def ffK (b : List UInt8) (k : Nat) : List UInt8 := List.replicate k 255 ++ (roomU b 80).drop k
theorem ffK_length (b : List UInt8) (k : Nat) : (ffK b k).length = max k (b.length + 80) := by
  unfold ffK roomU
  simp
  omega
theorem ffK_set (b : List UInt8) (k : Nat) (hk : k < b.length) : (ffK b k).set k 255 = ffK b (k + 1) := by
  have hl : k < (roomU b 80).length := by unfold roomU; simp; omega
  unfold ffK
  rw [List.set_append, if_neg (by simp), List.length_replicate, Nat.sub_self, List.drop_eq_getElem_cons hl, List.set_cons_zero, List.replicate_succ', List.append_assoc]
  rfl
theorem ffK_bad (b : List UInt8) (h : 0 < b.length) : badU ((ffK b b.length).take b.length) = 0 := by
  have e : (ffK b b.length).take b.length = List.replicate b.length 255 := by
    unfold ffK
    have : (List.replicate b.length (255 : UInt8)).length = b.length := List.length_replicate
    conv => lhs; rw [← this]
    rw [List.length_replicate, List.take_append_of_le_length (by simp), List.take_of_length_le (by simp)]
  rw [e]
  obtain ⟨k, hk⟩ : ∃ k, b.length = k + 1 := ⟨b.length - 1, by omega⟩
  rw [hk, List.replicate_succ]
  rfl

set_option maxHeartbeats 16000000 in
set_option maxRecDepth 100000 in
theorem kept_any {w : World} (a : Option Addr) (l : List Int) (cap : Nat) (hr : Nts .i32 a l w) (hl : l.length ≤ 1048576) (h32 : ∀ x ∈ l, -2147483648 ≤ x ∧ x ≤ 2147483647) (oa : Option Addr) (other : List Int) (ocap : Nat) (hor : Nts .i32 oa other w) (h32o : ∀ x ∈ other, -2147483648 ≤ x ∧ x ≤ 2147483647)
    (ba : Option Addr) (b : List UInt8) (bcap : Nat) (hbr : Bts ba b w) (hbl : b.length ≤ 1048576) (hbc : b.length ≤ bcap) (ht : Tb w) :
    Calls Tryz.prog 5 #[.slice a l.length cap, .slice oa other.length ocap, .slice ba b.length bcap] w fun e w' => e = .returned (.bool true) ∧ Below w.heap.size w w' := by
  obtain ⟨n, hn⟩ : ∃ n, n = l.length := ⟨_, rfl⟩
  obtain ⟨o, ho⟩ : ∃ o, o = other.length := ⟨_, rfl⟩
  obtain ⟨m, hm⟩ : ∃ m, m = b.length := ⟨_, rfl⟩
  have HL : Hid (Nts .i32 a l w) := hr
  have HO : Hid (Nts .i32 oa other w) := hor
  have HB : Hid (Bts ba b w) := hbr
  have HN : Hid (n = l.length) := hn
  have HON : Hid (o = other.length) := ho
  have HM : Hid (m = b.length) := hm
  have HT : Hid (Tb w) := ht
  obtain ⟨l2, hl2⟩ : ∃ l2, l2 = over l other := ⟨_, rfl⟩
  have HL2 : Hid (l2 = over l other) := hl2
  have HN2 : Hid (n = l2.length) := by show _ = _; rw [hl2, over_length]; exact hn
  have h322 : ∀ x ∈ l2, -2147483648 ≤ x ∧ x ≤ 2147483647 := by rw [hl2]; exact over_mem l other h32 h32o
  obtain ⟨x, y, hxy⟩ := encE_two l
  obtain ⟨x2, y2, hxy2⟩ := encE_two l2
  have HRL : Hid (∀ wx, Below w.heap.size w wx → Calls Tryz.prog 12 #[.slice a n cap] wx fun e w' => ∃ v, e = .returned v ∧ w'.ownsRow wx.heap.size 21 1 v (n + 80) (cellsN .i32 (roomI l 80)) ∧ Below wx.heap.size wx w') := fun wx hx => roomR_any a l cap n hn wx (HL.out.below hx) (by omega)
  have HRL2 : Hid (∀ wx b2 c2, Nts .i32 b2 l2 wx → Calls Tryz.prog 12 #[.slice b2 n c2] wx fun e w' => ∃ v, e = .returned v ∧ w'.ownsRow wx.heap.size 21 1 v (n + 80) (cellsN .i32 (roomI l2 80)) ∧ Below wx.heap.size wx w') := fun wx b2 c2 hx => roomR_any b2 l2 c2 n HN2.out wx hx (by omega)
  have HDE : Hid (∀ wx, Below w.heap.size w wx → Calls Tryz.prog 13 #[.slice a n cap] wx fun e w' => e = .returned (.tuple #[.string (encT l), .agg #[.int .i64 x, .int .i64 y]]) ∧ Below wx.heap.size wx w') := fun wx hx => by
    have := denc_any a l cap wx (HL.out.below hx) (by omega) h32
    rw [hxy, ← hn] at this
    exact this
  have HDE2 : Hid (∀ wx b2 c2, Nts .i32 b2 l2 wx → Calls Tryz.prog 13 #[.slice b2 n c2] wx fun e w' => e = .returned (.tuple #[.string (encT l2), .agg #[.int .i64 x2, .int .i64 y2]]) ∧ Below wx.heap.size wx w') := fun wx b2 c2 hx => by
    have := denc_any b2 l2 c2 wx hx (by rw [← HN2.out]; omega) h322
    rw [hxy2, ← HN2.out] at this
    exact this
  have HDP : Hid (∀ wx, Below w.heap.size w wx → Calls Tryz.prog 14 #[.slice a n cap] wx fun e w' => e = .returned (.tuple #[.string (punT l), .int .i64 (punE l)]) ∧ Below wx.heap.size wx w') := fun wx hx => by
    have := dpuny_any a l cap wx (HL.out.below hx) (by omega) h32
    rw [← hn] at this
    exact this
  have HDP2 : Hid (∀ wx b2 c2, Nts .i32 b2 l2 wx → Calls Tryz.prog 14 #[.slice b2 n c2] wx fun e w' => e = .returned (.tuple #[.string (punT l2), .int .i64 (punE l2)]) ∧ Below wx.heap.size wx w') := fun wx b2 c2 hx => by
    have := dpuny_any b2 l2 c2 wx hx (by rw [← HN2.out]; omega) h322
    rw [← HN2.out] at this
    exact this
  have HEN : Hid (∀ wx b2 c2, Nts .i32 b2 l wx → Calls Tryz.prog 15 #[.slice b2 n c2] wx fun e w' => e = .returned (.tuple #[.string (encT l), .agg #[.int .i64 x, .int .i64 y]]) ∧ Below wx.heap.size wx w') := fun wx b2 c2 hx => by
    have := enc_any b2 l c2 wx hx (by omega) h32
    rw [hxy, ← hn] at this
    exact this
  have HEN2 : Hid (∀ wx b2 c2, Nts .i32 b2 l2 wx → Calls Tryz.prog 15 #[.slice b2 n c2] wx fun e w' => e = .returned (.tuple #[.string (encT l2), .agg #[.int .i64 x2, .int .i64 y2]]) ∧ Below wx.heap.size wx w') := fun wx b2 c2 hx => by
    have := enc_any b2 l2 c2 wx hx (by rw [← HN2.out]; omega) h322
    rw [hxy2, ← HN2.out] at this
    exact this
  have HPU : Hid (∀ wx b2 c2, Nts .i32 b2 l wx → Calls Tryz.prog 16 #[.slice b2 n c2] wx fun e w' => e = .returned (.tuple #[.string (punT l), .int .i64 (punE l)]) ∧ Below wx.heap.size wx w') := fun wx b2 c2 hx => by
    have := puny_any b2 l c2 wx hx (by omega)
    rw [← hn] at this
    exact this
  have HPU2 : Hid (∀ wx b2 c2, Nts .i32 b2 l2 wx → Calls Tryz.prog 16 #[.slice b2 n c2] wx fun e w' => e = .returned (.tuple #[.string (punT l2), .int .i64 (punE l2)]) ∧ Below wx.heap.size wx w') := fun wx b2 c2 hx => by
    have := puny_any b2 l2 c2 wx hx (by rw [← HN2.out]; omega)
    rw [← HN2.out] at this
    exact this
  have HCL : Hid (∀ wx, Below w.heap.size w wx → Calls Tryz.prog 17 #[.slice a n cap] wx fun e w' => ∃ v, e = .returned v ∧ w'.ownsRow wx.heap.size 21 1 v n (cellsN .i32 l) ∧ Below wx.heap.size wx w') := fun wx hx => by
    have := clr_any a l cap wx (HL.out.below hx) (by omega)
    rw [← hn] at this
    exact this
  have HEQ : Hid (∀ (wx : World) (a1 a2 : Option Addr) (c1 c2 : Nat) (L : List Int), n + 80 = L.length → Nts .i32 a1 L wx → Nts .i32 a2 L wx → Calls Tryz.prog 11 #[.slice a1 (n + 80) c1, .slice a2 (n + 80) c2] wx fun e w' => e = .returned (.bool true) ∧ ∃ q, w' = wx.drewN q) := fun wx a1 a2 c1 c2 L h1 h2 h3 => by
    have := eqr_any a1 a2 L L c1 c2 wx h2 h3 (by omega)
    rw [decide_eq_true rfl, ← h1] at this
    exact this
  have HRN : Hid (n + 80 = (roomI l 80).length ∧ n + 80 = (roomI l2 80).length) := by
    constructor
    · unfold roomI; rw [List.length_append, List.length_replicate, ← hn]
    · unfold roomI; rw [List.length_append, List.length_replicate, ← HN2.out]
  have HRB : Hid (∀ wx, Below w.heap.size w wx → Calls Tryz.prog 18 #[.slice ba m bcap] wx fun e w' => ∃ v, e = .returned v ∧ w'.ownsRow wx.heap.size 5 1 v (m + 80) (cellsB (roomU b 80)) ∧ Below wx.heap.size wx w') := fun wx hx => roomB_any ba b bcap m hm wx (HB.out.below hx) (by omega)
  have HRU : Hid ((roomU b 80).length = m + 80) := by show _ = _; unfold roomU; rw [List.length_append, List.length_replicate, ← hm]
  have HTK : Hid (∀ wx {g c : Nat}, Rw wx g c (roomU b 80) → Bts (some ⟨g, 0, none⟩) b wx) := fun wx g c h => by
    have := h.bts m
    rw [show (roomU b 80).take m = b from by unfold roomU; rw [hm]; exact List.take_left] at this
    exact this
  have HUB : Hid (∀ wx b2 c2, Below w.heap.size w wx → Bts b2 b wx → Calls Tryz.prog 22 #[.slice b2 m c2] wx fun e w' => e = .returned (.int .i64 (badU b)) ∧ Below wx.heap.size wx w') := fun wx b2 c2 hx hb2 => by
    have := ubb_any b2 b c2 wx ((HT.out.below hx (Nat.le_refl _)).fst) hb2 (by omega)
    rw [← hm] at this
    exact this
  have HDB : Hid (∀ wx, Below w.heap.size w wx → Calls Tryz.prog 23 #[.slice ba m bcap] wx fun e w' => e = .returned (.int .i64 (badU b)) ∧ Below wx.heap.size wx w') := fun wx hx => by
    have := dbad_any ba b bcap wx (HB.out.below hx) hbc (by omega)
    rw [← hm] at this
    exact this
  have HEND : Hid (¬ m = 0 → badU ((ffK b m).take m) = 0) := fun h => by
    rw [hm]
    exact ffK_bad b (by omega)
  rw [← hn] at hl
  rw [← hm] at hbl hbc
  rw [← hn, ← ho, ← hm]
  generalize encT l = ET at *
  generalize encT l2 = ET2 at *
  generalize punT l = PT at *
  generalize punT l2 = PT2 at *
  generalize punE l = PE at *
  generalize punE l2 = PE2 at *
  clear hr hor hbr ht hn ho hm hl2 h32 h32o h322 hxy hxy2
  go_enter Tryz.func5, Tryz.ntmps5
  go_wp2_with fail
  refine (HRL.out w (Below.refl _ _)).mono ?_
  rintro e w1 ⟨v1, rfl, o1, b1⟩
  obtain ⟨gA, cA, tail, rfl, hBA, hcA, hLA, htl⟩ := own_head HN.out o1
  have HA1 : Hid (Lies w1 gA (cellsN .i32 l ++ tail).toArray 21) := hLA
  have HTL : Hid (tail.take 80 = cellsN .i32 (List.replicate 80 165)) := htl
  have HBA : Hid (w.heap.size ≤ gA) := hBA
  have HB1 : Hid (Below w.heap.size w w1) := b1
  clear o1 b1 hLA htl hBA
  have hnA : (n : Int) ≤ (cA : Int) := by omega
  have hnA2 : (n : Int) ≤ (n : Int) + 80 := by omega
  go_wp2_with fail
  refine (HDE.out w1 HB1.out).mono ?_
  rintro e w2 ⟨rfl, b2⟩
  have B2 : Below w1.heap.size w1 (w2.alloc (.cells #[.int .i64 x, .int .i64 y] 30)) := b2.alloc b2.size _
  have HB2 : Hid (Below w.heap.size w (w2.alloc (.cells #[.int .i64 x, .int .i64 y] 30))) := HB1.out.trans (B2.mono HB1.out.size)
  have HA2 : Hid (Lies (w2.alloc (.cells #[.int .i64 x, .int .i64 y] 30)) gA (cellsN .i32 l ++ tail).toArray 21) := HA1.out.below B2 HA1.out.lt
  have HS2 : Hid (Lies (w2.alloc (.cells #[.int .i64 x, .int .i64 y] 30)) w2.heap.size #[.int .i64 x, .int .i64 y] 30) := Lies.new w2 _ _
  have HGS : Hid (w.heap.size ≤ w2.heap.size) := by
    show _ ≤ _
    have h1 := HB1.out.size
    have h2 := b2.size
    omega
  clear b2 B2 HB1 HA1 HDE
  go_wp2_with fail
  generalize w2.alloc (.cells #[.int .i64 x, .int .i64 y] 30) = w3 at *
  generalize w2.heap.size = gS at *
  refine (HDP.out _ HB2.out).mono ?_
  rintro e w4 ⟨rfl, b4⟩
  have HB4 : Hid (Below w.heap.size w w4) := HB2.out.trans (b4.mono HB2.out.size)
  have HA4 : Hid (Lies w4 gA (cellsN .i32 l ++ tail).toArray 21) := HA2.out.below b4 HA2.out.lt
  have HS4 : Hid (Lies w4 gS #[.int .i64 x, .int .i64 y] 30) := HS2.out.below b4 HS2.out.lt
  clear b4 HB2 HA2 HS2 HDP
  go_wp2_with fail
  refine (HEN.out w4 (some ⟨gA, 0, none⟩) cA (nts_lies HA4.out)).mono ?_
  rintro e w5 ⟨rfl, b5⟩
  have B5 : Below w4.heap.size w4 (w5.alloc (.cells #[.int .i64 x, .int .i64 y] 30)) := b5.alloc b5.size _
  have HB5 : Hid (Below w.heap.size w (w5.alloc (.cells #[.int .i64 x, .int .i64 y] 30))) := HB4.out.trans (B5.mono HB4.out.size)
  have HA5 : Hid (Lies (w5.alloc (.cells #[.int .i64 x, .int .i64 y] 30)) gA (cellsN .i32 l ++ tail).toArray 21) := HA4.out.below B5 HA4.out.lt
  have HS5 : Hid (Lies (w5.alloc (.cells #[.int .i64 x, .int .i64 y] 30)) gS #[.int .i64 x, .int .i64 y] 30) := HS4.out.below B5 HS4.out.lt
  have HU5 : Hid (Lies (w5.alloc (.cells #[.int .i64 x, .int .i64 y] 30)) w5.heap.size #[.int .i64 x, .int .i64 y] 30) := Lies.new w5 _ _
  have HSU : Hid (gS ≠ w5.heap.size) := by
    show gS ≠ _
    have h1 := HS4.out.lt
    have h2 := b5.size
    omega
  have HGU : Hid (w.heap.size ≤ w5.heap.size) := by
    show _ ≤ _
    have h1 := HB4.out.size
    have h2 := b5.size
    omega
  clear b5 B5 HB4 HA4 HS4 HEN
  go_wp2_with fail
  generalize w5.alloc (.cells #[.int .i64 x, .int .i64 y] 30) = w6 at *
  generalize w5.heap.size = gU at *
  refine (HPU.out w6 (some ⟨gA, 0, none⟩) cA (nts_lies HA5.out)).mono ?_
  rintro e w7 ⟨rfl, b7⟩
  have HB7 : Hid (Below w.heap.size w w7) := HB5.out.trans (b7.mono HB5.out.size)
  have HA7 : Hid (Lies w7 gA (cellsN .i32 l ++ tail).toArray 21) := HA5.out.below b7 HA5.out.lt
  have HS7 : Hid (Lies w7 gS #[.int .i64 x, .int .i64 y] 30) := HS5.out.below b7 HS5.out.lt
  have HU7 : Hid (Lies w7 gU #[.int .i64 x, .int .i64 y] 30) := HU5.out.below b7 HU5.out.lt
  have s0 := HS7.out.cell 0
  have s1 := HS7.out.cell 1
  have u0 := HU7.out.cell 0
  have u1 := HU7.out.cell 1
  simp only [List.getElem?_toArray, List.getElem?_cons_zero, List.getElem?_cons_succ] at s0 s1 u0 u1
  clear b7 HB5 HA5 HS5 HU5 HPU
  go_wp2_with fail
  refine (HRL.out w7 HB7.out).mono ?_
  rintro e w8 ⟨v8, rfl, o8, b8⟩
  obtain ⟨a8, c8, rfl, n8, -⟩ := own_nts o8
  have HB8 : Hid (Below w.heap.size w w8) := HB7.out.trans (b8.mono HB7.out.size)
  have HA8 : Hid (Lies w8 gA (cellsN .i32 l ++ tail).toArray 21) := HA7.out.below b8 HA7.out.lt
  have HS8 : Hid (Lies w8 gS #[.int .i64 x, .int .i64 y] 30) := HS7.out.below b8 HS7.out.lt
  have HU8 : Hid (Lies w8 gU #[.int .i64 x, .int .i64 y] 30) := HU7.out.below b8 HU7.out.lt
  have hE8 := HEQ.out w8 (some ⟨gA, 0, none⟩) a8 cA c8 (roomI l 80) HRN.out.1 (head_room HA8.out HTL.out) n8
  clear b8 o8 n8 HB7 HA7 HS7 HU7 HRL s0 s1 u0 u1
  go_wp2_with fail
  refine hE8.mono ?_
  rintro e w9 ⟨rfl, q9, rfl⟩
  have HB9 : Hid (Below w.heap.size w (w8.drewN q9)) := ⟨HB8.out.os, HB8.out.tape, HB8.out.output, HB8.out.size, HB8.out.block⟩
  have HA9 : Hid (Lies (w8.drewN q9) gA (cellsN .i32 l ++ tail).toArray 21) := HA8.out
  have HS9 : Hid (Lies (w8.drewN q9) gS #[.int .i64 x, .int .i64 y] 30) := HS8.out
  have HU9 : Hid (Lies (w8.drewN q9) gU #[.int .i64 x, .int .i64 y] 30) := HU8.out
  generalize w8.drewN q9 = w9 at *
  clear hE8 HB8 HA8 HS8 HU8
  go_wp2_with fail
  refine (HCL.out w9 HB9.out).mono ?_
  rintro e w10 ⟨v10, rfl, o10, b10⟩
  obtain ⟨aN, cN, rfl⟩ := ownN_shape o10
  have HO10 : Hid (w10.ownsRow w9.heap.size 21 1 (.slice aN n cN) n (cellsN .i32 l)) := o10
  have HB10 : Hid (Below w.heap.size w w10) := HB9.out.trans (b10.mono HB9.out.size)
  have HA10 : Hid (Lies w10 gA (cellsN .i32 l ++ tail).toArray 21) := HA9.out.below b10 HA9.out.lt
  have HS10 : Hid (Lies w10 gS #[.int .i64 x, .int .i64 y] 30) := HS9.out.below b10 HS9.out.lt
  have HU10 : Hid (Lies w10 gU #[.int .i64 x, .int .i64 y] 30) := HU9.out.below b10 HU9.out.lt
  have hAlt := HA9.out.lt
  have hSlt := HS9.out.lt
  have hUlt := HU9.out.lt
  have hB9 := HB9.out.size
  clear o10 b10 HB9 HA9 HS9 HU9 HCL
  go_wp2_with (refine wpList_copy_now rfl _ _ rfl w9.heap.size n cN aN rfl l HN.out HO10.out oa other o ocap rfl HON.out (HO.out.below HB10.out) ?_; intro w11 hn11 hg11; apply Hid.out)
  unfold Hid
  have HNB : Hid (∀ ad, aN = some ad → w9.heap.size ≤ ad.block) := fun ad e => by
    obtain ⟨_, _, ev, _, _, _, _, h⟩ := own_nts HO10.out
    injection ev with ev1
    exact (h ad (ev1 ▸ e)).1
  have HB11 : Hid (Below w.heap.size w w11) := HB10.out.grown hg11 HB10.out.size (fun q hq => by have := (HO10.out.lt q hq).1; omega)
  have HA11 : Hid (Lies w11 gA (cellsN .i32 l ++ tail).toArray 21) := (hg11.block gA HA10.out.lt (fun e => by have := (HO10.out.lt gA e.symm).1; omega)).trans HA10.out
  have HS11 : Hid (Lies w11 gS #[.int .i64 x, .int .i64 y] 30) := (hg11.block gS HS10.out.lt (fun e => by have := (HO10.out.lt gS e.symm).1; omega)).trans HS10.out
  have HU11 : Hid (Lies w11 gU #[.int .i64 x, .int .i64 y] 30) := (hg11.block gU HU10.out.lt (fun e => by have := (HO10.out.lt gU e.symm).1; omega)).trans HU10.out
  have HW11 : Hid (Nts .i32 aN l2 w11) := by rw [HL2.out]; exact hn11
  clear hn11 hg11 HB10 HA10 HS10 HU10 HO10
  go_wp2_with (refine wpList_copy_over rfl _ _ rfl gA n cA rfl l tail HN.out HA11.out oa other o ocap rfl HON.out (HO.out.below HB11.out) ?_; intro w12 hl12 hb12; apply Hid.out)
  unfold Hid
  have HA12 : Hid (Lies w12 gA (cellsN .i32 l2 ++ tail).toArray 21) := by rw [HL2.out]; exact hl12
  have HB12 : Hid (Below w.heap.size w w12) := HB11.out.trans (hb12.below HBA.out HB11.out.size)
  have hSA : gS ≠ gA := fun e => by
    have h1 := HS11.out
    rw [e] at h1
    exact absurd (lies_kind h1 HA11.out) (by decide)
  have hUA : gU ≠ gA := fun e => by
    have h1 := HU11.out
    rw [e] at h1
    exact absurd (lies_kind h1 HA11.out) (by decide)
  have HSA : Hid (gS ≠ gA ∧ gU ≠ gA) := ⟨hSA, hUA⟩
  have HS12 : Hid (Lies w12 gS #[.int .i64 x, .int .i64 y] 30) := hb12.lies HS11.out hSA
  have HU12 : Hid (Lies w12 gU #[.int .i64 x, .int .i64 y] 30) := hb12.lies HU11.out hUA
  have HW12 : Hid (Nts .i32 aN l2 w12) := HW11.out.but hb12 (fun ad e => by have := HNB.out ad e; omega)
  have HNS : Hid (∀ ad, aN = some ad → ad.block ≠ gS ∧ ad.block ≠ gU) := fun ad e => by have := HNB.out ad e; omega
  clear hl12 hb12 HB11 HA11 HS11 HU11 HW11 hSA hUA
  go_wp2_with fail
  refine (HDE2.out w12 aN cN HW12.out).mono ?_
  rintro e w13 ⟨rfl, b13⟩
  have HB13 : Hid (Below w.heap.size w w13) := HB12.out.trans (b13.mono HB12.out.size)
  have HA13 : Hid (Lies w13 gA (cellsN .i32 l2 ++ tail).toArray 21) := HA12.out.below b13 HA12.out.lt
  have HS13 : Hid (Lies w13 gS #[.int .i64 x, .int .i64 y] 30) := HS12.out.below b13 HS12.out.lt
  have HU13 : Hid (Lies w13 gU #[.int .i64 x, .int .i64 y] 30) := HU12.out.below b13 HU12.out.lt
  have HW13 : Hid (Nts .i32 aN l2 w13) := HW12.out.below b13
  have s0 := HS13.out.cell 0
  have s1 := HS13.out.cell 1
  have f0 := HS13.out.frozen 0
  have f1 := HS13.out.frozen 1
  simp only [List.getElem?_toArray, List.getElem?_cons_zero, List.getElem?_cons_succ] at s0 s1
  have hSl := HS13.out.lt
  have bS : But gS w13 ((w13.setCell ⟨gS, 0, none⟩ (.int .i64 x2)).setCell ⟨gS, 1, none⟩ (.int .i64 y2)) := ((But.refl _ _).set 0 _).set 1 _
  have HB14 : Hid (Below w.heap.size w ((w13.setCell ⟨gS, 0, none⟩ (.int .i64 x2)).setCell ⟨gS, 1, none⟩ (.int .i64 y2))) := HB13.out.trans (bS.below HGS.out HB13.out.size)
  have HS14 : Hid (Lies ((w13.setCell ⟨gS, 0, none⟩ (.int .i64 x2)).setCell ⟨gS, 1, none⟩ (.int .i64 y2)) gS #[.int .i64 x2, .int .i64 y2] 30) := (HS13.out.set 0 _).set 1 _
  have HA14 : Hid (Lies ((w13.setCell ⟨gS, 0, none⟩ (.int .i64 x2)).setCell ⟨gS, 1, none⟩ (.int .i64 y2)) gA (cellsN .i32 l2 ++ tail).toArray 21) := bS.lies HA13.out (Ne.symm HSA.out.1)
  have HU14 : Hid (Lies ((w13.setCell ⟨gS, 0, none⟩ (.int .i64 x2)).setCell ⟨gS, 1, none⟩ (.int .i64 y2)) gU #[.int .i64 x, .int .i64 y] 30) := bS.lies HU13.out (Ne.symm HSU.out)
  have HW14 : Hid (Nts .i32 aN l2 ((w13.setCell ⟨gS, 0, none⟩ (.int .i64 x2)).setCell ⟨gS, 1, none⟩ (.int .i64 y2))) := HW13.out.but bS (fun ad e => (HNS.out ad e).1)
  clear b13 bS HB12 HA12 HS12 HU12 HW12 HB13 HA13 HS13 HU13 HW13 HDE2
  go_wp2_with fail
  generalize (w13.setCell ⟨gS, 0, none⟩ (.int .i64 x2)).setCell ⟨gS, 1, none⟩ (.int .i64 y2) = w14 at *
  clear s0 s1 f0 f1 hSl
  refine (HDP2.out w14 aN cN HW14.out).mono ?_
  rintro e w15 ⟨rfl, b15⟩
  have HB15 : Hid (Below w.heap.size w w15) := HB14.out.trans (b15.mono HB14.out.size)
  have HA15 : Hid (Lies w15 gA (cellsN .i32 l2 ++ tail).toArray 21) := HA14.out.below b15 HA14.out.lt
  have HS15 : Hid (Lies w15 gS #[.int .i64 x2, .int .i64 y2] 30) := HS14.out.below b15 HS14.out.lt
  have HU15 : Hid (Lies w15 gU #[.int .i64 x, .int .i64 y] 30) := HU14.out.below b15 HU14.out.lt
  have HW15 : Hid (Nts .i32 aN l2 w15) := HW14.out.below b15
  clear b15 HB14 HA14 HS14 HU14 HW14 HDP2
  go_wp2_with fail
  refine (HEN2.out w15 (some ⟨gA, 0, none⟩) cA (nts_lies HA15.out)).mono ?_
  rintro e w16 ⟨rfl, b16⟩
  have HB16 : Hid (Below w.heap.size w w16) := HB15.out.trans (b16.mono HB15.out.size)
  have HA16 : Hid (Lies w16 gA (cellsN .i32 l2 ++ tail).toArray 21) := HA15.out.below b16 HA15.out.lt
  have HS16 : Hid (Lies w16 gS #[.int .i64 x2, .int .i64 y2] 30) := HS15.out.below b16 HS15.out.lt
  have HU16 : Hid (Lies w16 gU #[.int .i64 x, .int .i64 y] 30) := HU15.out.below b16 HU15.out.lt
  have HW16 : Hid (Nts .i32 aN l2 w16) := HW15.out.below b16
  have s0 := HU16.out.cell 0
  have s1 := HU16.out.cell 1
  have f0 := HU16.out.frozen 0
  have f1 := HU16.out.frozen 1
  simp only [List.getElem?_toArray, List.getElem?_cons_zero, List.getElem?_cons_succ] at s0 s1
  have hSl := HU16.out.lt
  have bS : But gU w16 ((w16.setCell ⟨gU, 0, none⟩ (.int .i64 x2)).setCell ⟨gU, 1, none⟩ (.int .i64 y2)) := ((But.refl _ _).set 0 _).set 1 _
  have HB17 : Hid (Below w.heap.size w ((w16.setCell ⟨gU, 0, none⟩ (.int .i64 x2)).setCell ⟨gU, 1, none⟩ (.int .i64 y2))) := HB16.out.trans (bS.below HGU.out HB16.out.size)
  have HU17 : Hid (Lies ((w16.setCell ⟨gU, 0, none⟩ (.int .i64 x2)).setCell ⟨gU, 1, none⟩ (.int .i64 y2)) gU #[.int .i64 x2, .int .i64 y2] 30) := (HU16.out.set 0 _).set 1 _
  have HA17 : Hid (Lies ((w16.setCell ⟨gU, 0, none⟩ (.int .i64 x2)).setCell ⟨gU, 1, none⟩ (.int .i64 y2)) gA (cellsN .i32 l2 ++ tail).toArray 21) := bS.lies HA16.out (Ne.symm HSA.out.2)
  have HS17 : Hid (Lies ((w16.setCell ⟨gU, 0, none⟩ (.int .i64 x2)).setCell ⟨gU, 1, none⟩ (.int .i64 y2)) gS #[.int .i64 x2, .int .i64 y2] 30) := bS.lies HS16.out HSU.out
  have HW17 : Hid (Nts .i32 aN l2 ((w16.setCell ⟨gU, 0, none⟩ (.int .i64 x2)).setCell ⟨gU, 1, none⟩ (.int .i64 y2))) := HW16.out.but bS (fun ad e => (HNS.out ad e).2)
  clear b16 bS HB15 HA15 HS15 HU15 HW15 HB16 HA16 HS16 HU16 HW16 HEN2
  go_wp2_with fail
  generalize (w16.setCell ⟨gU, 0, none⟩ (.int .i64 x2)).setCell ⟨gU, 1, none⟩ (.int .i64 y2) = w17 at *
  clear s0 s1 f0 f1 hSl
  refine (HPU2.out w17 (some ⟨gA, 0, none⟩) cA (nts_lies HA17.out)).mono ?_
  rintro e w18 ⟨rfl, b18⟩
  have HB18 : Hid (Below w.heap.size w w18) := HB17.out.trans (b18.mono HB17.out.size)
  have HA18 : Hid (Lies w18 gA (cellsN .i32 l2 ++ tail).toArray 21) := HA17.out.below b18 HA17.out.lt
  have HW18 : Hid (Nts .i32 aN l2 w18) := HW17.out.below b18
  have hs18 := HS17.out.below b18 HS17.out.lt
  have hu18 := HU17.out.below b18 HU17.out.lt
  have s0 := hs18.cell 0
  have s1 := hs18.cell 1
  have u0 := hu18.cell 0
  have u1 := hu18.cell 1
  simp only [List.getElem?_toArray, List.getElem?_cons_zero, List.getElem?_cons_succ] at s0 s1 u0 u1
  clear b18 HB17 HA17 HS17 HU17 HW17 HPU2 hs18 hu18
  go_wp2_with fail
  refine (HRL2.out w18 aN cN HW18.out).mono ?_
  rintro e w19 ⟨v19, rfl, o19, b19⟩
  obtain ⟨a19, c19, rfl, n19, -⟩ := own_nts o19
  have HB19 : Hid (Below w.heap.size w w19) := HB18.out.trans (b19.mono HB18.out.size)
  have HA19 : Hid (Lies w19 gA (cellsN .i32 l2 ++ tail).toArray 21) := HA18.out.below b19 HA18.out.lt
  have hE19 := HEQ.out w19 (some ⟨gA, 0, none⟩) a19 cA c19 (roomI l2 80) HRN.out.2 (head_room HA19.out HTL.out) n19
  clear b19 o19 n19 HB18 HA18 HW18 HRL2 s0 s1 u0 u1 HA19
  go_wp2_with fail
  refine hE19.mono ?_
  rintro e w20 ⟨rfl, q20, rfl⟩
  have HB20 : Hid (Below w.heap.size w (w19.drewN q20)) := ⟨HB19.out.os, HB19.out.tape, HB19.out.output, HB19.out.size, HB19.out.block⟩
  generalize w19.drewN q20 = w20 at *
  clear hE19 HB19 HEQ HRN HNS HNB HSA HSU HTL HBA HO HON HN HN2 HL2 HL
  go_wp2_with fail
  refine (HRB.out w20 HB20.out).mono ?_
  rintro e w21 ⟨v21, rfl, o21, b21⟩
  obtain ⟨gB, cB, rfl, hBB, hRw⟩ := own_rw o21 (by omega)
  have HR21 : Hid (Rw w21 gB cB (roomU b 80)) := hRw
  have HB21 : Hid (Below w.heap.size w w21) := HB20.out.trans (b21.mono HB20.out.size)
  have HGB : Hid (w.heap.size ≤ gB) := Nat.le_trans HB20.out.size hBB
  have hcB := hRw.cap
  rw [show (roomU b 80).length = m + 80 from by unfold roomU; rw [List.length_append, List.length_replicate, ← HM.out]] at hcB
  clear o21 b21 hBB hRw HB20
  have hmB : (m : Int) ≤ (cB : Int) := by omega
  go_wp2_with fail
  refine (new_any w21).mono ?_
  rintro e w22 ⟨rfl, b22, k22, s22⟩
  obtain ⟨gC, hgC⟩ : ∃ gC, gC = w21.heap.size := ⟨_, rfl⟩
  rw [← hgC] at k22 ⊢
  have HK22 : Hid (CkAt w22 gC (some q0)) := k22
  have HBC : Hid (gB < gC) := by show gB < _; rw [hgC]; exact HR21.out.lt
  have HGC : Hid (w.heap.size ≤ gC) := by show _ ≤ gC; rw [hgC]; exact HB21.out.size
  have HR22 : Hid (Rw w22 gB cB (roomU b 80)) := HR21.out.below b22
  have HB22 : Hid (Below w.heap.size w w22) := HB21.out.trans (b22.mono HB21.out.size)
  clear b22 k22 s22 hgC HR21 HB21
  have HFE := feed_ne gC (some q0) (some ⟨gB, 0, none⟩) b cB w22 HK22.out ((HT.out.below HB22.out (Nat.le_refl _)).fst) (HTK.out _ HR22.out) (fun _ ad e e2 => by
    injection e with e
    have := HBC.out
    rw [← e] at e2
    simp only at e2
    omega) (by rw [← HM.out]; omega)
  rw [← HM.out] at HFE
  go_wp2_with fail
  refine HFE.mono ?_
  rintro e w23 ⟨rfl, b23, k23⟩
  have hrq : runM (some q0) b = runM (some q0) b := rfl
  have HK23 : Hid (CkAt w23 gC (runM (some q0) b)) := k23
  have HR23 : Hid (Rw w23 gB cB (roomU b 80)) := HR22.out.of (b23.block gB HR22.out.lt (by have := HBC.out; omega))
  have HB23 : Hid (Below w.heap.size w w23) := HB22.out.trans (b23.below HGC.out HB22.out.size)
  have HDG := dbegins_any ba b bcap m HM.out w23 (HB.out.below HB23.out) hbc (by omega)
  obtain ⟨OK, hOK⟩ : ∃ OK, OK = okM (runM (some q0) b) := ⟨_, rfl⟩
  rw [← hOK] at HDG ⊢
  have HOK : Hid (OK = okM (runM (some q0) b)) := hOK
  clear b23 k23 HFE HK22 HR22 HB22 hOK hrq
  go_wp2_with fail
  refine HDG.mono ?_
  rintro e w24 ⟨rfl, b24⟩
  have HK24 : Hid (CkAt w24 gC (runM (some q0) b)) := HK23.out.below b24 HK23.out.lt
  have HR24 : Hid (Rw w24 gB cB (roomU b 80)) := HR23.out.below b24
  have HB24 : Hid (Below w.heap.size w w24) := HB23.out.trans (b24.mono HB23.out.size)
  have HU24 := HUB.out w24 (some ⟨gB, 0, none⟩) cB HB24.out (HTK.out _ HR24.out)
  clear b24 HDG HK23 HR23 HB23
  go_wp2_with fail
  refine HU24.mono ?_
  rintro e w25 ⟨rfl, b25⟩
  have HK25 : Hid (CkAt w25 gC (runM (some q0) b)) := HK24.out.below b25 HK24.out.lt
  have HR25 : Hid (Rw w25 gB cB (roomU b 80)) := HR24.out.below b25
  have HB25 : Hid (Below w.heap.size w w25) := HB24.out.trans (b25.mono HB24.out.size)
  have HD25 := HDB.out w25 HB25.out
  clear b25 HU24 HK24 HR24 HB24
  go_wp2_with fail
  refine HD25.mono ?_
  rintro e w26 ⟨rfl, b26⟩
  have HK26 : Hid (CkAt w26 gC (runM (some q0) b)) := HK25.out.below b26 HK25.out.lt
  have HR26 : Hid (Rw w26 gB cB (roomU b 80)) := HR25.out.below b26
  have HB26 : Hid (Below w.heap.size w w26) := HB25.out.trans (b26.mono HB25.out.size)
  clear b26 HD25 HK25 HR25 HB25
  go_wp2_with fail
  refine (HRB.out w26 HB26.out).mono ?_
  rintro e w27 ⟨v27, rfl, o27, b27⟩
  obtain ⟨a27, c27, rfl, bt27, -, -, -, -⟩ := own_bts o27
  have HK27 : Hid (CkAt w27 gC (runM (some q0) b)) := HK26.out.below b27 HK26.out.lt
  have HR27 : Hid (Rw w27 gB cB (roomU b 80)) := HR26.out.below b27
  have HB27 : Hid (Below w.heap.size w w27) := HB26.out.trans (b27.mono HB26.out.size)
  have hEQ := eqb_any (some ⟨gB, 0, none⟩) a27 (roomU b 80) (roomU b 80) cB c27 w27 HR27.out.all bt27 (by rw [HRU.out]; omega)
  rw [decide_eq_true rfl, HRU.out] at hEQ
  clear o27 b27 bt27 HK26 HR26 HB26 HRB
  go_wp2_with fail
  refine hEQ.mono ?_
  rintro e w28 ⟨rfl, q28, rfl⟩
  have HK28 : Hid (CkAt (w27.drewN q28) gC (runM (some q0) b)) := HK27.out.below (B := w27.heap.size) ⟨rfl, rfl, rfl, Nat.le_refl _, fun _ _ => rfl⟩ HK27.out.lt
  have HR28 : Hid (Rw (w27.drewN q28) gB cB (ffK b 0)) := HR27.out.of rfl
  have HB28 : Hid (Below w.heap.size w (w27.drewN q28)) := ⟨HB27.out.os, HB27.out.tape, HB27.out.output, HB27.out.size, HB27.out.block⟩
  generalize w27.drewN q28 = w28 at *
  clear hEQ HK27 HR27 HB27
  go_wp2_with fail
  go_loopw [21, 158] (fun _ kv wr => ∃ k : Nat, kv = .int .i64 k ∧ k ≤ m ∧ Hid (CkAt wr gC (runM (some q0) b)) ∧ Hid (Rw wr gB cB (ffK b k)) ∧ Hid (Below w.heap.size w wr)) (fun _ kv _ => m - (intOf kv).toNat)
  case atStart => exact ⟨0, rfl, Nat.zero_le _, HK28, HR28, HB28⟩
  case round =>
    clear HK28 HR28 HB28
    obtain ⟨k, rfl, hk, HK, HR, HBk⟩ := hrel
    by_cases hkm : k < m
    · have hkl : k < (ffK b k).length := by rw [ffK_length, ← HM.out]; omega
      have hc := HR.out.cell k hkl
      have hf := HR.out.frozen k
      have hki : (k : Int) < (m : Int) := by omega
      have hki2 : (k : Int) < (m : Int) + 80 := by omega
      have hlt := HR.out.lt
      generalize (ffK b k)[k] = z at hc
      have bB : But gB wr (wr.setCell ⟨gB, k, none⟩ (.int .u8 255)) := (But.refl _ _).set k _
      have HR2 : Hid (Rw (wr.setCell ⟨gB, k, none⟩ (.int .u8 255)) gB cB (ffK b (k + 1))) := by
        have := HR.out.set k 255
        rw [ffK_set b k (by rw [← HM.out]; exact hkm)] at this
        exact this
      have HK2 : Hid (CkAt (wr.setCell ⟨gB, k, none⟩ (.int .u8 255)) gC (runM (some q0) b)) := HK.out.but bB (by have := HBC.out; omega)
      have HB2 : Hid (Below w.heap.size w (wr.setCell ⟨gB, k, none⟩ (.int .u8 255))) := HBk.out.trans (bB.below HGB.out HBk.out.size)
      clear bB HR HK HBk hkl
      go_wp2
      go_roundw
      case rel => exact ⟨k + 1, by go_num, by omega, HK2, HR2, HB2⟩
      case measure => simp [intOf]; omega
    · obtain rfl : k = m := by omega
      have hki : ¬ (k : Int) < (k : Int) := by omega
      have hE := HEND.out
      by_cases hk0 : k = 0
      case' pos =>
        have hk0i : ¬ (0 : Int) < (k : Int) := by omega
        have HKw : Hid (CkAt wr gC (runM (some q0) b)) := HK.out
        have HBw : Hid (Below w.heap.size w wr) := HBk.out
        clear HK HBk HR hE hk0
        go_wp2_with fail
      case' neg =>
        have hk0i : (0 : Int) < (k : Int) := by omega
        have hUb := ubb_any (some ⟨gB, 0, none⟩) ((ffK b k).take k) cB wr ((HT.out.below HBk.out (Nat.le_refl _)).fst) (HR.out.bts k) (by rw [List.length_take]; omega)
        rw [show ((ffK b k).take k).length = k from by rw [List.length_take, ffK_length, ← HM.out]; omega, hE hk0] at hUb
        have HKx : Hid (CkAt wr gC (runM (some q0) b)) := HK.out
        clear HK hE hk0
        go_wp2_with fail
        refine hUb.mono ?_
        rintro e wz ⟨rfl, bz⟩
        have HKw : Hid (CkAt wz gC (runM (some q0) b)) := HKx.out.below bz HKx.out.lt
        have HBw : Hid (Below w.heap.size w wz) := HBk.out.trans (bz.mono HBk.out.size)
        clear bz HKx HBk HR hUb
        generalize wz = wr at *
        go_wp2_with fail
      all_goals
        refine (whole_any gC _ wr HKw.out).mono ?_
        rintro e w30 ⟨rfl, rfl⟩
        have HD30 := HDB.out w30 HBw.out
        obtain ⟨WH, hWH⟩ : ∃ WH, WH = wholeM (runM (some q0) b) := ⟨_, rfl⟩
        have hbe : ((badU b : Int) == (k : Int)) = WH := by
          rw [hWH, whole_bad, ← HM.out]
          by_cases h : badU b = k
          · rw [decide_eq_true h]; simp; omega
          · rw [decide_eq_false h]; simp; omega
        rw [← hWH]
        generalize badU b = bad at *
        clear hWH
        go_wp2_with fail
        refine HD30.mono ?_
        rintro e w31 ⟨rfl, b31⟩
        have HK31 : Hid (CkAt w31 gC (runM (some q0) b)) := HKw.out.below b31 HKw.out.lt
        have HB31 : Hid (Below w.heap.size w w31) := HBw.out.trans (b31.mono HBw.out.size)
        have hF31 := feed_ne gC (runM (some q0) b) none [] 0 w31 HK31.out ((HT.out.below HB31.out (Nat.le_refl _)).fst) (.inl rfl) (fun h => absurd rfl h) (by simp)
        rw [runM_nil, ← HOK.out] at hF31
        clear b31 HD30 HKw HBw
        go_wp2_with fail
        refine hF31.mono ?_
        rintro e w32 ⟨rfl, b32, -⟩
        have HB32 : Hid (Below w.heap.size w w32) := HB31.out.trans (b32.below HGC.out HB31.out.size)
        clear b32 hF31 HK31 HB31
        go_wp2
        go_ret
        exact ⟨rfl, HB32.out⟩
end Go.Proofs.YtedgimkffkflbabGreatDoor
