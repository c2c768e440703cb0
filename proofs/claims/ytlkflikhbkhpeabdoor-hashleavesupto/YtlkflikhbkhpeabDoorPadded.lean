/-
  The document's rows, one behind the other.
-/
import Derived.Test.YtlkflikhbkhpeabDoorHst
import Derived.Test.YtlkflikhbkhpeabDoorApps
namespace Go.Proofs.YtlkflikhbkhpeabDoor
open Go.RowKit

def sliceLn : Value → Nat
  | .slice _ n _ => n
  | _ => 0
/-- The bytes with a byte 80 and k noughts behind them. -/
def padK (l : List UInt8) (k : Nat) : List UInt8 := l ++ 128 :: List.replicate k 0
theorem padK_length (l : List UInt8) (k : Nat) : (padK l k).length = l.length + 1 + k := by simp [padK]; omega
theorem padK_step (l : List UInt8) (k : Nat) : padK l k ++ [0] = padK l (k + 1) := by
  unfold padK
  rw [List.replicate_succ', List.append_assoc]
  rfl
/-- The last eight bytes, the first k of them. -/
def padE (l : List UInt8) (k : Nat) : List UInt8 := padK l (nou l.length) ++ (lenB l.length).take k
theorem padE_length (l : List UInt8) (k : Nat) (h : k ≤ 8) : (padE l k).length = l.length + 1 + nou l.length + k := by
  simp [padE, padK_length, lenB_length]
  omega
theorem padE_all (l : List UInt8) : padE l 8 = pad l := by
  unfold padE padK pad tailB
  rw [List.take_of_length_le (by rw [lenB_length]; omega)]
  simp
theorem padE_step (l : List UInt8) (k : Nat) (h : k < 8) : padE l k ++ [UInt8.ofNat (l.length * 8 / 256 ^ k)] = padE l (k + 1) := by
  have h' : k < (lenB l.length).length := by rw [lenB_length]; exact h
  unfold padE
  rw [List.take_succ_eq_append_getElem h', lenB_at _ k h', ← List.append_assoc]
theorem nou_more (n k : Nat) (h : k ≤ nou n) : ((n + 1 + k) % 64 = 56) ↔ k = nou n := by
  unfold nou at *
  omega
theorem nou_lt (n : Nat) : nou n < 64 := by unfold nou; omega
theorem byte_of (x : Nat) : ((x : Int) % 256) = ((UInt8.ofNat x).toNat : Int) := by
  have : (UInt8.ofNat x).toNat = x % 256 := by simp
  rw [this]
  omega

set_option maxHeartbeats 1000000 in
set_option maxRecDepth 100000 in
theorem padded_any (a : Option Addr) (l : List UInt8) (cap : Nat) (w : World) (h : Bts a l w) (hnc : a = none → cap = 0) (hl : l.length ≤ 140737488355000) :
    Calls Tryd.prog 24 #[.slice a l.length cap] w fun e w' => ∃ v, e = .returned v ∧ w'.ownsRow w.heap.size 5 1 v (pad l).length (cellsB (pad l)) ∧ Below w.heap.size w w' := by
  have HH : Hid (Bts a l w) := h
  have HNC : Hid (a = none → cap = 0) := hnc
  clear h hnc
  obtain ⟨n, hn⟩ : ∃ n, n = l.length := ⟨_, rfl⟩
  have HN : Hid (n = l.length) := hn
  rw [← hn] at hl
  rw [← hn]
  clear hn
  go_enter Tryd.func24, Tryd.ntmps24
  go_wp2_with (first | (at_builtin; refine wpList_append_bts rfl _ _ rfl w.heap.size _ 0 [] rfl (World.ownsRow_made w #[] 0 (Nat.le_refl _) (by unfold maxLen; omega) rfl) a l cap (by rw [← HN.out]; rfl) (HH.out.below ((Below.refl _ _).alloc (Nat.le_refl _) _)) HNC.out (by rw [← HN.out]; omega) (by simp) ?_; intro v1 w1 hown1 hbel1; have HO1 : Hid (w1.ownsRow w.heap.size 5 1 v1 (0 + l.length) (cellsB ([] ++ l))) := hown1; have HB1 : Hid (Below w.heap.size w w1) := hbel1 _ _ ((Below.refl _ _).alloc (Nat.le_refl _) _) (Nat.le_refl _); clear hown1 hbel1) | (at_builtin; refine wpList_append_byte rfl _ _ rfl w.heap.size v1 _ _ rfl (HO1.out.alloc _) w1 128 128 rfl rfl 1 rfl (by rw [← HN.out]; omega) HB1.out.size ?_; intro v2 w2 hown2 hbel2; have HO2 : Hid (w2.ownsRow w.heap.size 5 1 v2 (0 + l.length + 1) (cellsB ([] ++ l ++ [128]))) := hown2; have HB2 : Hid (Below w.heap.size w w2) := hbel2 _ _ HB1.out (Nat.le_refl _); clear hown2 hbel2 HO1 HB1))
  have HO3 : Hid (w2.ownsRow w.heap.size 5 1 v2 (n + 1 + 0) (cellsB (padK l 0))) := by
    have h := HO2.out
    rw [List.nil_append, Nat.zero_add, ← HN.out] at h
    exact h
  clear HO2
  go_loopw [3] (fun u wr => ∃ k : Nat, Hid (k ≤ nou n) ∧ Hid (wr.ownsRow w.heap.size 5 1 u (n + 1 + k) (cellsB (padK l k))) ∧ Hid (Below w.heap.size w wr)) (fun u _ => n + 1 + nou n - sliceLn u)
  case atStart => exact ⟨0, Nat.zero_le _, HO3, HB2⟩
  case round =>
    obtain ⟨k, HK, HO, HB⟩ := hrel
    obtain ⟨A, cp, rfl, hrest⟩ := own_bts HO.out
    clear hrest
    obtain ⟨L, hL⟩ : ∃ L, L = n + 1 + k := ⟨_, rfl⟩
    have HL : Hid (L = n + 1 + k) := hL
    have hLb : L ≤ 140737488355200 := by have := HK.out; have := nou_lt n; omega
    rw [← hL]
    clear hL
    by_cases hk : k = nou n
    · have q56 : (L : Int) % 64 = 56 := by
        have := (nou_more n k HK.out).2 hk
        rw [← HL.out] at this
        omega
      go_wp2_with fail
      have HO8 : Hid (wr.ownsRow w.heap.size 5 1 (.slice A L cp) (n + 1 + nou n + 0) (cellsB (padE l 0))) := by
        have h := HO.out
        rw [hk] at h
        show World.ownsRow _ _ _ _ _ _ _
        unfold padE
        rw [List.take_zero, List.append_nil, ← HN.out, HL.out, hk]
        exact h
      clear q56
      obtain ⟨x, hx⟩ : ∃ x, x = n * 8 := ⟨_, rfl⟩
      have hxI : (n : Int) * 8 = (x : Int) := by omega
      have HX : Hid (x = n * 8) := hx
      have hxb : x ≤ 1125899906842624 := by omega
      rw [hxI]
      clear hx hxI
      go_loopw [3, 4, 5] (fun u y i wr => ∃ (j z : Nat), j ≤ 8 ∧ i = .int .i64 j ∧ y = .int .u64 z ∧ z ≤ 1125899906842624 ∧ Hid (z = x / 256 ^ j) ∧ Hid (wr.ownsRow w.heap.size 5 1 u (n + 1 + nou n + j) (cellsB (padE l j))) ∧ Hid (Below w.heap.size w wr)) (fun _ _ i _ => 8 - (intOf i).toNat)
      case atStart => exact ⟨0, x, by omega, rfl, rfl, hxb, by show _ = _; simp, HO8, HB⟩
      case round =>
        obtain ⟨j, z, hj, rfl, rfl, hzb, HZ, HOj, HBj⟩ := hrel
        by_cases hj8 : j < 8
        · have HNO : Hid (nou n < 64) := nou_lt n
          obtain ⟨b, hb⟩ : ∃ b, b = UInt8.ofNat z := ⟨_, rfl⟩
          have hbI : (z : Int) % 256 = (b.toNat : Int) := by rw [hb]; exact byte_of z
          have HBB : Hid (b = UInt8.ofNat z) := hb
          clear hb
          go_wp2_with (at_builtin; refine wpList_append_byte rfl _ _ rfl w.heap.size _ (n + 1 + nou n + j) (padE l j) rfl (HOj.out.alloc _) wr b _ rfl rfl 1 rfl (by have := HNO.out; omega) HBj.out.size ?_; intro v4 w4 hown4 hbel4; have HO4 : Hid (w4.ownsRow w.heap.size 5 1 v4 (n + 1 + nou n + (j + 1)) (cellsB (padE l (j + 1)))) := by {
            have h := hown4
            rw [HBB.out, HZ.out, HX.out, HN.out, padE_step l j hj8, ← HN.out] at h
            exact h }; have HB4 : Hid (Below w.heap.size w w4) := hbel4 _ _ HBj.out (Nat.le_refl _); clear hown4 hbel4)
          go_roundw
          case rel =>
            refine ⟨j + 1, z / 256, by omega, by go_num, by go_num, by omega, ?_, HO4, HB4⟩
            show _ = _
            rw [HZ.out, Nat.div_div_eq_div_mul, Nat.pow_succ]
          case measure => simp [intOf]; omega
        · obtain rfl : j = 8 := by omega
          go_wp2
          go_ret
          have h := HOj.out
          rw [padE_all] at h
          refine ⟨_, rfl, ?_, HBj.out⟩
          rw [pad_length, ← HN.out, show n + nou n + 9 = n + 1 + nou n + 8 by omega]
          exact h
    · have q56 : ¬ (L : Int) % 64 = 56 := by
        intro e
        refine hk ((nou_more n k HK.out).1 ?_)
        rw [← HL.out]
        omega
      go_wp2_with (at_builtin; refine wpList_append_byte rfl _ _ rfl w.heap.size (.slice A L cp) L (padK l k) rfl (by rw [HL.out]; exact HO.out.alloc _) wr 0 0 rfl rfl 1 rfl (by omega) HB.out.size ?_; intro v4 w4 hown4 hbel4; have HO4 : Hid (w4.ownsRow w.heap.size 5 1 v4 (n + 1 + (k + 1)) (cellsB (padK l (k + 1)))) := by {
        have h := hown4
        rw [padK_step, HL.out] at h
        exact h }; have HB4 : Hid (Below w.heap.size w w4) := hbel4 _ _ HB.out (Nat.le_refl _); clear hown4 hbel4)
      obtain ⟨A4, cp4, rfl, hrest⟩ := own_bts HO4.out
      clear hrest
      go_roundw
      case rel => exact ⟨k + 1, show k + 1 ≤ nou n by have := HK.out; omega, HO4, HB4⟩
      case measure =>
        have h1 := HK.out
        have h2 := HL.out
        simp only [sliceLn]
        omega
end Go.Proofs.YtlkflikhbkhpeabDoor
