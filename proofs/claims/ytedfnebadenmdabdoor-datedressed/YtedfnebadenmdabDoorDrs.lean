/-
  The contract of the statements' dressed.
-/
import Derived.Test.YtedfnebadenmdabDoorDrsP
import Derived.Deep.DeepCutAuto
import Derived.Deep.LoopGhost
namespace Go.Proofs.YtedfnebadenmdabDoor
open Go.RowKit

theorem widL_len (n : Nat) : (widL n).length ≤ 4 := by
  unfold widL
  rw [List.length_take]
  simp
  omega
theorem outL_len (m n : Nat) : ∀ (l : List UInt8) (i : Nat), (outL m n i l).length ≤ 5 * l.length
  | [], _ => by simp [outL]
  | c :: r, i => by
    have h := outL_len m n r (i + 1)
    have h2 := widL_len n
    rw [outL, outB, List.length_append, List.length_cons, List.length_cons]
    split
    · omega
    · simp only [List.length_nil]; omega
theorem outL_step (m n : Nat) (s : ByteArray) (k : Nat) (h : k < s.size) : outL m n 0 (s.data.toList.take (k + 1)) = outL m n 0 (s.data.toList.take k) ++ outB m n k s[k] := by
  have hk' : k < s.data.toList.length := by rw [Array.length_toList]; exact h
  rw [List.take_succ_eq_append_getElem hk', outL_app, List.length_take, Nat.min_eq_left (by omega), Nat.zero_add, outL, outL, List.append_nil]
  rfl
theorem bit_eq (m k : Nat) : ((((m : Int) / 2 ^ k).tmod 2 == 1) : Bool) = decide (m / 2 ^ k % 2 = 1) := by
  have e : (m : Int) / 2 ^ k = ((m / 2 ^ k : Nat) : Int) := by simp
  rw [e, Int.tmod_eq_emod_of_nonneg (Int.natCast_nonneg _), Bool.eq_iff_iff]
  generalize m / 2 ^ k = q
  simp only [beq_iff_eq, decide_eq_true_eq]
  omega
theorem xor_fin : ∀ b : Fin 256, bits BinOp.xor IntKind.u8 (b.val : Int) 32 = ((((UInt8.ofNat b.val) ^^^ 32) : UInt8).toNat : Int) := by decide +kernel
theorem xor_eq (b : UInt8) : bits BinOp.xor IntKind.u8 (b.toNat : Int) 32 = ((b ^^^ 32 : UInt8).toNat : Int) := by
  have := xor_fin ⟨b.toNat, b.toNat_lt⟩
  simpa using this
theorem own_empty (w : World) (B : Nat) (hB : B ≤ w.heap.size) : (w.alloc (.cells #[] 5)).ownsRow B 5 1 (.slice (some ⟨w.heap.size, 0, none⟩) 0 0) 0 (cellsB []) :=
  ⟨rfl, .inr ⟨w.heap.size, 0, #[], rfl, hB, heap_alloc_last w _, Nat.le_refl _, by unfold maxLen; omega, rfl, rfl⟩⟩
theorem own_back {w : World} {B : Nat} {v : Value} {l : List UInt8} (h : w.ownsRow B 5 1 v l.length (cellsB l)) : (convert 70 9 v).run Tryd.prog w = .ok (.string ⟨l.toArray⟩) w := by
  obtain ⟨a, cap, rfl, hb, _⟩ := own_bts h
  exact bts_back hb cap
theorem filt_step (r : ByteArray) (k : Nat) (h : k < r.size) : (r.data.toList.take (k + 1)).filter remB = (r.data.toList.take k).filter remB ++ (if remB r[k] = true then [r[k]] else []) := by
  have hk' : k < r.data.toList.length := by rw [Array.length_toList]; exact h
  rw [List.take_succ_eq_append_getElem hk', List.filter_append]
  congr 1
  show List.filter remB [r[k]] = _
  rw [List.filter_cons]
  split <;> rfl
theorem dress_text (m n : Nat) (s r : ByteArray) : (⟨#[32, 9]⟩ : ByteArray) ++ ⟨(outL m n 0 s.data.toList).toArray⟩ ++ ⟨#[32, 40]⟩ ++ ⟨(r.data.toList.filter remB).toArray⟩ ++ ⟨#[41, 32]⟩ = ⟨(dreL m n s.data.toList r.data.toList).toArray⟩ := by
  apply ByteArray.ext
  apply Array.ext'
  unfold dreL
  simp [ByteArray.data_append]
/-- The letters, as the statement asks. -/
theorem letB_yes {c : UInt8} (h : (97 ≤ c.toNat ∧ c.toNat ≤ 122) ∨ (65 ≤ c.toNat ∧ c.toNat ≤ 90)) : letB c = true := by
  unfold letB
  rcases h with ⟨a, b⟩ | ⟨a, b⟩
  · simp [a, b]
  · simp [a, b]
theorem letB_no {c : UInt8} (h : ¬ ((97 ≤ c.toNat ∧ c.toNat ≤ 122) ∨ (65 ≤ c.toNat ∧ c.toNat ≤ 90))) : letB c = false := by
  rw [Bool.eq_false_iff]
  intro k
  apply h
  unfold letB at k
  simpa using k
theorem remB_yes {b : UInt8} (h0 : 32 ≤ b.toNat) (h1 : b.toNat ≤ 126) (h2 : b.toNat ≠ 40) (h3 : b.toNat ≠ 41) (h4 : b.toNat ≠ 92) : remB b = true := by
  have : ∀ b : Fin 256, 32 ≤ b.val → b.val ≤ 126 → b.val ≠ 40 → b.val ≠ 41 → b.val ≠ 92 → remB (UInt8.ofNat b.val) = true := by decide +kernel
  have := this ⟨b.toNat, b.toNat_lt⟩ h0 h1 h2 h3 h4
  simpa using this
theorem remB_no {b : UInt8} (h : b.toNat < 32 ∨ 126 < b.toNat ∨ b.toNat = 40 ∨ b.toNat = 41 ∨ b.toNat = 92) : remB b = false := by
  have : ∀ b : Fin 256, (b.val < 32 ∨ 126 < b.val ∨ b.val = 40 ∨ b.val = 41 ∨ b.val = 92) → remB (UInt8.ofNat b.val) = false := by decide +kernel
  have := this ⟨b.toNat, b.toNat_lt⟩ h
  simpa using this

set_option maxRecDepth 100000 in
set_option maxHeartbeats 16000000 in
theorem dressed_any (s r : ByteArray) (m n nn : Nat) (w : World) (hs : s.size ≤ 2000) (hn : n < 256) (hnn : nn = n % 4) (hr : r.size ≤ 140737488351232) :
    Calls Tryd.prog 17 #[.string s, .int .u64 (m : Int), .int .u8 (n : Int), .string r] w fun e w' => e = .returned (.string ⟨(dreL m nn s.data.toList r.data.toList).toArray⟩) ∧ Below w.heap.size w w' := by
  have HO0 : Hid ((w.alloc (.cells #[] 5)).ownsRow w.heap.size 5 1 (.slice (some ⟨w.heap.size, 0, none⟩) 0 0) 0 (cellsB [])) := own_empty w _ (Nat.le_refl _)
  have HB0 : Hid (Below w.heap.size w (w.alloc (.cells #[] 5))) := (Below.refl _ _).alloc (Nat.le_refl _) _
  have HNN : Hid (nn = n % 4) := hnn
  have hn4 : (n : Int) % 4 = (nn : Int) := by omega
  have hn3 : nn ≤ 3 := by omega
  have HFT : Hid ((⟨#[32, 9]⟩ : ByteArray) ++ ⟨(outL m nn 0 s.data.toList).toArray⟩ ++ ⟨#[32, 40]⟩ ++ ⟨(r.data.toList.filter remB).toArray⟩ ++ ⟨#[41, 32]⟩ = ⟨(dreL m nn s.data.toList r.data.toList).toArray⟩) := dress_text m nn s r
  clear hnn
  go_enter Tryd.func17, Tryd.ntmps17
  go_wp2_with fail
  go_loopg [9, 10] (s.size) (fun g v i wr => ∃ k : Nat, g = s.size - k ∧ k ≤ s.size ∧ i = .int .i64 (k : Int) ∧ Hid (wr.ownsRow w.heap.size 5 1 v (outL m nn 0 (s.data.toList.take k)).length (cellsB (outL m nn 0 (s.data.toList.take k)))) ∧ Hid (Below w.heap.size w wr))
  case atStart => exact ⟨0, by simp, Nat.zero_le _, rfl, HO0, HB0⟩
  case round =>
    obtain ⟨k, hg, hk, rfl, HO, HB⟩ := hrel
    by_cases hlt : k < s.size
    · have hx255 : s[k].toNat < 256 := s[k].toNat_lt
      go_upto_region 6 with fail
      go_cut [12] (fun s12 wx => s12 = .bool (letB s[k]) ∧ wx = wr)
      case first =>
        by_cases h1 : 97 ≤ s[k].toNat
        · by_cases h2 : s[k].toNat ≤ 122
          · have HV : Hid (letB s[k] = true) := letB_yes (.inl ⟨h1, h2⟩)
            have h1i : (97 : Int) ≤ (s[k].toNat : Int) := by omega
            have h2i : (s[k].toNat : Int) ≤ 122 := by omega
            go_wp2_with fail
            go_meet
            exact ⟨by rw [HV.out], rfl⟩
          · have HV : Hid (letB s[k] = false) := letB_no (by omega)
            have h1i : (97 : Int) ≤ (s[k].toNat : Int) := by omega
            have h2i : decide ((s[k].toNat : Int) ≤ 122) = false := decide_eq_false (by omega)
            have h3i : (65 : Int) ≤ (s[k].toNat : Int) := by omega
            have h4i : decide ((s[k].toNat : Int) ≤ 90) = false := decide_eq_false (by omega)
            go_wp2_with fail
            go_meet
            exact ⟨by rw [HV.out], rfl⟩
        · have h1i : decide ((97 : Int) ≤ (s[k].toNat : Int)) = false := decide_eq_false (by omega)
          by_cases h3 : 65 ≤ s[k].toNat
          · have h3i : (65 : Int) ≤ (s[k].toNat : Int) := by omega
            by_cases h4 : s[k].toNat ≤ 90
            · have HV : Hid (letB s[k] = true) := letB_yes (.inr ⟨h3, h4⟩)
              have h4i : (s[k].toNat : Int) ≤ 90 := by omega
              go_wp2_with fail
              go_meet
              exact ⟨by rw [HV.out], rfl⟩
            · have HV : Hid (letB s[k] = false) := letB_no (by omega)
              have h4i : decide ((s[k].toNat : Int) ≤ 90) = false := decide_eq_false (by omega)
              go_wp2_with fail
              go_meet
              exact ⟨by rw [HV.out], rfl⟩
          · have HV : Hid (letB s[k] = false) := letB_no (by omega)
            have h3i : decide ((65 : Int) ≤ (s[k].toNat : Int)) = false := decide_eq_false (by omega)
            go_wp2_with fail
            go_meet
            exact ⟨by rw [HV.out], rfl⟩
      case rest =>
      obtain ⟨rfl, hwc⟩ := hcut
      subst hwc
      obtain ⟨lb, hlb⟩ : ∃ b, b = letB s[k] := ⟨_, rfl⟩
      rw [← hlb]
      have HLB : Hid (lb = letB s[k]) := hlb
      clear hlb
      go_upto_region 7 with fail
      go_cut [50] (fun s50 wx => s50 = .bool (decide (letB s[k] = true ∧ m / 2 ^ (k % 64) % 2 = 1)) ∧ wx = wc)
      case first =>
        cases lb
        · have HV : Hid (decide (letB s[k] = true ∧ m / 2 ^ (k % 64) % 2 = 1) = false) := decide_eq_false (fun h => by rw [← HLB.out] at h; cases h.1)
          go_wp2_with fail
          go_meet
          exact ⟨by rw [HV.out], rfl⟩
        · have HV : Hid (((((m : Int) / 2 ^ (k % 64)).tmod 2 == 1) : Bool) = decide (letB s[k] = true ∧ m / 2 ^ (k % 64) % 2 = 1)) := by
            show _ = _
            rw [bit_eq, Bool.eq_iff_iff, decide_eq_true_eq, decide_eq_true_eq]
            exact ⟨fun h => ⟨HLB.out.symm, h⟩, fun h => h.2⟩
          go_wp2_with fail
          go_meet
          exact ⟨congrArg Value.bool HV.out, rfl⟩
      case rest =>
      obtain ⟨rfl, hwc⟩ := hcut
      subst hwc
      clear HLB
      obtain ⟨tb, htb⟩ : ∃ b, b = decide (letB s[k] = true ∧ m / 2 ^ (k % 64) % 2 = 1) := ⟨_, rfl⟩
      rw [← htb]
      have HTB : Hid (tb = decide (letB s[k] = true ∧ m / 2 ^ (k % 64) % 2 = 1)) := htb
      clear htb
      go_upto_if 50 with fail
      go_cut [11] (fun s11 wx => s11 = .int .u8 ((turnB m k s[k]).toNat : Int) ∧ wx = wc)
      case first =>
        cases tb
        · have HV : Hid (turnB m k s[k] = s[k]) := if_neg (of_decide_eq_false HTB.out.symm)
          go_wp2_with fail
          go_meet
          exact ⟨by rw [HV.out], rfl⟩
        · have HV : Hid (turnB m k s[k] = s[k] ^^^ 32) := if_pos (of_decide_eq_true HTB.out.symm)
          have HX : Hid (bits BinOp.xor IntKind.u8 (s[k].toNat : Int) 32 = ((s[k] ^^^ 32 : UInt8).toNat : Int)) := xor_eq s[k]
          go_wp2_with fail
          go_meet
          exact ⟨by rw [HV.out, ← HX.out], rfl⟩
      case rest =>
      obtain ⟨rfl, hwc⟩ := hcut
      subst hwc
      clear HTB
      have HST : Hid (outL m nn 0 (s.data.toList.take (k + 1)) = outL m nn 0 (s.data.toList.take k) ++ (turnB m k s[k] :: (if turnB m k s[k] = 32 then widL nn else []))) := outL_step m nn s k hlt
      have hlen := outL_len m nn (s.data.toList.take k) 0
      have hlen2 : (s.data.toList.take k).length ≤ k := List.length_take_le _ _
      obtain ⟨O2, hO2⟩ : ∃ l, outL m nn 0 (s.data.toList.take (k + 1)) = l := ⟨_, rfl⟩
      rw [hO2] at HST
      have EO2 : Hid (outL m nn 0 (s.data.toList.take (k + 1)) = O2) := hO2
      clear hO2
      generalize outL m nn 0 (s.data.toList.take k) = O1 at HST HO hlen
      generalize turnB m k s[k] = y at HST ⊢
      have hy255 : y.toNat < 256 := y.toNat_lt
      go_wp2_with (at_builtin; refine wpList_append_byte rfl _ _ rfl w.heap.size _ _ _ rfl (HO.out.alloc _) wc y _ rfl rfl _ rfl (by omega) HB.out.size ?_)
      intro v' w1 hown hbel
      have HO1 : Hid (w1.ownsRow w.heap.size 5 1 v' (O1.length + 1) (cellsB (O1 ++ [y]))) := hown
      have HB1 : Hid (Below w.heap.size w w1) := hbel _ _ HB.out (Nat.le_refl _)
      clear hown hbel HO HB
      by_cases h32 : y = 32
      · have h32i : ((y.toNat : Int) == 32) = true := by rw [h32]; rfl
        have HE : Hid (O2 = O1 ++ (32 :: widL nn)) := by
          show _ = _
          rw [HST.out, if_pos h32, h32]
        have HO3 : Hid (w1.ownsRow w.heap.size 5 1 v' (O1 ++ 32 :: widL 0).length (cellsB (O1 ++ 32 :: widL 0))) := by
          have h := HO1.out
          rw [h32] at h
          show w1.ownsRow _ _ _ _ _ _
          rw [List.length_append]
          exact h
        clear HO1 HST h32
        go_wp2_with fail
        go_loopg [9, 13] (nn) (fun g v j wr => ∃ t : Nat, g = nn - t ∧ t ≤ nn ∧ j = .int .i64 (t : Int) ∧ Hid (wr.ownsRow w.heap.size 5 1 v (O1 ++ 32 :: widL t).length (cellsB (O1 ++ 32 :: widL t))) ∧ Hid (Below w.heap.size w wr))
        case atStart => exact ⟨0, by simp, Nat.zero_le _, rfl, HO3, HB1⟩
        case round =>
          obtain ⟨t, hgt, htn, rfl, HOt, HBt⟩ := hrel
          by_cases htl : t < nn
          · obtain ⟨b, hb1, hb2, hb3⟩ : ∃ b : UInt8, widL (t + 1) = widL t ++ [b] ∧ ((t : Int) % 2 = 0 → b = 32) ∧ ((t : Int) % 2 = 1 → b = 9) := by
              have : t = 0 ∨ t = 1 ∨ t = 2 := by omega
              rcases this with rfl | rfl | rfl
              · exact ⟨32, rfl, fun _ => rfl, fun h => by omega⟩
              · exact ⟨9, rfl, fun h => by omega, fun _ => rfl⟩
              · exact ⟨32, rfl, fun _ => rfl, fun h => by omega⟩
            have hl4 : (O1 ++ 32 :: widL t).length ≤ O1.length + 6 := by
              have := widL_len t
              rw [List.length_append, List.length_cons]
              omega
            have HW : Hid (O1 ++ 32 :: widL (t + 1) = (O1 ++ 32 :: widL t) ++ [b]) := by
              show _ = _
              rw [hb1, List.append_assoc, List.cons_append]
            clear hb1
            obtain ⟨Z2, hZ2⟩ : ∃ l, O1 ++ 32 :: widL (t + 1) = l := ⟨_, rfl⟩
            rw [hZ2] at HW
            have EZ2 : Hid (O1 ++ 32 :: widL (t + 1) = Z2) := hZ2
            clear hZ2
            generalize O1 ++ 32 :: widL t = Z1 at HW HOt hl4
            have htli : (t : Int) < (nn : Int) := by omega
            by_cases hp : (t : Int) % 2 = 0
            · obtain rfl := hb2 hp
              clear hb2 hb3
              go_wp2_with (at_builtin; refine wpList_append_byte rfl _ _ rfl w.heap.size _ _ _ rfl (HOt.out.alloc _) wr 32 _ rfl rfl _ rfl (by omega) HBt.out.size ?_)
              intro v2 w2 hown hbel
              have HO4 : Hid (w2.ownsRow w.heap.size 5 1 v2 Z2.length (cellsB Z2)) := by
                show w2.ownsRow _ _ _ _ _ _
                rw [HW.out, List.length_append]
                exact hown
              have HB4 : Hid (Below w.heap.size w w2) := hbel _ _ HBt.out (Nat.le_refl _)
              clear hown hbel
              go_wp2
              go_roundg (nn - (t + 1))
              case measure => omega
              case rel => exact ⟨t + 1, rfl, by omega, by go_num, by rw [EZ2.out]; exact HO4, HB4⟩
            · have hp1 : (t : Int) % 2 = 1 := by omega
              obtain rfl := hb3 hp1
              clear hb2 hb3 hp
              go_wp2_with (at_builtin; refine wpList_append_byte rfl _ _ rfl w.heap.size _ _ _ rfl (HOt.out.alloc _) wr 9 _ rfl rfl _ rfl (by omega) HBt.out.size ?_)
              intro v2 w2 hown hbel
              have HO4 : Hid (w2.ownsRow w.heap.size 5 1 v2 Z2.length (cellsB Z2)) := by
                show w2.ownsRow _ _ _ _ _ _
                rw [HW.out, List.length_append]
                exact hown
              have HB4 : Hid (Below w.heap.size w w2) := hbel _ _ HBt.out (Nat.le_refl _)
              clear hown hbel
              go_wp2
              go_roundg (nn - (t + 1))
              case measure => omega
              case rel => exact ⟨t + 1, rfl, by omega, by go_num, by rw [EZ2.out]; exact HO4, HB4⟩
          · have htt : t = nn := by omega
            rw [htt, ← HE.out] at HOt
            clear htt
            have htl : ¬ (t : Int) < (nn : Int) := by omega
            go_wp2
            go_roundg (s.size - (k + 1))
            case measure => omega
            case rel => exact ⟨k + 1, rfl, by omega, by go_num, by rw [EO2.out]; exact HOt, HBt⟩
      · have h32i : ((y.toNat : Int) == 32) = false := by
          simp only [beq_eq_false_iff_ne]
          intro h
          exact h32 (UInt8.toNat_inj.1 (by show y.toNat = 32; omega))
        have HE : Hid (w1.ownsRow w.heap.size 5 1 v' O2.length (cellsB O2)) := by
          show w1.ownsRow _ _ _ _ _ _
          rw [HST.out, if_neg h32, List.length_append]
          exact HO1.out
        clear h32
        go_wp2
        go_roundg (s.size - (k + 1))
        case measure => omega
        case rel => exact ⟨k + 1, rfl, by omega, by go_num, by rw [EO2.out]; exact HE, HB1⟩
    · have hke : k = s.size := by omega
      have HO' : Hid (wr.ownsRow w.heap.size 5 1 u9 (outL m nn 0 s.data.toList).length (cellsB (outL m nn 0 s.data.toList))) := by
        have h := HO.out
        rw [hke, List.take_of_length_le (by rw [Array.length_toList]; exact Nat.le_refl _)] at h
        exact h
      have hol := outL_len m nn s.data.toList 0
      have hol' : (outL m nn 0 s.data.toList).length ≤ 10000 := by
        have e : s.data.toList.length = s.size := by rw [Array.length_toList]; rfl
        omega
      have hlti : ¬ (k : Int) < (s.size : Int) := by omega
      clear HO hke hol hlt
      generalize outL m nn 0 s.data.toList = OO at HO' HFT hol'
      have HT0 : Hid ((wr.alloc (.cells #[] 5)).ownsRow wr.heap.size 5 1 (.slice (some ⟨wr.heap.size, 0, none⟩) 0 0) 0 (cellsB [])) := own_empty wr _ (Nat.le_refl _)
      have HB1 : Hid (Below wr.heap.size wr (wr.alloc (.cells #[] 5))) := (Below.refl _ _).alloc (Nat.le_refl _) _
      go_wp2_with fail
      obtain ⟨wo, rfl⟩ : ∃ wo : World, wo = wr := ⟨_, rfl⟩
      go_loopg [14, 15] (r.size) (fun g v i wr => ∃ j : Nat, g = r.size - j ∧ j ≤ r.size ∧ i = .int .i64 (j : Int) ∧ Hid (wr.ownsRow wo.heap.size 5 1 v ((r.data.toList.take j).filter remB).length (cellsB ((r.data.toList.take j).filter remB))) ∧ Hid (Below wo.heap.size wo wr))
      case atStart => exact ⟨0, by simp, Nat.zero_le _, rfl, HT0, HB1⟩
      case round =>
        obtain ⟨j, hgj, hjr, rfl, HT, HBT⟩ := hrel
        by_cases hjl : j < r.size
        · have hjli : (j : Int) < (r.size : Int) := by omega
          have hx255 : r[j].toNat < 256 := r[j].toNat_lt
          go_upto_region 20 with fail
          go_cut [99] (fun s99 wx => s99 = .bool (remB r[j]) ∧ wx = wr)
          case first =>
            by_cases h1 : 32 ≤ r[j].toNat
            · have h1i : (32 : Int) ≤ (r[j].toNat : Int) := by omega
              by_cases h2 : r[j].toNat ≤ 126
              · have h2i : (r[j].toNat : Int) ≤ 126 := by omega
                by_cases h3 : r[j].toNat = 40
                · have HV : Hid (remB r[j] = false) := remB_no (by omega)
                  have h3i : ((r[j].toNat : Int) != 40) = false := by simp only [bne_eq_false_iff_eq]; omega
                  clear h3
                  go_wp2_with fail
                  go_meet
                  exact ⟨by rw [HV.out], rfl⟩
                have h3i : ((r[j].toNat : Int) != 40) = true := by simp only [bne_iff_ne]; omega
                by_cases h4 : r[j].toNat = 41
                · have HV : Hid (remB r[j] = false) := remB_no (by omega)
                  have h4i : ((r[j].toNat : Int) != 41) = false := by simp only [bne_eq_false_iff_eq]; omega
                  clear h4
                  go_wp2_with fail
                  go_meet
                  exact ⟨by rw [HV.out], rfl⟩
                have h4i : ((r[j].toNat : Int) != 41) = true := by simp only [bne_iff_ne]; omega
                by_cases h5 : r[j].toNat = 92
                · have HV : Hid (remB r[j] = false) := remB_no (by omega)
                  have h5i : ((r[j].toNat : Int) != 92) = false := by simp only [bne_eq_false_iff_eq]; omega
                  clear h5
                  go_wp2_with fail
                  go_meet
                  exact ⟨by rw [HV.out], rfl⟩
                have h5i : ((r[j].toNat : Int) != 92) = true := by simp only [bne_iff_ne]; omega
                have HV : Hid (remB r[j] = true) := remB_yes h1 h2 h3 h4 h5
                go_wp2_with fail
                go_meet
                exact ⟨by rw [HV.out], rfl⟩
              · have h2i : decide ((r[j].toNat : Int) ≤ 126) = false := decide_eq_false (by omega)
                have HV : Hid (remB r[j] = false) := remB_no (by omega)
                go_wp2_with fail
                go_meet
                exact ⟨by rw [HV.out], rfl⟩
            · have h1i : decide ((32 : Int) ≤ (r[j].toNat : Int)) = false := decide_eq_false (by omega)
              have HV : Hid (remB r[j] = false) := remB_no (by omega)
              go_wp2_with fail
              go_meet
              exact ⟨by rw [HV.out], rfl⟩
          case rest =>
          obtain ⟨rfl, hwc⟩ := hcut
          subst hwc
          have HST : Hid ((r.data.toList.take (j + 1)).filter remB = (r.data.toList.take j).filter remB ++ (if remB r[j] = true then [r[j]] else [])) := filt_step r j hjl
          have hlen : ((r.data.toList.take j).filter remB).length ≤ j := Nat.le_trans (List.length_filter_le _ _) (List.length_take_le _ _)
          obtain ⟨T2, hT2⟩ : ∃ l, (r.data.toList.take (j + 1)).filter remB = l := ⟨_, rfl⟩
          rw [hT2] at HST
          have ET2 : Hid ((r.data.toList.take (j + 1)).filter remB = T2) := hT2
          clear hT2
          generalize (r.data.toList.take j).filter remB = T1 at HST HT hlen
          obtain ⟨rb, hrb⟩ : ∃ b, b = remB r[j] := ⟨_, rfl⟩
          rw [← hrb]
          rw [← hrb] at HST
          clear hrb
          cases rb
          · have HE : Hid (wc.ownsRow wo.heap.size 5 1 u14 T2.length (cellsB T2)) := by
              show wc.ownsRow _ _ _ _ _ _
              rw [HST.out, if_neg (by decide), List.append_nil]
              exact HT.out
            go_wp2
            go_roundg (r.size - (j + 1))
            case measure => omega
            case rel => exact ⟨j + 1, rfl, by omega, by go_num, by rw [ET2.out]; exact HE, HBT⟩
          · have HS2 : Hid (T2 = T1 ++ [r[j]]) := by show _ = _; rw [HST.out, if_pos rfl]
            clear HST
            go_wp2_with (at_builtin; refine wpList_append_byte rfl _ _ rfl wo.heap.size _ _ _ rfl (HT.out.alloc _) wc r[j] _ rfl rfl _ rfl (by omega) HBT.out.size ?_)
            intro v2 w2 hown hbel
            have HO4 : Hid (w2.ownsRow wo.heap.size 5 1 v2 T2.length (cellsB T2)) := by
              show w2.ownsRow _ _ _ _ _ _
              rw [HS2.out, List.length_append]
              exact hown
            have HB4 : Hid (Below wo.heap.size wo w2) := hbel _ _ HBT.out (Nat.le_refl _)
            clear hown hbel
            go_wp2
            go_roundg (r.size - (j + 1))
            case measure => omega
            case rel => exact ⟨j + 1, rfl, by omega, by go_num, by rw [ET2.out]; exact HO4, HB4⟩
        · have hje : j = r.size := by omega
          have HT' : Hid (wr.ownsRow wo.heap.size 5 1 u14 (r.data.toList.filter remB).length (cellsB (r.data.toList.filter remB))) := by
            have h := HT.out
            rw [hje, List.take_of_length_le (by rw [Array.length_toList]; exact Nat.le_refl _)] at h
            exact h
          have htl : (r.data.toList.filter remB).length ≤ r.size := Nat.le_trans (List.length_filter_le _ _) (by rw [Array.length_toList]; exact Nat.le_refl _)
          have hjli : ¬ (j : Int) < (r.size : Int) := by omega
          clear HT hje hjl
          generalize r.data.toList.filter remB = TT at HT' HFT htl
          have hback1 := own_back (own_below HO'.out HBT.out)
          have hback2 := own_back HT'.out
          have hz1 : (⟨OO.toArray⟩ : ByteArray).size = OO.length := List.size_toArray
          have hz2 : (⟨TT.toArray⟩ : ByteArray).size = TT.length := List.size_toArray
          have HEND : Hid (Below w.heap.size w wr) := HB.out.trans (HBT.out.mono HB.out.size)
          clear HO' HT' HBT HB
          go_wp2
          go_ret
          exact ⟨congrArg (fun x => Ending.returned (Value.string x)) HFT.out, HEND.out⟩
end Go.Proofs.YtedfnebadenmdabDoor
