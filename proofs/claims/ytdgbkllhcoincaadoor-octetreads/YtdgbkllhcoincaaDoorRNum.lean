/-
  The contract of the document's Number.
-/
import Derived.Test.YtdgbkllhcoincaaDoorRDec
import Derived.Test.YtdgbkllhcoincaaDoorRBad
namespace Go.Proofs.YtdgbkllhcoincaaDoor
open Go.RowKit

theorem ret_two {a b c d : Int} (h1 : a = b) (h2 : c = d) : Ending.returned (.tuple #[.int .u64 a, .int .i64 c]) = .returned (.tuple #[.int .u64 b, .int .i64 d]) := by rw [h1, h2]

set_option maxRecDepth 100000 in
set_option maxHeartbeats 1000000 in
theorem rnum_bad (s : ByteArray) (most : Int) (w : World) (hs : s.size ≤ maxLen) (hok : ¬ numOk s.data.toList) :
    Calls Tryd.prog 23 #[.string s, .int .u64 most] w fun e w' => e = .returned (.tuple #[.int .u64 0, .int .i64 10]) ∧ w' = w := by
  have hl : s.data.toList.length = s.size := by rw [Array.length_toList]; rfl
  unfold numOk at hok
  rw [hl] at hok
  have hb := badN_le 2 s.data.toList
  rw [hl] at hb
  have ms := hs
  unfold maxLen at ms
  by_cases h1 : s.size < 1
  · go_enter Tryd.func23, Tryd.ntmps23
    go_wp2
    go_ret2
    exact ⟨rfl, rfl⟩
  · by_cases h2 : 20 < s.size
    · go_enter Tryd.func23, Tryd.ntmps23
      go_wp2
      go_ret2
      exact ⟨rfl, rfl⟩
    · have h3 : badN 2 s.data.toList < s.size := by omega
      clear hok hl
      go_enter Tryd.func23, Tryd.ntmps23
      go_wp2_with fail
      refine (rbad_any 2 s _ hs).mono ?_
      rintro e w' ⟨rfl, rfl⟩
      go_wp2
      go_ret2
      exact ⟨rfl, rfl⟩

theorem tail_list (s : ByteArray) : (s.extract 1 s.size).data.toList = s.data.toList.drop 1 := by
  rw [ByteArray.data_extract, Array.toList_extract, List.extract_eq_take_drop]
  exact List.take_of_length_le (by rw [List.length_drop, Array.length_toList]; exact Nat.le_refl _)

/-- What stays of the text when noughts ahead are struck. -/
structure Cut (l : List UInt8) (q : ByteArray) : Prop where
  digs : Digs q.data.toList
  val : numV q.data.toList = numV l
  pos : 1 ≤ q.size
  few : q.size ≤ 20
theorem Cut.next {l : List UInt8} {q : ByteArray} (h : Cut l q) (h1 : 1 < q.size) (h0 : q[0].toNat = 48) : Cut l (q.extract 1 q.size) := by
  have hl : q.data.toList.length = q.size := by rw [Array.length_toList]; rfl
  have e := tail_list q
  have hc : q.data.toList = q[0] :: q.data.toList.drop 1 := by
    have := List.drop_eq_getElem_cons (l := q.data.toList) (i := 0) (by omega)
    rw [List.drop_zero] at this
    exact this
  have hsz : (q.extract 1 q.size).size = q.size - 1 := by rw [ByteArray.size_extract]; omega
  refine ⟨?_, ?_, by omega, by have := h.few; omega⟩
  · rw [e]
    have := h.digs
    rw [hc] at this
    exact this.tail
  · rw [e, ← h.val, hc, numV_nought _ _ h0]
    simp
theorem Cut.canon {l : List UInt8} {q : ByteArray} (h : Cut l q) (h0 : ¬ (1 < q.size ∧ ∃ hp : 0 < q.size, q[0].toNat = 48)) : Canon q.data.toList := by
  have hl : q.data.toList.length = q.size := by rw [Array.length_toList]; rfl
  refine canon_of _ h.digs (by rw [hl]; exact h.pos) (fun ⟨a1, a, r, e, ha⟩ => h0 ⟨by omega, by omega, ?_⟩)
  have : q.data.toList[0]'(by omega) = a := by simp [e]
  rw [← ha, ← this]
  rfl

theorem cmp_facts {l : List UInt8} {q : ByteArray} (h : Cut l q) (hc : Canon q.data.toList) (most : Nat) :
    ((decS most).size < q.size ∧ most < numV l) ∨ (q.size < (decS most).size ∧ numV l ≤ most) ∨
    (q.size = (decS most).size ∧ ((Op.bytesLess q.toList (decS most).toList = true ∧ (q.toList == (decS most).toList) = false ∧ numV l ≤ most) ∨ (Op.bytesLess q.toList (decS most).toList = false ∧ (q.toList == (decS most).toList) = true ∧ numV l ≤ most) ∨ (Op.bytesLess q.toList (decS most).toList = false ∧ (q.toList == (decS most).toList) = false ∧ most < numV l))) := by
  have hl : q.data.toList.length = q.size := by rw [Array.length_toList]; rfl
  have hm : (Lib.decDigits most).length = (decS most).size := (decS_size most).symm
  have hv := dec_val most
  rcases Nat.lt_trichotomy q.size (decS most).size with c | c | c
  · right; left
    have := longer (Lib.decDigits most) q.data.toList h.digs (dec_canon most) hc (by omega)
    rw [hv, h.val] at this
    exact ⟨c, by omega⟩
  · right; right
    refine ⟨c, ?_⟩
    obtain ⟨i1, i2⟩ := same_len q.data.toList (Lib.decDigits most) (by omega) h.digs (dec_digs most)
    rw [h.val, hv] at i1 i2
    rw [ByteArray.toList_eq, ByteArray.toList_eq, decS_list]
    rcases Nat.lt_trichotomy (numV l) most with d | d | d
    · left
      refine ⟨i1.2 d, ?_, by omega⟩
      have : q.data.toList ≠ Lib.decDigits most := fun e => by have := i2.1 e; omega
      simpa using this
    · right; left
      have : q.data.toList = Lib.decDigits most := i2.2 d
      refine ⟨?_, by rw [this]; exact beq_self_eq_true _, by omega⟩
      have hn : ¬ Op.bytesLess q.data.toList (Lib.decDigits most) = true := fun e => by have := i1.1 e; omega
      simpa using hn
    · right; right
      have hne : q.data.toList ≠ Lib.decDigits most := fun e => by have := i2.1 e; omega
      have hn : ¬ Op.bytesLess q.data.toList (Lib.decDigits most) = true := fun e => by have := i1.1 e; omega
      exact ⟨by simpa using hn, by simpa using hne, d⟩
  · left
    have := longer q.data.toList (Lib.decDigits most) (dec_digs most) hc (dec_canon most) (by omega)
    rw [hv, h.val] at this
    exact ⟨c, this⟩

set_option maxRecDepth 100000 in
set_option maxHeartbeats 4000000 in
theorem rnum_ok (s : ByteArray) (most : Nat) (w : World) (hs : s.size ≤ maxLen) (h64 : most < 18446744073709551616) (hok : numOk s.data.toList) :
    Calls Tryd.prog 23 #[.string s, .int .u64 (most : Int)] w fun e w' => e = .returned (.tuple #[.int .u64 (numVal s.data.toList (most : Int)), .int .i64 (numCode s.data.toList (most : Int))]) ∧ w' = w := by
  have hl : s.data.toList.length = s.size := by rw [Array.length_toList]; rfl
  have HOK : Hid (numOk s.data.toList) := hok
  obtain ⟨h1, h2, h3⟩ := hok
  have hall := badN_all 2 s.data.toList h3
  have hdg : Digs s.data.toList := fun b hb => by
    obtain ⟨k, hk, rfl⟩ := List.getElem_of_mem hb
    exact digit_iff _ (hall k hk)
  rw [hl] at h1 h2 h3
  have HC : Hid (Cut s.data.toList s) := ⟨hdg, rfl, h1, h2⟩
  clear hall hl hdg
  have ms := hs
  unfold maxLen at ms
  have h3' : ((badN 2 s.data.toList : Nat) : Int) = (s.size : Int) := by omega
  go_enter Tryd.func23, Tryd.ntmps23
  go_wp2_with fail
  refine (rbad_any 2 s _ hs).mono ?_
  rintro e w' ⟨rfl, rfl⟩
  clear h3
  go_wp2
  clear h3'
  go_loop [0] (fun v => ∃ q : ByteArray, v = .string q ∧ Hid (Cut s.data.toList q) ∧ q.size ≤ 20 ∧ 1 ≤ q.size) (fun v => match v with | .string q => q.size | _ => 0)
  case atStart => exact ⟨s, rfl, HC, h2, h1⟩
  case round =>
    obtain ⟨q, rfl, HQ, q20, q1⟩ := hrel
    have hp : 0 < q.size := by omega
    by_cases c1 : 1 < q.size
    · by_cases c2 : q[0].toNat = 48
      · have HN : Hid (Cut s.data.toList (q.extract 1 q.size)) := HQ.out.next c1 c2
        have hsz : (q.extract 1 q.size).size = q.size - 1 := by rw [ByteArray.size_extract]; omega
        have HSZ : Hid ((q.extract 1 q.size).size = q.size - 1) := hsz
        have c2' : ((q[0].toNat : Int) == 48) = true := by simp; omega
        clear c2 hsz
        go_wp2
        go_round
        case rel => exact ⟨_, rfl, HN, by rw [HSZ.out]; omega, by rw [HSZ.out]; omega⟩
        case measure => simp only [HSZ.out]; omega
      · have HCN : Hid (Canon q.data.toList) := HQ.out.canon (fun h => c2 h.2.2)
        have c2' : ((q[0].toNat : Int) == 48) = false := by simp; omega
        clear c2
        have M20 : (decS most).size ≤ 20 := dec_size most h64
        rcases cmp_facts HQ.out HCN.out most with ⟨d1, d2⟩ | ⟨d1, d2⟩ | ⟨d1, ⟨e1, e2, d2⟩ | ⟨e1, e2, d2⟩ | ⟨e1, e2, d2⟩⟩
        · go_wp2_with fail
          refine (rdec_any most h64 _).mono ?_
          rintro e w2 ⟨rfl, rfl⟩
          have HR : Hid _ := num_over s.data.toList (most : Int) HOK.out (by omega)
          go_wp2
          go_ret2
          exact ⟨ret_two HR.out.1.symm HR.out.2.symm, rfl⟩
        · have f1 : decide ((decS most).size < q.size) = false := by simp; omega
          have f2 : ((q.size : Int) == ((decS most).size : Int)) = false := by simp; omega
          go_wp2_with fail
          refine (rdec_any most h64 _).mono ?_
          rintro e w2 ⟨rfl, rfl⟩
          have HR : Hid _ := num_in s.data.toList (most : Int) HOK.out (by omega)
          have HV : Hid (numV q.data.toList ≤ most ∧ numV q.data.toList = numV s.data.toList) := ⟨by rw [HQ.out.val]; exact d2, HQ.out.val⟩
          have HDG : Hid (Digs q.data.toList) := HQ.out.digs
          go_wp2
          clear d1 d2 f1 f2 HQ HCN HC HOK M20
          go_loop [7, 8] (fun n i => ∃ k : Nat, k ≤ q.size ∧ i = .int .i64 k ∧ n = .int .u64 (numV (q.data.toList.take k) : Int)) (fun _ i => q.size - (intOf i).toNat)
          case atStart => exact ⟨0, Nat.zero_le _, rfl, rfl⟩
          case round =>
            obtain ⟨k, hk, rfl, rfl⟩ := hrel
            by_cases hlt : k < q.size
            · obtain ⟨y1, y2⟩ := HDG.out q[k] (List.getElem_mem (l := q.data.toList) (n := k) (by simpa using hlt))
              have hst : numV (q.data.toList.take (k + 1)) = numV (q.data.toList.take k) * 10 + (q[k].toNat - 48) := numV_snoc q.data.toList k (by simpa using hlt)
              have hmo := numV_mono q.data.toList (k + 1)
              have hmx := HV.out.1
              obtain ⟨n, hn⟩ : ∃ n : Nat, n = numV (q.data.toList.take k) := ⟨_, rfl⟩
              obtain ⟨n', hn'⟩ : ∃ n : Nat, n = numV (q.data.toList.take (k + 1)) := ⟨_, rfl⟩
              rw [← hn, ← hn'] at hst
              rw [← hn'] at hmo
              rw [← hn]
              obtain ⟨x, hx⟩ : ∃ x : Nat, x = q[k].toNat := ⟨_, rfl⟩
              rw [← hx] at y1 y2 hst
              have HX : Hid (n' = n * 10 + (x - 48)) := hst
              have HN : Hid (n' = numV (q.data.toList.take (k + 1))) := hn'
              have hidx : q[k].toNat = x := hx.symm
              have hb1 : (n : Int) * 10 + ((x : Int) - 48) ≤ 18446744073709551615 := by omega
              have hb2 : 10 * (n : Int) + ((x : Int) - 48) ≤ 18446744073709551615 := by omega
              clear hn hn' hst hx hmo hmx hb1
              go_wp2
              go_round
              case rel => exact ⟨k + 1, by omega, by go_num, by rw [← HN.out, HX.out]; go_num⟩
              case measure => simp [intOf]; omega
            · have e : q.data.toList.take k = q.data.toList := List.take_of_length_le (by simp; omega)
              rw [e]
              clear e
              go_wp2
              go_ret2
              exact ⟨ret_two (by rw [HR.out.1, HV.out.2]) HR.out.2.symm, rfl⟩
        · have f1 : decide ((decS most).size < q.size) = false := by simp; omega
          have f2 : ((q.size : Int) == ((decS most).size : Int)) = true := by simp; omega
          clear d1
          go_wp2_with fail
          refine (rdec_any most h64 _).mono ?_
          rintro e w2 ⟨rfl, rfl⟩
          have HR : Hid _ := num_in s.data.toList (most : Int) HOK.out (by omega)
          have HV : Hid (numV q.data.toList ≤ most ∧ numV q.data.toList = numV s.data.toList) := ⟨by rw [HQ.out.val]; exact d2, HQ.out.val⟩
          have HDG : Hid (Digs q.data.toList) := HQ.out.digs
          go_wp2
          clear d2 e1 e2 f1 f2 HQ HCN HC HOK M20
          go_loop [7, 8] (fun n i => ∃ k : Nat, k ≤ q.size ∧ i = .int .i64 k ∧ n = .int .u64 (numV (q.data.toList.take k) : Int)) (fun _ i => q.size - (intOf i).toNat)
          case atStart => exact ⟨0, Nat.zero_le _, rfl, rfl⟩
          case round =>
            obtain ⟨k, hk, rfl, rfl⟩ := hrel
            by_cases hlt : k < q.size
            · obtain ⟨y1, y2⟩ := HDG.out q[k] (List.getElem_mem (l := q.data.toList) (n := k) (by simpa using hlt))
              have hst : numV (q.data.toList.take (k + 1)) = numV (q.data.toList.take k) * 10 + (q[k].toNat - 48) := numV_snoc q.data.toList k (by simpa using hlt)
              have hmo := numV_mono q.data.toList (k + 1)
              have hmx := HV.out.1
              obtain ⟨n, hn⟩ : ∃ n : Nat, n = numV (q.data.toList.take k) := ⟨_, rfl⟩
              obtain ⟨n', hn'⟩ : ∃ n : Nat, n = numV (q.data.toList.take (k + 1)) := ⟨_, rfl⟩
              rw [← hn, ← hn'] at hst
              rw [← hn'] at hmo
              rw [← hn]
              obtain ⟨x, hx⟩ : ∃ x : Nat, x = q[k].toNat := ⟨_, rfl⟩
              rw [← hx] at y1 y2 hst
              have HX : Hid (n' = n * 10 + (x - 48)) := hst
              have HN : Hid (n' = numV (q.data.toList.take (k + 1))) := hn'
              have hidx : q[k].toNat = x := hx.symm
              have hb1 : (n : Int) * 10 + ((x : Int) - 48) ≤ 18446744073709551615 := by omega
              have hb2 : 10 * (n : Int) + ((x : Int) - 48) ≤ 18446744073709551615 := by omega
              clear hn hn' hst hx hmo hmx hb1
              go_wp2
              go_round
              case rel => exact ⟨k + 1, by omega, by go_num, by rw [← HN.out, HX.out]; go_num⟩
              case measure => simp [intOf]; omega
            · have e : q.data.toList.take k = q.data.toList := List.take_of_length_le (by simp; omega)
              rw [e]
              clear e
              go_wp2
              go_ret2
              exact ⟨ret_two (by rw [HR.out.1, HV.out.2]) HR.out.2.symm, rfl⟩
        · have f1 : decide ((decS most).size < q.size) = false := by simp; omega
          have f2 : ((q.size : Int) == ((decS most).size : Int)) = true := by simp; omega
          clear d1
          go_wp2_with fail
          refine (rdec_any most h64 _).mono ?_
          rintro e w2 ⟨rfl, rfl⟩
          have HR : Hid _ := num_in s.data.toList (most : Int) HOK.out (by omega)
          have HV : Hid (numV q.data.toList ≤ most ∧ numV q.data.toList = numV s.data.toList) := ⟨by rw [HQ.out.val]; exact d2, HQ.out.val⟩
          have HDG : Hid (Digs q.data.toList) := HQ.out.digs
          go_wp2
          clear d2 e1 e2 f1 f2 HQ HCN HC HOK M20
          go_loop [7, 8] (fun n i => ∃ k : Nat, k ≤ q.size ∧ i = .int .i64 k ∧ n = .int .u64 (numV (q.data.toList.take k) : Int)) (fun _ i => q.size - (intOf i).toNat)
          case atStart => exact ⟨0, Nat.zero_le _, rfl, rfl⟩
          case round =>
            obtain ⟨k, hk, rfl, rfl⟩ := hrel
            by_cases hlt : k < q.size
            · obtain ⟨y1, y2⟩ := HDG.out q[k] (List.getElem_mem (l := q.data.toList) (n := k) (by simpa using hlt))
              have hst : numV (q.data.toList.take (k + 1)) = numV (q.data.toList.take k) * 10 + (q[k].toNat - 48) := numV_snoc q.data.toList k (by simpa using hlt)
              have hmo := numV_mono q.data.toList (k + 1)
              have hmx := HV.out.1
              obtain ⟨n, hn⟩ : ∃ n : Nat, n = numV (q.data.toList.take k) := ⟨_, rfl⟩
              obtain ⟨n', hn'⟩ : ∃ n : Nat, n = numV (q.data.toList.take (k + 1)) := ⟨_, rfl⟩
              rw [← hn, ← hn'] at hst
              rw [← hn'] at hmo
              rw [← hn]
              obtain ⟨x, hx⟩ : ∃ x : Nat, x = q[k].toNat := ⟨_, rfl⟩
              rw [← hx] at y1 y2 hst
              have HX : Hid (n' = n * 10 + (x - 48)) := hst
              have HN : Hid (n' = numV (q.data.toList.take (k + 1))) := hn'
              have hidx : q[k].toNat = x := hx.symm
              have hb1 : (n : Int) * 10 + ((x : Int) - 48) ≤ 18446744073709551615 := by omega
              have hb2 : 10 * (n : Int) + ((x : Int) - 48) ≤ 18446744073709551615 := by omega
              clear hn hn' hst hx hmo hmx hb1
              go_wp2
              go_round
              case rel => exact ⟨k + 1, by omega, by go_num, by rw [← HN.out, HX.out]; go_num⟩
              case measure => simp [intOf]; omega
            · have e : q.data.toList.take k = q.data.toList := List.take_of_length_le (by simp; omega)
              rw [e]
              clear e
              go_wp2
              go_ret2
              exact ⟨ret_two (by rw [HR.out.1, HV.out.2]) HR.out.2.symm, rfl⟩
        · have f1 : decide ((decS most).size < q.size) = false := by simp; omega
          have f2 : ((q.size : Int) == ((decS most).size : Int)) = true := by simp; omega
          clear d1
          go_wp2_with fail
          refine (rdec_any most h64 _).mono ?_
          rintro e w2 ⟨rfl, rfl⟩
          have HR : Hid _ := num_over s.data.toList (most : Int) HOK.out (by omega)
          go_wp2
          go_ret2
          exact ⟨ret_two HR.out.1.symm HR.out.2.symm, rfl⟩
    · have HCN : Hid (Canon q.data.toList) := HQ.out.canon (fun h => c1 h.1)
      have M20 : (decS most).size ≤ 20 := dec_size most h64
      rcases cmp_facts HQ.out HCN.out most with ⟨d1, d2⟩ | ⟨d1, d2⟩ | ⟨d1, ⟨e1, e2, d2⟩ | ⟨e1, e2, d2⟩ | ⟨e1, e2, d2⟩⟩
      · go_wp2_with fail
        refine (rdec_any most h64 _).mono ?_
        rintro e w2 ⟨rfl, rfl⟩
        have HR : Hid _ := num_over s.data.toList (most : Int) HOK.out (by omega)
        go_wp2
        go_ret2
        exact ⟨ret_two HR.out.1.symm HR.out.2.symm, rfl⟩
      · have f1 : decide ((decS most).size < q.size) = false := by simp; omega
        have f2 : ((q.size : Int) == ((decS most).size : Int)) = false := by simp; omega
        go_wp2_with fail
        refine (rdec_any most h64 _).mono ?_
        rintro e w2 ⟨rfl, rfl⟩
        have HR : Hid _ := num_in s.data.toList (most : Int) HOK.out (by omega)
        have HV : Hid (numV q.data.toList ≤ most ∧ numV q.data.toList = numV s.data.toList) := ⟨by rw [HQ.out.val]; exact d2, HQ.out.val⟩
        have HDG : Hid (Digs q.data.toList) := HQ.out.digs
        go_wp2
        clear d1 d2 f1 f2 HQ HCN HC HOK M20
        go_loop [7, 8] (fun n i => ∃ k : Nat, k ≤ q.size ∧ i = .int .i64 k ∧ n = .int .u64 (numV (q.data.toList.take k) : Int)) (fun _ i => q.size - (intOf i).toNat)
        case atStart => exact ⟨0, Nat.zero_le _, rfl, rfl⟩
        case round =>
          obtain ⟨k, hk, rfl, rfl⟩ := hrel
          by_cases hlt : k < q.size
          · obtain ⟨y1, y2⟩ := HDG.out q[k] (List.getElem_mem (l := q.data.toList) (n := k) (by simpa using hlt))
            have hst : numV (q.data.toList.take (k + 1)) = numV (q.data.toList.take k) * 10 + (q[k].toNat - 48) := numV_snoc q.data.toList k (by simpa using hlt)
            have hmo := numV_mono q.data.toList (k + 1)
            have hmx := HV.out.1
            obtain ⟨n, hn⟩ : ∃ n : Nat, n = numV (q.data.toList.take k) := ⟨_, rfl⟩
            obtain ⟨n', hn'⟩ : ∃ n : Nat, n = numV (q.data.toList.take (k + 1)) := ⟨_, rfl⟩
            rw [← hn, ← hn'] at hst
            rw [← hn'] at hmo
            rw [← hn]
            obtain ⟨x, hx⟩ : ∃ x : Nat, x = q[k].toNat := ⟨_, rfl⟩
            rw [← hx] at y1 y2 hst
            have HX : Hid (n' = n * 10 + (x - 48)) := hst
            have HN : Hid (n' = numV (q.data.toList.take (k + 1))) := hn'
            have hidx : q[k].toNat = x := hx.symm
            have hb1 : (n : Int) * 10 + ((x : Int) - 48) ≤ 18446744073709551615 := by omega
            have hb2 : 10 * (n : Int) + ((x : Int) - 48) ≤ 18446744073709551615 := by omega
            clear hn hn' hst hx hmo hmx hb1
            go_wp2
            go_round
            case rel => exact ⟨k + 1, by omega, by go_num, by rw [← HN.out, HX.out]; go_num⟩
            case measure => simp [intOf]; omega
          · have e : q.data.toList.take k = q.data.toList := List.take_of_length_le (by simp; omega)
            rw [e]
            clear e
            go_wp2
            go_ret2
            exact ⟨ret_two (by rw [HR.out.1, HV.out.2]) HR.out.2.symm, rfl⟩
      · have f1 : decide ((decS most).size < q.size) = false := by simp; omega
        have f2 : ((q.size : Int) == ((decS most).size : Int)) = true := by simp; omega
        clear d1
        go_wp2_with fail
        refine (rdec_any most h64 _).mono ?_
        rintro e w2 ⟨rfl, rfl⟩
        have HR : Hid _ := num_in s.data.toList (most : Int) HOK.out (by omega)
        have HV : Hid (numV q.data.toList ≤ most ∧ numV q.data.toList = numV s.data.toList) := ⟨by rw [HQ.out.val]; exact d2, HQ.out.val⟩
        have HDG : Hid (Digs q.data.toList) := HQ.out.digs
        go_wp2
        clear d2 e1 e2 f1 f2 HQ HCN HC HOK M20
        go_loop [7, 8] (fun n i => ∃ k : Nat, k ≤ q.size ∧ i = .int .i64 k ∧ n = .int .u64 (numV (q.data.toList.take k) : Int)) (fun _ i => q.size - (intOf i).toNat)
        case atStart => exact ⟨0, Nat.zero_le _, rfl, rfl⟩
        case round =>
          obtain ⟨k, hk, rfl, rfl⟩ := hrel
          by_cases hlt : k < q.size
          · obtain ⟨y1, y2⟩ := HDG.out q[k] (List.getElem_mem (l := q.data.toList) (n := k) (by simpa using hlt))
            have hst : numV (q.data.toList.take (k + 1)) = numV (q.data.toList.take k) * 10 + (q[k].toNat - 48) := numV_snoc q.data.toList k (by simpa using hlt)
            have hmo := numV_mono q.data.toList (k + 1)
            have hmx := HV.out.1
            obtain ⟨n, hn⟩ : ∃ n : Nat, n = numV (q.data.toList.take k) := ⟨_, rfl⟩
            obtain ⟨n', hn'⟩ : ∃ n : Nat, n = numV (q.data.toList.take (k + 1)) := ⟨_, rfl⟩
            rw [← hn, ← hn'] at hst
            rw [← hn'] at hmo
            rw [← hn]
            obtain ⟨x, hx⟩ : ∃ x : Nat, x = q[k].toNat := ⟨_, rfl⟩
            rw [← hx] at y1 y2 hst
            have HX : Hid (n' = n * 10 + (x - 48)) := hst
            have HN : Hid (n' = numV (q.data.toList.take (k + 1))) := hn'
            have hidx : q[k].toNat = x := hx.symm
            have hb1 : (n : Int) * 10 + ((x : Int) - 48) ≤ 18446744073709551615 := by omega
            have hb2 : 10 * (n : Int) + ((x : Int) - 48) ≤ 18446744073709551615 := by omega
            clear hn hn' hst hx hmo hmx hb1
            go_wp2
            go_round
            case rel => exact ⟨k + 1, by omega, by go_num, by rw [← HN.out, HX.out]; go_num⟩
            case measure => simp [intOf]; omega
          · have e : q.data.toList.take k = q.data.toList := List.take_of_length_le (by simp; omega)
            rw [e]
            clear e
            go_wp2
            go_ret2
            exact ⟨ret_two (by rw [HR.out.1, HV.out.2]) HR.out.2.symm, rfl⟩
      · have f1 : decide ((decS most).size < q.size) = false := by simp; omega
        have f2 : ((q.size : Int) == ((decS most).size : Int)) = true := by simp; omega
        clear d1
        go_wp2_with fail
        refine (rdec_any most h64 _).mono ?_
        rintro e w2 ⟨rfl, rfl⟩
        have HR : Hid _ := num_in s.data.toList (most : Int) HOK.out (by omega)
        have HV : Hid (numV q.data.toList ≤ most ∧ numV q.data.toList = numV s.data.toList) := ⟨by rw [HQ.out.val]; exact d2, HQ.out.val⟩
        have HDG : Hid (Digs q.data.toList) := HQ.out.digs
        go_wp2
        clear d2 e1 e2 f1 f2 HQ HCN HC HOK M20
        go_loop [7, 8] (fun n i => ∃ k : Nat, k ≤ q.size ∧ i = .int .i64 k ∧ n = .int .u64 (numV (q.data.toList.take k) : Int)) (fun _ i => q.size - (intOf i).toNat)
        case atStart => exact ⟨0, Nat.zero_le _, rfl, rfl⟩
        case round =>
          obtain ⟨k, hk, rfl, rfl⟩ := hrel
          by_cases hlt : k < q.size
          · obtain ⟨y1, y2⟩ := HDG.out q[k] (List.getElem_mem (l := q.data.toList) (n := k) (by simpa using hlt))
            have hst : numV (q.data.toList.take (k + 1)) = numV (q.data.toList.take k) * 10 + (q[k].toNat - 48) := numV_snoc q.data.toList k (by simpa using hlt)
            have hmo := numV_mono q.data.toList (k + 1)
            have hmx := HV.out.1
            obtain ⟨n, hn⟩ : ∃ n : Nat, n = numV (q.data.toList.take k) := ⟨_, rfl⟩
            obtain ⟨n', hn'⟩ : ∃ n : Nat, n = numV (q.data.toList.take (k + 1)) := ⟨_, rfl⟩
            rw [← hn, ← hn'] at hst
            rw [← hn'] at hmo
            rw [← hn]
            obtain ⟨x, hx⟩ : ∃ x : Nat, x = q[k].toNat := ⟨_, rfl⟩
            rw [← hx] at y1 y2 hst
            have HX : Hid (n' = n * 10 + (x - 48)) := hst
            have HN : Hid (n' = numV (q.data.toList.take (k + 1))) := hn'
            have hidx : q[k].toNat = x := hx.symm
            have hb1 : (n : Int) * 10 + ((x : Int) - 48) ≤ 18446744073709551615 := by omega
            have hb2 : 10 * (n : Int) + ((x : Int) - 48) ≤ 18446744073709551615 := by omega
            clear hn hn' hst hx hmo hmx hb1
            go_wp2
            go_round
            case rel => exact ⟨k + 1, by omega, by go_num, by rw [← HN.out, HX.out]; go_num⟩
            case measure => simp [intOf]; omega
          · have e : q.data.toList.take k = q.data.toList := List.take_of_length_le (by simp; omega)
            rw [e]
            clear e
            go_wp2
            go_ret2
            exact ⟨ret_two (by rw [HR.out.1, HV.out.2]) HR.out.2.symm, rfl⟩
      · have f1 : decide ((decS most).size < q.size) = false := by simp; omega
        have f2 : ((q.size : Int) == ((decS most).size : Int)) = true := by simp; omega
        clear d1
        go_wp2_with fail
        refine (rdec_any most h64 _).mono ?_
        rintro e w2 ⟨rfl, rfl⟩
        have HR : Hid _ := num_over s.data.toList (most : Int) HOK.out (by omega)
        go_wp2
        go_ret2
        exact ⟨ret_two HR.out.1.symm HR.out.2.symm, rfl⟩
end Go.Proofs.YtdgbkllhcoincaaDoor
