/-
  The contract of the document's row of quoted text.
-/
import Derived.Test.YtenfopabdegmhaaDoorRUnhex4
import Derived.Test.YtenfopabdegmhaaDoorBase2
import Derived.Test.YtenfopabdegmhaaDoorRqP
namespace Go.Proofs.YtenfopabdegmhaaDoor
open Go.RowKit

/-- Two digits. -/
theorem runhex_two (s : ByteArray) (x y : UInt8) (w : World) (hs : s.data.toList = [x, y]) (hx : hexB x = true) (hy : hexB y = true) :
    Calls Tryd.prog 30 #[.string s] w fun e w' => ∃ v, e = .returned (.tuple #[v, .agg #[.int .i64 0, .int .i64 0]]) ∧ w'.ownsRow w.heap.size 5 1 v 1 (cellsB [UInt8.ofNat (hexV x.toNat * 16 + hexV y.toNat)]) ∧ Below w.heap.size w w' := by
  have h2 : s.size = 2 * 1 := by
    rw [← len_list, hs]
    rfl
  have hok : hexOk s.data.toList := by
    rw [hs]
    unfold hexOk
    have hx' : isB 4 (x.toNat : Int) = true := hx
    have hy' : isB 4 (y.toNat : Int) = true := hy
    exact ⟨by rw [badN, if_pos hx', badN, if_pos hy', badN]; rfl, by simp⟩
  have := runhex_okn s 1 h2 w (by omega) hok
  rw [hs] at this
  exact this
/-- Others. -/
theorem runhex_one (s : ByteArray) (w : World) (hs : s.size ≤ 2) (hok : ¬ hexOk s.data.toList) :
    Calls Tryd.prog 30 #[.string s] w fun e w' => ∃ A : Int, e = .returned (.tuple #[.slice none 0 0, .agg #[.int .i64 10, .int .i64 A]]) ∧ Below w.heap.size w w' := by
  refine (runhex_bad s w (by unfold maxLen; omega) hok).mono ?_
  rintro e w' ⟨rfl, hb⟩
  exact ⟨_, rfl, hb⟩

theorem byte_new (w : World) (o : Obj) (C : UInt8) : Bts (some ⟨w.heap.size + 1, 0, none⟩) [C] ((w.alloc o).alloc (.cells #[.int .u8 (C.toNat : Int)] 5)) := by
  have h : (w.alloc o).heap.size = w.heap.size + 1 := by simp
  refine .inr ⟨w.heap.size + 1, 0, rfl, by simp, ?_⟩
  intro j hj
  obtain rfl : j = 0 := by simpa using hj
  rw [← h]
  exact (Lies.new _ _ _).cell 0
set_option maxHeartbeats 4000000 in
set_option maxRecDepth 100000 in
theorem rrow_any (s : ByteArray) (w : World) (hs : s.size ≤ 9223372036854775807) :
    Calls Tryd.prog 19 #[.string s] w fun e w' => ∃ v, e = .returned (.tuple #[v, .bool (rowS s.data.toList), .bool (rowK s.data.toList)]) ∧ w'.ownsRow w.heap.size 5 1 v (rowT s.data.toList).length (cellsB (rowT s.data.toList)) ∧ Below w.heap.size w w' := by
  have HL : Hid (s.data.toList.length = s.size) := len_list s
  by_cases h76 : 76 < s.size
  · obtain ⟨r1, r2, r3⟩ := row_no (rowR_long s.data.toList (by rw [HL.out]; exact h76))
    rw [r1, r2, r3]
    go_enter Tryd.func19, Tryd.ntmps19
    go_wp2
    go_ret3
    exact ⟨_, rfl, own_nil _ _, Below.refl _ _⟩
  have hs76 : s.size ≤ 76 := by omega
  clear h76 hs
  obtain ⟨K, hK⟩ : ∃ K, K = rowK s.data.toList := ⟨_, rfl⟩
  obtain ⟨S, hS⟩ : ∃ S, S = rowS s.data.toList := ⟨_, rfl⟩
  obtain ⟨T, hT⟩ : ∃ T, T = rowT s.data.toList := ⟨_, rfl⟩
  rw [← hK, ← hS, ← hT]
  have HNO : Hid (rowR s.data.toList = none → K = false ∧ S = false ∧ T = []) := fun h => by
    obtain ⟨r1, r2, r3⟩ := row_no h
    rw [hK, hS, hT]
    exact ⟨r3, r2, r1⟩
  have HYES : Hid (∀ o b, rowR s.data.toList = some (o, b) → K = true ∧ S = b ∧ T = o) := fun o b h => by
    obtain ⟨r1, r2, r3⟩ := row_yes h
    rw [hK, hS, hT]
    exact ⟨r3, r2, r1⟩
  clear hK hS hT
  go_enter Tryd.func19, Tryd.ntmps19
  go_wp2
  go_loopw [5, 6] (fun v i wr => ∃ (k : Nat) (X : List UInt8), k ≤ s.size ∧ i = .int .i64 k ∧ X.length ≤ k ∧ Hid (∃ kk hh, runN q0 (s.data.toList.take k) = some ⟨kk, k, hh, X⟩ ∧ kk ≤ 1 ∧ (kk = 1 → k < s.size)) ∧ Hid (wr.ownsRow w.heap.size 5 1 v X.length (cellsB X)) ∧ Hid (Below w.heap.size w wr)) (fun _ i _ => s.size - (intOf i).toNat)
  case atStart => exact ⟨0, [], by omega, rfl, by simp, ⟨0, 0, rfl, by omega, fun h => by omega⟩, own_nil _ _, Below.refl _ _⟩
  case round =>
    obtain ⟨k, X, hk, rfl, hx, HR, HO, HB⟩ := hrel
    by_cases hlt : k < s.size
    · have hll : k < s.data.toList.length := by rw [HL.out]; exact hlt
      have hat : s.data.toList[k]'hll = s[k] := rfl
      have h256 := s[k].toNat_lt
      by_cases h61 : s[k].toNat = 61
      · have h61' : s.data.toList[k]'hll = 61 := UInt8.toNat_inj.1 h61
        have h61i : ((s[k].toNat : Int) == 61) = true := by simp; omega
        by_cases hlast : k + 1 = s.size
        · have hsoft : rowR s.data.toList = some (X, true) := by
            obtain ⟨kk, hh, e, hkk, _⟩ := HR.out
            exact n_soft e hkk hll (by rw [HL.out]; exact hlast) h61' (by omega)
          obtain ⟨rfl, rfl, rfl⟩ := HYES.out _ _ hsoft
          have hl : ((k : Int) == (s.size : Int) - 1) = true := by simp; omega
          clear hsoft hat h61'
          go_wp2
          go_ret3
          exact ⟨_, rfl, HO.out, HB.out⟩
        · have hl : ((k : Int) == (s.size : Int) - 1) = false := by simp; omega
          obtain ⟨e, he⟩ : ∃ e, e = min (k + 1 + 2) s.size := ⟨_, rfl⟩
          have hdc := dig_two s.data.toList (k + 1) e (by rw [HL.out]; omega) (by rw [HL.out]; exact he)
          have hxt : (s.extract (k + 1) e).data.toList = (s.data.toList.take e).drop (k + 1) := ext_list s (k + 1) e
          have hme : min ((k : Int) + 3) (s.size : Int) = (e : Int) := by omega
          have hei : (k : Int) + 1 ≤ (e : Int) := by omega
          have hes : (e : Int) ≤ (s.size : Int) := by omega
          have hxs : (s.extract (k + 1) e).size ≤ 2 := by
            rw [← len_list, hxt, List.length_drop, List.length_take]
            omega
          have HE : Hid (e = min (k + 1 + 2) s.size) := he
          have two : (hexOk (s.extract (k + 1) e).data.toList ∧ ∃ (h2 : k + 2 < s.size), hexB (s[k + 1]'(by omega)) = true ∧ hexB s[k + 2] = true ∧ (s.extract (k + 1) e).data.toList = [s[k + 1]'(by omega), s[k + 2]]) ∨ (¬ hexOk (s.extract (k + 1) e).data.toList ∧ rowR s.data.toList = none) := by
            obtain ⟨kk, hh, er, hkk, _⟩ := HR.out
            have hle : s.data.toList.length ≤ 76 := by rw [HL.out]; exact hs76
            have hx1 : ((s.data.toList.take e).drop (k + 1)).length = e - (k + 1) := by rw [List.length_drop, List.length_take, HL.out]; omega
            rcases hdc with ⟨e0, hno⟩ | ⟨e1, h1, hx, hno⟩ | ⟨e2, he2, h1, hx, hy, hD⟩
            · right
              refine ⟨?_, n_twono er hkk (by rw [HL.out]; omega) hle h61' (fun h2 h => ?_)⟩
              · rw [hxt]
                unfold hexOk
                rw [e0, hx1]
                omega
              · have := hno _ (List.getElem?_eq_getElem (by rw [HL.out]; omega))
                rw [this] at h
                exact absurd h.1 (by decide)
            · right
              refine ⟨?_, n_twono er hkk (by rw [HL.out]; omega) hle h61' (fun h2 h => ?_)⟩
              · rw [hxt]
                unfold hexOk
                rw [e1, hx1]
                omega
              · have := hno _ (List.getElem?_eq_getElem h2)
                rw [this] at h
                exact absurd h.2 (by decide)
            · left
              have h2 : k + 2 < s.size := by rw [← HL.out]; exact h1
              refine ⟨?_, h2, hx, hy, ?_⟩
              · rw [hxt]
                unfold hexOk
                rw [e2, hx1]
                omega
              · rw [hxt, hD]
                rfl
          clear hdc hxt he
          rcases two with ⟨hok, h2, hx1, hx2, hxt⟩ | ⟨hno, hrow⟩
          · have HU : Hid (Calls Tryd.prog 30 #[.string (s.extract (k + 1) e)] wr fun e w' => ∃ v, e = .returned (.tuple #[v, .agg #[.int .i64 0, .int .i64 0]]) ∧ w'.ownsRow wr.heap.size 5 1 v 1 (cellsB [UInt8.ofNat (hexV (s[k + 1]'(by omega)).toNat * 16 + hexV s[k + 2].toNat)]) ∧ Below wr.heap.size wr w') := runhex_two _ _ _ wr hxt hx1 hx2
            have HR2 : Hid (∃ kk hh, runN q0 (s.data.toList.take (k + 3)) = some ⟨kk, k + 3, hh, X ++ [UInt8.ofNat (hexV (s[k + 1]'(by omega)).toNat * 16 + hexV s[k + 2].toNat)]⟩ ∧ kk ≤ 1 ∧ (kk = 1 → k + 3 < s.size)) := by
              obtain ⟨kk, hh, er, hkk, _⟩ := HR.out
              exact ⟨0, 0, n_two er hkk (by rw [HL.out]; exact h2) (by rw [HL.out]; exact hs76) h61' hx1 hx2, by omega, fun h => by omega⟩
            generalize UInt8.ofNat (hexV (s[k + 1]'(by omega)).toNat * 16 + hexV s[k + 2].toNat) = C at HU HR2
            obtain rfl : e = k + 3 := by have := HE.out; omega
            clear hok hx1 hx2 hxt HR hat h61' hme hei hes HE hxs
            go_wp2_with fail
            refine Calls.mono HU.out ?_
            rintro e' w1 ⟨v1, rfl, ho1, hb1⟩
            have HB1 : Hid (Below w.heap.size w (w1.alloc (.cells #[.int .i64 0, .int .i64 0] 29))) := (HB.out.trans (hb1.mono HB.out.size)).alloc (HB.out.trans (hb1.mono HB.out.size)).size _
            have HO1 : Hid ((w1.alloc (.cells #[.int .i64 0, .int .i64 0] 29)).ownsRow w.heap.size 5 1 u5 X.length (cellsB X)) := (own_below HO.out hb1).alloc _
            obtain ⟨a1, c1, rfl, hbt1, _, _, hdc1, had1⟩ := own_bts (ho1.alloc (.cells #[.int .i64 0, .int .i64 0] 29))
            have k0 : (w1.alloc (.cells #[.int .i64 0, .int .i64 0] 29)).cell? ⟨w1.heap.size, 0, none⟩ = some (.int .i64 0) := (Lies.new w1 _ _).cell 0
            obtain ⟨g1, o1, rfl, _, hr1⟩ : ∃ g o, a1 = some ⟨g, o, none⟩ ∧ g < (w1.alloc (.cells #[.int .i64 0, .int .i64 0] 29)).heap.size ∧ RowL [C] g o (w1.alloc (.cells #[.int .i64 0, .int .i64 0] 29)) := by
              rcases hbt1 with h | h
              · cases h
              · exact h
            obtain rfl : o1 = 0 := (had1 _ rfl).2.2.1
            have c10 : (w1.alloc (.cells #[.int .i64 0, .int .i64 0] 29)).cell? ⟨g1, 0, none⟩ = some (.int .u8 (C.toNat : Int)) := hr1 0 (by simp)
            clear hr1
            clear ho1 hb1 hbt1 had1 HU
            have HBC : Hid (Bts (some ⟨w1.heap.size + 1, 0, none⟩) [C] ((w1.alloc (.cells #[.int .i64 0, .int .i64 0] 29)).alloc (.cells #[.int .u8 (C.toNat : Int)] 5))) := byte_new w1 _ C
            go_wp2_with (at_builtin; refine wpList_append_keep rfl _ _ rfl w.heap.size _ X.length X rfl (HO1.out.alloc _) (some ⟨w1.heap.size + 1, 0, none⟩) [C] 1 1 rfl rfl HBC.out (fun e => by cases e) (by omega) (by have := HB1.out.size; simp at this ⊢; omega) ?_; intro v3 w3 hown3 hgrow3)
            have HO3 : Hid (w3.ownsRow w.heap.size 5 1 v3 (X ++ [C]).length (cellsB (X ++ [C]))) := by
              show World.ownsRow _ _ _ _ _ _ _
              rw [List.length_append]
              exact hown3
            have HB3 : Hid (Below w.heap.size w w3) := (HB1.out.alloc HB1.out.size _).grown hgrow3 (by have := HB1.out.size; simp at this ⊢; omega) (fun q hq => (HO1.out.lt q hq).1)
            clear hown3 hgrow3
            go_wp2
            go_roundw
            case rel => exact ⟨k + 3, X ++ [C], by omega, by go_num, by simp; omega, HR2, HO3, HB3⟩
            case measure => simp [intOf]; omega
          · obtain ⟨rfl, rfl, rfl⟩ := HNO.out hrow
            have HU : Hid (Calls Tryd.prog 30 #[.string (s.extract (k + 1) e)] wr fun e w' => ∃ A : Int, e = .returned (.tuple #[.slice none 0 0, .agg #[.int .i64 10, .int .i64 A]]) ∧ Below wr.heap.size wr w') := runhex_one _ wr hxs hno
            clear hno hrow hat h61' hxs
            have h3 : (k + 3 ≤ s.size ∧ e = k + 3) ∨ (¬ k + 3 ≤ s.size ∧ e = s.size) := by have := HE.out; omega
            clear HE hme hei hes
            rcases h3 with ⟨h3, rfl⟩ | ⟨h3, rfl⟩
            all_goals
              go_wp2_with fail
              refine Calls.mono HU.out ?_
              rintro e' w1 ⟨A, rfl, hb1⟩
              have HB1 : Hid (Below w.heap.size w (w1.alloc (.cells #[.int .i64 10, .int .i64 A] 29))) := (HB.out.trans (hb1.mono HB.out.size)).alloc (HB.out.trans (hb1.mono HB.out.size)).size _
              have k0 : (w1.alloc (.cells #[.int .i64 10, .int .i64 A] 29)).cell? ⟨w1.heap.size, 0, none⟩ = some (.int .i64 10) := (Lies.new w1 _ _).cell 0
              clear hb1 HU
              go_wp2
              go_ret3
              exact ⟨_, rfl, own_nil _ _, HB1.out⟩
      · have h61' : s.data.toList[k]'hll ≠ 61 := fun e => h61 (by rw [← hat, e]; rfl)
        have h61i : ((s[k].toNat : Int) == 61) = false := by simp; omega
        have HAP : ∀ kk, Hid (∃ hh, runN q0 (s.data.toList.take (k + 1)) = some ⟨kk, k + 1, hh, X ++ [s[k]]⟩ ∧ kk ≤ 1 ∧ (kk = 1 → k + 1 < s.size)) → Hid (∃ kk hh, runN q0 (s.data.toList.take (k + 1)) = some ⟨kk, k + 1, hh, X ++ [s[k]]⟩ ∧ kk ≤ 1 ∧ (kk = 1 → k + 1 < s.size)) := fun kk h => by
          obtain ⟨hh, h⟩ := h.out
          exact ⟨kk, hh, h⟩
        have HAPP : Hid (∀ kk, Hid (∃ hh, runN q0 (s.data.toList.take (k + 1)) = some ⟨kk, k + 1, hh, X ++ [s[k]]⟩ ∧ kk ≤ 1 ∧ (kk = 1 → k + 1 < s.size)) → Hid (∃ kk hh, runN q0 (s.data.toList.take (k + 1)) = some ⟨kk, k + 1, hh, X ++ [s[k]]⟩ ∧ kk ≤ 1 ∧ (kk = 1 → k + 1 < s.size))) := HAP
        clear HAP
        by_cases hv : 33 ≤ s[k].toNat ∧ s[k].toNat ≤ 126
        · have hvb : valB (s.data.toList[k]'hll) = true := by
            rw [hat]
            unfold valB
            simp only [decide_eq_true_eq]
            exact ⟨hv.1, hv.2, h61⟩
          have HR2 := HAPP.out 0 (by
            obtain ⟨kk, hh, er, hkk, _⟩ := HR.out
            exact ⟨0, n_val er hkk hll hvb (by omega), by omega, fun h => by omega⟩)
          obtain ⟨hv1, hv2⟩ := hv
          clear HAPP HR hvb hat h61'
          go_wp2_with (at_builtin; refine wpList_append_byte rfl _ _ rfl w.heap.size _ X.length X rfl (HO.out.alloc _) wr s[k] _ (by first | rfl | omega) rfl 1 rfl (by omega) HB.out.size ?_; intro v3 w3 hown3 hbel3)
          have HO3 : Hid (w3.ownsRow w.heap.size 5 1 v3 (X ++ [s[k]]).length (cellsB (X ++ [s[k]]))) := by
            show World.ownsRow _ _ _ _ _ _ _
            rw [List.length_append]
            exact hown3
          have HB3 : Hid (Below w.heap.size w w3) := hbel3 _ _ HB.out (Nat.le_refl _)
          clear hown3 hbel3
          go_wp2
          go_roundw
          case rel => exact ⟨k + 1, X ++ [s[k]], by omega, by go_num, by simp; omega, HR2, HO3, HB3⟩
          case measure => simp [intOf]; omega
        · by_cases hb : (s[k].toNat = 32 ∨ s[k].toNat = 9) ∧ k + 1 < s.size
          · have hbb : blkB (s.data.toList[k]'hll) = true := by
              rw [hat]
              unfold blkB
              simp only [decide_eq_true_eq]
              exact hb.1
            have HR2 := HAPP.out 1 (by
              obtain ⟨kk, hh, er, hkk, _⟩ := HR.out
              exact ⟨0, n_blk er hkk hll hbb (by omega), by omega, fun _ => hb.2⟩)
            obtain ⟨hb1, hb2⟩ := hb
            have hl : ((k : Int) == (s.size : Int) - 1) = false := by simp; omega
            clear HAPP HR hbb hat h61' hv
            rcases hb1 with hb1 | hb1
            · have n33 : ¬ (33 : Int) ≤ (s[k].toNat : Int) := by omega
              have e32 : ((s[k].toNat : Int) == 32) = true := by simp; omega
              go_wp2_with (at_builtin; refine wpList_append_byte rfl _ _ rfl w.heap.size _ X.length X rfl (HO.out.alloc _) wr s[k] _ (by first | rfl | omega) rfl 1 rfl (by omega) HB.out.size ?_; intro v3 w3 hown3 hbel3)
              have HO3 : Hid (w3.ownsRow w.heap.size 5 1 v3 (X ++ [s[k]]).length (cellsB (X ++ [s[k]]))) := by
                show World.ownsRow _ _ _ _ _ _ _
                rw [List.length_append]
                exact hown3
              have HB3 : Hid (Below w.heap.size w w3) := hbel3 _ _ HB.out (Nat.le_refl _)
              clear hown3 hbel3
              go_wp2
              go_roundw
              case rel => exact ⟨k + 1, X ++ [s[k]], by omega, by go_num, by simp; omega, HR2, HO3, HB3⟩
              case measure => simp [intOf]; omega
            · have n33 : ¬ (33 : Int) ≤ (s[k].toNat : Int) := by omega
              have e32 : ((s[k].toNat : Int) == 32) = false := by simp; omega
              have e9 : ((s[k].toNat : Int) == 9) = true := by simp; omega
              go_wp2_with (at_builtin; refine wpList_append_byte rfl _ _ rfl w.heap.size _ X.length X rfl (HO.out.alloc _) wr s[k] _ (by first | rfl | omega) rfl 1 rfl (by omega) HB.out.size ?_; intro v3 w3 hown3 hbel3)
              have HO3 : Hid (w3.ownsRow w.heap.size 5 1 v3 (X ++ [s[k]]).length (cellsB (X ++ [s[k]]))) := by
                show World.ownsRow _ _ _ _ _ _ _
                rw [List.length_append]
                exact hown3
              have HB3 : Hid (Below w.heap.size w w3) := hbel3 _ _ HB.out (Nat.le_refl _)
              clear hown3 hbel3
              go_wp2
              go_roundw
              case rel => exact ⟨k + 1, X ++ [s[k]], by omega, by go_num, by simp; omega, HR2, HO3, HB3⟩
              case measure => simp [intOf]; omega
          · have hno : rowR s.data.toList = none := by
              obtain ⟨kk, hh, er, hkk, _⟩ := HR.out
              refine n_no er hkk hll ?_ h61' (fun hbb => ?_)
              · rw [hat]
                unfold valB
                simp only [decide_eq_false_iff_not]
                omega
              · rw [hat] at hbb
                unfold blkB at hbb
                simp only [decide_eq_true_eq] at hbb
                rw [HL.out]
                omega
            obtain ⟨rfl, rfl, rfl⟩ := HNO.out hno
            clear hno HAPP HR hat h61'
            have fin : (33 ≤ s[k].toNat ∧ ¬ s[k].toNat ≤ 126) ∨ (s[k].toNat < 33 ∧ s[k].toNat ≠ 32 ∧ s[k].toNat ≠ 9) ∨ (s[k].toNat = 32 ∧ k + 1 = s.size) ∨ (s[k].toNat = 9 ∧ k + 1 = s.size) := by omega
            clear hb hv
            rcases fin with ⟨f1, f2⟩ | ⟨f1, f2, f3⟩ | ⟨f1, f2⟩ | ⟨f1, f2⟩
            · have n33 : (33 : Int) ≤ (s[k].toNat : Int) := by omega
              have n126 : ¬ (s[k].toNat : Int) ≤ 126 := by omega
              have e32 : ((s[k].toNat : Int) == 32) = false := by simp; omega
              have e9 : ((s[k].toNat : Int) == 9) = false := by simp; omega
              go_wp2
              go_ret3
              exact ⟨_, rfl, own_nil _ _, HB.out⟩
            · have n33 : ¬ (33 : Int) ≤ (s[k].toNat : Int) := by omega
              have e32 : ((s[k].toNat : Int) == 32) = false := by simp; omega
              have e9 : ((s[k].toNat : Int) == 9) = false := by simp; omega
              go_wp2
              go_ret3
              exact ⟨_, rfl, own_nil _ _, HB.out⟩
            · have n33 : ¬ (33 : Int) ≤ (s[k].toNat : Int) := by omega
              have e32 : ((s[k].toNat : Int) == 32) = true := by simp; omega
              have hl : ((k : Int) == (s.size : Int) - 1) = true := by simp; omega
              go_wp2
              go_ret3
              exact ⟨_, rfl, own_nil _ _, HB.out⟩
            · have n33 : ¬ (33 : Int) ≤ (s[k].toNat : Int) := by omega
              have e32 : ((s[k].toNat : Int) == 32) = false := by simp; omega
              have e9 : ((s[k].toNat : Int) == 9) = true := by simp; omega
              have hl : ((k : Int) == (s.size : Int) - 1) = true := by simp; omega
              go_wp2
              go_ret3
              exact ⟨_, rfl, own_nil _ _, HB.out⟩
    · obtain rfl : k = s.size := by omega
      have hend : rowR s.data.toList = some (X, false) := by
        obtain ⟨kk, hh, e, hkk, h1⟩ := HR.out
        have h0 : kk = 0 := by
          rcases Nat.lt_or_ge 0 kk with h | h
          · exact absurd (h1 (by omega)) (by omega)
          · omega
        rw [n_end e (by rw [HL.out]), if_pos h0]
      obtain ⟨rfl, rfl, rfl⟩ := HYES.out _ _ hend
      clear hend
      go_wp2
      go_ret3
      exact ⟨_, rfl, HO.out, HB.out⟩
end Go.Proofs.YtenfopabdegmhaaDoor
