/-
  The program's reading of xtext: isDigit, digitsBehind, Unxtext.
-/
import Derived.Test.YtjpmfgmoekpcpabGreatDoorIs4
import Derived.Test.YtjpmfgmoekpcpabGreatDoorUnhexOk4
import Derived.Test.YtjpmfgmoekpcpabGreatDoorXtP
namespace Go.Proofs.YtjpmfgmoekpcpabGreatDoor
open Go.RowKit

set_option maxHeartbeats 400000 in
theorem isd_any (c : UInt8) (w : World) (ht : Table w) :
    Calls Tryz.prog 86 #[.int .u8 (c.toNat : Int)] w fun e w' => e = .returned (.bool (xdg c)) ∧ w' = w := by
  cases h : isB 4 (c.toNat : Int) with
  | false =>
    have e : xdg c = false := by unfold xdg; rw [h]; rfl
    rw [e]
    go_enter Tryz.func86, Tryz.ntmps86
    go_wp2_with (go_at_call 18; refine (is_any 4 _ _ ht).mono ?_; rintro e w' ⟨rfl, rfl⟩)
    go_ret
    exact ⟨rfl, rfl⟩
  | true =>
    have e : xdg c = decide ((c.toNat : Int) ≤ 70) := by
      unfold xdg
      rw [h, Bool.true_and, Bool.eq_iff_iff]
      simp only [decide_eq_true_eq]
      omega
    rw [e]
    go_enter Tryz.func86, Tryz.ntmps86
    go_wp2_with (go_at_call 18; refine (is_any 4 _ _ ht).mono ?_; rintro e w' ⟨rfl, rfl⟩)
    go_ret
    exact ⟨rfl, rfl⟩

theorem xdn_in (l : List UInt8) (k m : Nat) (h : m < xdn l k) : ∃ h : k + m < l.length, xdg l[k + m] = true := by
  unfold xdn at h
  by_cases a : k < l.length
  · rw [dif_pos a] at h
    by_cases b : xdg l[k] = true
    · rw [if_pos b] at h
      by_cases c : k + 1 < l.length
      · rw [dif_pos c] at h
        by_cases d : xdg l[k + 1] = true
        · rw [if_pos d] at h
          match m, h with
          | 0, _ => exact ⟨a, b⟩
          | 1, _ => exact ⟨c, d⟩
        · rw [if_neg d] at h
          obtain rfl : m = 0 := by omega
          exact ⟨a, b⟩
      · rw [dif_neg c] at h
        obtain rfl : m = 0 := by omega
        exact ⟨a, b⟩
    · rw [if_neg b] at h; omega
  · rw [dif_neg a] at h; omega
theorem xdn_out (l : List UInt8) (k m : Nat) (h : m = xdn l k) (hm : m < 2) (hl : k + m < l.length) : xdg l[k + m] = false := by
  unfold xdn at h
  have a : k < l.length := by omega
  rw [dif_pos a] at h
  by_cases b : xdg l[k] = true
  · rw [if_pos b] at h
    by_cases c : k + 1 < l.length
    · rw [dif_pos c] at h
      by_cases d : xdg l[k + 1] = true
      · rw [if_pos d] at h; omega
      · rw [if_neg d] at h
        subst h
        simpa using d
    · rw [dif_neg c] at h; omega
  · rw [if_neg b] at h
    subst h
    simpa using b

set_option maxHeartbeats 1000000 in
theorem db_any (s : ByteArray) (k : Nat) (hk : k < s.size) (hs : s.size ≤ 1125899906842624) (w : World) (ht : Table w) :
    Calls Tryz.prog 42 #[.string s, .int .i64 (k : Nat)] w fun e w' => e = .returned (.string (tx ((s.data.toList.drop (k + 1)).take (xdn s.data.toList (k + 1))))) ∧ w' = w := by
  have HI : Hid (∀ m, m < xdn s.data.toList (k + 1) → ∃ h : k + 1 + m < s.size, xdg s[k + 1 + m] = true) := fun m hm => by
    obtain ⟨h, e⟩ := xdn_in _ _ _ hm
    exact ⟨by rw [← len_list]; exact h, e⟩
  have HU : Hid (∀ m, m = xdn s.data.toList (k + 1) → m < 2 → ∀ h : k + 1 + m < s.size, xdg s[k + 1 + m] = false) := fun m hm h2 h => xdn_out _ _ _ hm h2 (by rw [len_list]; exact h)
  have hn2 := xdn_le s.data.toList (k + 1)
  have hroom := xdn_room s.data.toList (k + 1) (by rw [len_list]; omega)
  rw [len_list] at hroom
  rw [← tx_sub]
  have HT : Hid (Table w) := ht
  clear ht
  generalize xdn s.data.toList (k + 1) = n at HI HU hn2 hroom ⊢
  go_enter Tryz.func42, Tryz.ntmps42
  go_wp2
  go_loop [5] (fun i => ∃ m : Nat, m ≤ n ∧ i = .int .i64 (k + 1 + m : Nat)) (fun i => k + 4 - (intOf i).toNat)
  case atStart => exact ⟨0, Nat.zero_le _, by go_num⟩
  case round =>
    obtain ⟨m, hm, rfl⟩ := hrel
    by_cases hmn : m < n
    · obtain ⟨h1, h2⟩ := HI.out m hmn
      have b1 : ((k + 1 + m : Nat) : Int) < (s.size : Int) := by omega
      have b2 : ((k + 1 + m : Nat) : Int) ≤ (k : Int) + 2 := by omega
      go_wp2_with (go_at_call 86; refine (isd_any _ _ HT.out).mono ?_; rintro e w' ⟨rfl, rfl⟩)
      go_round
      case rel => exact ⟨m + 1, by omega, by go_num⟩
      case measure => simp [intOf]; omega
    · obtain rfl : m = n := by omega
      have be : s.extract (k + 1) (k + 1 + m) = s.extract (k + 1) (k + 1 + m) := rfl
      by_cases h2 : m < 2
      · by_cases hl : k + 1 + m < s.size
        · have hd := HU.out m rfl h2 hl
          have b1 : ((k + 1 + m : Nat) : Int) < (s.size : Int) := by omega
          have b2 : ((k + 1 + m : Nat) : Int) ≤ (k : Int) + 2 := by omega
          go_wp2_with (go_at_call 86; refine (isd_any _ _ HT.out).mono ?_; rintro e w' ⟨rfl, rfl⟩)
          go_ret
          exact ⟨rfl, rfl⟩
        · have b1 : ¬ ((k + 1 + m : Nat) : Int) < (s.size : Int) := by omega
          go_wp2_with (go_at_call 86; refine (isd_any _ _ HT.out).mono ?_; rintro e w' ⟨rfl, rfl⟩)
          go_ret
          exact ⟨rfl, rfl⟩
      · have b2 : ¬ ((k + 1 + m : Nat) : Int) ≤ (k : Int) + 2 := by omega
        by_cases hl : k + 1 + m < s.size
        · have b1 : ((k + 1 + m : Nat) : Int) < (s.size : Int) := by omega
          go_wp2_with (go_at_call 86; refine (isd_any _ _ HT.out).mono ?_; rintro e w' ⟨rfl, rfl⟩)
          go_ret
          exact ⟨rfl, rfl⟩
        · have b1 : ¬ ((k + 1 + m : Nat) : Int) < (s.size : Int) := by omega
          go_wp2_with (go_at_call 86; refine (isd_any _ _ HT.out).mono ?_; rintro e w' ⟨rfl, rfl⟩)
          go_ret
          exact ⟨rfl, rfl⟩

/-- What Unxtext tells. -/
def uxV : Ux → Value
  | .bad p => .tuple #[.string ⟨#[]⟩, .agg #[.int .i64 104, .int .i64 (p : Nat)]]
  | .ok l => .tuple #[.string (tx l), .agg #[.int .i64 0, .int .i64 0]]

set_option maxHeartbeats 8000000 in
set_option maxRecDepth 100000 in
theorem unx_any (s : ByteArray) (hs : s.size ≤ 140737488355328) (w : World) (ht : Table w) :
    Calls Tryz.prog 17 #[.string s] w fun e w' => e = .returned (uxV (unx s.data.toList)) ∧ Below w.heap.size w w' := by
  have HT : Hid (∀ wx, Below w.heap.size w wx → Table wx) := fun wx hx => ht.keep hx
  obtain ⟨X, hX⟩ : ∃ X, X = unx s.data.toList := ⟨_, rfl⟩
  rw [← hX]
  have HX0 : Hid (X = (unx (s.data.toList.drop 0)).on 0 []) := by show _ = _; rw [hX, Ux.on_zero, List.drop_zero]
  have HL0 : Hid (Lies (w.alloc (.cells #[.int .i64 0, .int .i64 0] 28)) w.heap.size #[.int .i64 0, .int .i64 0] 28) := Lies.new w _ _
  have HK0 : Hid (Below w.heap.size w (w.alloc (.cells #[.int .i64 0, .int .i64 0] 28))) := (Below.refl _ _).alloc (Nat.le_refl _) _
  clear hX ht
  go_enter Tryz.func17, Tryz.ntmps17
  go_upto_region 1 with fail
  generalize w.alloc (.cells #[.int .i64 0, .int .i64 0] 28) = v0 at HL0 HK0 ⊢
  go_wp2_with fail
  go_loopw [4, 5] (fun u c wr => ∃ (i : Nat) (acc : List UInt8), i ≤ s.size ∧ c = .int .i64 i ∧ acc.length ≤ i ∧ Hid (wr.ownsRow v0.heap.size 5 1 u acc.length (cellsB acc)) ∧ Hid (Below v0.heap.size v0 wr) ∧ Hid (X = (unx (s.data.toList.drop i)).on i acc)) (fun _ c _ => s.size - (intOf c).toNat)
  case atStart => exact ⟨0, [], Nat.zero_le _, rfl, Nat.zero_le _, ⟨rfl, .inl ⟨rfl, rfl⟩⟩, Below.refl _ _, HX0⟩
  case round =>
    obtain ⟨i, acc, hi, rfl, hacc, HO, HB, HX⟩ := hrel
    have HL : Hid (Lies wr w.heap.size #[.int .i64 0, .int .i64 0] 28) := HL0.out.below HB.out HL0.out.lt
    have KB : Hid (Below w.heap.size w wr) := HK0.out.trans (HB.out.mono HK0.out.size)
    have HSZ : Hid (v0.heap.size ≤ wr.heap.size) := HB.out.size
    have HV0 : Hid (w.heap.size < v0.heap.size) := HL0.out.lt
    clear HX0
    have hll : s.data.toList.length = s.size := len_list s
    have HLL : Hid (s.data.toList.length = s.size) := hll
    clear hll
    by_cases hlt : i < s.size
    · have hlt' : (i : Int) < (s.size : Int) := by omega
      have hil : i < s.data.toList.length := by rw [HLL.out]; exact hlt
      obtain ⟨e43, _⟩ := beq_u8 s[i] 43 43 rfl
      by_cases h43 : s[i] = 43
      · rw [decide_eq_true h43] at e43
        have HDB := db_any s i hlt (by omega) wr (HT.out wr KB.out)
        have hx2 := xdn_le s.data.toList (i + 1)
        have hroom := xdn_room s.data.toList (i + 1) (by omega)
        obtain ⟨n, hn⟩ : ∃ n, n = xdn s.data.toList (i + 1) := ⟨_, rfl⟩
        obtain ⟨D, hD⟩ : ∃ D, D = (s.data.toList.drop (i + 1)).take (xdn s.data.toList (i + 1)) := ⟨_, rfl⟩
        have hDl : (tx D).size = n := by rw [tx_size, hD, hn, List.length_take, List.length_drop]; omega
        rw [← hD] at HDB
        by_cases h2 : n < 2
        · have HXX : Hid (X = .bad (i + (1 + n))) := by
            show _ = _
            rw [HX.out, unx_few _ _ hil h43 (by rw [← hn]; exact h2), ← hn]
            rfl
          have HDD : Hid (Calls Tryz.prog 42 #[.string s, .int .i64 (i : Nat)] wr fun e w' => e = .returned (.string (tx D)) ∧ w' = wr) := HDB
          clear HDB hD hx2 hroom hn HX HO h43 HLL
          go_wp2_with (first
            | (go_at_call 42; refine HDD.out.mono ?_; rintro e w' ⟨rfl, rfl⟩)
            | (refine wpList_store_row rfl 28 _ _ rfl w.heap.size rfl _ #[.int .i64 104, .int .i64 ((i : Int) + 1 + (n : Int))] rfl 28 HL.out infoSp rfl (by simp [Value.oneCell']) rfl ?_))
          refine bodyPost_ret (res_vc (p := 2) (r := 3) (by kernel_rfl) _ _ w.heap.size #[.int .i64 104, .int .i64 ((i : Int) + 1 + (n : Int))] _ (.string ⟨#[]⟩) rfl rfl (HL.out.row _) Tryz.underlying28 rfl infoSp) rfl ⟨by rw [HXX.out, uxV]; push_cast; rw [Int.add_assoc], below_row KB.out (Nat.le_refl _) _⟩
        · obtain ⟨hxo, hok, hl2⟩ := unx_two s.data.toList i hil h43 (by rw [← hn]; exact h2)
          have hn2 : n = 2 := by omega
          subst hn2
          rw [← hn] at hD
          rw [← hD] at hxo hok hl2
          have HDD : Hid (Calls Tryz.prog 42 #[.string s, .int .i64 (i : Nat)] wr fun e w' => e = .returned (.string (tx D)) ∧ w' = wr) := HDB
          have HUN : Hid (Calls Tryz.prog 43 #[.string (tx D)] wr fun e w' => ∃ g, e = .returned (.tuple #[.slice (some ⟨g, 0, none⟩) 1 1, .agg #[.int .i64 0, .int .i64 0]]) ∧ wr.heap.size ≤ g ∧
              w'.ownsRow wr.heap.size 5 1 (.slice (some ⟨g, 0, none⟩) 1 1) 1 (cellsB (unL D)) ∧ Below wr.heap.size wr w') := by
            have := unhex_okn (tx D) 1 (by rw [hDl]) wr (HT.out wr KB.out) (by rw [hDl]; omega) (by rw [tx_list]; exact hok)
            rw [tx_list] at this
            exact this
          have HXX : Hid (X = (unx (s.data.toList.drop (i + 3))).on (i + 3) (acc ++ unL D)) := by
            show _ = _
            rw [HX.out, hxo, Ux.on_on]
          have hul : (unL D).length = 1 := by rw [unL_length, hl2]
          have HUL : Hid ((unL D).length = 1) := hul
          have hroom3 : i + 3 ≤ s.size := by rw [← hn, HLL.out] at hroom; omega
          clear HDB hD hx2 hroom hn HX h43 hxo hok hl2 hul HLL h2
          go_upto_region 11 with (first
            | (go_at_call 42; refine HDD.out.mono ?_; rintro e wd ⟨rfl, rfl⟩)
            | (go_at_call 43; refine HUN.out.mono ?_; rintro e w1 ⟨g, rfl, hg, ho1, hb1⟩))
          have HO1 : Hid ((w1.alloc (.cells #[.int .i64 0, .int .i64 0] 28)).ownsRow v0.heap.size 5 1 u4 acc.length (cellsB acc)) := (own_below HO.out hb1).alloc _
          have HBT : Hid (Bts (some ⟨g, 0, none⟩) (unL D) (w1.alloc (.cells #[.int .i64 0, .int .i64 0] 28))) := by
            obtain ⟨a, cap, e, h, _⟩ := own_bts (ho1.alloc (.cells #[.int .i64 0, .int .i64 0] 28))
            injection e with e _ _
            subst e
            exact h
          have HB1 : Hid (Below v0.heap.size v0 (w1.alloc (.cells #[.int .i64 0, .int .i64 0] 28))) := (HB.out.trans (hb1.mono HB.out.size)).alloc (Nat.le_trans HSZ.out hb1.size) _
          clear ho1 hb1 HO HB
          generalize w1.alloc (.cells #[.int .i64 0, .int .i64 0] 28) = w2 at HO1 HBT HB1 ⊢
          go_wp2_with (at_builtin; refine wpList_append_keep rfl _ _ rfl v0.heap.size _ acc.length acc rfl HO1.out (some ⟨g, 0, none⟩) (unL D) 1 1 rfl HUL.out.symm HBT.out (fun e => by cases e) (by omega) HB1.out.size ?_)
          intro v7 w7 ho7 hg7
          have HO7 : Hid (w7.ownsRow v0.heap.size 5 1 v7 (acc ++ unL D).length (cellsB (acc ++ unL D))) := by
            show World.ownsRow _ _ _ _ _ _ _
            rw [List.length_append, HUL.out]
            exact ho7
          have HB7 : Hid (Below v0.heap.size v0 w7) := HB1.out.grown hg7 HB1.out.size (fun q hq => (HO1.out.lt q hq).1)
          have hal : (acc ++ unL D).length ≤ i + 3 := by rw [List.length_append, HUL.out]; omega
          clear ho7 hg7
          go_wp2
          go_roundw
          case rel => exact ⟨i + 3, acc ++ unL D, by omega, by go_num, hal, HO7, HB7, HXX⟩
          case measure => simp [intOf]; omega
      · rw [decide_eq_false h43] at e43
        cases hx : xch s[i] with
        | true =>
          have HIS : Hid (Calls Tryz.prog 18 #[.int .i64 9, .int .u8 (s[i].toNat : Int)] wr fun e w' => e = .returned (.bool true) ∧ w' = wr) := by
            have := is_any 9 (s[i].toNat : Int) wr (HT.out wr KB.out)
            have e : isB 9 (s[i].toNat : Int) = true := hx
            rw [e] at this
            exact this
          have HXX : Hid (X = (unx (s.data.toList.drop (i + 1))).on (i + 1) (acc ++ [s[i]])) := by
            show _ = _
            rw [HX.out, unx_ch _ _ hil h43 hx, Ux.on_on]
            rfl
          have HOA := HO.out.alloc (.cells #[.int .u8 (s[i].toNat : Int)] 5)
          have HONE : Hid (Bts (some ⟨wr.heap.size, 0, none⟩) [s[i]] (wr.alloc (.cells #[.int .u8 (s[i].toNat : Int)] 5))) := .inr ⟨wr.heap.size, 0, rfl, by simp, fun j hj => by
            obtain rfl : j = 0 := by simpa using hj
            simp⟩
          have hza : v0.heap.size ≤ (wr.alloc (.cells #[.int .u8 (s[i].toNat : Int)] 5)).heap.size := by have := HSZ.out; simp; omega
          have HZA : Hid (v0.heap.size ≤ (wr.alloc (.cells #[.int .u8 (s[i].toNat : Int)] 5)).heap.size) := hza
          have HOA' : Hid ((wr.alloc (.cells #[.int .u8 (s[i].toNat : Int)] 5)).ownsRow v0.heap.size 5 1 u4 acc.length (cellsB acc)) := HOA
          clear HX h43 hx HLL HOA hza
          go_wp2_with (first
            | (go_at_call 18; refine HIS.out.mono ?_; rintro e w' ⟨rfl, rfl⟩)
            | (at_builtin; refine wpList_append_keep rfl _ _ rfl v0.heap.size _ acc.length acc rfl HOA'.out (some ⟨_, 0, none⟩) [s[i]] 1 1 rfl rfl HONE.out (fun e => by cases e) (by omega) HZA.out ?_))
          intro v7 w7 ho7 hg7
          have HO7 : Hid (w7.ownsRow v0.heap.size 5 1 v7 (acc ++ [s[i]]).length (cellsB (acc ++ [s[i]]))) := by
            show World.ownsRow _ _ _ _ _ _ _
            rw [List.length_append]
            exact ho7
          have HB7 : Hid (Below v0.heap.size v0 w7) := (HB.out.alloc HB.out.size _).grown hg7 HZA.out (fun q hq => (HO.out.lt q hq).1)
          have hal : (acc ++ [s[i]]).length ≤ i + 1 := by simp; omega
          clear ho7 hg7
          go_wp2
          go_roundw
          case rel => exact ⟨i + 1, acc ++ [s[i]], by omega, by go_num, hal, HO7, HB7, HXX⟩
          case measure => simp [intOf]; omega
        | false =>
          have HIS : Hid (Calls Tryz.prog 18 #[.int .i64 9, .int .u8 (s[i].toNat : Int)] wr fun e w' => e = .returned (.bool false) ∧ w' = wr) := by
            have := is_any 9 (s[i].toNat : Int) wr (HT.out wr KB.out)
            have e : isB 9 (s[i].toNat : Int) = false := hx
            rw [e] at this
            exact this
          have HXX : Hid (X = .bad (i + 0)) := by
            show _ = _
            rw [HX.out, unx_no _ _ hil h43 hx]
            rfl
          clear HX h43 hx HLL HO
          go_wp2_with (first
            | (go_at_call 18; refine HIS.out.mono ?_; rintro e w' ⟨rfl, rfl⟩)
            | (refine wpList_store_row rfl 28 _ _ rfl w.heap.size rfl _ #[.int .i64 104, .int .i64 (i : Int)] rfl 28 HL.out infoSp rfl (by simp [Value.oneCell']) rfl ?_))
          refine bodyPost_ret (res_vc (p := 2) (r := 3) (by kernel_rfl) _ _ w.heap.size #[.int .i64 104, .int .i64 (i : Int)] _ (.string ⟨#[]⟩) rfl rfl (HL.out.row _) Tryz.underlying28 rfl infoSp) rfl ⟨by rw [HXX.out, uxV]; rfl, below_row KB.out (Nat.le_refl _) _⟩
    · have hlt' : ¬ (i : Int) < (s.size : Int) := by omega
      have HXX : Hid (X = .ok acc) := by
        show _ = _
        rw [HX.out, unx_end _ _ (by rw [HLL.out]; omega)]
        show Ux.ok (acc ++ []) = _
        rw [List.append_nil]
      have hback := own_tx HO.out
      clear HX HLL
      go_wp2_with (refine wpList_store_row rfl 28 _ _ rfl w.heap.size rfl _ #[.int .i64 0, .int .i64 0] rfl 28 HL.out infoSp rfl (by simp [Value.oneCell']) rfl ?_)
      refine bodyPost_ret (res_vc (p := 2) (r := 3) (by kernel_rfl) _ _ w.heap.size #[.int .i64 0, .int .i64 0] _ (.string (tx acc)) rfl rfl (HL.out.row _) Tryz.underlying28 rfl infoSp) rfl ⟨by rw [HXX.out, uxV], below_row KB.out (Nat.le_refl _) _⟩
end Go.Proofs.YtjpmfgmoekpcpabGreatDoor
