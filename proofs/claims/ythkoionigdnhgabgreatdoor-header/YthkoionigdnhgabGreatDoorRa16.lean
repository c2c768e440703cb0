/-
  Rows of a text: rowEnd, isFold, rows.
-/
import Derived.Test.YthkoionigdnhgabGreatDoorFb16
import Derived.Test.YthkoionigdnhgabGreatDoorOpH18
namespace Go.Proofs.YthkoionigdnhgabGreatDoor
open Go.RowKit Go.Shelf

attribute [local go_sem] Oper.semAt_some

theorem u8nv {c n : UInt8} {m : Int} (h : c = n) (hm : m = (n.toNat : Int) := by rfl) : ((c.toNat : Int) != m) = false := by rw [bne, u8v h hm]; rfl
theorem u8nw {c n : UInt8} {m : Int} (h : ¬ c = n) (hm : m = (n.toNat : Int) := by rfl) : ((c.toNat : Int) != m) = true := by rw [bne, u8w h hm]; rfl
set_option maxHeartbeats 2000000 in
theorem fres_any (s : ByteArray) (a : Nat) (hs : s.size ≤ 281474976710656) (ha : a ≤ s.size) (w : World) : Calls Tryz.prog 161 #[.string s, .int .i64 (a : Int)] w fun e w' => e = .returned (.int .i64 (rwE s.data.toList a : Int)) ∧ w' = w := by
  have hsI : (s.size : Int) ≤ 281474976710656 := by omega
  go_enter Tryz.func161, Tryz.ntmps161
  go_wp2_with fail
  go_loopw [5] (fun iv wr => ∃ k : Nat, k ≤ s.size ∧ iv = .int .i64 (k : Int) ∧ wr = w ∧ Hid (rwE s.data.toList a = rwE s.data.toList k)) (fun iv _ => s.size - (intOf iv).toNat)
  case atStart => exact ⟨a, ha, rfl, rfl, rfl⟩
  case round =>
    obtain ⟨k, hk, rfl, rfl, HE⟩ := hrel
    by_cases hlt : k < s.size
    · have hki : (k : Int) < (s.size : Int) := by omega
      have HH : Hid (crB s[k] = true → rwE s.data.toList k = k) := fun h => rwE_hit _ _ (by rw [len_list]; exact hlt) h
      have HO : Hid (crB s[k] = false → rwE s.data.toList k = rwE s.data.toList (k + 1)) := fun h => rwE_on _ _ (by rw [len_list]; exact hlt) h
      by_cases h13 : s[k] = 13
      · have k13 := u8nv (m := 13) h13
        have HR : Hid (rwE s.data.toList a = k) := HE.out.trans (HH.out (by rw [h13]; rfl))
        clear HE HH HO h13
        go_wp2_with fail
        go_ret
        exact ⟨by rw [HR.out]; rfl, rfl⟩
      · have k13 := u8nw (m := 13) h13
        by_cases h10 : s[k] = 10
        · have k10 := u8nv (m := 10) h10
          have HR : Hid (rwE s.data.toList a = k) := HE.out.trans (HH.out (by rw [h10]; rfl))
          clear HE HH HO h13 h10
          go_wp2_with fail
          go_ret
          exact ⟨by rw [HR.out]; rfl, rfl⟩
        · have k10 := u8nw (m := 10) h10
          have HR : Hid (rwE s.data.toList a = rwE s.data.toList (k + 1)) := HE.out.trans (HO.out (by unfold crB; simp [h13, h10]))
          clear HE HH HO h13 h10
          go_wp2_with fail
          go_roundw
          case rel => exact ⟨k + 1, by omega, by go_num, trivial, HR.out⟩
          case measure => simp [intOf]; omega
    · obtain rfl : k = s.size := by omega
      have HR : Hid (rwE s.data.toList a = s.size) := HE.out.trans (rwE_end _ _ (by rw [len_list]; exact Nat.le_refl _))
      go_wp2_with fail
      go_ret
      exact ⟨by rw [HR.out]; rfl, rfl⟩
set_option maxHeartbeats 2000000 in
theorem fisfs_any (s : ByteArray) (hs : s.size ≤ 281474976710656) (w : World) : Calls Tryz.prog 128 #[.string s] w fun e w' => e = .returned (.bool (fldB s.data.toList)) ∧ w' = w := by
  have hsI : (s.size : Int) ≤ 281474976710656 := by omega
  by_cases h0 : 0 < s.size
  · have HIB : Hid (∀ (k : Nat) (hk : k < s.size) wx, Calls Tryz.prog 58 #[.int .u8 (s[k].toNat : Int)] wx fun e w' => e = .returned (.bool (blB s[k])) ∧ w' = wx) := fun k hk wx => isb_any _ wx
    have HF : Hid (fldB s.data.toList = (blB s[0] && s.data.toList.any fun c => !blB c)) := by
      have e : s.data.toList = s[0] :: s.data.toList.drop 1 := by
        have := List.drop_eq_getElem_cons (l := s.data.toList) (i := 0) (by rw [len_list]; exact h0)
        rw [List.drop_zero] at this
        exact this
      show fldB s.data.toList = _
      unfold fldB
      congr 1
      rw [e]
    have hz : ((s.size : Int) == 0) = false := by rw [beq_eq_false_iff_ne]; omega
    have hne : ¬ s = ByteArray.empty := fun e => by rw [e] at h0; cases h0
    cases hb : blB s[0] with
    | false =>
      have HF2 : Hid (fldB s.data.toList = false) := by rw [HF.out, hb]; rfl
      have HI0 := HIB.out 0 h0
      rw [hb] at HI0
      clear HF hb HIB
      go_enter Tryz.func128, Tryz.ntmps128
      go_wp2_with (go_at_call 58; refine (HI0 _).mono ?_; rintro e w1 ⟨rfl, rfl⟩)
      go_ret
      exact ⟨by rw [HF2.out]; rfl, rfl⟩
    | true =>
      have HF2 : Hid (fldB s.data.toList = s.data.toList.any fun c => !blB c) := by rw [HF.out, hb]; rfl
      have HI0 := HIB.out 0 h0
      rw [hb] at HI0
      clear HF hb
      go_enter Tryz.func128, Tryz.ntmps128
      go_wp2_with (go_at_call 58; refine (HI0 _).mono ?_; rintro e w1 ⟨rfl, h1⟩; rw [h1]; clear h1 w1)
      go_loopw [3, 15] (fun _ iv wr => ∃ k : Nat, k ≤ s.size ∧ iv = .int .i64 (k : Int) ∧ wr = w ∧ Hid ((s.data.toList.any fun c => !blB c) = (s.data.toList.drop k).any fun c => !blB c)) (fun _ iv _ => s.size - (intOf iv).toNat)
      case atStart => exact ⟨0, Nat.zero_le _, rfl, rfl, rfl⟩
      case round =>
        obtain ⟨k, hk, rfl, rfl, HE⟩ := hrel
        clear HI0
        by_cases hlt : k < s.size
        · have hki : (k : Int) < (s.size : Int) := by omega
          have HE2 : Hid ((s.data.toList.any fun c => !blB c) = (!blB s[k] || (s.data.toList.drop (k + 1)).any fun c => !blB c)) := by
            rw [HE.out, List.drop_eq_getElem_cons (show k < s.data.toList.length by rw [len_list]; exact hlt), List.any_cons]
            exact rfl
          have HIK := HIB.out k hlt
          clear HE HIB
          generalize blB s[k] = b at *
          cases b with
          | true =>
            go_wp2_with (go_at_call 58; refine (HIK _).mono ?_; rintro e w1 ⟨rfl, rfl⟩)
            go_roundw
            case rel => exact ⟨k + 1, by omega, by go_num, trivial, HE2.out⟩
            case measure => simp [intOf]; omega
          | false =>
            have HT : Hid (fldB s.data.toList = true) := by rw [HF2.out, HE2.out]; rfl
            go_wp2_with (go_at_call 58; refine (HIK _).mono ?_; rintro e w1 ⟨rfl, rfl⟩)
            go_ret
            exact ⟨by rw [HT.out]; rfl, rfl⟩
        · obtain rfl : k = s.size := by omega
          have HT : Hid (fldB s.data.toList = false) := by
            rw [HF2.out, HE.out, List.drop_eq_nil_of_le (by rw [len_list]; exact Nat.le_refl _)]
            exact rfl
          clear HIB
          go_wp2_with fail
          go_ret
          exact ⟨by rw [HT.out]; rfl, rfl⟩
  · have hz : ((s.size : Int) == 0) = true := by rw [beq_iff_eq]; omega
    have hne : s = ByteArray.empty := ByteArray.ext (Array.eq_empty_of_size_eq_zero (by have : s.data.size = s.size := rfl; omega))
    subst hne
    go_enter Tryz.func128, Tryz.ntmps128
    go_wp2_with fail
    go_ret
    exact ⟨rfl, rfl⟩
/-- What a loop over the rows is handed. -/
def vsR (l : List UInt8) : List (Array Value) := (rws l 0).map fun p => #[Value.int .i64 (p.1 : Int), Value.int .i64 (p.2 : Int)]
theorem rws_split {l : List UInt8} {f : Nat} {pre : List (Nat × Nat)} (h : rws l 0 = pre ++ rws l f) : ∃ hk : pre.length < (vsR l).length, (vsR l)[pre.length] = #[.int .i64 (f : Int), .int .i64 (rwE l f : Int)] := by
  have hne : ∃ t, rws l f = (f, rwE l f) :: t := by
    cases hc : leH (l.drop (rwE l f)) with
    | true => exact ⟨_, rws_on l f hc⟩
    | false => exact ⟨_, rws_off l f hc⟩
  obtain ⟨t, ht⟩ := hne
  rw [ht] at h
  have hk : pre.length < (vsR l).length := by
    unfold vsR
    rw [h]
    simp
  refine ⟨hk, ?_⟩
  have h5 : (vsR l)[pre.length]? = some #[.int .i64 (f : Int), .int .i64 (rwE l f : Int)] := by
    unfold vsR
    rw [h]
    simp
  rw [List.getElem?_eq_getElem hk] at h5
  exact Option.some.inj h5
theorem rws_next {l : List UInt8} {f : Nat} {pre : List (Nat × Nat)} (h : rws l 0 = pre ++ rws l f) (hc : leH (l.drop (rwE l f)) = true) : rws l 0 = (pre ++ [(f, rwE l f)]) ++ rws l (rwE l f + 2) := by
  rw [h, rws_on l f hc]
  simp
theorem rws_last {l : List UInt8} {f : Nat} {pre : List (Nat × Nat)} (h : rws l 0 = pre ++ rws l f) (hc : leH (l.drop (rwE l f)) = false) : (vsR l).length = pre.length + 1 := by
  unfold vsR
  rw [h, rws_off l f hc]
  simp
set_option maxRecDepth 100000 in
set_option maxHeartbeats 2000000 in
theorem rowss_in (s : ByteArray) (hs : s.size ≤ 140737488355328) (lp g n : Nat) (hn : 1 ≤ n) (J Jx : Nat → World → Prop) (W : World)
    (hY : ∀ (k : Nat) (hk : k < (vsR s.data.toList).length) (W1 : World), J k W1 → YieldAt Fence.wide (n - 1) Tryz.prog lp (vsR s.data.toList)[k] W1 fun e W' => (e = .returned (.bool true) ∧ J (k + 1) W' ∧ Kg (· = g) W1 W') ∨ (e = .returned (.bool false) ∧ Jx (k + 1) W'))
    (hb : Lies W g #[.string s] 9) (h0 : J 0 W) :
    CallsIn Fence.wide n Tryz.prog 160 #[.func (.yield lp) #[] #[], .pointer (some ⟨g, 0, none⟩)] W fun e W' => (∃ v, e = .returned v) ∧ (J (vsR s.data.toList).length W' ∨ ∃ k, k ≤ (vsR s.data.toList).length ∧ Jx k W') := by
  have hsI : (s.size : Int) ≤ 140737488355328 := by omega
  have HY : Hid (∀ (k : Nat) (hk : k < (vsR s.data.toList).length) (W1 : World), J k W1 → YieldAt Fence.wide (n - 1) Tryz.prog lp (vsR s.data.toList)[k] W1 fun e W' => (e = .returned (.bool true) ∧ J (k + 1) W' ∧ Kg (· = g) W1 W') ∨ (e = .returned (.bool false) ∧ Jx (k + 1) W')) := hY
  have H0 : Hid (J 0 W) := h0
  have HB : Hid (Lies W g #[.string s] 9) := hb
  clear hY h0 hb
  refine callsIn_of_wp Tryz.func160 rfl trivial ?_ rfl
  simp only [Tryz.ntmps160, List.size_toArray, List.length_cons, List.length_nil, Nat.reduceAdd, Nat.reduceSub, Array.replicate_succ, Array.replicate_zero, List.push_toArray, List.append_toArray, List.nil_append, List.cons_append]
  gi_wp2
  gi_loopw [3, 4] (fun iv _ wr => ∃ (f : Nat) (pre : List (Nat × Nat)), f ≤ s.size ∧ iv = .int .i64 (f : Int) ∧ Hid (rws s.data.toList 0 = pre ++ rws s.data.toList f) ∧ Hid (J pre.length wr) ∧ Hid (Lies wr g #[.string s] 9)) (fun iv _ _ => s.size + 2 - (intOf iv).toNat)
  case atStart => exact ⟨0, [], Nat.zero_le _, rfl, rfl, H0.out, HB.out⟩
  case round =>
    obtain ⟨f, pre, hf, rfl, HP, HJ, HL⟩ := hrel
    clear H0 HB
    have c0 := HL.out.cell 0
    rw [show (#[Value.string s] : Array Value)[0]? = some (.string s) from rfl] at c0
    have HRE : Hid (∀ wx, Calls Tryz.prog 161 #[.string s, .int .i64 (f : Int)] wx fun e w' => e = .returned (.int .i64 (rwE s.data.toList f : Int)) ∧ w' = wx) := fun wx => fres_any s f (by omega) hf wx
    have hge := rwE_ge s.data.toList f
    have hle := rwE_le s.data.toList f (by rw [len_list]; exact hf)
    rw [len_list] at hle
    have HLE : Hid (∀ wx, Calls Tryz.prog 57 #[.string s, .int .i64 (rwE s.data.toList f : Int)] wx fun e w' => e = .returned (.bool (leH (s.data.toList.drop (rwE s.data.toList f)))) ∧ w' = wx) := fun wx => les_any s _ (by omega) (by omega) wx
    obtain ⟨hk, hv⟩ := rws_split HP.out
    obtain ⟨fn, tmps, assign, body, hy, hR⟩ := HY.out _ hk wr HJ.out
    rw [hv] at hy
    have HNX : Hid (leH (s.data.toList.drop (rwE s.data.toList f)) = true → rwE s.data.toList f + 2 ≤ s.size ∧ rws s.data.toList 0 = (pre ++ [(f, rwE s.data.toList f)]) ++ rws s.data.toList (rwE s.data.toList f + 2)) := fun h => ⟨by have := leH_lt _ _ h; rw [len_list] at this; omega, rws_next HP.out h⟩
    have HLS : Hid (leH (s.data.toList.drop (rwE s.data.toList f)) = false → (vsR s.data.toList).length = pre.length + 1) := fun h => rws_last HP.out h
    have HKL : Hid (pre.length < (vsR s.data.toList).length) := hk
    clear hk hv HP
    generalize leH (s.data.toList.drop (rwE s.data.toList f)) = b at *
    generalize rwE s.data.toList f = tz at *
    have e2 : IntKind.i64.wrap ((tz : Int) + 2) = (tz : Int) + 2 := by rw [IntKind.wrap_i64]; omega
    gi_wp2_with fail
    refine ⟨trivial, ?_⟩
    refine (callsIn_wide.2 (HRE.out _)).mono ?_
    rintro e w1 ⟨rfl, h1⟩
    rw [h1]
    clear h1 w1 HRE
    gi_wp2_with fail
    refine hR.mono ?_
    rintro e W3 (⟨rfl, hJ3, hk3⟩ | ⟨rfl, hJx3⟩)
    · have HJ3 : Hid (J (pre.length + 1) W3) := hJ3
      have HL3 : Hid (Lies W3 g #[.string s] 9) := hk3.lies HL.out rfl
      have c3 := HL3.out.cell 0
      rw [show (#[Value.string s] : Array Value)[0]? = some (.string s) from rfl] at c3
      clear hk3 hJ3
      cases b with
      | true =>
        obtain ⟨hto, hpre⟩ := HNX.out rfl
        have HPR : Hid (rws s.data.toList 0 = (pre ++ [(f, tz)]) ++ rws s.data.toList (tz + 2)) := hpre
        clear hpre HNX HLS
        gi_wp2_with fail
        refine ⟨trivial, ?_⟩
        refine (callsIn_wide.2 (HLE.out _)).mono ?_
        rintro e w1 ⟨rfl, h1⟩
        rw [h1]
        clear h1 w1
        gi_wp2_with fail
        go_roundw
        case rel => exact ⟨tz + 2, pre ++ [(f, tz)], hto, by go_num, HPR.out, by rw [List.length_append]; exact HJ3.out, HL3.out⟩
        case measure => simp [intOf]; omega
      | false =>
        have HE : Hid ((vsR s.data.toList).length = pre.length + 1) := HLS.out rfl
        clear HNX HLS
        gi_wp2_with fail
        refine ⟨trivial, ?_⟩
        refine (callsIn_wide.2 (HLE.out _)).mono ?_
        rintro e w1 ⟨rfl, h1⟩
        rw [h1]
        clear h1 w1
        gi_wp2_with fail
        refine bodyPost_ret (results_none rfl _ _ _) rfl ?_
        exact ⟨⟨_, rfl⟩, .inl (by rw [HE.out]; exact HJ3.out)⟩
    · gi_wp2_with fail
      refine ⟨trivial, ?_⟩
      gi_wp2_with fail
      refine bodyPost_ret (results_none rfl _ _ _) rfl ?_
      exact ⟨⟨_, rfl⟩, .inr ⟨_, HKL.out, hJx3⟩⟩
theorem rowss_seq (s : ByteArray) (hs : s.size ≤ 140737488355328) (g n : Nat) (hn : 1 ≤ n) (w : World) (h : Lies w g #[.string s] 9) : SeqL n Tryz.prog 160 #[.pointer (some ⟨g, 0, none⟩)] (vsR s.data.toList) (Kg (· = g)) w :=
  fun lp J Jx W hW _ hY h0 => rowss_in s hs lp g n hn J Jx W hY (h.below hW h.lt) h0
set_option maxRecDepth 100000 in
theorem rowss_any (s : ByteArray) (w : World) : Calls Tryz.prog 127 #[.string s] w fun e w' => e = .returned (.func (.func 160) #[] #[.pointer (some ⟨w.heap.size, 0, none⟩)]) ∧ w' = w.alloc (.cells #[.string s] 9) := by
  go_enter Tryz.func127, Tryz.ntmps127
  go_wp2
  go_ret
  exact ⟨rfl, rfl⟩
end Go.Proofs.YthkoionigdnhgabGreatDoor
