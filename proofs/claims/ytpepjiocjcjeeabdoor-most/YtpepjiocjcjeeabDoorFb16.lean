/-
  The folds of a text, one by one.
-/
import Derived.Test.YtpepjiocjcjeeabDoorFa16
import Derived.Test.YtpepjiocjcjeeabDoorRv16
import Derived.Test.YtpepjiocjcjeeabDoorBx7
namespace Go.Proofs.YtpepjiocjcjeeabDoor
open Go.RowKit Go.Shelf

attribute [local go_sem] Oper.semAt_some

/-- Blocks of G lie as they lay. -/
structure Kg (G : Nat → Prop) (W W' : World) : Prop where
  size : W.heap.size ≤ W'.heap.size
  same : ∀ (k : Nat) (o : Obj), G k → W.heap[k]? = some o → o.isCells = true → W'.heap[k]? = some o
theorem Kg.refl (G : Nat → Prop) (W : World) : Kg G W W := ⟨Nat.le_refl _, fun _ _ _ h _ => h⟩
theorem Kg.trans {G : Nat → Prop} {A B C : World} (h : Kg G A B) (k : Kg G B C) : Kg G A C := ⟨Nat.le_trans h.size k.size, fun i o hi ho hc => k.same i o hi (h.same i o hi ho hc) hc⟩
theorem Kg.book (G : Nat → Prop) (W : World) (l : Nat) (o o' : Obj) (hl : W.heap[l]? = some o) (ho : o.isCells = false) : Kg G W (W.putObj l o') :=
  ⟨(grownBy_putObj' W l o').size, fun k ob _ hk hc => by
    refine (World.putObj_heap_other (fun e => ?_)).trans hk
    subst e
    rw [hl] at hk
    cases hk
    rw [ho] at hc
    cases hc⟩
theorem Kg.of_chg {G F : Nat → Prop} {W W' : World} (h : Chg F W W') (hF : ∀ k, F k → ¬ G k) : Kg G W W' :=
  ⟨h.size, fun k _ hk ho _ => (h.block k (Array.getElem?_eq_some_iff.1 ho).1 (fun f => hF k f hk)).trans ho⟩
theorem Kg.lies {G : Nat → Prop} {W W' : World} (h : Kg G W W') {g t : Nat} {cs : Array Value} (hl : Lies W g cs t) (hg : G g) : Lies W' g cs t := h.same g _ hg hl rfl

theorem fps_split (l : List UInt8) (k : Nat) (hk : k < l.length) (hf : fdH (l.drop k) = true) : ∃ h : (fps l k).length < (fps l l.length).length, (fps l l.length)[(fps l k).length] = k ∧ (fps l (k + 1)).length = (fps l k).length + 1 := by
  have h1 : fps l (k + 1) = fps l k ++ [k] := by rw [fps_succ, if_pos hf]
  obtain ⟨t, ht⟩ := fps_pre l (k + 1) l.length hk
  have hlt : (fps l k).length < (fps l l.length).length := by rw [ht, h1]; simp
  refine ⟨hlt, ?_, by rw [h1]; simp⟩
  have : (fps l l.length)[(fps l k).length]? = some k := by rw [ht, h1]; simp
  rw [List.getElem?_eq_getElem hlt] at this
  exact Option.some.inj this
/-- What the loop over the folds is handed. -/
def vsF (l : List UInt8) : List (Array Value) := (fps l l.length).map fun (p : Nat) => #[Value.int .i64 (p : Int)]
set_option maxRecDepth 100000 in
set_option maxHeartbeats 2000000 in
theorem folds_in (s : ByteArray) (hs : s.size ≤ 140737488355328) (lp g n : Nat) (hn : 1 ≤ n) (J Jx : Nat → World → Prop) (W : World)
    (hY : ∀ (k : Nat) (hk : k < (vsF s.data.toList).length) (W1 : World), J k W1 → YieldAt Fence.wide (n - 1) Tryd.prog lp (vsF s.data.toList)[k] W1 fun e W' => (e = .returned (.bool true) ∧ J (k + 1) W' ∧ Kg (· = g) W1 W') ∨ (e = .returned (.bool false) ∧ Jx (k + 1) W'))
    (hb : Lies W g #[.string s] 9) (h0 : J 0 W) :
    CallsIn Fence.wide n Tryd.prog 49 #[.func (.yield lp) #[] #[], .pointer (some ⟨g, 0, none⟩)] W fun e W' => (∃ v, e = .returned v) ∧ (J (vsF s.data.toList).length W' ∨ ∃ k, k ≤ (vsF s.data.toList).length ∧ Jx k W') := by
  have hsI : (s.size : Int) ≤ 140737488355328 := by omega
  have HY : Hid (∀ (k : Nat) (hk : k < (vsF s.data.toList).length) (W1 : World), J k W1 → YieldAt Fence.wide (n - 1) Tryd.prog lp (vsF s.data.toList)[k] W1 fun e W' => (e = .returned (.bool true) ∧ J (k + 1) W' ∧ Kg (· = g) W1 W') ∨ (e = .returned (.bool false) ∧ Jx (k + 1) W')) := hY
  have H0 : Hid (J 0 W) := h0
  have HB : Hid (Lies W g #[.string s] 9) := hb
  clear hY h0 hb
  refine callsIn_of_wp Tryd.func49 rfl trivial ?_ rfl
  simp only [Tryd.ntmps49, List.size_toArray, List.length_cons, List.length_nil, Nat.reduceAdd, Nat.reduceSub, Array.replicate_succ, Array.replicate_zero, List.push_toArray, List.append_toArray, List.nil_append, List.cons_append]
  gi_wp2
  gi_loopw [3] (fun iv wr => ∃ k : Nat, k ≤ s.size ∧ iv = .int .i64 (k : Int) ∧ Hid (J (fps s.data.toList k).length wr) ∧ Hid (Lies wr g #[.string s] 9)) (fun iv _ => s.size - (intOf iv).toNat)
  case atStart => exact ⟨0, Nat.zero_le _, rfl, H0.out, HB.out⟩
  case round =>
    obtain ⟨k, hk, rfl, HJ, HL⟩ := hrel
    clear H0 HB
    have c0 := HL.out.cell 0
    rw [show (#[Value.string s] : Array Value)[0]? = some (.string s) from rfl] at c0
    by_cases hlt : k + 2 < s.size
    · have hki : (k : Int) + 2 < (s.size : Int) := by omega
      have e1 : IntKind.i64.wrap ((k : Int) + 2) = (k : Int) + 2 := by rw [IntKind.wrap_i64]; omega
      have e2 : IntKind.i64.wrap ((k : Int) + 1) = (k : Int) + 1 := by rw [IntKind.wrap_i64]; omega
      have HLE : Hid (∀ wx, Calls Tryd.prog 46 #[.string s, .int .i64 (k : Int)] wx fun e w' => e = .returned (.bool (leH (s.data.toList.drop k))) ∧ w' = wx) := fun wx => les_any s k (by omega) (by omega) wx
      have HIB : Hid (∀ wx, Calls Tryd.prog 40 #[.int .u8 (s[k + 2].toNat : Int)] wx fun e w' => e = .returned (.bool (blB s[k + 2])) ∧ w' = wx) := fun wx => isb_any _ wx
      have HFD : Hid (fdH (s.data.toList.drop k) = (leH (s.data.toList.drop k) && blB s[k + 2])) := by
        rw [fdH_at, List.getElem?_eq_getElem (by rw [len_list]; exact hlt)]
        rfl
      have HNO : Hid (fdH (s.data.toList.drop k) = false → fps s.data.toList (k + 1) = fps s.data.toList k) := fun h => by rw [fps_succ, h]; simp
      have HYS : Hid (fdH (s.data.toList.drop k) = true → _) := fun h => fps_split s.data.toList k (by rw [len_list]; omega) h
      generalize leH (s.data.toList.drop k) = b1 at *
      generalize blB s[k + 2] = b2 at *
      cases b1 with
      | false =>
        have HN1 : Hid (fps s.data.toList (k + 1) = fps s.data.toList k) := HNO.out HFD.out
        clear HYS HNO HFD HY
        gi_wp2_with fail
        refine ⟨trivial, ?_⟩
        refine (callsIn_wide.2 (HLE.out _)).mono ?_
        rintro e w1 ⟨rfl, rfl⟩
        gi_wp2_with fail
        refine ⟨trivial, ?_⟩
        gi_wp2_with fail
        refine ⟨fun _ h => (by cases h), ?_⟩
        gi_wp2_with fail
        go_roundw
        case rel => exact ⟨k + 1, by omega, by go_num, by rw [HN1.out]; exact HJ.out, HL.out⟩
        case measure => simp [intOf]; omega
      | true =>
        cases b2 with
        | false =>
          have HN1 : Hid (fps s.data.toList (k + 1) = fps s.data.toList k) := HNO.out HFD.out
          clear HYS HNO HFD HY
          gi_wp2_with fail
          refine ⟨trivial, ?_⟩
          refine (callsIn_wide.2 (HLE.out _)).mono ?_
          rintro e w1 ⟨rfl, rfl⟩
          gi_wp2_with fail
          refine ⟨trivial, ?_⟩
          refine (callsIn_wide.2 (HIB.out _)).mono ?_
          rintro e w1 ⟨rfl, rfl⟩
          gi_wp2_with fail
          refine ⟨fun _ h => (by cases h), ?_⟩
          gi_wp2_with fail
          go_roundw
          case rel => exact ⟨k + 1, by omega, by go_num, by rw [HN1.out]; exact HJ.out, HL.out⟩
          case measure => simp [intOf]; omega
        | true =>
          obtain ⟨hi1, hi2, hi3⟩ := HYS.out HFD.out
          have hi4 : (fps s.data.toList k).length < (vsF s.data.toList).length := by unfold vsF; rw [List.length_map]; exact hi1
          have hv : (vsF s.data.toList)[(fps s.data.toList k).length] = #[.int .i64 (k : Int)] := by
            have h5 : (vsF s.data.toList)[(fps s.data.toList k).length]? = some #[.int .i64 (k : Int)] := by
              unfold vsF
              rw [List.getElem?_map, List.getElem?_eq_getElem hi1, hi2]
              rfl
            rw [List.getElem?_eq_getElem hi4] at h5
            exact Option.some.inj h5
          obtain ⟨fn, tmps, assign, body, hy, hR⟩ := HY.out _ hi4 wr HJ.out
          rw [hv] at hy
          have HI3 : Hid ((fps s.data.toList (k + 1)).length = (fps s.data.toList k).length + 1) := hi3
          have HI4 : Hid ((fps s.data.toList k).length < (vsF s.data.toList).length) := hi4
          clear hi1 hi2 hi3 hi4 hv HYS HNO HFD
          gi_wp2_with fail
          refine ⟨trivial, ?_⟩
          refine (callsIn_wide.2 (HLE.out _)).mono ?_
          rintro e w1 ⟨rfl, rfl⟩
          gi_wp2_with fail
          refine ⟨trivial, ?_⟩
          refine (callsIn_wide.2 (HIB.out _)).mono ?_
          rintro e w1 ⟨rfl, rfl⟩
          gi_wp2_with fail
          refine hR.mono ?_
          rintro e W3 (⟨rfl, hJ3, hk3⟩ | ⟨rfl, hJx3⟩)
          · have HJ3 : Hid (J ((fps s.data.toList k).length + 1) W3) := hJ3
            have HL3 : Hid (Lies W3 g #[.string s] 9) := hk3.lies HL.out rfl
            clear hk3 hJ3
            gi_wp2
            go_roundw
            case rel => exact ⟨k + 1, by omega, by go_num, by rw [HI3.out]; exact HJ3.out, HL3.out⟩
            case measure => simp [intOf]; omega
          · gi_wp2
            refine bodyPost_ret (results_none rfl _ _ _) rfl ?_
            exact ⟨⟨_, rfl⟩, .inr ⟨_, HI4.out, hJx3⟩⟩
    · have hki : ¬ (k : Int) + 2 < (s.size : Int) := by omega
      have e1 : IntKind.i64.wrap ((k : Int) + 2) = (k : Int) + 2 := by rw [IntKind.wrap_i64]; omega
      have HE : Hid ((fps s.data.toList k).length = (vsF s.data.toList).length) := by
        unfold vsF
        rw [List.length_map, fps_end s.data.toList k (by rw [len_list]; omega) s.data.toList.length (by rw [len_list]; exact hk)]
        exact rfl
      gi_wp2
      go_end0
      exact ⟨⟨_, rfl⟩, .inl (by rw [← HE.out]; exact HJ.out)⟩
theorem folds_seq (s : ByteArray) (hs : s.size ≤ 140737488355328) (g n : Nat) (hn : 1 ≤ n) (w : World) (h : Lies w g #[.string s] 9) : SeqL n Tryd.prog 49 #[.pointer (some ⟨g, 0, none⟩)] (vsF s.data.toList) (Kg (· = g)) w :=
  fun lp J Jx W hW _ hY h0 => folds_in s hs lp g n hn J Jx W hY (h.below hW h.lt) h0
theorem fols_any (s : ByteArray) (w : World) : Calls Tryd.prog 36 #[.string s] w fun e w' => e = .returned (.func (.func 49) #[] #[.pointer (some ⟨w.heap.size, 0, none⟩)]) ∧ w' = w.alloc (.cells #[.string s] 9) := by
  go_enter Tryd.func36, Tryd.ntmps36
  go_wp2
  go_ret
  exact ⟨rfl, rfl⟩
end Go.Proofs.YtpepjiocjcjeeabDoor
