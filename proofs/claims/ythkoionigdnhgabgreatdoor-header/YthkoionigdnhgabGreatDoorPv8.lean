/-
  The contract of domain.PrintV4.
-/
import Derived.Test.YthkoionigdnhgabGreatDoorDecm8
import Derived.Test.YthkoionigdnhgabGreatDoorShs
import Derived.Test.YthkoionigdnhgabGreatDoorZr8
namespace Go.Proofs.YthkoionigdnhgabGreatDoor
open Go.RowKit

theorem PowTab.below {w w' : World} (h : PowTab w) (hb : Below w.heap.size w w') : PowTab w' := Lib.tabBelow_of_tabIs h w' hb
theorem dec_decD : ∀ n : Fin 256, Lib.decDigits n.val = decD n.val := by decide +kernel
theorem join_joinL (sep : List UInt8) : ∀ L : List (List UInt8), Lib.join L sep = joinL sep L
  | [] => rfl
  | [x] => Lib.join_one x sep
  | x :: y :: r => by
    have := join_joinL sep (y :: r)
    rw [joinL, ← this]
    unfold Lib.join
    simp [List.intercalate]
theorem run_index_four (l : List Nat) (hl : l.length = 4) (k : Nat) (hk : k < l.length) (w : World) : (Instr.index 128 (.agg (bytesV l)) (.int .i64 (k : Int))).run Tryz.prog w = .ok (.int .u8 (l[k] : Nat)) w := by
  have h5 : (Tryz.prog.info? 5).map (·.size) = some 1 := by kernel_rfl
  cases hq : Tryz.prog.info? 5 with
  | none => simp [hq] at h5
  | some i =>
    have hs : i.size = 1 := by simpa [hq] using h5
    have hat := bytesV_at l k hk
    simp [Instr.index, asIntOf, run_underlying Tryz.underlying128, run_underlying Tryz.underlying5, sizeOf, typeInfo, hq, hs, part, isAgg, hat]
    intro h
    omega
theorem strsV_set (L : List (List UInt8)) (k : Nat) (x : List UInt8) : (strsV L).setIfInBounds k (.string ⟨x.toArray⟩) = strsV (L.set k x) := by
  unfold strsV
  rw [List.setIfInBounds_toArray, List.map_set]
/-- The blocks of PrintV4, PrintV6: the texts so far. -/
structure PtS (w : World) (n t : Nat) (L : List (List UInt8)) (wr : World) : Prop where
  s : Lies wr (w.heap.size + 1) (strsV (L ++ List.replicate (n - L.length) [])) t
  below : Below w.heap.size w wr
theorem PtS.later {w wr wx : World} {n t : Nat} {L : List (List UInt8)} (h : PtS w n t L wr) (hb : Below wr.heap.size wr wx) : PtS w n t L wx :=
  ⟨h.s.below hb h.s.lt, h.below.trans (hb.mono (Nat.le_of_lt (Nat.lt_of_succ_lt h.s.lt)))⟩
theorem PtS.put {w wr : World} {n t : Nat} {L : List (List UInt8)} (h : PtS w n t L wr) (hl : L.length < n) (x : List UInt8) : PtS w n t (L ++ [x]) (wr.setCell ⟨w.heap.size + 1, L.length, none⟩ (.string ⟨x.toArray⟩)) := by
  refine ⟨?_, h.below.setCell (p := ⟨w.heap.size + 1, L.length, none⟩) (by show w.heap.size ≤ w.heap.size + 1; omega) _⟩
  have := h.s.set L.length (.string ⟨x.toArray⟩)
  rw [strsV_set] at this
  have e : (L ++ List.replicate (n - L.length) []).set L.length x = L ++ [x] ++ List.replicate (n - (L ++ [x]).length) [] := by
    rw [List.set_append_right _ _ (Nat.le_refl _), Nat.sub_self, show n - L.length = n - (L ++ [x]).length + 1 from by simp; omega, List.replicate_succ, List.set_cons_zero]
    simp
  rw [e] at this
  exact this
theorem PtS.cell {w wr : World} {n t : Nat} {L : List (List UInt8)} (h : PtS w n t L wr) (hl : L.length < n) : ∃ v, wr.cell? ⟨w.heap.size + 1, L.length, none⟩ = some v :=
  ⟨_, (h.s.cell L.length).trans (strsV_at _ _ (by simp; omega))⟩
theorem Lies.texts {w : World} {b t : Nat} {L : List (List UInt8)} (h : Lies w b (strsV L) t) (o : Nat) : ∀ (j : Nat) x, ((L.drop o).map fun l => (⟨l.toArray⟩ : ByteArray))[j]? = some x → w.cell? ⟨b, o + j, none⟩ = some (.string x) := fun j x hx => by
  rw [h.cell]
  unfold strsV
  rw [List.getElem?_map, List.getElem?_drop] at hx
  rw [List.getElem?_toArray, List.getElem?_map]
  cases hl : L[o + j]? with
  | none => rw [hl] at hx; cases hx
  | some y =>
    rw [hl] at hx
    injection hx with hx
    rw [← hx]
    rfl
theorem texts_back (L : List (List UInt8)) : (L.map fun l => (⟨l.toArray⟩ : ByteArray)).map (·.data.toList) = L := by
  rw [List.map_map]
  conv => rhs; rw [← List.map_id L]
  rfl
/-- strings.Join of some of the texts. -/
theorem join_some {w : World} {b t : Nat} {L : List (List UInt8)} (h : Lies w b (strsV L) t) (o n c : Nat) (sep : ByteArray) (hn : o + n ≤ L.length) (hc : n ≤ c) (hlen : (joinL sep.data.toList ((L.drop o).take n)).length ≤ 140737488355328) (hL : L.length ≤ 1000000) :
    Calls Tryz.prog 129 #[.slice (some ⟨b, o, none⟩) n c, .string sep] w fun e w' => e = .returned (.string ⟨(joinL sep.data.toList ((L.drop o).take n)).toArray⟩) ∧ Below w.heap.size w w' := by
  have hl : (((L.drop o).take n).map fun l => (⟨l.toArray⟩ : ByteArray)).length = n := by simp; omega
  have := Tryz.strings_Join b o c (((L.drop o).take n).map fun l => (⟨l.toArray⟩ : ByteArray)) sep w (fun j x hx => ?_) h.lt (by rw [hl]; omega) (by rw [hl]; exact hc) (by rw [texts_back, join_joinL]; exact hlen)
  · rw [texts_back, join_joinL, hl] at this
    exact this
  · refine h.texts o j x ?_
    rw [List.map_take, List.getElem?_take] at hx
    split at hx
    · exact hx
    · cases hx

set_option maxHeartbeats 4000000 in
set_option maxRecDepth 100000 in
theorem printv4_any (a : List Nat) (ha : a.length = 4) (hb : ∀ x ∈ a, x < 256) (w : World) (hp : PowTab w) : Calls Tryz.prog 110 #[.agg (bytesV a)] w fun e w' => e = .returned (.string ⟨(print4 a).toArray⟩) ∧ Below w.heap.size w w' := by
  have HL : Hid (a.length = 4) := ha
  have HX : Hid (∀ x ∈ a, x < 256) := hb
  have HP : Hid (∀ wx, Below w.heap.size w wx → PowTab wx) := fun wx hb => hp.below hb
  have hsz : (bytesV a).size = 4 := by rw [bytesV_size, ha]
  have HA : Hid (Lies ((w.alloc (.cells (bytesV a) 128)).alloc (.cells (strsV (List.replicate 4 [])) 203)) w.heap.size (bytesV a) 128) := (Lies.new w _ _).alloc _
  have H0 : Hid (PtS w 4 203 [] ((w.alloc (.cells (bytesV a) 128)).alloc (.cells (strsV (List.replicate 4 [])) 203))) := ⟨new_one w _ _ _, ((Below.refl _ _).alloc (Nat.le_refl _) _).alloc (by simp) _⟩
  have HIX : Hid (∀ (k : Nat) (hk : k < a.length) (w : World), (Instr.index 128 (.agg (bytesV a)) (.int .i64 (k : Int))).run Tryz.prog w = .ok (.int .u8 (a[k] : Nat)) w) := run_index_four a ha
  clear ha hb hp
  go_enter Tryz.func110, Tryz.ntmps110
  go_wp2_with (refine wpList_load_row rfl 128 _ rfl w.heap.size rfl (bytesV a) 128 _ HA.out Tryz.underlying128 rfl (by rw [hsz]; exact info4) ?_)
  go_loopw [7] (fun c wr => ∃ i : Nat, i ≤ 4 ∧ c = .int .i64 i ∧ Hid (PtS w 4 203 ((a.take i).map decD) wr)) (fun c _ => 4 - (intOf c).toNat)
  case atStart => exact ⟨0, by omega, rfl, H0⟩
  case round =>
    obtain ⟨i, hi, rfl, HS⟩ := hrel
    clear H0 HA
    by_cases hlt : i < 4
    · have hil : i < a.length := by rw [HL.out]; exact hlt
      have hlt' : (i : Int) < 4 := by omega
      have hix := HIX.out i hil
      have hx : a[i] < 256 := HX.out _ (List.getElem_mem hil)
      have HM : Hid ((a.take (i + 1)).map decD = (a.take i).map decD ++ [decD a[i]]) := by
        show _ = _
        rw [List.take_succ_eq_append_getElem hil, List.map_append]
        rfl
      have hdl := dec_decD ⟨a[i], hx⟩
      dsimp only at hdl
      generalize a[i] = x at hix hx HM hdl
      have hl : ((a.take i).map decD).length = i := by rw [List.length_map, List.length_take]; omega
      generalize (a.take i).map decD = L at HS HM hl
      subst hl
      have hx' : (x : Int) < 256 := by omega
      go_wp2_with fail
      refine (decm_any x (by omega) _ (HP.out _ HS.out.below)).mono ?_
      rintro e w2 ⟨rfl, hb2⟩
      rw [hdl]
      have HS2 := HS.out.later hb2
      obtain ⟨v, hv⟩ := HS2.cell hlt
      have hf := HS2.s.frozen L.length
      have hz := HS2.s.lt
      have HN : Hid (PtS w 4 203 ((a.take (L.length + 1)).map decD) (w2.setCell ⟨w.heap.size + 1, L.length, none⟩ (.string ⟨(decD x).toArray⟩))) := by
        have := HS2.put hlt (decD x)
        rw [← HM.out] at this
        exact this
      clear hb2 HS2 HS HM hix
      generalize decD x = d at HN ⊢
      go_wp2_with fail
      go_roundw
      case rel => exact ⟨L.length + 1, by omega, by go_num, HN⟩
      case measure => simp [intOf]; omega
    · obtain rfl : i = 4 := by omega
      have HSL : Hid (Lies wr (w.heap.size + 1) (strsV (a.map decD)) 203) := by
        have := HS.out.s
        rw [List.take_of_length_le (by rw [HL.out]; omega), List.length_map, HL.out, Nat.sub_self, List.replicate_zero, List.append_nil] at this
        exact this
      have hlm : (a.map decD).length = 4 := by rw [List.length_map, HL.out]
      have hpl : (print4 a).length ≤ 140737488355328 := by
        have := HL.out
        have h3 : ∀ n, (decD n).length ≤ 3 := fun n => by
          unfold decD
          split
          · simp
          · split <;> simp
        match a, this with
        | [p, q, r, s], _ =>
          have := h3 p
          have := h3 q
          have := h3 r
          have := h3 s
          simp [print4, joinL]
          omega
      have HJ : Hid (Calls Tryz.prog 129 #[.slice (some ⟨w.heap.size + 1, 0, none⟩) 4 4, .string ⟨#[46]⟩] wr fun e w' => e = .returned (.string ⟨(print4 a).toArray⟩) ∧ Below wr.heap.size wr w') := by
        have := join_some HSL.out 0 4 4 ⟨#[46]⟩ (by omega) (by omega) (by rw [List.drop_zero, List.take_of_length_le (by omega)]; exact hpl) (by omega)
        rw [List.drop_zero, List.take_of_length_le (by omega)] at this
        exact this
      have HB := HS.out.below
      have hz := HS.out.s.lt
      obtain ⟨pa, hpa⟩ : ∃ pa, (print4 a).toArray = pa := ⟨_, rfl⟩
      have HPA : Hid ((print4 a).toArray = pa) := hpa
      rw [hpa] at HJ
      clear hpl HSL HS hpa
      go_wp2_with (go_at_call 129; refine HJ.out.mono ?_; rintro e w2 ⟨rfl, hb2⟩)
      go_ret
      refine ⟨by rw [HPA.out]; rfl, HB.trans (Below.mono ?_ (Nat.le_of_lt (Nat.lt_of_succ_lt hz)))⟩
      assumption
end Go.Proofs.YthkoionigdnhgabGreatDoor
