/-
  The contracts of domain.zeros, width and cut.
-/
import Derived.Test.YtnlgbopdbihnjabGreatDoorGa8
import Derived.Test.YtnlgbopdbihnjabGreatDoorWd8
import Derived.Test.YtnlgbopdbihnjabGreatDoorDecm8
import Derived.Test.YtnlgbopdbihnjabGreatDoorShs
namespace Go.Proofs.YtnlgbopdbihnjabGreatDoor
open Go.RowKit

def strsV (L : List (List UInt8)) : Array Value := (L.map fun x => Value.string ⟨x.toArray⟩).toArray
theorem info8s : (Tryz.prog.info? 66).map (·.size) = some 8 := by kernel_rfl
theorem strsV_at (L : List (List UInt8)) (k : Nat) (hk : k < L.length) : (strsV L)[k]? = some (.string ⟨(L[k]).toArray⟩) := by
  simp [strsV, List.getElem?_eq_getElem hk]
theorem strsV_size (L : List (List UInt8)) : (strsV L).size = L.length := by simp [strsV]
theorem run_index_strs (L : List (List UInt8)) (hl : L.length = 8) (k : Nat) (hk : k < L.length) (w : World) : (Instr.index 66 (.agg (strsV L)) (.int .i64 (k : Int))).run Tryz.prog w = .ok (.string ⟨(L[k]).toArray⟩) w := by
  have h9 : (Tryz.prog.info? 9).map (·.size) = some 1 := by kernel_rfl
  cases hq : Tryz.prog.info? 9 with
  | none => simp [hq] at h9
  | some i =>
    have hs : i.size = 1 := by simpa [hq] using h9
    have hat := strsV_at L k hk
    simp [Instr.index, asIntOf, run_underlying Tryz.underlying66, run_underlying Tryz.underlying9, sizeOf, typeInfo, hq, hs, part, isAgg, hat]
    intro h
    omega
theorem zrGo_step (i b f t : Nat) (x : List UInt8) (r : List (List UInt8)) (b' : Nat) (hb : b' = if x ≠ [48] then i + 1 else b) : zrGo i b f t (x :: r) = if i + 1 - b' > t - f then zrGo (i + 1) b' b' (i + 1) r else zrGo (i + 1) b' f t r := by
  rw [zrGo, ← hb]
set_option maxHeartbeats 2000000 in
set_option maxRecDepth 100000 in
theorem zeros_any (L : List (List UInt8)) (hL : L.length = 8) (w : World) : Calls Tryz.prog 30 #[.agg (strsV L)] w fun e w' => e = .returned (.tuple #[.int .i64 ((zeros L).1 : Nat), .int .i64 ((zeros L).2 : Nat)]) ∧ Below w.heap.size w w' := by
  have HL : Hid (L.length = 8) := hL
  have hsz : (strsV L).size = 8 := by rw [strsV_size, hL]
  have HA : Hid (Lies (w.alloc (.cells (strsV L) 66)) w.heap.size (strsV L) 66) := Lies.new w _ _
  have HB : Hid (Below w.heap.size w (w.alloc (.cells (strsV L) 66))) := (Below.refl _ _).alloc (Nat.le_refl _) _
  have hix := run_index_strs L hL
  clear hL
  generalize hV : strsV L = V at hsz HA HB hix ⊢
  go_enter Tryz.func30, Tryz.ntmps30
  go_wp2_with (refine wpList_load_row rfl 66 _ rfl w.heap.size rfl V 66 _ HA.out Tryz.underlying66 rfl (by rw [hsz]; exact info8s) ?_)
  go_loop [2, 3, 4, 8] (fun cf ct cb ci => ∃ f t b i : Nat, i ≤ 8 ∧ b ≤ i ∧ f ≤ t ∧ t ≤ i ∧ cf = .int .i64 f ∧ ct = .int .i64 t ∧ cb = .int .i64 b ∧ ci = .int .i64 i ∧ Hid (zeros L = zrGo i b f t (L.drop i))) (fun _ _ _ ci => 8 - (intOf ci).toNat)
  case atStart => exact ⟨0, 0, 0, 0, by omega, by omega, by omega, by omega, rfl, rfl, rfl, rfl, rfl⟩
  case round =>
    obtain ⟨f, t, b, i, hi, hb, hft, hti, rfl, rfl, rfl, rfl, HZ⟩ := hrel
    by_cases hlt : i < 8
    · have hil : i < L.length := by rw [HL.out]; exact hlt
      have hx := hix i hil
      have hd : L.drop i = L[i] :: L.drop (i + 1) := List.drop_eq_getElem_cons hil
      rw [hd] at HZ
      generalize L[i] = x at hx HZ
      clear hix hd
      have hlt' : (i : Int) < 8 := by omega
      by_cases h48 : x = [48]
      · have HZ2 : Hid (zeros L = if i + 1 - b > t - f then zrGo (i + 1) b b (i + 1) (L.drop (i + 1)) else zrGo (i + 1) b f t (L.drop (i + 1))) := by
          show _ = _
          rw [HZ.out, zrGo_step i b f t x _ b (by rw [if_neg (by simp [h48])])]
        have hne : (x == [48]) = true := by rw [h48]; rfl
        clear HZ h48
        by_cases hgt : i + 1 - b > t - f
        · have HZ3 : Hid (zeros L = zrGo (i + 1) b b (i + 1) (L.drop (i + 1))) := by
            show _ = _
            rw [HZ2.out, if_pos hgt]
          have hgt' : (t : Int) - (f : Int) < (i : Int) + 1 - (b : Int) := by omega
          clear HZ2 hgt
          go_wp2_with fail
          go_round
          case rel => exact ⟨b, i + 1, b, i + 1, by omega, by omega, by omega, by omega, rfl, by go_num, rfl, by go_num, HZ3⟩
          case measure => simp [intOf]; omega
        · have HZ3 : Hid (zeros L = zrGo (i + 1) b f t (L.drop (i + 1))) := by
            show _ = _
            rw [HZ2.out, if_neg hgt]
          have hgt' : ¬ (t : Int) - (f : Int) < (i : Int) + 1 - (b : Int) := by omega
          clear HZ2 hgt
          go_wp2_with fail
          go_round
          case rel => exact ⟨f, t, b, i + 1, by omega, by omega, by omega, by omega, rfl, rfl, rfl, by go_num, HZ3⟩
          case measure => simp [intOf]; omega
      · have HZ2 : Hid (zeros L = if i + 1 - (i + 1) > t - f then zrGo (i + 1) (i + 1) (i + 1) (i + 1) (L.drop (i + 1)) else zrGo (i + 1) (i + 1) f t (L.drop (i + 1))) := by
          show _ = _
          rw [HZ.out, zrGo_step i b f t x _ (i + 1) (by rw [if_pos h48])]
        have HZ3 : Hid (zeros L = zrGo (i + 1) (i + 1) f t (L.drop (i + 1))) := by
          show _ = _
          rw [HZ2.out, if_neg (by omega)]
        have hne : (x == [48]) = false := by rw [beq_eq_false_iff_ne]; exact h48
        clear HZ h48 HZ2
        have hgt' : ¬ (t : Int) - (f : Int) < (i : Int) + 1 - ((i : Int) + 1) := by omega
        go_wp2_with fail
        go_round
        case rel => exact ⟨f, t, i + 1, i + 1, by omega, by omega, by omega, by omega, rfl, rfl, by go_num, by go_num, HZ3⟩
        case measure => simp [intOf]; omega
    · have HN : Hid (zeros L = (f, t)) := by
        show _ = _
        rw [HZ.out, List.drop_eq_nil_of_le (by rw [HL.out]; omega)]
        rfl
      have hlt' : ¬ (i : Int) < 8 := by omega
      clear HZ
      go_wp2_with fail
      refine bodyPost_ret (v := .tuple #[.int .i64 (f : Int), .int .i64 (t : Int)]) (by simp [results, Tryz.results30, go_sem]) rfl ⟨by rw [HN.out], HB.out⟩

set_option maxHeartbeats 1000000 in
theorem width_any (k : Int) (w : World) : Calls Tryz.prog 41 #[.int .i64 k] w fun e w' => e = .returned (.int .i64 (widthN k)) ∧ w' = w := by
  unfold widthN
  by_cases h2 : k = 2
  · subst h2
    rw [if_pos rfl]
    go_enter Tryz.func41, Tryz.ntmps41
    go_wp2_with fail
    go_ret
    exact ⟨rfl, rfl⟩
  · rw [if_neg h2]
    have h2' : (k == 2) = false := by rw [beq_eq_false_iff_ne]; exact h2
    clear h2
    by_cases h3 : k = 3
    · subst h3
      rw [if_pos rfl]
      go_enter Tryz.func41, Tryz.ntmps41
      go_wp2_with fail
      go_ret
      exact ⟨rfl, rfl⟩
    · rw [if_neg h3]
      have h3' : (k == 3) = false := by rw [beq_eq_false_iff_ne]; exact h3
      clear h3
      go_enter Tryz.func41, Tryz.ntmps41
      go_wp2_with fail
      go_ret
      exact ⟨rfl, rfl⟩
end Go.Proofs.YtnlgbopdbihnjabGreatDoor
/-
  The contract of domain.PrintV4.
-/
namespace Go.Proofs.YtnlgbopdbihnjabGreatDoor
open Go.RowKit

theorem PowTab.below {w w' : World} (h : PowTab w) (hb : Below w.heap.size w w') : PowTab w' := Lib.tabBelow_of_tabIs h w' hb
theorem dec_decD : ∀ n : Fin 256, Lib.decDigits n.val = decD n.val := by decide +kernel
theorem join_joinL (sep : List UInt8) : ∀ L : List (List UInt8), Lib.join L sep = joinL sep L
  | [] => rfl
  | [x] => Lib.join_one x sep
  | x :: y :: r => by
    have := join_joinL sep (y :: r)
    rw [joinL, ← this]
    unfold Lib.join
    simp [List.intercalate]
theorem info4s : (Tryz.prog.info? 48).map (·.size) = some 4 := by kernel_rfl
theorem run_index_four (l : List Nat) (hl : l.length = 4) (k : Nat) (hk : k < l.length) (w : World) : (Instr.index 22 (.agg (bytesV l)) (.int .i64 (k : Int))).run Tryz.prog w = .ok (.int .u8 (l[k] : Nat)) w := by
  have h5 : (Tryz.prog.info? 5).map (·.size) = some 1 := by kernel_rfl
  cases hq : Tryz.prog.info? 5 with
  | none => simp [hq] at h5
  | some i =>
    have hs : i.size = 1 := by simpa [hq] using h5
    have hat := bytesV_at l k hk
    simp [Instr.index, asIntOf, run_underlying Tryz.underlying22, run_underlying Tryz.underlying5, sizeOf, typeInfo, hq, hs, part, isAgg, hat]
    intro h
    omega
theorem strsV_set (L : List (List UInt8)) (k : Nat) (x : List UInt8) : (strsV L).setIfInBounds k (.string ⟨x.toArray⟩) = strsV (L.set k x) := by
  unfold strsV
  rw [List.setIfInBounds_toArray, List.map_set]
/-- The blocks of PrintV4, PrintV6: the texts so far. -/
structure PtS (w : World) (n t : Nat) (L : List (List UInt8)) (wr : World) : Prop where
  s : Lies wr (w.heap.size + 1) (strsV (L ++ List.replicate (n - L.length) [])) t
  below : Below w.heap.size w wr
theorem PtS.later {w wr wx : World} {n t : Nat} {L : List (List UInt8)} (h : PtS w n t L wr) (hb : Below wr.heap.size wr wx) : PtS w n t L wx :=
  ⟨h.s.below hb h.s.lt, h.below.trans (hb.mono (Nat.le_of_lt (Nat.lt_of_succ_lt h.s.lt)))⟩
theorem PtS.put {w wr : World} {n t : Nat} {L : List (List UInt8)} (h : PtS w n t L wr) (hl : L.length < n) (x : List UInt8) : PtS w n t (L ++ [x]) (wr.setCell ⟨w.heap.size + 1, L.length, none⟩ (.string ⟨x.toArray⟩)) := by
  refine ⟨?_, h.below.setCell (p := ⟨w.heap.size + 1, L.length, none⟩) (by show w.heap.size ≤ w.heap.size + 1; omega) _⟩
  have := h.s.set L.length (.string ⟨x.toArray⟩)
  rw [strsV_set] at this
  have e : (L ++ List.replicate (n - L.length) []).set L.length x = L ++ [x] ++ List.replicate (n - (L ++ [x]).length) [] := by
    rw [List.set_append_right _ _ (Nat.le_refl _), Nat.sub_self, show n - L.length = n - (L ++ [x]).length + 1 from by simp; omega, List.replicate_succ, List.set_cons_zero]
    simp
  rw [e] at this
  exact this
theorem PtS.cell {w wr : World} {n t : Nat} {L : List (List UInt8)} (h : PtS w n t L wr) (hl : L.length < n) : ∃ v, wr.cell? ⟨w.heap.size + 1, L.length, none⟩ = some v :=
  ⟨_, (h.s.cell L.length).trans (strsV_at _ _ (by simp; omega))⟩
theorem Lies.texts {w : World} {b t : Nat} {L : List (List UInt8)} (h : Lies w b (strsV L) t) (o : Nat) : ∀ (j : Nat) x, ((L.drop o).map fun l => (⟨l.toArray⟩ : ByteArray))[j]? = some x → w.cell? ⟨b, o + j, none⟩ = some (.string x) := fun j x hx => by
  rw [h.cell]
  unfold strsV
  rw [List.getElem?_map, List.getElem?_drop] at hx
  rw [List.getElem?_toArray, List.getElem?_map]
  cases hl : L[o + j]? with
  | none => rw [hl] at hx; cases hx
  | some y =>
    rw [hl] at hx
    injection hx with hx
    rw [← hx]
    rfl
theorem texts_back (L : List (List UInt8)) : (L.map fun l => (⟨l.toArray⟩ : ByteArray)).map (·.data.toList) = L := by
  rw [List.map_map]
  conv => rhs; rw [← List.map_id L]
  rfl
/-- strings.Join of some of the texts. -/
theorem join_some {w : World} {b t : Nat} {L : List (List UInt8)} (h : Lies w b (strsV L) t) (o n c : Nat) (sep : ByteArray) (hn : o + n ≤ L.length) (hc : n ≤ c) (hlen : (joinL sep.data.toList ((L.drop o).take n)).length ≤ 140737488355328) (hL : L.length ≤ 1000000) :
    Calls Tryz.prog 20 #[.slice (some ⟨b, o, none⟩) n c, .string sep] w fun e w' => e = .returned (.string ⟨(joinL sep.data.toList ((L.drop o).take n)).toArray⟩) ∧ Below w.heap.size w w' := by
  have hl : (((L.drop o).take n).map fun l => (⟨l.toArray⟩ : ByteArray)).length = n := by simp; omega
  have := Tryz.strings_Join b o c (((L.drop o).take n).map fun l => (⟨l.toArray⟩ : ByteArray)) sep w (fun j x hx => ?_) h.lt (by rw [hl]; omega) (by rw [hl]; exact hc) (by rw [texts_back, join_joinL]; exact hlen)
  · rw [texts_back, join_joinL, hl] at this
    exact this
  · refine h.texts o j x ?_
    rw [List.map_take, List.getElem?_take] at hx
    split at hx
    · exact hx
    · cases hx

set_option maxHeartbeats 4000000 in
set_option maxRecDepth 100000 in
theorem printv4_any (a : List Nat) (ha : a.length = 4) (hb : ∀ x ∈ a, x < 256) (w : World) (hp : PowTab w) : Calls Tryz.prog 8 #[.agg (bytesV a)] w fun e w' => e = .returned (.string ⟨(print4 a).toArray⟩) ∧ Below w.heap.size w w' := by
  have HL : Hid (a.length = 4) := ha
  have HX : Hid (∀ x ∈ a, x < 256) := hb
  have HP : Hid (∀ wx, Below w.heap.size w wx → PowTab wx) := fun wx hb => hp.below hb
  have hsz : (bytesV a).size = 4 := by rw [bytesV_size, ha]
  have HA : Hid (Lies ((w.alloc (.cells (bytesV a) 22)).alloc (.cells (strsV (List.replicate 4 [])) 48)) w.heap.size (bytesV a) 22) := (Lies.new w _ _).alloc _
  have H0 : Hid (PtS w 4 48 [] ((w.alloc (.cells (bytesV a) 22)).alloc (.cells (strsV (List.replicate 4 [])) 48))) := ⟨new_one w _ _ _, ((Below.refl _ _).alloc (Nat.le_refl _) _).alloc (by simp) _⟩
  have HIX : Hid (∀ (k : Nat) (hk : k < a.length) (w : World), (Instr.index 22 (.agg (bytesV a)) (.int .i64 (k : Int))).run Tryz.prog w = .ok (.int .u8 (a[k] : Nat)) w) := run_index_four a ha
  clear ha hb hp
  go_enter Tryz.func8, Tryz.ntmps8
  go_wp2_with (refine wpList_load_row rfl 22 _ rfl w.heap.size rfl (bytesV a) 22 _ HA.out Tryz.underlying22 rfl (by rw [hsz]; exact info4) ?_)
  go_loopw [7] (fun c wr => ∃ i : Nat, i ≤ 4 ∧ c = .int .i64 i ∧ Hid (PtS w 4 48 ((a.take i).map decD) wr)) (fun c _ => 4 - (intOf c).toNat)
  case atStart => exact ⟨0, by omega, rfl, H0⟩
  case round =>
    obtain ⟨i, hi, rfl, HS⟩ := hrel
    clear H0 HA
    by_cases hlt : i < 4
    · have hil : i < a.length := by rw [HL.out]; exact hlt
      have hlt' : (i : Int) < 4 := by omega
      have hix := HIX.out i hil
      have hx : a[i] < 256 := HX.out _ (List.getElem_mem hil)
      have HM : Hid ((a.take (i + 1)).map decD = (a.take i).map decD ++ [decD a[i]]) := by
        show _ = _
        rw [List.take_succ_eq_append_getElem hil, List.map_append]
        rfl
      have hdl := dec_decD ⟨a[i], hx⟩
      dsimp only at hdl
      generalize a[i] = x at hix hx HM hdl
      have hl : ((a.take i).map decD).length = i := by rw [List.length_map, List.length_take]; omega
      generalize (a.take i).map decD = L at HS HM hl
      subst hl
      have hx' : (x : Int) < 256 := by omega
      go_wp2_with fail
      refine (decm_any x (by omega) _ (HP.out _ HS.out.below)).mono ?_
      rintro e w2 ⟨rfl, hb2⟩
      rw [hdl]
      have HS2 := HS.out.later hb2
      obtain ⟨v, hv⟩ := HS2.cell hlt
      have hf := HS2.s.frozen L.length
      have hz := HS2.s.lt
      have HN : Hid (PtS w 4 48 ((a.take (L.length + 1)).map decD) (w2.setCell ⟨w.heap.size + 1, L.length, none⟩ (.string ⟨(decD x).toArray⟩))) := by
        have := HS2.put hlt (decD x)
        rw [← HM.out] at this
        exact this
      clear hb2 HS2 HS HM hix
      generalize decD x = d at HN ⊢
      go_wp2_with fail
      go_roundw
      case rel => exact ⟨L.length + 1, by omega, by go_num, HN⟩
      case measure => simp [intOf]; omega
    · obtain rfl : i = 4 := by omega
      have HSL : Hid (Lies wr (w.heap.size + 1) (strsV (a.map decD)) 48) := by
        have := HS.out.s
        rw [List.take_of_length_le (by rw [HL.out]; omega), List.length_map, HL.out, Nat.sub_self, List.replicate_zero, List.append_nil] at this
        exact this
      have hlm : (a.map decD).length = 4 := by rw [List.length_map, HL.out]
      have hpl : (print4 a).length ≤ 140737488355328 := by
        have := HL.out
        have h3 : ∀ n, (decD n).length ≤ 3 := fun n => by
          unfold decD
          split
          · simp
          · split <;> simp
        match a, this with
        | [p, q, r, s], _ =>
          have := h3 p
          have := h3 q
          have := h3 r
          have := h3 s
          simp [print4, joinL]
          omega
      have HJ : Hid (Calls Tryz.prog 20 #[.slice (some ⟨w.heap.size + 1, 0, none⟩) 4 4, .string ⟨#[46]⟩] wr fun e w' => e = .returned (.string ⟨(print4 a).toArray⟩) ∧ Below wr.heap.size wr w') := by
        have := join_some HSL.out 0 4 4 ⟨#[46]⟩ (by omega) (by omega) (by rw [List.drop_zero, List.take_of_length_le (by omega)]; exact hpl) (by omega)
        rw [List.drop_zero, List.take_of_length_le (by omega)] at this
        exact this
      have HB := HS.out.below
      have hz := HS.out.s.lt
      obtain ⟨pa, hpa⟩ : ∃ pa, (print4 a).toArray = pa := ⟨_, rfl⟩
      have HPA : Hid ((print4 a).toArray = pa) := hpa
      rw [hpa] at HJ
      clear hpl HSL HS hpa
      go_wp2_with (go_at_call 20; refine HJ.out.mono ?_; rintro e w2 ⟨rfl, hb2⟩)
      go_ret
      refine ⟨by rw [HPA.out]; rfl, HB.trans (Below.mono ?_ (Nat.le_of_lt (Nat.lt_of_succ_lt hz)))⟩
      assumption
end Go.Proofs.YtnlgbopdbihnjabGreatDoor
