/-
  The program's isRune, noRune and Encode.
-/
import Derived.Test.YtedgimkffkflbabGreatDoorBld5
import Derived.Test.YtedgimkffkflbabGreatDoorUtfE
namespace Go.Proofs.YtedgimkffkflbabGreatDoor
open Go.RowKit

set_option maxHeartbeats 1000000 in
set_option maxRecDepth 100000 in
theorem isr_any (r : Int) (w : World) : Calls Tryz.prog 37 #[.int .i32 r] w fun e w' => e = .returned (.bool (decide (isR r))) ∧ w' = w := by
  have HR : Hid (decide (isR r) = ((decide (0 ≤ r) && decide (r < 55296)) || (decide (57343 < r) && decide (r ≤ 1114111)))) := by
    show _ = _
    by_cases h : isR r
    · rw [decide_eq_true h]
      obtain ⟨a, b, c | c⟩ := h
      · simp [a, c]
      · simp [b, c]
    · rw [decide_eq_false h]
      symm
      simp only [Bool.or_eq_false_iff, Bool.and_eq_false_iff, decide_eq_false_iff_not]
      unfold isR at h
      omega
  rw [HR.out]
  by_cases h1 : 0 ≤ r
  · by_cases h2 : r < 55296
    · go_enter Tryz.func37, Tryz.ntmps37
      go_wp2
      go_ret
      exact ⟨ret_b (by simp [h1, h2]), rfl⟩
    · by_cases h3 : 57343 < r
      · go_enter Tryz.func37, Tryz.ntmps37
        go_wp2
        go_ret
        exact ⟨ret_b (by rw [Bool.eq_iff_iff]; simp only [decide_eq_true_eq, Bool.or_eq_true]; omega), rfl⟩
      · go_enter Tryz.func37, Tryz.ntmps37
        go_wp2
        go_ret
        exact ⟨ret_b (by rw [Bool.eq_iff_iff]; simp only [decide_eq_true_eq, Bool.or_eq_true, Bool.and_eq_true, Bool.false_eq_true, false_iff]; omega), rfl⟩
  · have h3 : ¬ 57343 < r := by omega
    go_enter Tryz.func37, Tryz.ntmps37
    go_wp2
    go_ret
    exact ⟨ret_b (by rw [Bool.eq_iff_iff]; simp only [decide_eq_true_eq, Bool.or_eq_true, Bool.and_eq_true, Bool.false_eq_true, false_iff]; omega), rfl⟩

/-- The place of the first number that is no rune. -/
def noR : List Int → Nat
  | [] => 0
  | r :: t => if isR r then noR t + 1 else 0
theorem noR_le (l : List Int) : noR l ≤ l.length := by
  induction l with
  | nil => exact Nat.le_refl _
  | cons r t ih => simp only [noR]; split <;> simp <;> omega
theorem noR_all (l : List Int) : noR l = l.length ↔ ∀ r ∈ l, isR r := by
  induction l with
  | nil => simp [noR]
  | cons r t ih =>
    simp only [noR, List.length_cons, List.mem_cons, forall_eq_or_imp]
    by_cases h : isR r
    · rw [if_pos h]
      constructor
      · intro e; exact ⟨h, ih.1 (by omega)⟩
      · intro e; have := ih.2 e.2; omega
    · rw [if_neg h]
      constructor
      · intro e; omega
      · intro e; exact absurd e.1 h
theorem noR_drop (l : List Int) (k : Nat) (hk : k < l.length) : noR (l.drop k) = if isR l[k] then noR (l.drop (k + 1)) + 1 else 0 := by
  rw [List.drop_eq_getElem_cons hk]
  rfl

set_option maxHeartbeats 1000000 in
set_option maxRecDepth 100000 in
theorem norune_any (a : Option Addr) (l : List Int) (cap : Nat) (w : World) (hb : Nts .i32 a l w) (hs : l.length ≤ 9223372036854775806) :
    Calls Tryz.prog 43 #[.slice a l.length cap] w fun e w' => e = .returned (.int .i64 (noR l)) ∧ w' = w := by
  have HL : Hid (Nts .i32 a l w) := hb
  clear hb
  go_enter Tryz.func43, Tryz.ntmps43
  go_wp2
  go_loop [7] (fun i => ∃ k : Nat, i = .int .i64 k ∧ k ≤ l.length ∧ Hid (noR l = k + noR (l.drop k))) (fun i => l.length - (intOf i).toNat)
  case atStart => exact ⟨0, rfl, Nat.zero_le _, by show _ = _; rw [List.drop_zero]; omega⟩
  case round =>
    obtain ⟨k, rfl, hk, HE⟩ := hrel
    by_cases hlk : k < l.length
    · have HD : Hid (_ = _) := noR_drop l k hlk
      obtain ⟨g, o, rfl, hg, hc⟩ := HL.out.cell k hlk
      have HI := isr_any l[k] w
      by_cases hr : isR l[k]
      · have HN : Hid (noR l = (k + 1) + noR (l.drop (k + 1))) := by
          show _ = _
          rw [HE.out, HD.out, if_pos hr]; omega
        have hd : decide (isR l[k]) = true := decide_eq_true hr
        rw [hd] at HI
        go_wp2_with (go_at_call 37; refine HI.mono ?_; rintro e w' ⟨rfl, rfl⟩)
        go_round
        case rel => exact ⟨k + 1, by go_num, by omega, HN⟩
        case measure => simp [intOf]; omega
      · have HN : Hid (noR l = k) := by
          show _ = _
          rw [HE.out, HD.out, if_neg hr]; omega
        have hd : decide (isR l[k]) = false := decide_eq_false hr
        rw [hd] at HI
        go_wp2_with (go_at_call 37; refine HI.mono ?_; rintro e w' ⟨rfl, rfl⟩)
        go_ret
        exact ⟨ret_i64 (by rw [HN.out]), rfl⟩
    · have HN : Hid (noR l = k) := by
        show _ = _
        rw [HE.out, List.drop_eq_nil_of_le (by omega)]
        rfl
      obtain rfl : k = l.length := by omega
      go_wp2
      go_ret
      exact ⟨ret_i64 (by rw [HN.out]), rfl⟩

/-- What Encode tells: a text, an error and its place. -/
def encT (l : List Int) : ByteArray := if noR l < l.length then ⟨#[]⟩ else ⟨(encL l).toArray⟩
def encE (l : List Int) : Array Value := if noR l < l.length then #[.int .i64 50, .int .i64 (noR l)] else #[.int .i64 0, .int .i64 0]
theorem encL_take (l : List Int) (k : Nat) (hk : k < l.length) : encL (l.take (k + 1)) = encL (l.take k) ++ Lib.encodeRune l[k] := by
  unfold encL
  rw [List.take_succ_eq_append_getElem hk, List.flatMap_append]
  simp
theorem encL_length (l : List Int) : (encL l).length ≤ 4 * l.length := by
  induction l with
  | nil => simp [encL]
  | cons r t ih =>
    have : encL (r :: t) = Lib.encodeRune r ++ encL t := rfl
    rw [this, List.length_append, ← Lib.runeCells_length]
    have := (Lib.runeCells_le r).2
    simp
    omega

set_option maxHeartbeats 2000000 in
set_option maxRecDepth 100000 in
theorem enc_any (a : Option Addr) (l : List Int) (cap : Nat) (w : World) (hb : Nts .i32 a l w) (hs : l.length ≤ 35184372088000) (h32 : ∀ x ∈ l, -2147483648 ≤ x ∧ x ≤ 2147483647) :
    Calls Tryz.prog 15 #[.slice a l.length cap] w fun e w' => e = .returned (.tuple #[.string (encT l), .agg (encE l)]) ∧ Below w.heap.size w w' := by
  have HL : Hid (Nts .i32 a l w) := hb
  have HX : Hid (∀ x ∈ l, -2147483648 ≤ x ∧ x ≤ 2147483647) := h32
  have HC : Hid (∀ wx, Nts .i32 a l wx → Calls Tryz.prog 43 #[.slice a l.length cap] wx fun e w' => e = .returned (.int .i64 (noR l)) ∧ w' = wx) := fun wx hx => norune_any a l cap wx hx (by omega)
  have hle := noR_le l
  clear hb h32
  by_cases hr : noR l < l.length
  · have HT : Hid (encT l = ⟨#[]⟩) := if_pos hr
    have HE : Hid (encE l = #[.int .i64 50, .int .i64 (noR l)]) := if_pos hr
    have HB1 := HL.out.below ((Below.refl _ w).alloc (Nat.le_refl _) (.cells #[.int .i64 0, .int .i64 0] 30))
    go_enter Tryz.func15, Tryz.ntmps15
    go_wp2_with fail
    refine (HC.out _ HB1).mono ?_
    rintro e w1 ⟨rfl, rfl⟩
    go_wp2
    (try simp only [Exit.inBlock, Exit.then])
    refine bodyPost_ret (v := .tuple #[.string ⟨#[]⟩, .agg #[.int .i64 50, .int .i64 (noR l)]]) (by simp [results, Tryz.results15, go_sem]) rfl ⟨by rw [HT.out, HE.out], (Below.refl _ _).alloc (Nat.le_refl _) _⟩
  · have hq : noR l = l.length := by omega
    have HT : Hid (encT l = ⟨(encL l).toArray⟩) := if_neg hr
    have HE : Hid (encE l = #[.int .i64 0, .int .i64 0]) := if_neg hr
    have HB1 := HL.out.below ((Below.refl _ w).alloc (Nat.le_refl _) (.cells #[.int .i64 0, .int .i64 0] 30))
    rw [hq] at HC
    clear hq hr hle
    go_enter Tryz.func15, Tryz.ntmps15
    go_wp2_with fail
    refine (HC.out _ HB1).mono ?_
    rintro e w1 ⟨rfl, rfl⟩
    go_wp2
    have HF : Hid (Bl (w.heap.size + 1) (w.heap.size + 1) [] ((w.alloc (.cells #[.int .i64 0, .int .i64 0] 30)).alloc (.cells #[.pointer none, .slice none 0 0] 75))) := by
      have := Bl.fresh (w.alloc (.cells #[.int .i64 0, .int .i64 0] 30))
      rw [World.size_alloc] at this
      exact this
    have HS0 : Hid (Lies ((w.alloc (.cells #[.int .i64 0, .int .i64 0] 30)).alloc (.cells #[.pointer none, .slice none 0 0] 75)) w.heap.size #[.int .i64 0, .int .i64 0] 30) := (Lies.new w _ 30).alloc _
    have HW0 : Hid (Below w.heap.size w ((w.alloc (.cells #[.int .i64 0, .int .i64 0] 30)).alloc (.cells #[.pointer none, .slice none 0 0] 75))) := ((Below.refl _ w).alloc (Nat.le_refl _) _).alloc (by simp) _
    go_loopw [18] (fun i wr => ∃ k : Nat, i = .int .i64 k ∧ k ≤ l.length ∧ Hid (Bl (w.heap.size + 1) (w.heap.size + 1) (encL (l.take k)) wr) ∧ Hid (Below w.heap.size w wr) ∧ Hid (Lies wr w.heap.size #[.int .i64 0, .int .i64 0] 30)) (fun i _ => l.length - (intOf i).toNat)
    case atStart => exact ⟨0, rfl, Nat.zero_le _, HF, HW0, HS0⟩
    case round =>
      obtain ⟨k, rfl, hk, HB, HW, HS⟩ := hrel
      have hsz := HB.out.lt
      by_cases hlk : k < l.length
      · obtain ⟨g, o, rfl, hg, hc⟩ := (HL.out.below HW.out).cell k hlk
        have h3 := HX.out l[k] (List.getElem_mem hlk)
        have h4 := encL_length (l.take k)
        rw [List.length_take] at h4
        have HC2 := wrune_any (w.heap.size + 1) (w.heap.size + 1) (encL (l.take k)) l[k] h3.1 h3.2 wr HB.out (by omega) (by omega)
        rw [← encL_take l k hlk] at HC2
        go_wp2_with fail
        refine HC2.mono ?_
        rintro e w2 ⟨⟨n, rfl⟩, b2, m2⟩
        have HB2 : Hid (Bl (w.heap.size + 1) (w.heap.size + 1) (encL (l.take (k + 1))) w2) := b2
        have HW2 : Hid (Below w.heap.size w w2) := HW.out.trans (m2.below.mono (by omega))
        have HS2 : Hid (Lies w2 w.heap.size #[.int .i64 0, .int .i64 0] 30) := m2.lies HS.out (by omega) (by decide)
        clear b2 m2 HC2
        go_wp2
        go_roundw
        case rel => exact ⟨k + 1, by go_num, by omega, HB2, HW2, HS2⟩
        case measure => simp [intOf]; omega
      · rw [List.take_of_length_le (by omega)] at HB
        have HC2 := bstr_any (w.heap.size + 1) (w.heap.size + 1) (encL l) wr HB.out (by omega)
        go_wp2_with fail
        refine HC2.mono ?_
        rintro e w2 ⟨rfl, b2⟩
        have HS2 : Hid (Lies w2 w.heap.size #[.int .i64 0, .int .i64 0] 30) := HS.out.below b2 (by omega)
        have HW2 : Hid (Below w.heap.size w w2) := HW.out.trans (b2.mono (by omega))
        have c0 := HS2.out.cell 0
        have c1 := HS2.out.cell 1
        have f0 := HS2.out.frozen 0
        have f1 := HS2.out.frozen 1
        simp at c0 c1
        clear b2 HC2
        go_wp2
        (try simp only [Exit.inBlock, Exit.then])
        have HZ : Hid (Lies ((w2.setCell ⟨w.heap.size, 0, none⟩ (.int .i64 0)).setCell ⟨w.heap.size, 1, none⟩ (.int .i64 0)) w.heap.size #[.int .i64 0, .int .i64 0] 30) := (HS2.out.set 0 _).set 1 _
        have z0 := HZ.out.cell 0
        have z1 := HZ.out.cell 1
        simp at z0 z1
        refine bodyPost_ret (v := .tuple #[.string ⟨(encL l).toArray⟩, .agg #[.int .i64 0, .int .i64 0]]) (by simp [results, Tryz.results15, go_sem, c0, c1]) rfl ⟨by rw [HT.out, HE.out], (HW2.out.setCell (p := ⟨w.heap.size, 0, none⟩) (Nat.le_refl _) _).setCell (p := ⟨w.heap.size, 1, none⟩) (Nat.le_refl _) _⟩
end Go.Proofs.YtedgimkffkflbabGreatDoor
