/-
  The program's isRune, noRune and Encode.
-/
import Derived.Test.YtnlgbopdbihnjaaGreatDoorBld5
import Derived.Test.YtnlgbopdbihnjaaGreatDoorUtfE
import Derived.Test.YtnlgbopdbihnjaaGreatDoorPureBad
import Derived.Lib.RuneCount
namespace Go.Proofs.YtnlgbopdbihnjaaGreatDoor
open Go.RowKit

set_option maxHeartbeats 1000000 in
set_option maxRecDepth 100000 in
theorem isr_any (r : Int) (w : World) : Calls Tryz.prog 162 #[.int .i32 r] w fun e w' => e = .returned (.bool (decide (isR r))) ∧ w' = w := by
  have HR : Hid (decide (isR r) = ((decide (0 ≤ r) && decide (r < 55296)) || (decide (57343 < r) && decide (r ≤ 1114111)))) := by
    show _ = _
    by_cases h : isR r
    · rw [decide_eq_true h]
      obtain ⟨a, b, c | c⟩ := h
      · simp [a, c]
      · simp [b, c]
    · rw [decide_eq_false h]
      symm
      simp only [Bool.or_eq_false_iff, Bool.and_eq_false_iff, decide_eq_false_iff_not]
      unfold isR at h
      omega
  rw [HR.out]
  by_cases h1 : 0 ≤ r
  · by_cases h2 : r < 55296
    · go_enter Tryz.func162, Tryz.ntmps162
      go_wp2
      go_ret
      exact ⟨ret_b (by simp [h1, h2]), rfl⟩
    · by_cases h3 : 57343 < r
      · go_enter Tryz.func162, Tryz.ntmps162
        go_wp2
        go_ret
        exact ⟨ret_b (by rw [Bool.eq_iff_iff]; simp only [decide_eq_true_eq, Bool.or_eq_true]; omega), rfl⟩
      · go_enter Tryz.func162, Tryz.ntmps162
        go_wp2
        go_ret
        exact ⟨ret_b (by rw [Bool.eq_iff_iff]; simp only [decide_eq_true_eq, Bool.or_eq_true, Bool.and_eq_true, Bool.false_eq_true, false_iff]; omega), rfl⟩
  · have h3 : ¬ 57343 < r := by omega
    go_enter Tryz.func162, Tryz.ntmps162
    go_wp2
    go_ret
    exact ⟨ret_b (by rw [Bool.eq_iff_iff]; simp only [decide_eq_true_eq, Bool.or_eq_true, Bool.and_eq_true, Bool.false_eq_true, false_iff]; omega), rfl⟩

/-- The place of the first number that is no rune. -/
def noR : List Int → Nat
  | [] => 0
  | r :: t => if isR r then noR t + 1 else 0
theorem noR_le (l : List Int) : noR l ≤ l.length := by
  induction l with
  | nil => exact Nat.le_refl _
  | cons r t ih => simp only [noR]; split <;> simp <;> omega
theorem noR_all (l : List Int) : noR l = l.length ↔ ∀ r ∈ l, isR r := by
  induction l with
  | nil => simp [noR]
  | cons r t ih =>
    simp only [noR, List.length_cons, List.mem_cons, forall_eq_or_imp]
    by_cases h : isR r
    · rw [if_pos h]
      constructor
      · intro e; exact ⟨h, ih.1 (by omega)⟩
      · intro e; have := ih.2 e.2; omega
    · rw [if_neg h]
      constructor
      · intro e; omega
      · intro e; exact absurd e.1 h
theorem noR_drop (l : List Int) (k : Nat) (hk : k < l.length) : noR (l.drop k) = if isR l[k] then noR (l.drop (k + 1)) + 1 else 0 := by
  rw [List.drop_eq_getElem_cons hk]
  rfl

set_option maxHeartbeats 1000000 in
set_option maxRecDepth 100000 in
theorem norune_any (a : Option Addr) (l : List Int) (cap : Nat) (w : World) (hb : Nts .i32 a l w) (hs : l.length ≤ 9223372036854775806) :
    Calls Tryz.prog 130 #[.slice a l.length cap] w fun e w' => e = .returned (.int .i64 (noR l)) ∧ w' = w := by
  have HL : Hid (Nts .i32 a l w) := hb
  clear hb
  go_enter Tryz.func130, Tryz.ntmps130
  go_wp2
  go_loop [7] (fun i => ∃ k : Nat, i = .int .i64 k ∧ k ≤ l.length ∧ Hid (noR l = k + noR (l.drop k))) (fun i => l.length - (intOf i).toNat)
  case atStart => exact ⟨0, rfl, Nat.zero_le _, by show _ = _; rw [List.drop_zero]; omega⟩
  case round =>
    obtain ⟨k, rfl, hk, HE⟩ := hrel
    by_cases hlk : k < l.length
    · have HD : Hid (_ = _) := noR_drop l k hlk
      obtain ⟨g, o, rfl, hg, hc⟩ := HL.out.cell k hlk
      have HI := isr_any l[k] w
      by_cases hr : isR l[k]
      · have HN : Hid (noR l = (k + 1) + noR (l.drop (k + 1))) := by
          show _ = _
          rw [HE.out, HD.out, if_pos hr]; omega
        have hd : decide (isR l[k]) = true := decide_eq_true hr
        rw [hd] at HI
        go_wp2_with (go_at_call 162; refine HI.mono ?_; rintro e w' ⟨rfl, rfl⟩)
        go_round
        case rel => exact ⟨k + 1, by go_num, by omega, HN⟩
        case measure => simp [intOf]; omega
      · have HN : Hid (noR l = k) := by
          show _ = _
          rw [HE.out, HD.out, if_neg hr]; omega
        have hd : decide (isR l[k]) = false := decide_eq_false hr
        rw [hd] at HI
        go_wp2_with (go_at_call 162; refine HI.mono ?_; rintro e w' ⟨rfl, rfl⟩)
        go_ret
        exact ⟨ret_i64 (by rw [HN.out]), rfl⟩
    · have HN : Hid (noR l = k) := by
        show _ = _
        rw [HE.out, List.drop_eq_nil_of_le (by omega)]
        rfl
      obtain rfl : k = l.length := by omega
      go_wp2
      go_ret
      exact ⟨ret_i64 (by rw [HN.out]), rfl⟩

/-- What Encode tells: a text, an error and its place. -/
def encT (l : List Int) : ByteArray := if noR l < l.length then ⟨#[]⟩ else ⟨(encL l).toArray⟩
def encE (l : List Int) : Array Value := if noR l < l.length then #[.int .i64 50, .int .i64 (noR l)] else #[.int .i64 0, .int .i64 0]
theorem encL_take (l : List Int) (k : Nat) (hk : k < l.length) : encL (l.take (k + 1)) = encL (l.take k) ++ Lib.encodeRune l[k] := by
  unfold encL
  rw [List.take_succ_eq_append_getElem hk, List.flatMap_append]
  simp
theorem encL_length (l : List Int) : (encL l).length ≤ 4 * l.length := by
  induction l with
  | nil => simp [encL]
  | cons r t ih =>
    have : encL (r :: t) = Lib.encodeRune r ++ encL t := rfl
    rw [this, List.length_append, ← Lib.runeCells_length]
    have := (Lib.runeCells_le r).2
    simp
    omega

end Go.Proofs.YtnlgbopdbihnjaaGreatDoor
/-
  The program's Decode, and how many runes the library counts.
-/
namespace Go.Proofs.YtnlgbopdbihnjaaGreatDoor
open Go.RowKit

set_option maxHeartbeats 1000000 in
set_option maxRecDepth 100000 in
theorem rcount_any (s : ByteArray) (w : World) (hs : s.size ≤ 9223372036854775806) :
    Calls Tryz.prog 129 #[.string s] w fun e w' => (∃ n : Nat, e = .returned (.int .i64 n) ∧ n ≤ s.size) ∧ Below w.heap.size w w' := by
  go_enter Tryz.func129, Tryz.ntmps129
  go_wp2
  go_loopw [2] (fun n w' => ∃ (pos acc : Nat), w' = w.iter s pos ∧ n = .int .i64 acc ∧ acc ≤ pos ∧ acc ≤ s.size) (fun _ w' => s.size - w'.iterPos w.heap.size)
  case atStart => exact ⟨0, 0, rfl, rfl, Nat.le_refl _, Nat.zero_le _⟩
  case round =>
    obtain ⟨pos, acc, rfl, rfl, hc, ha⟩ := hrel
    by_cases hp : pos < s.size
    · have hnx : ∀ ty, (Instr.next (.pointer (some ⟨w.heap.size, 0, none⟩)) true ty).run Tryz.prog (w.iter s pos) = _ := fun ty => run_next_any w s pos ty hp
      have hwd := Lib.decode_width_pos s pos hp
      go_wp2
      go_roundw
      case rel => exact ⟨pos + (Utf8.decode s pos).2, acc + 1, rfl, by go_num, by omega, by omega⟩
      case measure =>
        simp
        omega
    · have hnx : ∀ ty, (Instr.next (.pointer (some ⟨w.heap.size, 0, none⟩)) true ty).run Tryz.prog (w.iter s pos) = _ := fun ty => run_next_end w s pos ty hp
      go_wp2
      go_ret
      exact ⟨⟨acc, rfl, ha⟩, (Below.refl _ _).alloc (Nat.le_refl _) _⟩

/-- What Decode tells: runes, an error and its place. -/
def decR (l : List UInt8) : List Int := if badU l < l.length then [] else decL l
def decE (l : List UInt8) : Array Value := if badU l < l.length then #[.int .i64 50, .int .i64 (badU l)] else #[.int .i64 0, .int .i64 0]
theorem oneN_whole {l : List UInt8} (h : badU l = l.length) (h0 : 0 < l.length) : ∃ r n, oneN l = some (r, n) ∧ badU (l.drop n) = (l.drop n).length := by
  cases e : oneN l with
  | none => rw [badU_none e] at h; omega
  | some p =>
    obtain ⟨r, n⟩ := p
    refine ⟨r, n, rfl, ?_⟩
    have h1 := badU_some e
    have h2 := (oneN_run l r n e).1
    rw [List.length_drop]
    omega

set_option maxHeartbeats 2000000 in
set_option maxRecDepth 100000 in
theorem dec_any (s : ByteArray) (w : World) (hf : Fst w) (hs : s.size ≤ 35184372088000) :
    Calls Tryz.prog 111 #[.string s] w fun e w' => (∃ v, e = .returned (.tuple #[v, .agg (decE s.data.toList)]) ∧ w'.ownsRow w.heap.size 21 1 v (decR s.data.toList).length (cellsN .i32 (decR s.data.toList))) ∧ Below w.heap.size w w' := by
  have HF : Hid (Fst w) := hf
  have hflt := hf.lt
  have hle := badU_le s.data.toList
  rw [len_list] at hle
  have HC := ubs_any s (w.alloc (.cells #[.int .i64 0, .int .i64 0] 30)) (hf.below ((Below.refl _ w).alloc (Nat.le_refl _) _) hflt) (by omega)
  clear hf
  by_cases hr : badU s.data.toList < s.size
  · have HT : Hid (decR s.data.toList = []) := if_pos (by rw [len_list]; exact hr)
    have HE : Hid (decE s.data.toList = #[.int .i64 50, .int .i64 (badU s.data.toList)]) := if_pos (by rw [len_list]; exact hr)
    go_enter Tryz.func111, Tryz.ntmps111
    go_wp2_with fail
    refine HC.mono ?_
    rintro e w1 ⟨rfl, b1⟩
    have HS1 : Hid (Lies w1 w.heap.size #[.int .i64 0, .int .i64 0] 30) := (Lies.new w _ 30).below b1 (by simp)
    have HW1 : Hid (Below w.heap.size w w1) := ((Below.refl _ w).alloc (Nat.le_refl _) _).trans (b1.mono (by simp))
    have c0 := HS1.out.cell 0
    have c1 := HS1.out.cell 1
    have f0 := HS1.out.frozen 0
    have f1 := HS1.out.frozen 1
    simp at c0 c1
    clear b1 HC
    go_wp2
    (try simp only [Exit.inBlock, Exit.then])
    refine bodyPost_ret (v := .tuple #[.slice none 0 0, .agg #[.int .i64 50, .int .i64 (badU s.data.toList)]]) (by simp [results, Tryz.results111, go_sem, c0, c1]) rfl ⟨⟨.slice none 0 0, by rw [HE.out], ?_⟩, (HW1.out.setCell (p := ⟨w.heap.size, 0, none⟩) (Nat.le_refl _) _).setCell (p := ⟨w.heap.size, 1, none⟩) (Nat.le_refl _) _⟩
    rw [HT.out]
    exact own_nilN _ _ _ _
  · have hq : badU s.data.toList = s.size := by omega
    have HT : Hid (decR s.data.toList = decL s.data.toList) := if_neg (by rw [len_list]; exact hr)
    have HE : Hid (decE s.data.toList = #[.int .i64 0, .int .i64 0]) := if_neg (by rw [len_list]; exact hr)
    have HQ : Hid (badU s.data.toList = s.data.toList.length) := by show _ = _; rw [hq, len_list]
    rw [hq] at HC
    clear hq hr hle
    go_enter Tryz.func111, Tryz.ntmps111
    go_wp2_with fail
    refine HC.mono ?_
    rintro e w1 ⟨rfl, b1⟩
    have HS1 : Hid (Lies w1 w.heap.size #[.int .i64 0, .int .i64 0] 30) := (Lies.new w _ 30).below b1 (by simp)
    have HW1 : Hid (Below w.heap.size w w1) := ((Below.refl _ w).alloc (Nat.le_refl _) _).trans (b1.mono (by simp))
    have HC2 := rcount_any s w1 (by omega)
    clear b1 HC
    go_wp2_with fail
    refine HC2.mono ?_
    rintro e w2 ⟨⟨n, rfl, hn⟩, b2⟩
    have HS2 : Hid (Lies w2 w.heap.size #[.int .i64 0, .int .i64 0] 30) := HS1.out.below b2 HS1.out.lt
    have HW2 : Hid (Below w.heap.size w w2) := HW1.out.trans (b2.mono HW1.out.size)
    clear b2 HC2
    obtain ⟨w3, hmk, hown3, b3, hsz3⟩ := make_roomN w2 84 21 4 .i32 Tryz.underlying84 infoR (by omega) 0 n 0 n rfl rfl (by omega) (by omega) w.heap.size HW2.out.size
    have HS3 : Hid (Lies w3 w.heap.size #[.int .i64 0, .int .i64 0] 30) := HS2.out.below b3 HS2.out.lt
    have HW3 : Hid (Below w.heap.size w w3) := HW2.out.trans (b3.mono HW2.out.size)
    have HO3 : Hid (w3.ownsRow w.heap.size 21 1 (.slice (some ⟨w2.heap.size, 0, none⟩) 0 n) 0 (cellsN .i32 [])) := hown3
    clear hown3 b3
    go_wp2
    have HIT : Hid ((w3.iter s 0).heap[w2.heap.size + 1]? = some (.stringIter s 0)) := by
      have := World.iter_heap w3 s 0
      rw [hsz3] at this
      exact this
    have hw2 := HW2.out.size
    clear hmk HS1 HW1 HS2
    go_loopw [5] (fun v wr => ∃ (pos : Nat) (acc : List Int), Hid (wr.ownsRow w.heap.size 21 1 v acc.length (cellsN .i32 acc)) ∧ Hid (wr.heap[w2.heap.size + 1]? = some (.stringIter s pos)) ∧ Hid (Below w.heap.size w wr) ∧ Hid (Lies wr w.heap.size #[.int .i64 0, .int .i64 0] 30) ∧ Hid (acc ++ decL (s.data.toList.drop pos) = decL s.data.toList) ∧ Hid (badU (s.data.toList.drop pos) = (s.data.toList.drop pos).length) ∧ pos ≤ s.size ∧ acc.length ≤ pos) (fun _ wr => s.size - wr.iterPos (w2.heap.size + 1))
    case atStart => exact ⟨0, [], HO3.out.alloc _, HIT, HW3.out.alloc HW3.out.size _, HS3.out.alloc _, by show _ = _; rw [List.drop_zero]; rfl, by show _ = _; rw [List.drop_zero]; exact HQ.out, Nat.zero_le _, Nat.le_refl _⟩
    case round =>
      obtain ⟨pos, acc, HO, HI, HW, HS, HA, HQ1, hps, hal⟩ := hrel
      have hib : w2.heap.size + 1 < wr.heap.size := (Array.getElem?_eq_some_iff.1 HI.out).1
      by_cases hp : pos < s.size
      · obtain ⟨r, m, ho, hq2⟩ := oneN_whole HQ1.out (by rw [List.length_drop, len_list]; omega)
        have hdec := decode_one s pos r m ho
        have hr := (oneN_is ho).1
        have hr0 : (r.toNat : Int) = r := Int.toNat_of_nonneg hr.1
        have hm := (oneN_run _ r m ho)
        have hm1 := hm.1
        have hm2 := hm.2.1
        rw [List.length_drop, len_list] at hm1
        have hnx : ∀ ty, (Instr.next (.pointer (some ⟨w2.heap.size + 1, 0, none⟩)) true ty).run Tryz.prog wr = .ok (.tuple #[.bool true, .int .i64 pos, .int .i32 r]) (wr.iterAt (w2.heap.size + 1) s (pos + m)) := fun ty => by
          rw [Lib.run_next_any_at wr (w2.heap.size + 1) s pos ty HI.out hp, hdec, hr0]
        have HA2 : Hid ((acc ++ [r]) ++ decL (s.data.toList.drop (pos + m)) = decL s.data.toList) := by
          have := HA.out
          rw [decL_some ho, List.drop_drop] at this
          show _ = _
          rw [← this]
          simp
        have HQ2 : Hid (badU (s.data.toList.drop (pos + m)) = (s.data.toList.drop (pos + m)).length) := by
          rw [List.drop_drop] at hq2
          exact hq2
        have hne : (u5 : Value).ownBlock ≠ some (w2.heap.size + 1) := fun e => by
          rcases HO.out.2 with ⟨rfl, _⟩ | ⟨g', cap, cur, rfl, hB, hk, _⟩
          · cases e
          · injection e with e
            subst e
            have := hk.symm.trans HI.out
            injection this with this
            cases this
        have HOI : Hid ((wr.iterAt (w2.heap.size + 1) s (pos + m)).ownsRow w.heap.size 21 1 u5 acc.length (cellsN .i32 acc)) := ownN_keep HO.out (fun k hk => Lib.iterAt_other _ _ _ _ _ (fun e => hne (by rw [hk, e])))
        have HII : Hid ((wr.iterAt (w2.heap.size + 1) s (pos + m)).heap[w2.heap.size + 1]? = some (.stringIter s (pos + m))) := Lib.iterAt_heap _ _ s pos _ HI.out
        have HWI : Hid (Below w.heap.size w (wr.iterAt (w2.heap.size + 1) s (pos + m))) := Lib.below_iterAt HW.out (by omega) _ _
        have HSI : Hid (Lies (wr.iterAt (w2.heap.size + 1) s (pos + m)) w.heap.size #[.int .i64 0, .int .i64 0] 30) := (Lib.iterAt_other _ _ _ _ _ (by omega)).trans HS.out
        have hsI : w2.heap.size + 1 < (wr.iterAt (w2.heap.size + 1) s (pos + m)).heap.size := by rw [Lib.iterAt_size]; exact hib
        have HNE : Hid ((u5 : Value).ownBlock ≠ some (w2.heap.size + 1)) := hne
        clear hne ho hdec hr hr0 hm hq2
        generalize wr.iterAt (w2.heap.size + 1) s (pos + m) = wi at hnx HOI HII HWI HSI hsI
        go_wp2_with (at_builtin; refine wpList_append_num rfl _ _ 84 21 4 .i32 Tryz.underlying84 infoR (by omega) rfl w.heap.size _ acc.length acc rfl (HOI.out.alloc _) ⟨wi.heap.size, 0, none⟩ r 1 rfl (one_nts _ _ _ _) (by omega) (by simp; omega) ?_)
        intro v4 w4 hown4 hgrow4
        have hg4 := grown_on (World.grownBy_alloc wi _ (u5 : Value).ownBlock) hgrow4 (fun _ h => .inl h.symm)
        have HI4 : Hid (w4.heap[w2.heap.size + 1]? = some (.stringIter s (pos + m))) := (hg4.block _ (by omega) (fun e => HNE.out e.symm)).trans HII.out
        have HW4 : Hid (Below w.heap.size w w4) := HWI.out.grown hg4 HWI.out.size (fun q hq => (HOI.out.lt q hq).1)
        have HS4 : Hid (Lies w4 w.heap.size #[.int .i64 0, .int .i64 0] 30) := (hg4.block _ HSI.out.lt (fun e => ownN_apart HOI.out HSI.out (by decide) _ e.symm rfl)).trans HSI.out
        have HO4 : Hid (w4.ownsRow w.heap.size 21 1 v4 (acc ++ [r]).length (cellsN .i32 (acc ++ [r]))) := by
          show World.ownsRow _ _ _ _ _ _ _
          rw [List.length_append]
          exact hown4
        clear hown4 hgrow4 hg4
        go_wp2
        go_roundw
        case rel => exact ⟨pos + m, acc ++ [r], HO4, HI4, HW4, HS4, HA2, HQ2, by omega, by simp; omega⟩
        case measure =>
          simp only [World.iterPos, HI4.out, HI.out]
          omega
      · have hnx : ∀ ty, (Instr.next (.pointer (some ⟨w2.heap.size + 1, 0, none⟩)) true ty).run Tryz.prog wr = .ok (.tuple #[.bool false]) wr := fun ty => Lib.run_next_end_at wr (w2.heap.size + 1) s pos ty HI.out hp
        have HD : Hid (decL s.data.toList = acc) := by
          have := HA.out
          rw [List.drop_eq_nil_of_le (by rw [len_list]; omega), decL_none rfl, List.append_nil] at this
          exact this.symm
        have c0 := HS.out.cell 0
        have c1 := HS.out.cell 1
        have f0 := HS.out.frozen 0
        have f1 := HS.out.frozen 1
        simp at c0 c1
        go_wp2
        (try simp only [Exit.inBlock, Exit.then])
        refine bodyPost_ret (v := .tuple #[u5, .agg #[.int .i64 0, .int .i64 0]]) (by simp [results, Tryz.results111, go_sem, c0, c1]) rfl ⟨⟨u5, by rw [HE.out], ?_⟩, (HW.out.setCell (p := ⟨w.heap.size, 0, none⟩) (Nat.le_refl _) _).setCell (p := ⟨w.heap.size, 1, none⟩) (Nat.le_refl _) _⟩
        rw [HT.out, HD.out]
        have hap := ownN_apart HO.out HS.out (by decide)
        exact ownN_keep HO.out (fun k hk => (Below.heap_setCell _ _ _ _ (hap k hk)).trans (Below.heap_setCell _ _ _ _ (hap k hk)))
end Go.Proofs.YtnlgbopdbihnjaaGreatDoor
