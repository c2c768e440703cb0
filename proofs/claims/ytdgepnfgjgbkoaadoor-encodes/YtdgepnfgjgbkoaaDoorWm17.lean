/-
  means: what an encoded word means.
-/
import Derived.Test.YtdgepnfgjgbkoaaDoorWr17
import Derived.Test.YtdgepnfgjgbkoaaDoorWt17
import Derived.Test.YtdgepnfgjgbkoaaDoorWp17
import Derived.Test.YtdgepnfgjgbkoaaDoorRDec
namespace Go.Proofs.YtdgepnfgjgbkoaaDoor
open Go.RowKit

theorem uq_none {t : List UInt8} (h : uqE t = 0) : (uqB 0 t).2 = none ∧ uqR t = (uqB 0 t).1 := by
  unfold uqE at h
  unfold uqR
  cases e : (uqB 0 t).2 with
  | none => simp
  | some n => rw [e] at h; simp at h
theorem uq_some {t : List UInt8} (h : uqE t ≠ 0) : (uqB 0 t).2 = some (uqP t) := by
  unfold uqE at h
  unfold uqP
  cases e : (uqB 0 t).2 with
  | none => rw [e] at h; simp at h
  | some n => simp
theorem rd_none {q : Bool} {t : List UInt8} (h : reE q t = 0) : rdW q t = (reR q t, none) := by
  unfold reE at h
  unfold rdW reR
  cases q with
  | true =>
    simp only [if_true] at h ⊢
    rw [(uq_none h).2, ← (uq_none h).1]
  | false =>
    simp only [Bool.false_eq_true, if_false] at h ⊢
    rw [if_pos h]
theorem rd_some {q : Bool} {t : List UInt8} (h : reE q t ≠ 0) : (rdW q t).2 = some (reP q t) := by
  unfold reE at h
  unfold rdW reP
  cases q with
  | true =>
    simp only [if_true] at h ⊢
    exact uq_some h
  | false =>
    simp only [Bool.false_eq_true, if_false] at h ⊢
    rw [if_neg h]
theorem uq_pos : ∀ (m n : Nat) (l : List UInt8), l.length ≤ m → ∀ x, (uqB n l).2 = some x → x ≤ n + l.length
  | 0, n, l, hl, x, h => by
    have : l = [] := List.eq_nil_of_length_eq_zero (by omega)
    subst this
    rw [uqB_nil] at h
    cases h
  | m + 1, n, [], _, x, h => by
    rw [uqB_nil] at h
    cases h
  | m + 1, n, c :: t, hl, x, h => by
    simp only [List.length_cons] at hl ⊢
    rw [uqB.eq_def] at h
    dsimp only at h
    by_cases hc : c = 61
    · rw [if_pos hc] at h
      match t, hl, h with
      | [], _, h => injection h with h; omega
      | [_], _, h => injection h with h; omega
      | a :: b :: t', hl, h =>
        dsimp only at h
        by_cases hb : badN 4 [a, b] = 2
        · rw [if_pos hb] at h
          have := uq_pos m (n + 3) t' (by simp only [List.length_cons] at hl; omega) x h
          simp only [List.length_cons]
          omega
        · rw [if_neg hb] at h
          injection h with h
          omega
    · rw [if_neg hc] at h
      have := uq_pos m (n + 1) t (by omega) x h
      omega
theorem uq_len : ∀ (m n : Nat) (l : List UInt8), l.length ≤ m → (uqB n l).1.length ≤ l.length
  | 0, n, l, hl => by
    have : l = [] := List.eq_nil_of_length_eq_zero (by omega)
    subst this
    rw [uqB_nil]
    exact Nat.le_refl _
  | m + 1, n, [], _ => by
    rw [uqB_nil]
    exact Nat.le_refl _
  | m + 1, n, c :: t, hl => by
    simp only [List.length_cons] at hl ⊢
    rw [uqB.eq_def]
    dsimp only
    by_cases hc : c = 61
    · rw [if_pos hc]
      match t, hl with
      | [], _ => simp
      | [_], _ => simp
      | a :: b :: t', hl =>
        dsimp only
        by_cases hb : badN 4 [a, b] = 2
        · rw [if_pos hb]
          have := uq_len m (n + 3) t' (by simp only [List.length_cons] at hl; omega)
          have h2 := unL_length [a, b]
          simp only [List.length_append, List.length_cons, List.length_nil] at h2 ⊢
          omega
        · rw [if_neg hb]
          simp
    · rw [if_neg hc]
      have := uq_len m (n + 1) t (by omega)
      simp only [List.length_cons]
      omega
theorem re_le (q : Bool) (t : List UInt8) : reP q t ≤ t.length := by
  unfold reP
  cases q with
  | true =>
    simp only [if_true]
    unfold uqP
    cases h : (uqB 0 t).2 with
    | none => simp
    | some x => have := uq_pos _ 0 t (Nat.le_refl _) x h; simp; omega
  | false =>
    simp only [Bool.false_eq_true, if_false]
    unfold unbA
    have := okN_le 0 t
    split
    · exact this
    · split
      · exact Nat.le_refl _
      · omega
theorem reR_le (q : Bool) (t : List UInt8) : (reR q t).length ≤ t.length := by
  unfold reR
  cases q with
  | true =>
    simp only [if_true]
    unfold uqR
    have := uq_len _ 0 t (Nat.le_refl _)
    split
    · simp
    · exact this
  | false =>
    simp only [Bool.false_eq_true, if_false]
    unfold unbL
    have := d64L_le t
    split
    · simp
    · split
      · simp
      · omega
theorem mn_cs {f t : Nat} {p : List UInt8 × Bool × List UInt8} (h : csNo (cutC 42 p.1).1 = 0) : mnW f t p = ([], 171, f + 2) := by rw [mnW, if_pos h]
theorem mn_err {f t : Nat} {p : List UInt8 × Bool × List UInt8} (h : csNo (cutC 42 p.1).1 ≠ 0) (h2 : reE p.2.1 p.2.2 ≠ 0) : mnW f t p = ([], 170, t - 2 - p.2.2.length + reP p.2.1 p.2.2) := by rw [mnW, if_neg h, rd_some h2]
theorem mn_no {f t : Nat} {p : List UInt8 × Bool × List UInt8} (h : csNo (cutC 42 p.1).1 ≠ 0) (h2 : reE p.2.1 p.2.2 = 0) (h3 : csT (csNo (cutC 42 p.1).1) (reR p.2.1 p.2.2) = none) : mnW f t p = ([], 170, t - 2 - p.2.2.length) := by rw [mnW, if_neg h, rd_none h2]; simp only [h3]
theorem mn_ok {f t : Nat} {p : List UInt8 × Bool × List UInt8} {x : List UInt8} (h : csNo (cutC 42 p.1).1 ≠ 0) (h2 : reE p.2.1 p.2.2 = 0) (h3 : csT (csNo (cutC 42 p.1).1) (reR p.2.1 p.2.2) = some x) : mnW f t p = (x, 0, 0) := by rw [mnW, if_neg h, rd_none h2]; simp only [h3]
set_option maxRecDepth 100000 in
set_option maxHeartbeats 4000000 in
theorem wmeans_any (f t : Nat) (p : List UInt8 × Bool × List UInt8) (hC : p.1.length ≤ 4294967200) (hX : p.2.2.length ≤ 4294967200) (ht : t ≤ 4294967200) (w : World) (tb : Tb w) :
    Calls Tryd.prog 22 #[.agg (enC f t (some p))] w fun e w' =>
      e = .returned (.tuple #[.string (bS (mnW f t p).1), .agg #[.int .i64 ((mnW f t p).2.1 : Nat), .int .i64 ((mnW f t p).2.2 : Nat)]]) ∧ Below w.heap.size w w' := by
  obtain ⟨C, hCC⟩ : ∃ C, C = bS p.1 := ⟨_, rfl⟩
  obtain ⟨X, hXX⟩ : ∃ X, X = bS p.2.2 := ⟨_, rfl⟩
  obtain ⟨q, hq⟩ : ∃ q, q = p.2.1 := ⟨_, rfl⟩
  have hCl : C.data.toList = p.1 := by rw [hCC, bS_list]
  have hXl : X.data.toList = p.2.2 := by rw [hXX, bS_list]
  obtain ⟨ca, hca⟩ : ∃ ca : Nat, ca = f + 2 := ⟨_, rfl⟩
  obtain ⟨ta, hta⟩ : ∃ ta : Nat, ta = t - 2 - p.2.2.length := ⟨_, rfl⟩
  have hen : enC f t (some p) = #[.string C, .string (cdS q), .string X, .int .i64 (ca : Int), .int .i64 (ta : Int)] := by rw [hCC, hXX, hq, hca, hta]; rfl
  rw [hen]
  obtain ⟨w1, hw1⟩ : ∃ w1, w1 = (w.alloc (.cells #[.string C, .string (cdS q), .string X, .int .i64 (ca : Int), .int .i64 (ta : Int)] 44)).alloc (.cells #[.int .i64 0, .int .i64 0] 25) := ⟨_, rfl⟩
  have hb1 : Below w.heap.size w w1 := by rw [hw1]; exact ((Below.refl _ _).alloc (Nat.le_refl _) _).alloc (by simp) _
  have hE1 : Lies w1 w.heap.size #[.string C, .string (cdS q), .string X, .int .i64 (ca : Int), .int .i64 (ta : Int)] 44 := by rw [hw1]; exact (Lies.new w _ _).alloc _
  have hS1 : Lies w1 (w.heap.size + 1) #[.int .i64 0, .int .i64 0] 25 := by rw [hw1]; simpa using Lies.new (w.alloc (.cells #[.string C, .string (cdS q), .string X, .int .i64 (ca : Int), .int .i64 (ta : Int)] 44)) #[.int .i64 0, .int .i64 0] 25
  obtain ⟨m, hm⟩ := (tb.below hb1).ml
  have hCs : C.size ≤ 4294967200 := by rw [← len_list, hCl]; exact hC
  have hXs : X.size ≤ 4294967200 := by rw [← len_list, hXl]; exact hX
  have hCut := Tryd.strings_Cut C ⟨#[42]⟩ m w1 (by omega) hm
  obtain ⟨NM, hNM⟩ : ∃ NM : ByteArray, NM = ⟨(Lib.cut C.data.toList (⟨#[42]⟩ : ByteArray).data.toList).1.toArray⟩ := ⟨_, rfl⟩
  have hNl : NM.data.toList = (cutC 42 p.1).1 := by rw [hNM, ← hCl, ← cut_fst]
  rw [← hNM] at hCut
  generalize (Lib.cut C.data.toList (⟨#[42]⟩ : ByteArray).data.toList).2.1.toArray = R1 at hCut
  generalize (Lib.cut C.data.toList (⟨#[42]⟩ : ByteArray).data.toList).2.2 = R2 at hCut
  have hNs : NM.size ≤ 4294967200 := by
    rw [← len_list, hNl]
    have : (cutC 42 p.1).1.length ≤ p.1.length := by
      cases h : (cutC 42 p.1).2 with
      | none => rw [(cutC_none h).1]; exact Nat.le_refl _
      | some x =>
        have h1 := congrArg List.length (cutC_some h).1
        simp only [List.length_append, List.length_cons] at h1
        omega
    omega
  have hCS : ∀ n, Calls Tryd.prog 42 #[.string NM] (w1.drewN n) fun e w' => e = .returned (.int .i64 (csNo NM.data.toList : Nat)) ∧ Below w1.heap.size w1 w' := fun n => (wcsof_any NM (w1.drewN n) (by unfold maxLen; omega)).mono fun e w' h => ⟨h.1, (show Below w1.heap.size w1 (w1.drewN n) from ⟨rfl, rfl, rfl, Nat.le_refl _, fun _ _ => rfl⟩).trans h.2⟩
  rw [hNl] at hCS
  obtain ⟨k, hk⟩ : ∃ k, k = csNo (cutC 42 p.1).1 := ⟨_, rfl⟩
  rw [← hk] at hCS
  have HCS : Hid (∀ n, Calls Tryd.prog 42 #[.string NM] (w1.drewN n) fun e w' => e = .returned (.int .i64 (k : Nat)) ∧ Below w1.heap.size w1 w') := hCS
  have hk3 : k ≤ 3 := by
    rw [hk]
    unfold csNo
    repeat' split
    all_goals omega
  have HQ : Hid (q = p.2.1) := hq
  have HXX : Hid (X.data.toList = p.2.2) := hXl
  have HCA : Hid (ca = f + 2) := hca
  have HTA : Hid (ta = t - 2 - p.2.2.length) := hta
  have HK : Hid (k = csNo (cutC 42 p.1).1) := hk
  have HW1 : Hid ((w.alloc (.cells #[.string C, .string (cdS q), .string X, .int .i64 (ca : Int), .int .i64 (ta : Int)] 44)).alloc (.cells #[.int .i64 0, .int .i64 0] 25) = w1) := hw1.symm
  have HE1 : Hid (Lies w1 w.heap.size #[.string C, .string (cdS q), .string X, .int .i64 (ca : Int), .int .i64 (ta : Int)] 44) := hE1
  have HS1 : Hid (Lies w1 (w.heap.size + 1) #[.int .i64 0, .int .i64 0] 25) := hS1
  have HB1 : Hid (Below w.heap.size w w1) := hb1
  have hz1 : w.heap.size + 1 < w1.heap.size := hS1.lt
  have htaI : ta ≤ 4294967200 := by omega
  have tb1 := tb.below hb1
  have HT1 : Hid (Tb w1) := tb1
  have e1 : w1.cell? ⟨w.heap.size, 0, none⟩ = some (.string C) := hE1.cell 0
  clear hca hta hq hk hCC hXX hCl hXl hNM hNl hNs hCS hw1 hE1 hS1 hb1 tb1 hen hm tb
  go_enter Tryd.func22, Tryd.ntmps22
  go_wp2_with (rw [HW1.out])
  refine hCut.mono ?_
  rintro e w2 ⟨rfl, n, rfl⟩
  go_wp2_with fail
  refine (HCS.out n).mono ?_
  rintro e w3 ⟨rfl, hb3⟩
  have HB3 : Hid (Below w.heap.size w w3) := HB1.out.trans (hb3.mono (by omega))
  have HE3 : Hid (Lies w3 w.heap.size #[.string C, .string (cdS q), .string X, .int .i64 (ca : Int), .int .i64 (ta : Int)] 44) := HE1.out.below hb3 (by omega)
  have HS3 : Hid (Lies w3 (w.heap.size + 1) #[.int .i64 0, .int .i64 0] 25) := HS1.out.below hb3 hz1
  have HT3 : Hid (Tb w3) := HT1.out.below hb3
  have hz3 : w.heap.size + 1 < w3.heap.size := HS3.out.lt
  have e0 : w3.cell? ⟨w.heap.size, 0, none⟩ = some (.string C) := HE3.out.cell 0
  have e1 : w3.cell? ⟨w.heap.size, 1, none⟩ = some (.string (cdS q)) := HE3.out.cell 1
  have e2 : w3.cell? ⟨w.heap.size, 2, none⟩ = some (.string X) := HE3.out.cell 2
  have e3 : w3.cell? ⟨w.heap.size, 3, none⟩ = some (.int .i64 (ca : Int)) := HE3.out.cell 3
  have e4 : w3.cell? ⟨w.heap.size, 4, none⟩ = some (.int .i64 (ta : Int)) := HE3.out.cell 4
  have s0 := HS3.out.cell 0
  have s1 := HS3.out.cell 1
  have f0 := HS3.out.frozen 0
  have f1 := HS3.out.frozen 1
  clear hb3 HCS hCut HB1 HE1 HS1 HT1
  by_cases hk0 : k = 0
  · have hk0' : ((k : Int) == 0) = true := by simp [hk0]
    have HM : Hid (mnW f t p = ([], 171, ca)) := by show _ = _; rw [HCA.out]; exact mn_cs (by rw [← HK.out]; exact hk0)
    clear hk0
    go_wp2_with fail
    refine wp_region_late (fun wx => wx.cell? ⟨w.heap.size, 3, none⟩ = some (.int .i64 (ca : Int))) 5 (by kernel_rfl) (by exact e3) (fun hHeld => ?_)
    refine wpAnyE_tk (i := 0) (d := some 23) (v := .pointer (some ⟨w.heap.size, 3, none⟩)) rfl (by kernel_rfl) (by kernel_rfl) (by kernel_rfl) rfl (fun _ _ _ h => h) rfl rfl ?hy (by assumption) ?_
    case hy => (intro w' hSw; go_simp <;> (first | with_reducible rfl | omega | skip))
    simp only [Act.put, List.setIfInBounds_toArray, List.set_cons_zero, List.set_cons_succ]
    refine wpAnyE_tk (i := 1) (d := some 24) (v := .int .i64 (ca : Int)) rfl (by kernel_rfl) (by kernel_rfl) (by kernel_rfl) rfl (fun _ _ _ h => h) rfl rfl ?hy (by assumption) ?_
    case hy => (intro w' hSw; go_simp <;> (first | with_reducible rfl | omega | skip))
    simp only [Act.put, List.setIfInBounds_toArray, List.set_cons_zero, List.set_cons_succ]
    refine wpAnyE_tk (i := 2) (d := some 25) (v := .agg #[.int .i64 171, .int .i64 (ca : Int)]) rfl (by kernel_rfl) (by kernel_rfl) (by kernel_rfl) rfl (fun _ _ _ h => h) rfl rfl ?hy (by assumption) ?_
    case hy => (intro w' hSw; go_simp <;> (first | with_reducible rfl | omega | skip))
    simp only [Act.put, List.setIfInBounds_toArray, List.set_cons_zero, List.set_cons_succ]
    refine wpAnyE_tk (i := 3) (d := some 2) (v := .string ⟨#[]⟩) rfl (by kernel_rfl) (by kernel_rfl) (by kernel_rfl) rfl (fun _ _ _ h => h) rfl rfl ?hy (by assumption) ?_
    case hy => (intro w' hSw; go_simp <;> (first | with_reducible rfl | omega | skip))
    simp only [Act.put, List.setIfInBounds_toArray, List.set_cons_zero, List.set_cons_succ]
    refine wpAnyE_on (i := 4) (by kernel_rfl) rfl rfl ?_
    go_simp
    refine wpAnyE_done (by kernel_rfl) ?_ _
    go_wp2
    refine bodyPost_ret (v := .tuple #[.string ⟨#[]⟩, .agg #[.int .i64 171, .int .i64 ca]]) (by simp [results, Tryd.results22, go_sem, s0, s1]) rfl ⟨by rw [HM.out]; rfl, ?_⟩
    exact ((HB3.out.setCell (p := ⟨w.heap.size + 1, 0, none⟩) (Nat.le_succ _) _).setCell (p := ⟨w.heap.size + 1, 1, none⟩) (Nat.le_succ _) _).drew
  · have hk0' : ((k : Int) == 0) = false := by simp; omega
    have hRD := wread_any q X (by omega) w3 HT3.out.cls
    have HRD := hRD
    obtain ⟨E, hE⟩ : ∃ E, E = reE q X.data.toList := ⟨_, rfl⟩
    obtain ⟨P, hP⟩ : ∃ P, P = reP q X.data.toList := ⟨_, rfl⟩
    obtain ⟨R, hR⟩ : ∃ R, R = reR q X.data.toList := ⟨_, rfl⟩
    rw [← hE, ← hP, ← hR] at hRD
    rw [HXX.out, HQ.out] at hE hP hR
    have HE : Hid (E = reE p.2.1 p.2.2) := hE
    have hPl : P ≤ 4294967200 := by have := re_le p.2.1 p.2.2; omega
    have HP : Hid (P = reP p.2.1 p.2.2) := hP
    have HRR2 : Hid (R = reR p.2.1 p.2.2) := hR
    clear HRD hE hP hR
    go_wp2_with fail
    refine hRD.mono ?_
    rintro e w4 ⟨v, rfl, ho4, hb4⟩
    have HB4 : Hid (Below w.heap.size w w4) := HB3.out.trans (hb4.mono (by omega))
    have HE4 : Hid (Lies w4 w.heap.size #[.string C, .string (cdS q), .string X, .int .i64 (ca : Int), .int .i64 (ta : Int)] 44) := HE3.out.below hb4 (by omega)
    have HS4 : Hid (Lies w4 (w.heap.size + 1) #[.int .i64 0, .int .i64 0] 25) := HS3.out.below hb4 hz3
    have HT4 : Hid (Tb w4) := HT3.out.below hb4
    have hz4 : w.heap.size + 1 < w4.heap.size := HS4.out.lt
    obtain ⟨a, cap, rfl, hbt, hRl, hac, hnc, _⟩ := own_bts ho4
    have HBT : Hid (Bts a R w4) := hbt
    have hcm := own_cap ho4
    clear hRD ho4 hb4 hbt hac hRl HB3 HE3 HS3 HT3 e0 e1 e2 e3 e4 s0 s1 f0 f1
    obtain ⟨w5, hw5⟩ : ∃ w5, w5 = w4.alloc (.cells #[.int .i64 (E : Int), .int .i64 (P : Int)] 25) := ⟨_, rfl⟩
    have hb5 : Below w4.heap.size w4 w5 := by rw [hw5]; exact (Below.refl _ _).alloc (Nat.le_refl _) _
    have hL5 : Lies w5 w4.heap.size #[.int .i64 (E : Int), .int .i64 (P : Int)] 25 := by rw [hw5]; exact Lies.new w4 _ _
    have HW5 : Hid (w4.alloc (.cells #[.int .i64 (E : Int), .int .i64 (P : Int)] 25) = w5) := hw5.symm
    have HB5 : Hid (Below w.heap.size w w5) := HB4.out.trans (hb5.mono (by omega))
    have HE5 : Hid (Lies w5 w.heap.size #[.string C, .string (cdS q), .string X, .int .i64 (ca : Int), .int .i64 (ta : Int)] 44) := HE4.out.below hb5 (by omega)
    have HS5 : Hid (Lies w5 (w.heap.size + 1) #[.int .i64 0, .int .i64 0] 25) := HS4.out.below hb5 hz4
    have HT5 : Hid (Tb w5) := HT4.out.below hb5
    have HBT5 : Hid (Bts a R w5) := HBT.out.below hb5
    have e4 : w5.cell? ⟨w.heap.size, 4, none⟩ = some (.int .i64 (ta : Int)) := HE5.out.cell 4
    have s0 := HS5.out.cell 0
    have s1 := HS5.out.cell 1
    have f0 := HS5.out.frozen 0
    have f1 := HS5.out.frozen 1
    have l0 : w5.cell? ⟨w4.heap.size, 0, none⟩ = some (.int .i64 (E : Int)) := hL5.cell 0
    have l1 : w5.cell? ⟨w4.heap.size, 1, none⟩ = some (.int .i64 (P : Int)) := hL5.cell 1
    clear hw5 hb5 hL5 HB4 HE4 HS4 HT4 HBT
    by_cases hE0 : E = 0
    · have hE1 : ((E : Int) != 0) = false := by simp [hE0]
      clear l1
      have HE2 : Hid (reE p.2.1 p.2.2 = 0) := by show _ = _; rw [← HE.out]; exact hE0
      have hRl2 : R.length ≤ 4294967200 := by rw [HRR2.out]; have := reR_le p.2.1 p.2.2; omega
      have hTX := wctxt_any k (by omega) hk3 a R cap R.length w5 rfl HT5.out.cls HT5.out.fst HBT5.out (by omega) hnc hcm
      clear hE0
      go_wp2_with (rw [HW5.out])
      refine hTX.mono ?_
      rintro e w6 ⟨T, b, ⟨rfl, hcs⟩, hb6⟩
      have HB6 : Hid (Below w.heap.size w w6) := HB5.out.trans (hb6.mono HB5.out.size)
      have hz5 : w.heap.size + 1 < w5.heap.size := HS5.out.lt
      have HS6 : Hid (Lies w6 (w.heap.size + 1) #[.int .i64 0, .int .i64 0] 25) := HS5.out.below hb6 hz5
      have e46 : w6.cell? ⟨w.heap.size, 4, none⟩ = some (.int .i64 (ta : Int)) := (HE5.out.below hb6 (by omega)).cell 4
      clear e4 s0 s1 f0 f1 hTX hb6 l0
      have s0 := HS6.out.cell 0
      have s1 := HS6.out.cell 1
      have f0 := HS6.out.frozen 0
      have f1 := HS6.out.frozen 1
      rw [HRR2.out] at hcs
      cases b with
      | true =>
        have HM : Hid (mnW f t p = (T.data.toList, 0, 0)) := by show _ = _; exact mn_ok (by rw [← HK.out]; omega) HE2.out (by rw [← HK.out]; exact hcs)
        clear hcs
        go_wp2
        refine bodyPost_ret (v := .tuple #[.string T, .agg #[.int .i64 0, .int .i64 0]]) (by simp [results, Tryd.results22, go_sem, s0, s1]) rfl ⟨by rw [HM.out]; simp only [bS_of]; rfl, ?_⟩
        exact (HB6.out.setCell (p := ⟨w.heap.size + 1, 0, none⟩) (Nat.le_succ _) _).setCell (p := ⟨w.heap.size + 1, 1, none⟩) (Nat.le_succ _) _
      | false =>
        have HM : Hid (mnW f t p = ([], 170, ta)) := by show _ = _; rw [HTA.out]; exact mn_no (by rw [← HK.out]; omega) HE2.out (by rw [← HK.out]; exact hcs)
        clear hcs
        go_wp2_with fail
        refine wp_region_late (fun wx => wx.cell? ⟨w.heap.size, 4, none⟩ = some (.int .i64 (ta : Int))) 5 (by kernel_rfl) (by exact e46) (fun hHeld => ?_)
        refine wpAnyE_tk (i := 0) (d := some 51) (v := .pointer (some ⟨w.heap.size, 4, none⟩)) rfl (by kernel_rfl) (by kernel_rfl) (by kernel_rfl) rfl (fun _ _ _ h => h) rfl rfl ?hy (by assumption) ?_
        case hy => (intro w' hSw; go_simp <;> (first | with_reducible rfl | omega | skip))
        simp only [Act.put, List.setIfInBounds_toArray, List.set_cons_zero, List.set_cons_succ]
        refine wpAnyE_tk (i := 1) (d := some 52) (v := .int .i64 (ta : Int)) rfl (by kernel_rfl) (by kernel_rfl) (by kernel_rfl) rfl (fun _ _ _ h => h) rfl rfl ?hy (by assumption) ?_
        case hy => (intro w' hSw; go_simp <;> (first | with_reducible rfl | omega | skip))
        simp only [Act.put, List.setIfInBounds_toArray, List.set_cons_zero, List.set_cons_succ]
        refine wpAnyE_tk (i := 2) (d := some 53) (v := .agg #[.int .i64 170, .int .i64 (ta : Int)]) rfl (by kernel_rfl) (by kernel_rfl) (by kernel_rfl) rfl (fun _ _ _ h => h) rfl rfl ?hy (by assumption) ?_
        case hy => (intro w' hSw; go_simp <;> (first | with_reducible rfl | omega | skip))
        simp only [Act.put, List.setIfInBounds_toArray, List.set_cons_zero, List.set_cons_succ]
        refine wpAnyE_tk (i := 3) (d := some 2) (v := .string ⟨#[]⟩) rfl (by kernel_rfl) (by kernel_rfl) (by kernel_rfl) rfl (fun _ _ _ h => h) rfl rfl ?hy (by assumption) ?_
        case hy => (intro w' hSw; go_simp <;> (first | with_reducible rfl | omega | skip))
        simp only [Act.put, List.setIfInBounds_toArray, List.set_cons_zero, List.set_cons_succ]
        refine wpAnyE_on (i := 4) (by kernel_rfl) rfl rfl ?_
        go_simp
        refine wpAnyE_done (by kernel_rfl) ?_ _
        go_wp2
        refine bodyPost_ret (v := .tuple #[.string ⟨#[]⟩, .agg #[.int .i64 170, .int .i64 ta]]) (by simp [results, Tryd.results22, go_sem, s0, s1]) rfl ⟨by rw [HM.out]; rfl, ?_⟩
        exact ((HB6.out.setCell (p := ⟨w.heap.size + 1, 0, none⟩) (Nat.le_succ _) _).setCell (p := ⟨w.heap.size + 1, 1, none⟩) (Nat.le_succ _) _).drew
    · have hE1 : ((E : Int) != 0) = true := by simp; omega
      have HM : Hid (mnW f t p = ([], 170, ta + P)) := by show _ = _; rw [HTA.out, HP.out]; exact mn_err (by rw [← HK.out]; omega) (by rw [← HE.out]; exact hE0)
      have hwr : IntKind.i64.wrap ((ta : Int) + (P : Int)) = (ta : Int) + (P : Int) := by rw [IntKind.wrap_i64]; omega
      clear hE0
      go_wp2_with (rw [HW5.out])
      refine wp_region_late (fun wx => wx.cell? ⟨w.heap.size, 4, none⟩ = some (.int .i64 (ta : Int)) ∧ wx.cell? ⟨w4.heap.size, 1, none⟩ = some (.int .i64 (P : Int))) 8 (by kernel_rfl) ⟨e4, l1⟩ (fun hHeld => ?_)
      refine wpAnyE_tk (i := 0) (d := some 37) (v := .pointer (some ⟨w.heap.size, 4, none⟩)) rfl (by kernel_rfl) (by kernel_rfl) (by kernel_rfl) rfl (fun _ _ _ h => h) rfl rfl ?hy (by assumption) ?_
      case hy => (intro w' hSw; go_simp <;> (first | with_reducible rfl | omega | skip))
      simp only [Act.put, List.setIfInBounds_toArray, List.set_cons_zero, List.set_cons_succ]
      refine wpAnyE_tk (i := 1) (d := some 38) (v := .int .i64 (ta : Int)) rfl (by kernel_rfl) (by kernel_rfl) (by kernel_rfl) rfl (fun _ _ _ h => h) rfl rfl ?hy (by assumption) ?_
      case hy => (intro w' hSw; obtain ⟨q1, q2⟩ := hSw; go_simp <;> (first | with_reducible rfl | omega | skip))
      simp only [Act.put, List.setIfInBounds_toArray, List.set_cons_zero, List.set_cons_succ]
      refine wpAnyE_tk (i := 2) (d := some 39) (v := .pointer (some ⟨w4.heap.size, 1, none⟩)) rfl (by kernel_rfl) (by kernel_rfl) (by kernel_rfl) rfl (fun _ _ _ h => h) rfl rfl ?hy (by assumption) ?_
      case hy => (intro w' hSw; go_simp <;> (first | with_reducible rfl | omega | skip))
      simp only [Act.put, List.setIfInBounds_toArray, List.set_cons_zero, List.set_cons_succ]
      refine wpAnyE_tk (i := 3) (d := some 40) (v := .int .i64 (P : Int)) rfl (by kernel_rfl) (by kernel_rfl) (by kernel_rfl) rfl (fun _ _ _ h => h) rfl rfl ?hy (by assumption) ?_
      case hy => (intro w' hSw; obtain ⟨q1, q2⟩ := hSw; go_simp <;> (first | with_reducible rfl | omega | skip))
      simp only [Act.put, List.setIfInBounds_toArray, List.set_cons_zero, List.set_cons_succ]
      refine wpAnyE_tk (i := 4) (d := some 41) (v := .int .i64 ((ta : Int) + (P : Int))) rfl (by kernel_rfl) (by kernel_rfl) (by kernel_rfl) rfl (fun _ _ _ h => h) rfl rfl ?hy (by assumption) ?_
      case hy => (intro w' hSw; go_simp <;> (first | with_reducible rfl | omega | skip))
      simp only [Act.put, List.setIfInBounds_toArray, List.set_cons_zero, List.set_cons_succ]
      refine wpAnyE_tk (i := 5) (d := some 42) (v := .agg #[.int .i64 170, .int .i64 ((ta : Int) + (P : Int))]) rfl (by kernel_rfl) (by kernel_rfl) (by kernel_rfl) rfl (fun _ _ _ h => h) rfl rfl ?hy (by assumption) ?_
      case hy => (intro w' hSw; go_simp <;> (first | with_reducible rfl | omega | skip))
      simp only [Act.put, List.setIfInBounds_toArray, List.set_cons_zero, List.set_cons_succ]
      refine wpAnyE_tk (i := 6) (d := some 2) (v := .string ⟨#[]⟩) rfl (by kernel_rfl) (by kernel_rfl) (by kernel_rfl) rfl (fun _ _ _ h => h) rfl rfl ?hy (by assumption) ?_
      case hy => (intro w' hSw; go_simp <;> (first | with_reducible rfl | omega | skip))
      simp only [Act.put, List.setIfInBounds_toArray, List.set_cons_zero, List.set_cons_succ]
      refine wpAnyE_on (i := 7) (by kernel_rfl) rfl rfl ?_
      go_simp
      refine wpAnyE_done (by kernel_rfl) ?_ _
      go_wp2
      refine bodyPost_ret (v := .tuple #[.string ⟨#[]⟩, .agg #[.int .i64 170, .int .i64 ((ta : Int) + (P : Int))]]) (by simp [results, Tryd.results22, go_sem, s0, s1]) rfl ⟨by rw [HM.out]; rfl, ?_⟩
      exact ((HB5.out.setCell (p := ⟨w.heap.size + 1, 0, none⟩) (Nat.le_succ _) _).setCell (p := ⟨w.heap.size + 1, 1, none⟩) (Nat.le_succ _) _).drew
end Go.Proofs.YtdgepnfgjgbkoaaDoor
