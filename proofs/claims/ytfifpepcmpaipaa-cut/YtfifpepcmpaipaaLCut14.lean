/-
  P14.8, P12, the stage's theorem: however a stream is cut, it comes to the same; proved for inputs of bulk at most 1048576.
-/
import Derived.Test.YtfifpepcmpaipaaHr14
import Derived.Test.YtfifpepcmpaipaaOpenN
import Derived.Test.YtfifpepcmpaipaaRows
import Derived.ProofKit
import Derived.ChangeMaps5
import Derived.OpenShut
import Derived.ShutString
import Derived.ChangeOld
import Derived.SizedLaws
namespace Go.Proofs.Ytfifpepcmpaipaa.dotsCut
open Go.ChangeShapes Go.WideShapes Go.ChangeAt Go.RowKit

theorem own_lit {w : World} (x : Pe) : Ow celP 27 1 (w.alloc (.cells #[.slice x.a x.l.length x.c] 27)) (.slice (some ⟨w.heap.size, 0, none⟩) 1 1) [x] :=
  ⟨rfl, .inr ⟨w.heap.size, 1, _, rfl, Nat.zero_le _, heap_alloc_last w _, Nat.le_refl _, by unfold maxLen; omega, rfl, rfl⟩⟩
set_option maxHeartbeats 4000000 in
set_option maxRecDepth 20000 in
theorem walk_bad {w : World} (a1 : Option Addr) (l1 : List UInt8) (cap1 : Nat) (ca : Option Addr) (zs : List Int) (ccap : Nat) (t : Int) (al : Int) (hno : ¬ (1 ≤ t ∧ t ≤ 16777216 ∧ 1 ≤ al ∧ al ≤ 16777216)) :
    Calls Try.prog 7 #[.slice a1 l1.length cap1, .slice ca zs.length ccap, .int .i64 t, .int .i64 al] w fun e w' => e = .returned (.bool true) ∧ Below w.heap.size w w' := by
  have HN := dnew_bad t al hno w
  have HWK := wakes_any w
  rcases (by omega : t < 1 ∨ (1 ≤ t ∧ 16777216 < t) ∨ (1 ≤ t ∧ t ≤ 16777216 ∧ al < 1) ∨ (1 ≤ t ∧ t ≤ 16777216 ∧ 1 ≤ al ∧ 16777216 < al)) with h | h | h | h
  all_goals
    have k1 : (1 ≤ t ↔ ¬ t < 1) := by omega
    have k2 : (t ≤ 16777216 ↔ ¬ 16777216 < t) := by omega
    have k3 : (1 ≤ al ↔ ¬ al < 1) := by omega
    have k4 : (al ≤ 16777216 ↔ ¬ 16777216 < al) := by omega
    clear hno
    go_enter Try.func7, Try.ntmps7
    go_wp2_with fail
    refine HN.mono ?_
    rintro e w1 ⟨rfl, rfl⟩
    go_wp2_with fail
    refine HN.mono ?_
    rintro e w1 ⟨rfl, rfl⟩
    go_wp2_with fail
    refine HWK.mono ?_
    rintro e w2 ⟨rfl, hB2⟩
    go_wp2_with fail
    go_ret
    exact ⟨rfl, hB2⟩

set_option maxHeartbeats 8000000 in
set_option maxRecDepth 20000 in
theorem walk_ok {w : World} (a1 : Option Addr) (l1 : List UInt8) (cap1 : Nat) (hr1 : Bts a1 l1 w) (hl1 : l1.length ≤ 1048576) (hc1 : l1.length ≤ cap1) (hn1 : a1 = none → cap1 = 0) (hm1 : cap1 ≤ 9223372036854775807) (ca : Option Addr) (zs : List Int) (ccap : Nat) (hz : IntsB ca zs w) (hzl : zs.length ≤ 1048576) (t : Nat) (al : Nat) (h1 : 1 ≤ t) (h2 : t ≤ 16777216) (h3 : 1 ≤ al) (h4 : al ≤ 16777216) :
    Calls Try.prog 7 #[.slice a1 l1.length cap1, .slice ca zs.length ccap, .int .i64 (t : Int), .int .i64 (al : Int)] w fun e w' => e = .returned (.bool true) ∧ Below w.heap.size w w' := by
  have HPE : Hid (PeOk w ⟨a1, l1, cap1⟩) := ⟨hr1, hc1, hm1, hn1⟩
  have HZ : Hid (IntsB ca zs w) := hz
  have HN1 := dnew_good t al h1 h2 h3 h4 w
  have HN2 := fun w => dnew_good t al h1 h2 h3 h4 w
  have k1 : ¬ (t : Int) < 1 := by omega
  have k2 : ¬ (16777216 : Int) < (t : Int) := by omega
  have k3 : ¬ (al : Int) < 1 := by omega
  have k4 : ¬ (16777216 : Int) < (al : Int) := by omega
  have k5 : (1 : Int) ≤ (t : Int) := by omega
  have k6 : (t : Int) ≤ 16777216 := by omega
  have k7 : (1 : Int) ≤ (al : Int) := by omega
  have k8 : (al : Int) ≤ 16777216 := by omega
  obtain ⟨T, hT⟩ : ∃ T, Ds.new.run t al l1 = T := ⟨_, rfl⟩
  have HT : Hid (Ds.new.run t al l1 = T) := hT
  have HTE : Hid (T.2.2.ended = false → T.1 = l1.length) := fun h => by
    rw [← hT] at h ⊢
    refine Ds.run_all _ _ _ _ ?_
    have h6 : ¬ (Ds.new.run t al l1).2.2.p = 6 := by simpa [Ds.ended] using h
    have := (Ds.run_p t al l1 Ds.new (by decide) (by decide)).2
    omega
  have HLL : Hid (l1.length ≤ 1048576 ∧ zs.length ≤ 1048576) := ⟨hl1, hzl⟩
  clear hr1 hz h1 h2 h3 h4 hT hc1 hn1 hm1
  go_enter Try.func7, Try.ntmps7
  go_wp2_with fail
  refine HN1.mono ?_
  rintro e w1 ⟨rfl, hR1, hB1⟩
  have HR1 : Hid (Rd w1 w.heap.size t al Ds.new) := hR1
  have HB1 : Hid (Below w.heap.size w w1) := hB1
  clear hR1 hB1 HN1
  go_wp2_with fail
  refine (HN2 w1).mono ?_
  rintro e w2 ⟨rfl, hR2, hB2⟩
  have HR12 : Hid (Rd w2 w.heap.size t al Ds.new) := HR1.out.below hB2 HR1.out.lt
  have HR2 : Hid (Rd w2 w1.heap.size t al Ds.new) := hR2
  have HB2 : Hid (Below w.heap.size w w2) := HB1.out.trans (hB2.mono HB1.out.size)
  have HS1 : Hid (w.heap.size < w1.heap.size) := HR1.out.lt
  clear hR2 hB2 HN2 HR1 HB1
  obtain ⟨W3, hW3⟩ : ∃ W3, W3 = w2.alloc (.cells #[.slice a1 l1.length cap1] 27) := ⟨_, rfl⟩
  have hB3 : Below w2.heap.size w2 W3 := by subst hW3; exact (Below.refl _ _).alloc (Nat.le_refl _) _
  have HB3 : Hid (Below w.heap.size w W3) := HB2.out.trans (hB3.mono HB2.out.size)
  have HR23 : Hid (Rd W3 w1.heap.size t al Ds.new) := HR2.out.below hB3 HR2.out.lt
  have HO3 : Ow celP 27 1 W3 (.slice (some ⟨w2.heap.size, 0, none⟩) 1 1) [⟨a1, l1, cap1⟩] := by subst hW3; exact own_lit ⟨a1, l1, cap1⟩
  have HS2 : Hid (w1.heap.size < w2.heap.size) := HR2.out.lt
  have HP3 : ∀ x ∈ [(⟨a1, l1, cap1⟩ : Pe)], PeIn W3 w.heap.size (.slice (some ⟨w2.heap.size, 0, none⟩) 1 1) x := fun x hx => by
    rw [List.mem_singleton.1 hx]
    refine pein_old HPE.out HB3.out (Nat.le_refl _) (fun k e => ?_)
    cases e
    exact Nat.le_trans (Nat.le_of_lt HS1.out) (Nat.le_of_lt HS2.out)
  have HHR := lhear_any w.heap.size t al W3 (.slice (some ⟨w2.heap.size, 0, none⟩) 1 1) [⟨a1, l1, cap1⟩] (HR12.out.below hB3 HR12.out.lt) HO3 HP3 (by rw [cat_one]; have := HLL.out.1; show l1.length ≤ _; omega) (by simp) T (by rw [cat_one]; exact HT.out)
  have HWW : Hid (w2.alloc (.cells #[.slice a1 l1.length cap1] 27) = W3) := hW3.symm
  have HSZ3 : Hid (w2.heap.size < W3.heap.size) := by subst hW3; show _ < _; simp
  clear hW3 hB3 HO3 HP3 HB2 HR2 HR12
  simp only [hC_arr] at HHR
  go_wp2_with (rw [HWW.out])
  clear HWW
  refine HHR.mono ?_
  rintro e w4 ⟨tv4, va4, vc4, rfl, hO4, hN4, hC4⟩
  obtain ⟨n, o, x⟩ := T
  dsimp only at *
  obtain ⟨g4, cap4, rfl, hb4, -⟩ := own_bts hO4
  have HBT4 : Hid (Bts g4 o w4) := hb4
  have HB4 : Hid (Below w.heap.size w w4) := HB3.out.trans (hC4.to_below HB3.out.size (fun k e => by
    rcases e with e | e
    · omega
    · cases e; exact Nat.le_trans (Nat.le_of_lt HS1.out) (Nat.le_of_lt HS2.out)))
  have HR24 : Hid (Rd w4 w1.heap.size t al Ds.new) := HR23.out.chg hC4 (fun e => by
    rcases e with e | e
    · have := HS1.out; omega
    · have h2 := HS2.out
      have h3 : w2.heap.size = w1.heap.size := Option.some.inj e
      omega)
  have HTN : Hid (∀ ad, g4 = some ad → w2.heap.size < ad.block) := fun ad e => Nat.lt_of_lt_of_le HSZ3.out (hN4 ad.block (by rw [e]; rfl))
  have HK : Hid (x.im al = x.im al) := rfl
  clear hO4 hN4 hC4 hb4 HHR HR23 HB3 HK
  obtain ⟨K, hK⟩ : ∃ K, imK (x.im al) = K := ⟨_, rfl⟩
  obtain ⟨Y, hY⟩ : ∃ Y, imY (x.im al) = Y := ⟨_, rfl⟩
  obtain ⟨Hh, hHh⟩ : ∃ Hh, imH (x.im al) = Hh := ⟨_, rfl⟩
  obtain ⟨en, hen⟩ : ∃ en, x.ended = en := ⟨_, rfl⟩
  rw [hK, hY, hHh, hen]
  have HEN : Hid (x.ended = en ∧ imK (x.im al) = K ∧ imY (x.im al) = Y ∧ imH (x.im al) = Hh) := ⟨hen, hK, hY, hHh⟩
  have HTE2 : Hid (en = false → n = l1.length) := by rw [← hen]; exact HTE.out
  clear hen hK hY hHh HTE
  obtain ⟨W5, hW5⟩ : ∃ W5, W5 = w4.alloc (.cells #[.slice g4 o.length cap4, .int .i64 (n : Int), .bool en, .int .i64 K, .string ⟨#[]⟩, .slice va4 0 vc4, .int .i64 Y, .bool Hh, .bool true] 61) := ⟨_, rfl⟩
  have hB5 : Below w4.heap.size w4 W5 := by subst hW5; exact (Below.refl _ _).alloc (Nat.le_refl _) _
  have HB5 : Hid (Below w.heap.size w W5) := HB4.out.trans (hB5.mono HB4.out.size)
  have HL5 : Hid (Lies W5 w4.heap.size #[.slice g4 o.length cap4, .int .i64 (n : Int), .bool en, .int .i64 K, .string ⟨#[]⟩, .slice va4 0 vc4, .int .i64 Y, .bool Hh, .bool true] 61) := by subst hW5; exact Lies.new w4 _ _
  have HR25 : Hid (Rd W5 w1.heap.size t al Ds.new) := HR24.out.below hB5 HR24.out.lt
  have HBT5 : Hid (Bts g4 o W5) := HBT4.out.below hB5
  have HWW : Hid (w4.alloc (.cells #[.slice g4 o.length cap4, .int .i64 (n : Int), .bool en, .int .i64 K, .string ⟨#[]⟩, .slice va4 0 vc4, .int .i64 Y, .bool Hh, .bool true] 61) = W5) := hW5.symm
  have HN5 : Hid (w1.heap.size ≠ w4.heap.size) := Nat.ne_of_lt HR24.out.lt
  have HPC := lpieces_any a1 l1 l1.length cap1 rfl ca zs zs.length ccap rfl W5 (HPE.out.below HB5.out) (by omega) (ints_below HZ.out HB5.out (Nat.le_refl _)) (by omega)
  have HSZ4 : Hid (w.heap.size ≤ w4.heap.size) := HB4.out.size
  clear hW5 hB5 HB4 HR24 HBT4
  go_wp2_with (rw [HWW.out])
  clear HWW
  refine HPC.mono ?_
  rintro e w6 ⟨v6, xs6, rfl, hO6, hN6, hX6, hP6, hL6, hB6⟩
  have HB6 : Hid (Below w.heap.size w w6) := HB5.out.trans (hB6.mono HB5.out.size)
  have HL6 : Hid (Lies w6 w4.heap.size #[.slice g4 o.length cap4, .int .i64 (n : Int), .bool en, .int .i64 K, .string ⟨#[]⟩, .slice va4 0 vc4, .int .i64 Y, .bool Hh, .bool true] 61) := HL5.out.below hB6 HL5.out.lt
  have HBT6 : Hid (Bts g4 o w6) := HBT5.out.below hB6
  have HR26 : Rd w6 w1.heap.size t al Ds.new := HR25.out.below hB6 HR25.out.lt
  have HHR := lhear_any w1.heap.size t al w6 v6 xs6 HR26 hO6 (fun x hx => pein_of (hP6 x hx) HR25.out hB6 hN6) (by rw [hX6]; omega) (by omega) (n, o, x) (by rw [hX6]; exact HT.out)
  simp only [hC_arr] at HHR
  rw [HEN.out.1, HEN.out.2.1, HEN.out.2.2.1, HEN.out.2.2.2] at HHR
  have HN6 : Hid (∀ k, v6.ownBlock = some k → W5.heap.size ≤ k) := hN6
  have HLT6 : Hid (w4.heap.size < W5.heap.size) := HL5.out.lt
  have HB56 : Hid (W5.heap.size ≤ w6.heap.size) := hB6.size
  have HT4 : Hid (o ≠ [] → ∀ ad, g4 = some ad → ad.block < W5.heap.size) := fun h0 ad e => by
    rcases HBT5.out with e1 | ⟨q, r, e1, h, _⟩
    · exact absurd e1 h0
    · rw [e1] at e; cases e; exact h
  obtain ⟨va, vc, hv6, -⟩ := hO6.shape
  subst hv6
  clear hO6 hN6 hX6 hP6 hL6 hB6 HPC HR25 HR26 HL5 HBT5 HB5
  go_wp2_with fail
  refine HHR.mono ?_
  rintro e w7 ⟨tv7, va7, vc7, rfl, hO7, hN7, hC7⟩
  have HBT7 : Hid (Bts g4 o w7) := by
    by_cases h0 : o = []
    · exact .inl h0
    · refine HBT6.out.chg hC7 (fun ad e h => ?_)
      have h1 := HTN.out ad e
      have h2 := HT4.out h0 ad e
      have h3 := HS2.out
      rcases h with h | h
      · omega
      · have := HN6.out _ h; omega
  have HL7 : Hid (Lies w7 w4.heap.size #[.slice g4 o.length cap4, .int .i64 (n : Int), .bool en, .int .i64 K, .string ⟨#[]⟩, .slice va4 0 vc4, .int .i64 Y, .bool Hh, .bool true] 61) := hC7.lies HL6.out (fun h => by
    rcases h with h | h
    · exact HN5.out h.symm
    · have := HN6.out _ h; have := HLT6.out; omega)
  have HB7 : Hid (Below w.heap.size w w7) := HB6.out.trans (hC7.to_below HB6.out.size (fun k e => by
    rcases e with e | e
    · have := HS1.out; omega
    · have h1 := HN6.out _ e; have h2 := HLT6.out; have h3 := HSZ4.out; omega))
  obtain ⟨g7, cap7, rfl, hb7, -⟩ := own_bts hO7
  obtain ⟨W8, hW8⟩ : ∃ W8, W8 = w7.alloc (.cells #[.slice g7 o.length cap7, .int .i64 (n : Int), .bool en, .int .i64 K, .string ⟨#[]⟩, .slice va7 0 vc7, .int .i64 Y, .bool Hh, .bool true] 61) := ⟨_, rfl⟩
  have hB8 : Below w7.heap.size w7 W8 := by subst hW8; exact (Below.refl _ _).alloc (Nat.le_refl _) _
  have HB8 : Hid (Below w.heap.size w W8) := HB7.out.trans (hB8.mono HB7.out.size)
  have HL8 : Hid (Lies W8 w4.heap.size #[.slice g4 o.length cap4, .int .i64 (n : Int), .bool en, .int .i64 K, .string ⟨#[]⟩, .slice va4 0 vc4, .int .i64 Y, .bool Hh, .bool true] 61) := HL7.out.below hB8 HL7.out.lt
  have HM8 : Lies W8 w7.heap.size #[.slice g7 o.length cap7, .int .i64 (n : Int), .bool en, .int .i64 K, .string ⟨#[]⟩, .slice va7 0 vc7, .int .i64 Y, .bool Hh, .bool true] 61 := by subst hW8; exact Lies.new w7 _ _
  have HEQ := beq_yes g4 g7 o o.length o.length cap4 cap7 rfl rfl W8 (HBT7.out.below hB8) (hb7.below hB8)
  have HSM := lsame_yes K Y ⟨#[]⟩ Hh va4 va7 [] 0 0 vc4 vc7 rfl rfl W8 (.inl rfl) (.inl rfl)
  have HWW : Hid (w7.alloc (.cells #[.slice g7 o.length cap7, .int .i64 (n : Int), .bool en, .int .i64 K, .string ⟨#[]⟩, .slice va7 0 vc7, .int .i64 Y, .bool Hh, .bool true] 61) = W8) := hW8.symm
  obtain ⟨⟨c0, c1, c2, c3, c4, c5, c6, c7, c8⟩, -⟩ := hC_cells HL8.out
  obtain ⟨⟨d0, d1, d2, d3, d4, d5, d6, d7, d8⟩, -⟩ := hC_cells HM8
  clear hW8 hB8 hb7 hO7 hN7 hC7 HHR HBT6 HBT7 HL6 HL7 HM8 HB6 HB7 HZ HPE HT HEN HTN HT4 HN6 HLT6 HB56 HSZ3 HS1 HS2 HN5
  cases en with
  | true =>
    go_wp2_with (rw [HWW.out])
    refine HEQ.mono ?_
    rintro e w9 ⟨rfl, rfl⟩
    go_wp2_with fail
    refine HSM.mono ?_
    rintro e w10 ⟨rfl, hB10⟩
    have HB10 : Hid (Below w.heap.size w w10) := HB8.out.trans (hB10.mono HB8.out.size)
    obtain ⟨⟨e0, e1, e2, -⟩, -⟩ := hC_cells (HL8.out.below hB10 HL8.out.lt)
    clear hB10 HSM HEQ c0 c1 c2 c3 c4 c5 c6 c7 c8 d0 d1 d2 d3 d4 d5 d6 d7 d8 e0
    have HWK := wakes_any w10
    go_wp2_with fail
    refine HWK.mono ?_
    rintro e w11 ⟨rfl, hB11⟩
    have HB11 : Hid (Below w.heap.size w w11) := HB10.out.trans (hB11.mono HB10.out.size)
    clear hB11 HWK
    go_wp2_with fail
    go_ret
    exact ⟨rfl, HB11.out⟩
  | false =>
    go_wp2_with (rw [HWW.out])
    refine HEQ.mono ?_
    rintro e w9 ⟨rfl, rfl⟩
    go_wp2_with fail
    refine HSM.mono ?_
    rintro e w10 ⟨rfl, hB10⟩
    have HB10 : Hid (Below w.heap.size w w10) := HB8.out.trans (hB10.mono HB8.out.size)
    obtain ⟨⟨e0, e1, e2, -⟩, -⟩ := hC_cells (HL8.out.below hB10 HL8.out.lt)
    clear hB10 HSM HEQ c0 c1 c2 c3 c4 c5 c6 c7 c8 d0 d1 d2 d3 d4 d5 d6 d7 d8 e0
    have hnl : ((n : Int) == (l1.length : Int)) = true := by simp [HTE2.out (by simp)]
    have HWK := wakes_any w10
    go_wp2_with fail
    refine HWK.mono ?_
    rintro e w11 ⟨rfl, hB11⟩
    have HB11 : Hid (Below w.heap.size w w11) := HB10.out.trans (hB11.mono HB10.out.size)
    clear hB11 HWK
    go_wp2_with fail
    go_ret
    exact ⟨rfl, HB11.out⟩
theorem walk {w : World} (a1 : Option Addr) (l1 : List UInt8) (cap1 : Nat) (hr1 : Bts a1 l1 w) (hl1 : l1.length ≤ 1048576) (hc1 : l1.length ≤ cap1) (hn1 : a1 = none → cap1 = 0) (hm1 : cap1 ≤ 9223372036854775807) (ca : Option Addr) (zs : List Int) (ccap : Nat) (hz : IntsB ca zs w) (hzl : zs.length ≤ 1048576) (t : Int) (_ : -9223372036854775808 ≤ t ∧ t ≤ 9223372036854775807) (al : Int) (_ : -9223372036854775808 ≤ al ∧ al ≤ 9223372036854775807) :
    Calls Try.prog 7 #[.slice a1 l1.length cap1, .slice ca zs.length ccap, .int .i64 t, .int .i64 al] w fun e w' => e = .returned (.bool true) ∧ Below w.heap.size w w' := by
  by_cases h : 1 ≤ t ∧ t ≤ 16777216 ∧ 1 ≤ al ∧ al ≤ 16777216
  · obtain ⟨t', rfl⟩ : ∃ t' : Nat, t = (t' : Int) := ⟨t.toNat, by omega⟩
    obtain ⟨al', rfl⟩ : ∃ al' : Nat, al = (al' : Int) := ⟨al.toNat, by omega⟩
    exact walk_ok a1 l1 cap1 hr1 hl1 hc1 hn1 hm1 ca zs ccap hz hzl t' al' (by omega) (by omega) (by omega) (by omega)
  · exact walk_bad a1 l1 cap1 ca zs ccap t al h

theorem own : ownKnob Try.prog.godebug = none := by kernel_rfl
theorem laidOut : laidOutB Try.prog = true := by kernel_rfl
set_option maxRecDepth 100000 in
theorem contract (H : Type) (enc : TypeId × Value → H) (W : World) (base : Nat) (args : Array Value) (ds gs : List (DataW H)) (before : List MemPlace)
    (hval : ∀ (j : Nat) t v, Try.f7.params[j]? = some t → args[j]? = some v → Value.okWide Try.prog W .any base t v)
    (hW : DataW.Whole enc Try.prog Try.f7.params.toList Rows.dotsCutSpec.vars false W args.toList ds gs before)
    (hk : Rows.uptoSmall H (ds ++ gs) = true) :
    Calls Try.prog 7 args W fun e W' => ∃ v, e = .returned v ∧ Rows.dotsCutSpec.post enc Try.prog Try.f7 false true false false W args v W' := by
  have hW' := hW
  obtain ⟨p, q, hA0, hV, rfl, hfz, hnd⟩ := hW
  have hA : DataW.TrodAll enc Try.prog W 0 (fun _ => true) true Try.f7.params.toList args.toList ds p := hA0
  rw [Try.params7] at hA hval
  obtain ⟨v0, vs0, d0, ds0, p0, q0, hargs, rfl, rfl, h0, r0⟩ := trodAll_cons hA
  obtain ⟨v1, vs1, d1, ds1, p1, q1, rfl, rfl, rfl, h1, r1⟩ := trodAll_cons r0
  obtain ⟨v2, vs2, d2, ds2, p2, q2, rfl, rfl, rfl, h2, r2⟩ := trodAll_cons r1
  obtain ⟨v3, vs3, d3, ds3, p3, q3, rfl, rfl, rfl, h3, r3⟩ := trodAll_cons r2
  obtain ⟨rfl, rfl, rfl⟩ := trodAll_nil r3
  obtain rfl : args = #[v0, v1, v2, v3] := by cases args; simp_all
  obtain ⟨rfl, rfl⟩ := trodVars_none hV
  have k0 := h0
  have lt0 : ∀ x ∈ p0, x.block < W.heap.size := by obtain ⟨m, hm⟩ := k0; exact DataW.trod_lt m _ _ _ hm
  obtain ⟨a0, len0, cap0, rfl⟩ := okWide_slice Try.underlying27 (hval 0 27 v0 rfl rfl)
  obtain ⟨l0, e0, row0, cp0, bd0⟩ := open_bytes h0
  have nn0 := open_none k0
  have k1 := h1
  have lt1 : ∀ x ∈ p1, x.block < W.heap.size := by obtain ⟨m, hm⟩ := k1; exact DataW.trod_lt m _ _ _ hm
  obtain ⟨a1, len1, cap1, rfl⟩ := okWide_slice Try.underlying59 (hval 1 59 v1 rfl rfl)
  obtain ⟨l1, e1, row1, bd1⟩ := open_nums h1
  obtain ⟨a2, rfl, rfl, rfl, w2⟩ := open_int Try.underlying3 (hval 2 3 v2 rfl rfl) h2
  have b2 := bounds_i64 w2
  obtain ⟨a3, rfl, rfl, rfl, w3⟩ := open_int Try.underlying3 (hval 3 3 v3 rfl rfl) h3
  have b3 := bounds_i64 w3
  clear hA0
  have s0 : l0.length ≤ 1048576 := by
    rcases bd0 with ⟨el, sp, rfl, hl⟩ | ⟨rfl, hl⟩
    · have := bulk_slice hk (el := el) (sp := sp) (by simp)
      omega
    · omega
  subst e0
  have s1 : l1.length ≤ 1048576 := by
    rcases bd1 with ⟨el, sp, rfl, hl⟩ | ⟨rfl, hl⟩
    · have := bulk_slice hk (el := el) (sp := sp) (by simp)
      omega
    · omega
  subst e1
  refine (walk a0 l0 cap0 row0 s0 cp0 nn0 (open_cap k0) a1 l1 cap1 row1 s1 a2 b2 a3 b3).mono fun e W' ⟨he, bel⟩ => ?_
  subst he
  exact ⟨_, rfl, _, _, _, [], _, [], hW', trodAll_mk1 (shut_bool Try.underlying4 _), trodAll_cons_mk (Below.trod laidOut (by kernel_rfl) (of_decide_eq_true (by kernel_rfl)) k0 bel lt0) (trodAll_cons_mk (Below.trod laidOut (by kernel_rfl) (of_decide_eq_true (by kernel_rfl)) k1 bel lt1) (trodAll_cons_mk (shut_int Try.underlying3 w2) (trodAll_cons_mk (shut_int Try.underlying3 w3) trodAll_mk0))), rfl, bel.frame _, fun h => by cases h⟩

set_option maxRecDepth 100000 in
theorem lifted (os : Os) (started : os.Started) (H : Type) (enc : TypeId × Value → H) (F : Stop.Interp) :
    ReturnsInHanded {} Try.checked os 7 .any ((Rows.OpenSpec.upto Rows.dotsCutSpec).pre6 enc Try.prog Try.f7 Rows.dotsCutUptoRow.domain false) (((Rows.OpenSpec.upto Rows.dotsCutSpec).at F).post enc Try.prog Try.f7 false true false false) := by
  refine returnsInHanded_of_cond (C := Try.checked) (s := Rows.OpenSpec.upto Rows.dotsCutSpec) (k := Rows.uptoSmall) rfl own started (by kernel_rfl) Try.func7
    (OpenSpec.witness (enc := enc) (C := Try.checked) (s := Rows.OpenSpec.upto Rows.dotsCutSpec) (k := Rows.uptoSmall) rfl false ⟨#[], #[.slice none 0 0, .slice none 0 0, .int .i64 0, .int .i64 0], []⟩ 8 (by kernel_rfl) (by kernel_rfl) (by kernel_rfl)
      (x := ([.nil, .nil, .lit (.int .i64 0), .lit (.int .i64 0)], [], [])) (by kernel_rfl) rfl (by kernel_rfl)) ?_
  intro W base args ds gs before hval hW _ hk _
  exact contract H enc W base args ds gs before hval hW hk

theorem over : Rows.DotsCutUptoSaid :=
  OpenClaim.holds_of_cond 7 Try.f7 rfl rfl rfl rfl rfl rfl rfl ⟨rfl, rfl, rfl, rfl, rfl⟩ rfl rfl rfl rfl rfl (by kernel_rfl) Try.func7 (by kernel_rfl)
    (of_decide_eq_true (by kernel_rfl)) (by unfold Func.isWrapper; first | (rw [if_pos (by decide +kernel)]; kernel_rfl) | (rw [if_neg (by decide +kernel)]; exact ⟨rfl, rfl⟩))
    (fun os started H enc _ F => lifted os started H enc F)
end Go.Proofs.Ytfifpepcmpaipaa.dotsCut
namespace Go.Proofs.Ytfifpepcmpaipaa
theorem dotsCutUpto_said : Rows.DotsCutUptoSaid := dotsCut.over
#print axioms dotsCutUpto_said
end Go.Proofs.Ytfifpepcmpaipaa
