/-
  Decode.
-/
import Derived.Test.YtdgepnfgjgbkoaaDoorWdm17
namespace Go.Proofs.YtdgepnfgjgbkoaaDoor
open Go.RowKit Go.Shelf

attribute [local go_sem] Oper.semAt_some

set_option maxRecDepth 100000 in
set_option maxHeartbeats 4000000 in
theorem wdec_any (s : ByteArray) (hs : s.size ≤ 4294967000) (w : World) (tb : Tb w) : Calls Tryd.prog 10 #[.string s] w fun e w' =>
    e = .returned (.tuple #[.string (bS (decW s.data.toList).1), .agg #[.int .i64 ((decW s.data.toList).2.1 : Nat), .int .i64 ((decW s.data.toList).2.2 : Nat)]]) ∧ Below w.heap.size w w' := by
  have hsI : (s.size : Int) ≤ 4294967000 := by omega
  have HFO : Hid (∀ wx, Calls Tryd.prog 20 #[.string s] wx fun e w' => e = .returned (.func (.func 37) #[] #[.pointer (some ⟨wx.heap.size, 0, none⟩)]) ∧ w' = wx.alloc (.cells #[.string s] 9)) := fun wx => wwords_any s wx
  obtain ⟨w0, hw0⟩ : ∃ w0, w0 = ((w.alloc (.cells #[.string s] 9)).alloc (.cells #[.string ⟨#[]⟩] 9)).alloc (.cells #[.int .i64 0, .int .i64 0] 25) := ⟨_, rfl⟩
  have hz0 : w0.heap.size = w.heap.size + 3 := by rw [hw0]; simp
  obtain ⟨w1, hmk, hO1, hB1⟩ := make_room w0 0 s.size 0 s.size rfl rfl (Nat.zero_le _) (by omega) w.heap.size (by omega)
  have hS0 : Lies w0 w.heap.size #[.string s] 9 := by rw [hw0]; exact ((Lies.new w _ _).alloc _).alloc _
  have hR0 : Lies w0 (w.heap.size + 1) #[.string ⟨#[]⟩] 9 := by rw [hw0]; simpa using (Lies.new (w.alloc (.cells #[.string s] 9)) #[.string ⟨#[]⟩] 9).alloc _
  have hP0 : Lies w0 (w.heap.size + 1 + 1) #[.int .i64 0, .int .i64 0] 25 := by rw [hw0]; simpa using Lies.new ((w.alloc (.cells #[.string s] 9)).alloc (.cells #[.string ⟨#[]⟩] 9)) #[.int .i64 0, .int .i64 0] 25
  have hB0 : Below w.heap.size w w0 := by rw [hw0]; exact (((Below.refl _ w).alloc (Nat.le_refl _) _).alloc (by simp) _).alloc (by simp; omega) _
  rw [hz0] at hmk hO1 hB1
  have HW0 : Hid (((w.alloc (.cells #[.string s] 9)).alloc (.cells #[.string ⟨#[]⟩] 9)).alloc (.cells #[.int .i64 0, .int .i64 0] 25) = w0) := hw0.symm
  have c0 := hS0.cell 0
  rw [show (#[Value.string s] : Array Value)[0]? = some (.string s) from rfl] at c0
  have hzb : w.heap.size + 3 < w1.heap.size := (hO1.lt _ rfl).2
  obtain ⟨w2, hw2⟩ : ∃ w2, w2 = ((w1.alloc (.cells #[.slice (some ⟨w.heap.size + 3, 0, none⟩) 0 s.size] 38)).alloc (.cells #[.int .i64 0] 3)).alloc (.cells #[.bool false] 4) := ⟨_, rfl⟩
  have hb2 : Below w1.heap.size w1 w2 := by rw [hw2]; exact (((Below.refl _ w1).alloc (Nat.le_refl _) _).alloc (by simp) _).alloc (by simp; omega) _
  have hz2 : w2.heap.size = w1.heap.size + 1 + 1 + 1 := by rw [hw2]; simp
  have hS2 : Lies w2 w.heap.size #[.string s] 9 := (hS0.below hB1 (by omega)).below hb2 (by omega)
  have HDW : Hid (Dw w s w1.heap.size (w2.alloc (.cells #[.string s] 9)) (.slice (some ⟨w.heap.size + 3, 0, none⟩) 0 s.size) [] 0 false) := by
    refine ⟨hS2.alloc _, ((hR0.below hB1 (by omega)).below hb2 (by omega)).alloc _, ((hP0.below hB1 (by omega)).below hb2 (by omega)).alloc _, ?_, ?_, ?_, ?_, ?_, ?_, hzb⟩
    · rw [hw2]
      exact (((Lies.new w1 _ _).alloc _).alloc _).alloc _
    · rw [hw2]
      simpa using ((Lies.new (w1.alloc (.cells #[.slice (some ⟨w.heap.size + 3, 0, none⟩) 0 s.size] 38)) #[.int .i64 0] 3).alloc _).alloc _
    · rw [hw2]
      simpa using (Lies.new ((w1.alloc (.cells #[.slice (some ⟨w.heap.size + 3, 0, none⟩) 0 s.size] 38)).alloc (.cells #[.int .i64 0] 3)) #[.bool false] 4).alloc _
    · rw [← hz2]
      exact Lies.new w2 _ _
    · exact own_below (own_below hO1 hb2) ((Below.refl _ _).alloc (Nat.le_refl _) _)
    · exact ((hB0.trans (hB1.mono (by omega))).trans (hb2.mono (by omega))).alloc (by omega) _
  have HW2 : Hid (((w1.alloc (.cells #[.slice (some ⟨w.heap.size + 3, 0, none⟩) 0 s.size] 38)).alloc (.cells #[.int .i64 0] 3)).alloc (.cells #[.bool false] 4) = w2) := hw2.symm
  have c1 := (hS0.below hB1 (by omega)).cell 0
  rw [show (#[Value.string s] : Array Value)[0]? = some (.string s) from rfl] at c1
  have hlt0 : w.heap.size < w1.heap.size := by omega
  have c3 : (((w1.alloc (.cells #[.slice (some ⟨w.heap.size + 3, 0, none⟩) 0 s.size] 38)).alloc (.cells #[.int .i64 0] 3)).alloc (.cells #[.bool false] 4)).cell? ⟨w.heap.size, 0, none⟩ = some (.string s) := by
    have := hS2.cell 0
    rw [hw2] at this
    exact this
  have TBW : Hid (∀ wx, Below w.heap.size w wx → Tb wx) := fun wx h => tb.below h
  clear hw0 hw2 hS0 hR0 hP0 hB0 hO1 hB1 hb2 hS2 tb
  refine (callsIn_wide (n := 9)).1 ?_
  refine callsIn_of_wp_marks Tryd.func10 rfl trivial ?_ rfl
  simp only [Tryd.ntmps10, List.size_toArray, List.length_cons, List.length_nil, Nat.reduceAdd, Nat.reduceSub, Array.replicate_succ, Array.replicate_zero, List.push_toArray, List.append_toArray, List.nil_append, List.cons_append]
  refine wpIn_wide.2 ?_
  go_wp2_with (rw [HW0.out])
  refine (HFO.out _).mono ?_
  rintro e w3 ⟨rfl, hw3⟩
  rw [HW2.out] at hw3
  subst hw3
  have hzz : (((w1.alloc (.cells #[.slice (some ⟨w.heap.size + 3, 0, none⟩) 0 s.size] 38)).alloc (.cells #[.int .i64 0] 3)).alloc (.cells #[.bool false] 4)).heap.size = w1.heap.size + 1 + 1 + 1 := by rw [HW2.out]; exact hz2
  rw [hzz]
  clear HFO HW0 HW2 c0 c1 c3 hlt0 hmk hzz hz2
  generalize w1.heap.size = b at *
  generalize w2.alloc (.cells #[.string s] 9) = w4 at *
  go_wp2_with fail
  have hps : ∀ v ∈ vsW s.data.toList, v.size = 2 := fun v hv => by
    obtain ⟨p, _, rfl⟩ := List.mem_map.1 hv
    rfl
  refine (wpIn_wide (n := 9)).1 ?_
  refine' rv_out (by decide) (gf := 37) (lb := #[.pointer (some ⟨b + 1 + 1 + 1, 0, none⟩)]) rfl (Go.Proofs.enters_of Tryd.func37 (by kernel_rfl) rfl) (words_seq s (by omega) (b + 1 + 1 + 1) 8 (by decide) w4 HDW.out.g0) hps Kg.trans (fun W l o o' _ h1 h2 => Kg.book _ W l o o' h1 h2)
    (fun k W => ∃ v out done j, Hid (Dw w s b W v out done j) ∧ Hid (Dst s.data.toList k out done j)) (fun c k W => c = .ret ∧ ∃ e a, Hid (Dx w W e a) ∧ Hid (decW s.data.toList = ([], e, a))) ?hI ?hIx ⟨_, _, _, _, HDW.out, Dst.start _⟩ _ ?assign ?body ?done ?stop
  case hI => exact fun k _ W W' row hs hg hr => by obtain ⟨v, out, done, j, h, hd⟩ := hs; exact ⟨v, out, done, j, h.out.turn HDW.out.be.size hg hr, hd⟩
  case hIx => exact fun c k _ W W' row hs hg hr => by obtain ⟨hc, e, a, h, hd⟩ := hs; exact ⟨hc, e, a, h.out.turn HDW.out.be.size hg hr, hd⟩
  case assign =>
    intro lp k hk W K hK
    rw [(vsW_k s.data.toList k hk).1]
    gi_wp2
    exact hK
  case stop =>
    rintro D c k W hD hk ⟨rfl, e, a, HX, HE⟩ hdd
    refine wpIn_wide.2 ?_
    go_wp2
    refine ⟨by simp, .inl ⟨_, _, rfl, run_takeDeferred hdd, ?_⟩⟩
    have hX := HX.out.turn (Nat.le_refl _) (grownBy_putObj' W D (.deferred none)) (fun r e => by cases e; exact ⟨by have := HDW.out.be.size; omega, _, hdd, rfl⟩)
    have r0 := hX.r0.cell 0
    have p0 := hX.p0.cell 0
    have p1 := hX.p0.cell 1
    refine ⟨.tuple #[.string ⟨#[]⟩, .agg #[.int .i64 (e : Int), .int .i64 (a : Int)]], ?_, by rw [HE.out]; rfl, hX.be⟩
    simp [results, Tryd.results10, go_sem, r0, p0, p1]
  case body =>
    intro lp k hk W hlp hrec hi
    obtain ⟨v, out, done, j, H, HD⟩ := hi
    have hdr := (vsW_k s.data.toList k hk).2
    generalize wfk s.data.toList k = f at *
    generalize wtk s.data.toList k = t at *
    have ho := HD.out.ord
    rw [hdr] at ho
    have o1 : done ≤ f := ho.1
    have o2 : f < t := ho.2.1
    have o3 : t ≤ s.size := by have := ho.2.2.1; rw [len_list] at this; exact this
    have hPA := wparse_any s f t (by omega) o3 (by omega) W (TBW.out W H.out.be)
    have HDR : Hid ((wdsA s.data.toList).drop k = (f, t) :: (wdsA s.data.toList).drop (k + 1)) := hdr
    obtain ⟨o, hoo⟩ : ∃ o, o = pW (cutW s.data.toList f t) := ⟨_, rfl⟩
    rw [← hoo] at hPA
    have HOO : Hid (pW (cutW s.data.toList f t) = o) := hoo.symm
    have HPA : Hid (Calls Tryd.prog 21 #[.string s, .int .i64 (f : Int), .int .i64 (t : Int)] W fun e w' => e = .returned (.tuple #[.agg (enC f t o), .bool o.isSome]) ∧ Below W.heap.size W w') := hPA
    clear hdr ho hoo hPA
    have c0 := H.out.s0.cell 0
    rw [show (#[Value.string s] : Array Value)[0]? = some (.string s) from rfl] at c0
    have hwb := H.out.wb
    have hzW : b + 1 + 1 + 1 < W.heap.size := H.out.g0.lt
    gi_wp2_with fail
    refine ⟨trivial, ?_⟩
    refine (callsIn_wide.2 HPA.out).mono ?_
    rintro e W1 ⟨rfl, hb1⟩
    have hz1 : W.heap.size ≤ W1.heap.size := hb1.size
    have HC1 : Hid (Chg (FW w b W) W W1) := Chg.of_below hb1
    cases o with
    | none =>
      have HDN : Hid (Dst s.data.toList (k + 1) out done false) := HD.out.none HDR.out HOO.out
      have hJ := H.out.j0.below hb1 (by omega)
      have jc := hJ.cell 0
      rw [show (#[Value.bool j] : Array Value)[0]? = some (.bool j) from rfl] at jc
      have jf := hJ.frozen 0
      have hjl := hJ.lt
      have hH1 := H.out.on hb1
      have HH2 : Hid (Dw w s b (W1.setCell ⟨b + 1 + 1, 0, none⟩ (.bool false)) v out done false) := (hH1.setJ false).1
      have HC2 : Hid (Chg (FV w b W) W (W1.setCell ⟨b + 1 + 1, 0, none⟩ (.bool false))) := Chg.fv (Chg.of_below hb1) (hH1.setJ false).2
      clear HPA hJ HD HDR HOO hb1 hH1
      simp only [enC, Option.isSome_none]
      gi_wp2_with fail
      obtain ⟨q1, q2⟩ := H.out.post w4.heap.size (HC2.out.alloc _)
      exact ⟨q1, q2, v, out, done, false, HH2.out.on ((Below.refl _ _).alloc (Nat.le_refl _) _), HDN.out⟩
    | some p =>
      have hpl := pW_len HOO.out
      rw [cutW_len _ f t (by rw [len_list]; exact o3)] at hpl
      have hCl : p.1.length ≤ 4294967200 := by omega
      have hXl : p.2.2.length ≤ 4294967200 := by omega
      have HMN : Hid (∀ wx, Below w.heap.size w wx → Calls Tryd.prog 22 #[.agg (enC f t (some p))] wx fun e w' => e = .returned (.tuple #[.string (bS (mnW f t p).1), .agg #[.int .i64 ((mnW f t p).2.1 : Nat), .int .i64 ((mnW f t p).2.2 : Nat)]]) ∧ Below wx.heap.size wx w') := fun wx hx => wmeans_any f t p hCl hXl (by omega) wx (TBW.out wx hx)
      obtain ⟨T, hT⟩ : ∃ T, T = bS (mnW f t p).1 := ⟨_, rfl⟩
      obtain ⟨E, hE⟩ : ∃ E, E = (mnW f t p).2.1 := ⟨_, rfl⟩
      obtain ⟨A, hA⟩ : ∃ A, A = (mnW f t p).2.2 := ⟨_, rfl⟩
      rw [← hT, ← hE, ← hA] at HMN
      have HT : Hid (T = bS (mnW f t p).1) := hT
      have HE : Hid (E = (mnW f t p).2.1) := hE
      have HA : Hid (A = (mnW f t p).2.2) := hA
      obtain ⟨V0, V1, V2, V3, V4, hEN⟩ : ∃ (V0 V1 V2 : ByteArray) (V3 V4 : Int), enC f t (some p) = #[.string V0, .string V1, .string V2, .int .i64 V3, .int .i64 V4] := ⟨_, _, _, _, _, rfl⟩
      rw [hEN] at HMN ⊢
      obtain ⟨W2, hW2⟩ : ∃ W2, W2 = W1.alloc (.cells #[.string V0, .string V1, .string V2, .int .i64 V3, .int .i64 V4] 44) := ⟨_, rfl⟩
      have hb2 : Below W.heap.size W W2 := by rw [hW2]; exact hb1.alloc hb1.size _
      have hL2 : Lies W2 W1.heap.size #[.string V0, .string V1, .string V2, .int .i64 V3, .int .i64 V4] 44 := by rw [hW2]; exact Lies.new W1 _ _
      have HW2 : Hid (W1.alloc (.cells #[.string V0, .string V1, .string V2, .int .i64 V3, .int .i64 V4] 44) = W2) := hW2.symm
      have HB2 : Hid (Below W.heap.size W W2) := hb2
      have HM2 := HMN.out W2 (H.out.be.trans (hb2.mono H.out.be.size))
      have c4 : W1.cell? ⟨w.heap.size, 0, none⟩ = some (.string s) := (H.out.s0.below hb1 H.out.s0.lt).cell 0
      have m0 := hL2.cell 0
      have m1 := hL2.cell 1
      have m2 := hL2.cell 2
      have m3 := hL2.cell 3
      have m4 := hL2.cell 4
      clear HMN hT hE hA hEN hW2 hb2 hL2 HPA hpl hCl hb1
      simp only [Option.isSome_some]
      gi_wp2_with (rw [HW2.out])
      refine ⟨trivial, ?_⟩
      refine (callsIn_wide.2 HM2).mono ?_
      rintro e W3 ⟨rfl, hb3⟩
      obtain ⟨W4, hW4⟩ : ∃ W4, W4 = W3.alloc (.cells #[.int .i64 (E : Int), .int .i64 (A : Int)] 25) := ⟨_, rfl⟩
      have hb34 : Below W3.heap.size W3 W4 := by rw [hW4]; exact (Below.refl _ _).alloc (Nat.le_refl _) _
      have hb4 : Below W.heap.size W W4 := (HB2.out.trans (hb3.mono HB2.out.size)).trans (hb34.mono (Nat.le_trans HB2.out.size hb3.size))
      have hL4 : Lies W4 W3.heap.size #[.int .i64 (E : Int), .int .i64 (A : Int)] 25 := by rw [hW4]; exact Lies.new W3 _ _
      have HW4 : Hid (W3.alloc (.cells #[.int .i64 (E : Int), .int .i64 (A : Int)] 25) = W4) := hW4.symm
      have hH4 := H.out.on hb4
      have HH4 : Hid (Dw w s b W4 v out done j) := hH4
      have HB4 : Hid (Below W.heap.size W W4) := hb4
      have l0 : W4.cell? ⟨W3.heap.size, 0, none⟩ = some (.int .i64 (E : Int)) := hL4.cell 0
      have l1 : W4.cell? ⟨W3.heap.size, 1, none⟩ = some (.int .i64 (A : Int)) := hL4.cell 1
      have j4 : W4.cell? ⟨b + 1 + 1, 0, none⟩ = some (.bool j) := hH4.j0.cell 0
      have hz3 : W.heap.size ≤ W3.heap.size := Nat.le_trans HB2.out.size hb3.size
      clear hW4 hb34 hb4 hL4 hH4 hb3 HM2 m0 m1 m2 m3 m4 c4 c0 HB2 HW2
      by_cases hE0 : E = 0
      · have hE1 : ((E : Int) != 0) = false := by simp [hE0]
        have HD2 := HD.out.some HDR.out HOO.out (by rw [← HE.out]; exact hE0)
        have HD3 : Hid (Dst s.data.toList (k + 1) ((if j then out else out ++ cutW s.data.toList done f) ++ (mnW f t p).1) t true) := HD2
        have hTl : out.length + s.size + T.size ≤ 140737488355328 := by
          have h1 := HD.out.len
          have h2 := HD.out.le
          rw [len_list] at h2
          have h3 := mn_len f t p
          rw [HT.out]
          have : (bS (mnW f t p).1).size = (mnW f t p).1.length := by rw [← len_list, bS_list]
          omega
        clear HD2 hE0
        cases j with
        | true =>
          have HD4 : Hid (Dst s.data.toList (k + 1) (out ++ T.data.toList) t true) := by
            have := HD3.out
            rw [if_pos rfl] at this
            show Dst _ _ _ _ _
            rw [HT.out, bS_list]
            exact this
          obtain ⟨a5, n5, cp5, W5, hr5, h5, hc5, o5, d5, j5, _⟩ := HH4.out.app T (by omega)
          have HH5 : Hid (Dw w s b (W5.setCell ⟨b, 0, none⟩ (.slice a5 n5 cp5)) (.slice a5 n5 cp5) (out ++ T.data.toList) done true) := h5
          have HC5 : Hid (Chg (FV w b W) W (W5.setCell ⟨b, 0, none⟩ (.slice a5 n5 cp5))) := Chg.fv (Chg.of_below HB4.out) hc5
          have q1 := HH4.out.o0.cell 0
          have q2 := o5.cell 0
          have q3 := o5.frozen 0
          have q4 := d5.cell 0
          have q5 := d5.frozen 0
          have q6 := j5.cell 0
          have q7 := j5.frozen 0
          simp only [List.getElem?_toArray, List.getElem?_cons_zero] at q1 q2 q4 q6
          clear h5 hc5 o5 d5 j5
          gi_wp2_with (first | rw [HW4.out] | refine wpListIn_app rfl _ _ rfl rfl hr5 rfl rfl ?_)
          obtain ⟨hd1, hd2⟩ := HH5.out.setD t
          obtain ⟨hj1, hj2⟩ := hd1.setJ true
          obtain ⟨z1, z2⟩ := H.out.post w4.heap.size (Chg.fv (Chg.fv HC5.out hd2) hj2)
          exact ⟨z1, z2, _, _, _, _, hj1, HD4.out⟩
        | false =>
          have HD4 : Hid (Dst s.data.toList (k + 1) (out ++ cutW s.data.toList done f ++ T.data.toList) t true) := by
            have := HD3.out
            rw [if_neg (by simp)] at this
            show Dst _ _ _ _ _
            rw [HT.out, bS_list]
            exact this
          have hYs : (s.extract done f).size = f - done := by simp; omega
          have hYl : (s.extract done f).data.toList = cutW s.data.toList done f := by rw [Lib.extract_data]; rfl
          have hcl := cutW_len s.data.toList done f (by rw [len_list]; omega)
          have hbd : Below W4.heap.size W4 W4.drew := (Below.refl _ _).drew
          have hHd := HH4.out.on hbd
          have hCd : Chg (FV w b W) W W4.drew := Chg.of_below (HB4.out.trans (hbd.mono HB4.out.size))
          obtain ⟨a6, n6, cp6, W6, hr6, h6, hc6, o6, d6, j6, s6⟩ := hHd.app (s.extract done f) (by omega)
          rw [hYl] at h6
          have HH6 : Hid (Dw w s b (W6.setCell ⟨b, 0, none⟩ (.slice a6 n6 cp6)) (.slice a6 n6 cp6) (out ++ cutW s.data.toList done f) done false) := h6
          have HC6 : Hid (Chg (FV w b W) W (W6.setCell ⟨b, 0, none⟩ (.slice a6 n6 cp6))) := Chg.fv hCd hc6
          have c1 := hHd.s0.cell 0
          have c2 := hHd.o0.cell 0
          have c3 := hHd.d0.cell 0
          have u1 := s6.cell 0
          have u2 := o6.cell 0
          have u3 := d6.cell 0
          have u4 := o6.frozen 0
          simp only [List.getElem?_toArray, List.getElem?_cons_zero] at c1 c2 c3 u1 u2 u3
          have o1I : (done : Int) ≤ (f : Int) := by omega
          have o3I : (f : Int) ≤ (s.size : Int) := by omega
          obtain ⟨W7, hW7⟩ : ∃ W7, W7 = W6.setCell ⟨b, 0, none⟩ (.slice a6 n6 cp6) := ⟨_, rfl⟩
          have HW7 : Hid (W6.setCell ⟨b, 0, none⟩ (.slice a6 n6 cp6) = W7) := hW7.symm
          rw [← hW7] at HH6 HC6
          obtain ⟨a5, n5, cp5, W5, hr5, h5, hc5, o5, d5, j5, _⟩ := HH6.out.app T (by rw [List.length_append]; omega)
          have HH5 : Hid (Dw w s b (W5.setCell ⟨b, 0, none⟩ (.slice a5 n5 cp5)) (.slice a5 n5 cp5) (out ++ cutW s.data.toList done f ++ T.data.toList) done false) := h5
          have HC5 : Hid (Chg (FV w b W) W (W5.setCell ⟨b, 0, none⟩ (.slice a5 n5 cp5))) := Chg.fv HC6.out hc5
          have q1 := HH6.out.o0.cell 0
          have q2 := o5.cell 0
          have q3 := o5.frozen 0
          have q4 := d5.cell 0
          have q5 := d5.frozen 0
          have q6 := j5.cell 0
          have q7 := j5.frozen 0
          simp only [List.getElem?_toArray, List.getElem?_cons_zero] at q1 q2 q4 q6
          clear h5 hc5 o5 d5 j5
          clear hYs hYl hcl hbd hHd hCd h6 hc6 o6 d6 j6 s6 hW7
          gi_wp2_with (rw [HW4.out])
          refine wpIn_region_late (fun wx => wx.cell? ⟨w.heap.size, 0, none⟩ = some (.string s) ∧ wx.cell? ⟨b, 0, none⟩ = some v ∧ wx.cell? ⟨b + 1, 0, none⟩ = some (.int .i64 (done : Int))) 6 (by kernel_rfl) (by kernel_rfl) ?lo ⟨c1, c2, c3⟩ (fun hHeld => ?_)
          case lo => rintro ⟨_, _, h⟩; exact h
          refine wpAnyE_take (i := 0) (d := some 39) (v := v) rfl (by kernel_rfl) (by kernel_rfl) (by kernel_rfl) (by kernel_rfl) (fun _ _ _ h => h) rfl rfl ?hy (by first | assumption | exact hHeld) ?_
          case hy => (intro w' hSw; obtain ⟨y1, y2, y3⟩ := hSw; go_simp <;> (first | with_reducible rfl | omega | skip))
          simp only [Act.put, List.setIfInBounds_toArray, List.set_cons_zero, List.set_cons_succ]
          refine wpAnyE_take (i := 1) (d := some 40) (v := .string s) rfl (by kernel_rfl) (by kernel_rfl) (by kernel_rfl) (by kernel_rfl) (fun _ _ _ h => h) rfl rfl ?hy (by first | assumption | exact hHeld) ?_
          case hy => (intro w' hSw; obtain ⟨y1, y2, y3⟩ := hSw; go_simp <;> (first | with_reducible rfl | omega | skip))
          simp only [Act.put, List.setIfInBounds_toArray, List.set_cons_zero, List.set_cons_succ]
          refine wpAnyE_take (i := 2) (d := some 41) (v := .int .i64 (done : Int)) rfl (by kernel_rfl) (by kernel_rfl) (by kernel_rfl) (by kernel_rfl) (fun _ _ _ h => h) rfl rfl ?hy (by first | assumption | exact hHeld) ?_
          case hy => (intro w' hSw; obtain ⟨y1, y2, y3⟩ := hSw; go_simp <;> (first | with_reducible rfl | omega | skip))
          simp only [Act.put, List.setIfInBounds_toArray, List.set_cons_zero, List.set_cons_succ]
          refine wpAnyE_take (i := 3) (d := some 42) (v := .int .i64 (f : Int)) rfl (by kernel_rfl) (by kernel_rfl) (by kernel_rfl) (by kernel_rfl) (fun _ _ _ h => h) rfl rfl ?hy (by first | assumption | exact hHeld) ?_
          case hy => (intro w' hSw; go_simp <;> (first | with_reducible rfl | omega | skip))
          simp only [Act.put, List.setIfInBounds_toArray, List.set_cons_zero, List.set_cons_succ]
          refine wpAnyE_take (i := 4) (d := some 43) (v := .string (s.extract done f)) rfl (by kernel_rfl) (by kernel_rfl) (by kernel_rfl) (by kernel_rfl) (fun _ _ _ h => h) rfl rfl ?hy (by first | assumption | exact hHeld) ?_
          case hy => (intro w' hSw; go_simp <;> (first | with_reducible rfl | omega | skip))
          simp only [Act.put, List.setIfInBounds_toArray, List.set_cons_zero, List.set_cons_succ]
          refine wpAnyE_one (i := 5) (by kernel_rfl) rfl rfl ?_
          refine wp_app _ _ rfl rfl hr6 rfl rfl ?_
          refine ⟨.inr ⟨u1, u2, u3⟩, ?_⟩
          simp only [Act.put, List.setIfInBounds_toArray]
          refine wpAnyE_one (i := 6) (by kernel_rfl) rfl rfl ?_
          go_simp
          refine wpAnyE_done (by kernel_rfl) ?_ _
          rw [HW7.out]
          clear hHeld c1 c2 c3 u1 u2 u3 u4 HW7
          gi_wp2_with (refine wpListIn_app rfl _ _ rfl rfl hr5 rfl rfl ?_)
          obtain ⟨hd1, hd2⟩ := HH5.out.setD t
          obtain ⟨hj1, hj2⟩ := hd1.setJ true
          obtain ⟨z1, z2⟩ := H.out.post w4.heap.size (Chg.fv (Chg.fv HC5.out hd2) hj2)
          exact ⟨z1, z2, _, _, _, _, hj1, HD4.out⟩
      · have hE1 : ((E : Int) != 0) = true := by simp; omega
        have HEE : Hid (decW s.data.toList = ([], E, A)) := by show _ = _; rw [HE.out, HA.out]; exact HD.out.err HDR.out HOO.out (by rw [← HE.out]; exact hE0)
        have r4 := HH4.out.r0.cell 0
        have rf4 := HH4.out.r0.frozen 0
        have p4 := HH4.out.p0.cell 0
        have p5 := HH4.out.p0.cell 1
        have pf4 := HH4.out.p0.frozen 0
        have pf5 := HH4.out.p0.frozen 1
        clear hE0
        have w3n1 : W3.heap.size ≠ w.heap.size + 1 := by omega
        have w3n2 : W3.heap.size ≠ w.heap.size + 1 + 1 := by omega
        gi_wp2_with (rw [HW4.out])
        refine wpIn_region_late (fun wx => wx.cell? ⟨W3.heap.size, 0, none⟩ = some (.int .i64 (E : Int)) ∧ wx.cell? ⟨W3.heap.size, 1, none⟩ = some (.int .i64 (A : Int))) 3 (by kernel_rfl) (by kernel_rfl) ?lo ⟨l0, l1⟩ (fun hHeld => ?_)
        case lo => rintro ⟨_, _, h⟩; exact h
        refine wpAnyE_tk (i := 0) (d := some 36) (v := .agg #[.int .i64 (E : Int), .int .i64 (A : Int)]) rfl (by kernel_rfl) (by kernel_rfl) (by kernel_rfl) rfl (fun _ _ _ h => h) rfl rfl ?hy (by first | assumption | exact hHeld) ?_
        case hy => (intro w' hSw; obtain ⟨y1, y2⟩ := hSw; go_simp <;> (first | with_reducible rfl | omega | skip))
        simp only [Act.put, List.setIfInBounds_toArray, List.set_cons_zero, List.set_cons_succ]
        refine wpAnyE_on (i := 1) (by kernel_rfl) rfl rfl ?_
        go_simp
        refine wpAnyE_on (i := 2) (by kernel_rfl) rfl rfl ?_
        go_simp
        refine wpAnyE_done (by kernel_rfl) ?_ _
        gi_wp2_with fail
        obtain ⟨z1, z2⟩ := H.out.leave w4.heap.size HB4.out E A _ rfl
        exact ⟨⟨z1.size, z1.same⟩, rfl, E, A, ⟨z2.r0, z2.p0, z2.be.drew⟩, HEE.out⟩
  case done =>
    rintro D W hD ⟨v, out, done, j, H, HD⟩ hk
    rw [show (vsW s.data.toList).length = (wdsA s.data.toList).length from List.length_map ..] at HD
    have hfin := HD.out.fin
    have hdl := HD.out.le
    rw [len_list] at hdl
    have hol := HD.out.len
    have hdI : (done : Int) ≤ (s.size : Int) := by omega
    have hYl : (s.extract done s.size).data.toList = s.data.toList.drop done := by
      rw [Lib.extract_data, List.take_of_length_le]
      rw [List.length_drop, len_list]
      exact Nat.le_refl _
    have hYs : (s.extract done s.size).size = s.size - done := by simp
    have hbd : Below W.heap.size W W.drew := (Below.refl _ _).drew
    have hHd := H.out.on hbd
    obtain ⟨a6, n6, cp6, W6, hr6, hcv, hc6, hb6⟩ := hHd.app2 (s.extract done s.size) (by omega)
    rw [hYl] at hcv
    have hE : decW s.data.toList = (out ++ s.data.toList.drop done, 0, 0) := hfin
    obtain ⟨U, hU⟩ : ∃ U, U = bS (out ++ s.data.toList.drop done) := ⟨_, rfl⟩
    rw [← hU] at hcv
    have HU : Hid (decW s.data.toList = (out ++ s.data.toList.drop done, 0, 0) ∧ U = bS (out ++ s.data.toList.drop done)) := ⟨hE, hU⟩
    have c1 := hHd.s0.cell 0
    have c2 := hHd.o0.cell 0
    have c3 := hHd.d0.cell 0
    have u1 := (hb6 _ _ _ hHd.s0 (by decide)).cell 0
    have u2 := (hb6 _ _ _ hHd.o0 (by decide)).cell 0
    have u3 := (hb6 _ _ _ hHd.d0 (by decide)).cell 0
    simp only [List.getElem?_toArray, List.getElem?_cons_zero] at c1 c2 c3 u1 u2 u3
    have R6 := hb6 _ _ _ hHd.r0 (by decide)
    have P6 := hb6 _ _ _ hHd.p0 (by decide)
    have hD6 : W6.heap[D]? = some (.deferred (some [])) := (hHd.post 0 hc6).1.same D _ (Nat.zero_le _) hk rfl
    have hB6 : Below w.heap.size w W6 := (hHd.keep 0 (hc6.mono fun _ => FV.fw)).2.2.1
    have r0 := R6.cell 0
    have rf := R6.frozen 0
    have p0 := P6.cell 0
    have p1 := P6.cell 1
    have pf0 := P6.frozen 0
    have pf1 := P6.frozen 1
    have hwb := H.out.wb
    have n1 : w.heap.size ≠ w.heap.size + 1 := by omega
    have HX : Hid (Lies W6 (w.heap.size + 1) #[.string ⟨#[]⟩] 9 ∧ Lies W6 (w.heap.size + 1 + 1) #[.int .i64 0, .int .i64 0] 25 ∧ W6.heap[D]? = some (.deferred (some [])) ∧ Below w.heap.size w W6) := ⟨R6, P6, hD6, hB6⟩
    clear hU hE hfin hYl hYs hbd hHd hc6 hb6 R6 P6 hD6 hB6 HD hol hdl
    go_wp2_with fail
    refine wp_onlyN ?_
    refine wp_region_late (fun wx => wx.cell? ⟨w.heap.size, 0, none⟩ = some (.string s) ∧ wx.cell? ⟨b, 0, none⟩ = some v ∧ wx.cell? ⟨b + 1, 0, none⟩ = some (.int .i64 (done : Int))) 9 (by kernel_rfl) ⟨c1, c2, c3⟩ (fun hHeld => ?_)
    refine wpAnyE_tk (i := 0) (d := some 50) (v := v) rfl (by kernel_rfl) (by kernel_rfl) (by kernel_rfl) rfl (fun _ _ _ h => h) rfl rfl ?hy (by first | assumption | exact hHeld) ?_
    case hy => (intro w' hSw; obtain ⟨y1, y2, y3⟩ := hSw; go_simp <;> (first | with_reducible rfl | omega | skip))
    simp only [Act.put, List.setIfInBounds_toArray, List.set_cons_zero, List.set_cons_succ]
    refine wpAnyE_tk (i := 1) (d := some 51) (v := .string s) rfl (by kernel_rfl) (by kernel_rfl) (by kernel_rfl) rfl (fun _ _ _ h => h) rfl rfl ?hy (by first | assumption | exact hHeld) ?_
    case hy => (intro w' hSw; obtain ⟨y1, y2, y3⟩ := hSw; go_simp <;> (first | with_reducible rfl | omega | skip))
    simp only [Act.put, List.setIfInBounds_toArray, List.set_cons_zero, List.set_cons_succ]
    refine wpAnyE_tk (i := 2) (d := some 52) (v := .int .i64 (done : Int)) rfl (by kernel_rfl) (by kernel_rfl) (by kernel_rfl) rfl (fun _ _ _ h => h) rfl rfl ?hy (by first | assumption | exact hHeld) ?_
    case hy => (intro w' hSw; obtain ⟨y1, y2, y3⟩ := hSw; go_simp <;> (first | with_reducible rfl | omega | skip))
    simp only [Act.put, List.setIfInBounds_toArray, List.set_cons_zero, List.set_cons_succ]
    refine wpAnyE_tk (i := 6) (d := some 56) (v := .agg #[.int .i64 0, .int .i64 0]) rfl (by kernel_rfl) (by kernel_rfl) (by kernel_rfl) rfl (fun _ _ _ h => h) rfl rfl ?hy (by first | assumption | exact hHeld) ?_
    case hy => (intro w' hSw; go_simp <;> (first | with_reducible rfl | omega | skip))
    simp only [Act.put, List.setIfInBounds_toArray, List.set_cons_zero, List.set_cons_succ]
    refine wpAnyE_tk (i := 3) (d := some 53) (v := .string (s.extract done s.size)) rfl (by kernel_rfl) (by kernel_rfl) (by kernel_rfl) rfl (fun _ _ _ h => h) rfl rfl ?hy (by first | assumption | exact hHeld) ?_
    case hy => (intro w' hSw; go_simp <;> (first | with_reducible rfl | omega | skip))
    simp only [Act.put, List.setIfInBounds_toArray, List.set_cons_zero, List.set_cons_succ]
    refine wpAnyE_on (i := 4) (by kernel_rfl) rfl rfl ?_
    refine wp_app _ _ rfl rfl hr6 rfl rfl ?_
    refine ⟨.inr ⟨u1, u2, u3⟩, ?_⟩
    simp only [Act.put, List.setIfInBounds_toArray]
    refine wpAnyE_on (i := 5) (by kernel_rfl) rfl rfl ?_
    go_simp
    refine wpAnyE_on (i := 7) (by kernel_rfl) rfl rfl ?_
    go_simp
    refine wpAnyE_on (i := 8) (by kernel_rfl) rfl rfl ?_
    go_simp
    refine wpAnyE_done (by kernel_rfl) ?_ _
    simp only [OnlyN]
    obtain ⟨R6, P6, D6, B6⟩ := HX.out
    have hR := ((R6.set 0 (.string U)).set_other (a := ⟨w.heap.size + 1 + 1, 0, none⟩) (by dsimp only; omega) (.int .i64 0)).set_other (a := ⟨w.heap.size + 1 + 1, 1, none⟩) (by dsimp only; omega) (.int .i64 0)
    have hP := ((P6.set_other (a := ⟨w.heap.size + 1, 0, none⟩) (by dsimp only; omega) (.string U)).set 0 (.int .i64 0)).set 1 (.int .i64 0)
    have hn1 : D ≠ w.heap.size + 1 := fun e => by subst e; have := R6; rw [Lies, D6] at this; cases this
    have hn2 : D ≠ w.heap.size + 1 + 1 := fun e => by subst e; have := P6; rw [Lies, D6] at this; cases this
    have hDD := (Below.heap_setCell ((W6.setCell ⟨w.heap.size + 1, 0, none⟩ (.string U)).setCell ⟨w.heap.size + 1 + 1, 0, none⟩ (.int .i64 0)) ⟨w.heap.size + 1 + 1, 1, none⟩ (.int .i64 0) D hn2).trans ((Below.heap_setCell (W6.setCell ⟨w.heap.size + 1, 0, none⟩ (.string U)) ⟨w.heap.size + 1 + 1, 0, none⟩ (.int .i64 0) D hn2).trans ((Below.heap_setCell W6 ⟨w.heap.size + 1, 0, none⟩ (.string U) D hn1).trans D6))
    have hBB := ((B6.setCell (p := ⟨w.heap.size + 1, 0, none⟩) (Nat.le_succ _) (.string U)).setCell (p := ⟨w.heap.size + 1 + 1, 0, none⟩) (by dsimp only; omega) (.int .i64 0)).setCell (p := ⟨w.heap.size + 1 + 1, 1, none⟩) (by dsimp only; omega) (.int .i64 0)
    obtain ⟨W9, hW9⟩ : ∃ W9, W9 = ((W6.setCell ⟨w.heap.size + 1, 0, none⟩ (.string U)).setCell ⟨w.heap.size + 1 + 1, 0, none⟩ (.int .i64 0)).setCell ⟨w.heap.size + 1 + 1, 1, none⟩ (.int .i64 0) := ⟨_, rfl⟩
    rw [← hW9] at hR hP hDD hBB ⊢
    have HF : Hid (Lies W9 (w.heap.size + 1) #[.string U] 9 ∧ Lies W9 (w.heap.size + 1 + 1) #[.int .i64 0, .int .i64 0] 25 ∧ W9.heap[D]? = some (.deferred (some [])) ∧ Below w.heap.size w W9) := ⟨hR, hP, hDD, hBB⟩
    clear hHeld R6 P6 D6 B6 hR hP hDD hBB hW9 HX
    go_wp2
    refine ⟨by simp, .inl ⟨_, _, rfl, run_takeDeferred HF.out.2.2.1, ?_⟩⟩
    have g9 := grownBy_putObj' W9 D (.deferred none)
    have hr9 : ∀ r, some D = some r → w.heap.size ≤ r ∧ ∃ o : Obj, W9.heap[r]? = some o ∧ o.isCells = false := fun r e => by cases e; exact ⟨by have := HDW.out.be.size; omega, _, HF.out.2.2.1, rfl⟩
    have r9 := (lies_turn HF.out.1 g9 (fun r e => (hr9 r e).2)).cell 0
    have p9 := (lies_turn HF.out.2.1 g9 (fun r e => (hr9 r e).2)).cell 0
    have p8 := (lies_turn HF.out.2.1 g9 (fun r e => (hr9 r e).2)).cell 1
    refine ⟨.tuple #[.string U, .agg #[.int .i64 0, .int .i64 0]], ?_, by rw [HU.out.1, HU.out.2]; rfl, below_turn HF.out.2.2.2 (Nat.le_refl _) (Nat.le_refl _) g9 hr9⟩
    simp [results, Tryd.results10, go_sem, r9, p9, p8]
end Go.Proofs.YtdgepnfgjgbkoaaDoor
