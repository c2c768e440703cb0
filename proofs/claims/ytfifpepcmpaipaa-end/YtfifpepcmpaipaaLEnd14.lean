/-
  P14.9, P4: nothing but CR LF . CR LF ends a body; proved for inputs of bulk at most 1048576.
-/
import Derived.Test.YtfifpepcmpaipaaEn14
import Derived.Test.YtfifpepcmpaipaaOpenN
import Derived.Test.YtfifpepcmpaipaaRows
import Derived.ProofKit
import Derived.ChangeMaps5
import Derived.OpenShut
import Derived.ShutString
import Derived.ChangeOld
import Derived.SizedLaws
namespace Go.Proofs.Ytfifpepcmpaipaa.dotsEnd
open Go.ChangeShapes Go.WideShapes Go.ChangeAt Go.RowKit

set_option maxHeartbeats 8000000 in
set_option maxRecDepth 20000 in
theorem walk {w : World} (a1 : Option Addr) (l1 : List UInt8) (cap1 : Nat) (hr1 : Bts a1 l1 w) (hl1 : l1.length ≤ 1048576) (hc1 : l1.length ≤ cap1) (hn1 : a1 = none → cap1 = 0) (hm1 : cap1 ≤ 9223372036854775807) (ca : Option Addr) (zs : List Int) (ccap : Nat) (hz : IntsB ca zs w) (hzl : zs.length ≤ 1048576) (hmx : ∃ m, w.cell? ⟨0, 0, none⟩ = some (.int .i64 m)) :
    Calls Try.prog 8 #[.slice a1 l1.length cap1, .slice ca zs.length ccap] w fun e w' => e = .returned (.bool true) ∧ Below w.heap.size w w' := by
  obtain ⟨mx, hmx⟩ := hmx
  have HMX : Hid (w.cell? ⟨0, 0, none⟩ = some (.int .i64 mx)) := hmx
  have HM0 : Hid (0 < w.heap.size) := lt_of_cell hmx
  clear hmx
  have HPE : Hid (PeOk w ⟨a1, l1, cap1⟩) := ⟨hr1, hc1, hm1, hn1⟩
  have HZ : Hid (IntsB ca zs w) := hz
  have HN1 := dnew_good 16777216 16777216 (by decide) (by decide) (by decide) (by decide) w
  obtain ⟨T, hT⟩ : ∃ T, Ds.new.run 16777216 16777216 l1 = T := ⟨_, rfl⟩
  have HT : Hid (Ds.new.run 16777216 16777216 l1 = T) := hT
  have HNL : Hid (T.1 ≤ l1.length) := by rw [← hT]; exact Ds.run_len _ _ _ _
  have hbig : ¬ (16777216 : Int) < (l1.length : Int) := by omega
  clear hr1 hz hT hc1 hn1 hm1
  go_enter Try.func8, Try.ntmps8
  go_wp2_with fail
  refine HN1.mono ?_
  rintro e w1 ⟨rfl, hR1, hB1⟩
  have HR1 : Hid (Rd w1 w.heap.size 16777216 16777216 Ds.new) := hR1
  have HB1 : Hid (Below w.heap.size w w1) := hB1
  have HPC := lpieces_any a1 l1 l1.length cap1 rfl ca zs zs.length ccap rfl w1 (HPE.out.below HB1.out) (by omega) (ints_below HZ.out HB1.out (Nat.le_refl _)) (by omega)
  clear hR1 hB1 HN1
  go_wp2_with fail
  refine HPC.mono ?_
  rintro e w2 ⟨v2, xs2, rfl, hO2, hN2, hX2, hP2, hL2, hB2⟩
  have HB2 : Hid (Below w.heap.size w w2) := HB1.out.trans (hB2.mono HB1.out.size)
  have HR2 : Rd w2 w.heap.size 16777216 16777216 Ds.new := HR1.out.below hB2 HR1.out.lt
  have HHR := lhear_any w.heap.size 16777216 16777216 w2 v2 xs2 HR2 hO2 (fun x hx => pein_of (hP2 x hx) HR1.out hB2 hN2) (by rw [hX2]; omega) (by omega) T (by rw [hX2]; exact HT.out)
  have HN2 : Hid (∀ k, v2.ownBlock = some k → w1.heap.size ≤ k) := hN2
  obtain ⟨va, vc, hv2, -⟩ := hO2.shape
  subst hv2
  simp only [hC_arr] at HHR
  clear hO2 hN2 hX2 hP2 hL2 hB2 HPC HR2
  go_wp2_with fail
  refine HHR.mono ?_
  rintro e w3 ⟨tv3, va3, vc3, rfl, hO3, hN3, hC3⟩
  obtain ⟨n, o, x⟩ := T
  dsimp only at *
  obtain ⟨g3, cap3, rfl, hb3, -⟩ := own_bts hO3
  have HB3 : Hid (Below w.heap.size w w3) := HB2.out.trans (hC3.to_below HB2.out.size (fun k e => by
    rcases e with e | e
    · omega
    · have := HN2.out k e; have := HB1.out.size; omega))
  clear HHR hC3 hN3 HN2 HR1 HB1 HB2 hO3
  obtain ⟨K, hK⟩ : ∃ K, imK (x.im 16777216) = K := ⟨_, rfl⟩
  obtain ⟨Y, hY⟩ : ∃ Y, imY (x.im 16777216) = Y := ⟨_, rfl⟩
  obtain ⟨Hh, hHh⟩ : ∃ Hh, imH (x.im 16777216) = Hh := ⟨_, rfl⟩
  obtain ⟨en, hen⟩ : ∃ en, x.ended = en := ⟨_, rfl⟩
  rw [hK, hY, hHh, hen]
  have HEN : Hid (x.ended = en ∧ imY (x.im 16777216) = Y) := ⟨hen, hY⟩
  clear hen hK hY hHh
  obtain ⟨W4, hW4⟩ : ∃ W4, W4 = w3.alloc (.cells #[.slice g3 o.length cap3, .int .i64 (n : Int), .bool en, .int .i64 K, .string ⟨#[]⟩, .slice va3 0 vc3, .int .i64 Y, .bool Hh, .bool true] 61) := ⟨_, rfl⟩
  have hB4 : Below w3.heap.size w3 W4 := by subst hW4; exact (Below.refl _ _).alloc (Nat.le_refl _) _
  have HB4 : Hid (Below w.heap.size w W4) := HB3.out.trans (hB4.mono HB3.out.size)
  have HL4 : Hid (Lies W4 w3.heap.size #[.slice g3 o.length cap3, .int .i64 (n : Int), .bool en, .int .i64 K, .string ⟨#[]⟩, .slice va3 0 vc3, .int .i64 Y, .bool Hh, .bool true] 61) := by subst hW4; exact Lies.new w3 _ _
  have HBT4 : Hid (Bts g3 o W4) := hb3.below hB4
  have HWW : Hid (w3.alloc (.cells #[.slice g3 o.length cap3, .int .i64 (n : Int), .bool en, .int .i64 K, .string ⟨#[]⟩, .slice va3 0 vc3, .int .i64 Y, .bool Hh, .bool true] 61) = W4) := hW4.symm
  obtain ⟨⟨c0, c1, c2, c3, c4, c5, c6, c7, c8⟩, -⟩ := hC_cells HL4.out
  clear hW4 hB4 HB3 hb3
  obtain ⟨W9, hW9⟩ : ∃ W9, W9 = W4.alloc (.cells (rowV [13, 10]) 5 (2, 3)) := ⟨_, rfl⟩
  have hc9 : (convert 27 27 (.slice (some ⟨W4.heap.size, 0, none⟩) 2 2)).run Try.prog (W4.alloc (.cells #[.int .u8 13, .int .u8 10] 5)) = .ok (.slice (some ⟨W4.heap.size, 0, none⟩) 2 2) W9 := by subst hW9; exact Lib.run_convert_bytes_const W4 27 5 _ 2 2 Try.underlying27 Try.underlying5
  have hB9 : Below W4.heap.size W4 W9 := by subst hW9; exact (Below.refl _ _).alloc (Nat.le_refl _) _
  have HB9 : Hid (Below w.heap.size w W9) := HB4.out.trans (hB9.mono HB4.out.size)
  obtain ⟨g10, c10, w10, happ, hpe10, hB10⟩ := lead_any W4.heap.size a1 l1 l1.length cap1 rfl W9 (by subst hW9; exact lit_row W4 [13, 10] _) (HPE.out.bt.below HB9.out) (by omega)
  have HB10 : Hid (Below w.heap.size w w10) := HB9.out.trans (hB10.mono HB9.out.size)
  obtain ⟨W11, hW11⟩ : ∃ W11, W11 = w10.alloc (.cells (rowV sepE) 5 (5, 6)) := ⟨_, rfl⟩
  have hc11 : (convert 27 27 (.slice (some ⟨w10.heap.size, 0, none⟩) 5 5)).run Try.prog (w10.alloc (.cells #[.int .u8 13, .int .u8 10, .int .u8 46, .int .u8 13, .int .u8 10] 5)) = .ok (.slice (some ⟨w10.heap.size, 0, none⟩) 5 5) W11 := by subst hW11; exact Lib.run_convert_bytes_const w10 27 5 _ 5 5 Try.underlying27 Try.underlying5
  have hB11 : Below w10.heap.size w10 W11 := by subst hW11; exact (Below.refl _ _).alloc (Nat.le_refl _) _
  have HB11 : Hid (Below w.heap.size w W11) := HB10.out.trans (hB11.mono HB10.out.size)
  have hL11 := ((HL4.out.below hB9 HL4.out.lt).below hB10 (Nat.lt_of_lt_of_le HL4.out.lt hB9.size)).below hB11 (Nat.lt_of_lt_of_le HL4.out.lt (Nat.le_trans hB9.size hB10.size))
  have HIX := bidx_any g10 ([13, 10] ++ l1) (2 + l1.length) c10 (by simp; omega) (by simp) w10.heap.size sepE 5 5 rfl (by decide) mx W11 (hpe10.below hB11) (by subst hW11; exact lit_row w10 sepE _) (by simp; omega) (by decide) ((HB11.out.cell (p := ⟨0, 0, none⟩) HM0.out).trans HMX.out)
  have HAPP : Hid ((Builtin.append_ #[27, 27] 27 #[.slice (some ⟨W4.heap.size, 0, none⟩) 2 2, .slice a1 l1.length cap1]).run Try.prog W9 = .ok (.slice g10 (2 + l1.length) c10) w10) := happ
  have HL11 : Hid (Lies W11 w3.heap.size #[.slice g3 o.length cap3, .int .i64 (n : Int), .bool en, .int .i64 K, .string ⟨#[]⟩, .slice va3 0 vc3, .int .i64 Y, .bool Hh, .bool true] 61) := hL11
  have HIN : Hid ((en = true → Lib.index ([13, 10] ++ l1) sepE + 3 = (n : Int) ∧ 3 ≤ n) ∧ (en = false → Lib.index ([13, 10] ++ l1) sepE = -1 ∧ n = l1.length)) := by
    constructor
    · intro he
      have h6 : x.p = 6 := by have := HEN.out.1; rw [he] at this; simpa [Ds.ended] using this
      have := index_end (t := 16777216) (a := 16777216) (s := l1) (by omega) (by rw [HT.out]; exact h6)
      have h3 := Ds.run_rem 16777216 16777216 l1 Ds.new (by rw [HT.out]; exact h6)
      rw [HT.out] at this h3
      exact ⟨this, h3⟩
    · intro he
      have h6 : ¬ x.p = 6 := by have := HEN.out.1; rw [he] at this; simpa [Ds.ended] using this
      refine ⟨index_never (t := 16777216) (a := 16777216) (s := l1) (by omega) (by rw [HT.out]; exact h6), ?_⟩
      have h1 := Ds.run_all 16777216 16777216 l1 Ds.new
      have h2 := (Ds.run_p 16777216 16777216 l1 Ds.new (by decide) (by decide)).2
      rw [HT.out] at h1 h2
      exact h1 (by dsimp only at h2 ⊢; omega)
  have HNL2 : Hid (n ≤ 1048576) := Nat.le_trans HNL.out hl1
  generalize Lib.index ([13, 10] ++ l1) sepE = ix at *
  clear hW9 hB9 hpe10 hB10 hW11 hB11 HB9 HB10 happ hL11 HBT4 HL4 HEN HT HNL HZ c0 c1 c2 c3 c4 c5 c6 c7 c8
  go_wp2_with (first | rw [HWW.out] | (at_builtin; refine wpList_append_runG rfl _ _ 27 rfl (.slice (some ⟨W4.heap.size, 0, none⟩) 2 2) (.slice a1 l1.length cap1) (.slice g10 (2 + l1.length) c10) rfl rfl HAPP.out ?_))
  refine HIX.mono ?_
  rintro e w12 ⟨rfl, hB12⟩
  have HB12 : Hid (Below w.heap.size w w12) := HB11.out.trans (hB12.mono HB11.out.size)
  obtain ⟨⟨c0, c1, c2, c3, c4, c5, c6, c7, c8⟩, -⟩ := hC_cells (HL11.out.below hB12 HL11.out.lt)
  clear hB12 HIX HAPP hc9 hc11 HWW HL11 HB11
  cases en with
  | true =>
    obtain ⟨hix, hnn⟩ := HIN.out.1 (by simp)
    obtain ⟨k3, hk3⟩ : ∃ k3 : Nat, ix = (k3 : Int) := ⟨ix.toNat, by omega⟩
    subst hk3
    have hi0 : ¬ (k3 : Int) < 0 := by omega
    have hkl : k3 ≤ 1099511627776 := by have := HNL2.out; omega
    have heq : ((n : Int) == (k3 : Int) + 3) = true := by simp; omega
    clear hix hnn HIN c0 c3 c4 c5 c6 c7
    go_wp2_with fail
    refine (wakes_any _).mono ?_
    rintro e wk ⟨rfl, hBk⟩
    have HBk : Hid (Below w.heap.size w wk) := HB12.out.trans (hBk.mono HB12.out.size)
    clear hBk
    go_wp2_with fail
    go_ret
    exact ⟨rfl, HBk.out⟩
  | false =>
    obtain ⟨rfl, hnl⟩ := HIN.out.2 (by simp)
    have hnl' : ((n : Int) == (l1.length : Int)) = true := by simp [hnl]
    clear hnl HIN c0 c3 c4 c5 c6 c7
    go_wp2_with fail
    refine (wakes_any _).mono ?_
    rintro e wk ⟨rfl, hBk⟩
    have HBk : Hid (Below w.heap.size w wk) := HB12.out.trans (hBk.mono HB12.out.size)
    clear hBk
    go_wp2_with fail
    go_ret
    exact ⟨rfl, HBk.out⟩

theorem own : ownKnob Try.prog.godebug = none := by kernel_rfl
theorem laidOut : laidOutB Try.prog = true := by kernel_rfl
set_option maxRecDepth 100000 in
theorem contract (H : Type) (enc : TypeId × Value → H) (W : World) (base : Nat) (args : Array Value) (ds gs : List (DataW H)) (before : List MemPlace)
    (hval : ∀ (j : Nat) t v, Try.f8.params[j]? = some t → args[j]? = some v → Value.okWide Try.prog W .any base t v)
    (hW : DataW.Whole enc Try.prog Try.f8.params.toList Rows.dotsEndSpec.vars false W args.toList ds gs before)
    (hk : Rows.uptoSmall H (ds ++ gs) = true) (hsh : W.ShapedOpen Try.prog) :
    Calls Try.prog 8 args W fun e W' => ∃ v, e = .returned v ∧ Rows.dotsEndSpec.post enc Try.prog Try.f8 false true false false W args v W' := by
  have hW' := hW
  obtain ⟨p, q, hA0, hV, rfl, hfz, hnd⟩ := hW
  have hA : DataW.TrodAll enc Try.prog W 0 (fun _ => true) true Try.f8.params.toList args.toList ds p := hA0
  rw [Try.params8] at hA hval
  obtain ⟨v0, vs0, d0, ds0, p0, q0, hargs, rfl, rfl, h0, r0⟩ := trodAll_cons hA
  obtain ⟨v1, vs1, d1, ds1, p1, q1, rfl, rfl, rfl, h1, r1⟩ := trodAll_cons r0
  obtain ⟨rfl, rfl, rfl⟩ := trodAll_nil r1
  obtain rfl : args = #[v0, v1] := by cases args; simp_all
  obtain ⟨rfl, rfl⟩ := trodVars_none hV
  have k0 := h0
  have lt0 : ∀ x ∈ p0, x.block < W.heap.size := by obtain ⟨m, hm⟩ := k0; exact DataW.trod_lt m _ _ _ hm
  obtain ⟨a0, len0, cap0, rfl⟩ := okWide_slice Try.underlying27 (hval 0 27 v0 rfl rfl)
  obtain ⟨l0, e0, row0, cp0, bd0⟩ := open_bytes h0
  have nn0 := open_none k0
  have k1 := h1
  have lt1 : ∀ x ∈ p1, x.block < W.heap.size := by obtain ⟨m, hm⟩ := k1; exact DataW.trod_lt m _ _ _ hm
  obtain ⟨a1, len1, cap1, rfl⟩ := okWide_slice Try.underlying59 (hval 1 59 v1 rfl rfl)
  obtain ⟨l1, e1, row1, bd1⟩ := open_nums h1
  clear hA0
  have s0 : l0.length ≤ 1048576 := by
    rcases bd0 with ⟨el, sp, rfl, hl⟩ | ⟨rfl, hl⟩
    · have := bulk_slice hk (el := el) (sp := sp) (by simp)
      omega
    · omega
  subst e0
  have s1 : l1.length ≤ 1048576 := by
    rcases bd1 with ⟨el, sp, rfl, hl⟩ | ⟨rfl, hl⟩
    · have := bulk_slice hk (el := el) (sp := sp) (by simp)
      omega
    · omega
  subst e1
  refine (walk a0 l0 cap0 row0 s0 cp0 nn0 (open_cap k0) a1 l1 cap1 row1 s1 (maxlen_of hsh)).mono fun e W' ⟨he, bel⟩ => ?_
  subst he
  exact ⟨_, rfl, _, _, _, [], _, [], hW', trodAll_mk1 (shut_bool Try.underlying4 _), trodAll_cons_mk (Below.trod laidOut (by kernel_rfl) (of_decide_eq_true (by kernel_rfl)) k0 bel lt0) (trodAll_cons_mk (Below.trod laidOut (by kernel_rfl) (of_decide_eq_true (by kernel_rfl)) k1 bel lt1) trodAll_mk0), rfl, bel.frame _, fun h => by cases h⟩

set_option maxRecDepth 100000 in
theorem lifted (os : Os) (started : os.Started) (H : Type) (enc : TypeId × Value → H) (F : Stop.Interp) :
    ReturnsInHanded {} Try.checked os 8 .any ((Rows.OpenSpec.upto Rows.dotsEndSpec).pre6 enc Try.prog Try.f8 Rows.dotsEndUptoRow.domain false) (((Rows.OpenSpec.upto Rows.dotsEndSpec).at F).post enc Try.prog Try.f8 false true false false) := by
  refine handed_shaped (C := Try.checked) (s := Rows.OpenSpec.upto Rows.dotsEndSpec) (k := Rows.uptoSmall) rfl own started (by kernel_rfl) Try.func8
    (OpenSpec.witness (enc := enc) (C := Try.checked) (s := Rows.OpenSpec.upto Rows.dotsEndSpec) (k := Rows.uptoSmall) rfl false ⟨#[], #[.slice none 0 0, .slice none 0 0], []⟩ 8 (by kernel_rfl) (by kernel_rfl) (by kernel_rfl)
      (x := ([.nil, .nil], [], [])) (by kernel_rfl) rfl (by kernel_rfl)) ?_
  intro W base args ds gs before hval hW hk hsh
  exact contract H enc W base args ds gs before hval hW hk hsh

theorem over : Rows.DotsEndUptoSaid :=
  OpenClaim.holds_of_cond 8 Try.f8 rfl rfl rfl rfl rfl rfl rfl ⟨rfl, rfl, rfl, rfl, rfl⟩ rfl rfl rfl rfl rfl (by kernel_rfl) Try.func8 (by kernel_rfl)
    (of_decide_eq_true (by kernel_rfl)) (by unfold Func.isWrapper; first | (rw [if_pos (by decide +kernel)]; kernel_rfl) | (rw [if_neg (by decide +kernel)]; exact ⟨rfl, rfl⟩))
    (fun os started H enc _ F => lifted os started H enc F)
end Go.Proofs.Ytfifpepcmpaipaa.dotsEnd
namespace Go.Proofs.Ytfifpepcmpaipaa
theorem dotsEndUpto_said : Rows.DotsEndUptoSaid := dotsEnd.over
#print axioms dotsEndUpto_said
end Go.Proofs.Ytfifpepcmpaipaa
