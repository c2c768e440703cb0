/-
  The contract of domain.Ascii.
-/
import Derived.Test.YtnlgbopdbihnjaaGreatDoorAd8
import Derived.Test.YtnlgbopdbihnjaaGreatDoorPv8
import Derived.Test.YtnlgbopdbihnjaaGreatDoorLate5
namespace Go.Proofs.YtnlgbopdbihnjaaGreatDoor
open Go.RowKit

theorem hostC_name (h : Ho) (n : List UInt8) : (hostC h).setIfInBounds 1 (.string ⟨n.toArray⟩) = hostC ⟨h.k, n, h.a⟩ := rfl
theorem results_mix {fn : Func} {p q : Tmp} (h : fn.results = #[.cell p 28, .tmp q]) (tmps : Array Value) (w : World) (g : Nat) (x : Ho) (hx : x.a.length = 16) (v : Value) (hp : tmps.getD p undef = .pointer (some ⟨g, 0, none⟩)) (hq : tmps.getD q undef = v) (hg : Lies w g (hostC x) 28) :
    (results fn tmps).run Tryz.prog w = .ok (.tuple #[hostV x, v]) w := by
  have hp' : tmps[p]?.getD undef = .pointer (some ⟨g, 0, none⟩) := by simpa using hp
  have hq' : tmps[q]?.getD undef = v := by simpa using hq
  simp [results, h, hp', hq', asAddr, run_loadVar_row w g 28 28 (hostC x) (0, 0) _ hg Tryz.underlying28 rfl (by rw [hostC_size x hx]; exact infoHo), hostV]
def ascV (r : Ho × Nat) : Value := .tuple #[hostV r.1, .int .i64 (r.2 : Nat)]
theorem ext_size (s : ByteArray) (k : Nat) : (s.extract 0 k).size ≤ s.size := by rw [ByteArray.size_extract]; omega

set_option maxHeartbeats 4000000 in
set_option maxRecDepth 100000 in
theorem asc_any (h : Ho) (ok : h.Ok) (w : World) (hT : Tc w) (hn : h.n.length ≤ 140737488351232) :
    Calls Tryz.prog 11 #[hostV h] w fun e w' => e = .returned (ascV (ascii asciiL h)) ∧ Below w.heap.size w w' := by
  have ha := ok.len
  have HT : Hid (∀ wx, Below w.heap.size w wx → Tc wx) := fun wx hb => hT.below hb
  have hsz := hostC_size h ha
  obtain ⟨HC, hHC⟩ : ∃ HC, HC = hostC h := ⟨_, rfl⟩
  have e1 : hostV h = .agg HC := by rw [hHC]; rfl
  have HHC : Hid (HC = hostC h) := hHC
  rw [← hHC] at hsz
  have L1 : Hid (Lies ((w.alloc (.cells HC 28)).alloc (.cells #[.int .i64 0, .string ⟨#[]⟩, .int .u8 0, .int .u8 0, .int .u8 0, .int .u8 0, .int .u8 0, .int .u8 0, .int .u8 0, .int .u8 0, .int .u8 0, .int .u8 0, .int .u8 0, .int .u8 0, .int .u8 0, .int .u8 0, .int .u8 0, .int .u8 0] 28)) w.heap.size HC 28) := (Lies.new w _ _).alloc _
  have L2 : Hid (Lies ((w.alloc (.cells HC 28)).alloc (.cells #[.int .i64 0, .string ⟨#[]⟩, .int .u8 0, .int .u8 0, .int .u8 0, .int .u8 0, .int .u8 0, .int .u8 0, .int .u8 0, .int .u8 0, .int .u8 0, .int .u8 0, .int .u8 0, .int .u8 0, .int .u8 0, .int .u8 0, .int .u8 0, .int .u8 0] 28)) (w.heap.size + 1) #[.int .i64 0, .string ⟨#[]⟩, .int .u8 0, .int .u8 0, .int .u8 0, .int .u8 0, .int .u8 0, .int .u8 0, .int .u8 0, .int .u8 0, .int .u8 0, .int .u8 0, .int .u8 0, .int .u8 0, .int .u8 0, .int .u8 0, .int .u8 0, .int .u8 0] 28) := new_one w _ _ _
  have HB : Hid (Below w.heap.size w ((w.alloc (.cells HC 28)).alloc (.cells #[.int .i64 0, .string ⟨#[]⟩, .int .u8 0, .int .u8 0, .int .u8 0, .int .u8 0, .int .u8 0, .int .u8 0, .int .u8 0, .int .u8 0, .int .u8 0, .int .u8 0, .int .u8 0, .int .u8 0, .int .u8 0, .int .u8 0, .int .u8 0, .int .u8 0] 28))) := ((Below.refl _ _).alloc (Nat.le_refl _) _).alloc (by simp) _
  have HCK : Hid (∀ wx, Below w.heap.size w wx → Calls Tryz.prog 21 #[.agg HC, .bool true] wx fun e w' => e = .returned (.int .i64 (check h true : Nat)) ∧ Below wx.heap.size wx w') := fun wx hb => by
    rw [← e1]
    exact chk_any h ha true wx (HT.out _ hb).tb hn
  rw [e1]
  clear hT hHC e1
  go_enter Tryz.func11, Tryz.ntmps11
  go_upto_region 1 with fail
  generalize (w.alloc (.cells HC 28)).alloc (.cells #[.int .i64 0, .string ⟨#[]⟩, .int .u8 0, .int .u8 0, .int .u8 0, .int .u8 0, .int .u8 0, .int .u8 0, .int .u8 0, .int .u8 0, .int .u8 0, .int .u8 0, .int .u8 0, .int .u8 0, .int .u8 0, .int .u8 0, .int .u8 0, .int .u8 0] 28) = wA at L1 L2 HB ⊢
  have hzA := L2.out.lt
  go_wp2_with (refine wpList_load_row rfl 28 _ rfl w.heap.size rfl HC 28 _ L1.out Tryz.underlying28 rfl (by rw [hsz]; exact infoHo) ?_)
  refine (HCK.out _ HB.out).mono ?_
  rintro e w1 ⟨rfl, hb1⟩
  have K1 : Hid (Lies w1 w.heap.size HC 28) := L1.out.below hb1 L1.out.lt
  have K2 : Hid (Lies w1 (w.heap.size + 1) #[.int .i64 0, .string ⟨#[]⟩, .int .u8 0, .int .u8 0, .int .u8 0, .int .u8 0, .int .u8 0, .int .u8 0, .int .u8 0, .int .u8 0, .int .u8 0, .int .u8 0, .int .u8 0, .int .u8 0, .int .u8 0, .int .u8 0, .int .u8 0, .int .u8 0] 28) := L2.out.below hb1 L2.out.lt
  have KB : Hid (Below w.heap.size w w1) := HB.out.trans (hb1.mono (Nat.le_of_lt L1.out.lt))
  clear hb1 L1 L2 HB HCK hzA
  have hz1 := K2.out.lt
  have K1h : Lies w1 w.heap.size (hostC h) 28 := by rw [← HHC.out]; exact K1.out
  obtain ⟨c0, c1⟩ := host_cells K1h
  have hf1 := K1h.frozen 1
  by_cases hck : check h true = 0
  case neg =>
    have HV : Hid (ascii asciiL h = (ho0, check h true)) := by show _ = _; unfold ascii; rw [if_neg hck]
    have hck' : ((check h true : Int) == 0) = false := by rw [beq_eq_false_iff_ne]; omega
    generalize check h true = ck at HV hck' ⊢
    clear hck
    go_wp2_with (refine wpList_store_row rfl 28 _ _ rfl (w.heap.size + 1) rfl _ #[.int .i64 0, .string ⟨#[]⟩, .int .u8 0, .int .u8 0, .int .u8 0, .int .u8 0, .int .u8 0, .int .u8 0, .int .u8 0, .int .u8 0, .int .u8 0, .int .u8 0, .int .u8 0, .int .u8 0, .int .u8 0, .int .u8 0, .int .u8 0, .int .u8 0] rfl 28 K2.out infoHo rfl (by simp [Value.oneCell']) rfl ?_)
    exact bodyPost_ret (results_mix (p := 2) (q := 3) (by kernel_rfl) _ _ (w.heap.size + 1) ho0 rfl (.int .i64 (ck : Int)) rfl rfl (K2.out.row _)) rfl ⟨by rw [HV.out]; rfl, below_row KB.out (by omega) _⟩
  rw [hck]
  obtain ⟨S, hS⟩ : ∃ S : ByteArray, S = ⟨h.n.toArray⟩ := ⟨_, rfl⟩
  have hSl : S.data.toList = h.n := by rw [hS]
  rw [← hS] at c1
  by_cases k1 : h.k = 1
  · rw [k1] at c0
    have hnl : S.size ≤ 255 := by
      rw [← len_list, hSl]
      exact (wd_ok (check_name k1 hck).2).1
    have HAD : Hid (Calls Tryz.prog 34 #[.string S] w1 fun e w' => e = .returned (.tuple #[.string ⟨(asciiD asciiL h.n).1.toArray⟩, .int .i64 ((asciiD asciiL h.n).2 : Nat)]) ∧ Below w1.heap.size w1 w') := by
      have := ad_any S w1 (HT.out _ KB.out) hnl
      rw [hSl] at this
      exact this
    have HV0 : Hid (ascii asciiL h = if (asciiD asciiL h.n).2 = 0 then (⟨1, (asciiD asciiL h.n).1, h.a⟩, 0) else (ho0, (asciiD asciiL h.n).2)) := by show _ = _; unfold ascii; rw [if_pos hck, if_pos k1]
    generalize asciiD asciiL h.n = ad at HAD HV0
    clear hck hS hSl hnl
    go_wp2_with fail
    refine HAD.out.mono ?_
    rintro e w2 ⟨rfl, hb2⟩
    have J1 : Hid (Lies w2 w.heap.size (hostC h) 28) := K1h.below hb2 K1h.lt
    have J2 : Hid (Lies w2 (w.heap.size + 1) #[.int .i64 0, .string ⟨#[]⟩, .int .u8 0, .int .u8 0, .int .u8 0, .int .u8 0, .int .u8 0, .int .u8 0, .int .u8 0, .int .u8 0, .int .u8 0, .int .u8 0, .int .u8 0, .int .u8 0, .int .u8 0, .int .u8 0, .int .u8 0, .int .u8 0] 28) := K2.out.below hb2 K2.out.lt
    have JB : Hid (Below w.heap.size w w2) := KB.out.trans (hb2.mono (Nat.le_of_lt K1.out.lt))
    clear hb2 HAD K1 K2 KB K1h c0 c1 hf1
    have hz2 := J2.out.lt
    by_cases he : ad.2 = 0
    · have HV : Hid (ascii asciiL h = (⟨1, ad.1, h.a⟩, 0)) := by show _ = _; rw [HV0.out, if_pos he]
      have he' : ((ad.2 : Int) == 0) = true := by rw [beq_iff_eq]; omega
      have hc1 := J1.out.cell 1
      have hf1 := J1.out.frozen 1
      obtain ⟨v1, hv1⟩ : ∃ v, w2.cell? ⟨w.heap.size, 1, none⟩ = some v := ⟨_, hc1⟩
      have J3 : Hid (Lies (w2.setCell ⟨w.heap.size, 1, none⟩ (.string ⟨ad.1.toArray⟩)) w.heap.size (hostC ⟨1, ad.1, h.a⟩) 28) := by
        have := J1.out.set 1 (.string ⟨ad.1.toArray⟩)
        rw [hostC_name, k1] at this
        exact this
      have J4 : Hid (Lies (w2.setCell ⟨w.heap.size, 1, none⟩ (.string ⟨ad.1.toArray⟩)) (w.heap.size + 1) #[.int .i64 0, .string ⟨#[]⟩, .int .u8 0, .int .u8 0, .int .u8 0, .int .u8 0, .int .u8 0, .int .u8 0, .int .u8 0, .int .u8 0, .int .u8 0, .int .u8 0, .int .u8 0, .int .u8 0, .int .u8 0, .int .u8 0, .int .u8 0, .int .u8 0] 28) := J2.out.set_other (a := ⟨w.heap.size, 1, none⟩) (by show w.heap.size + 1 ≠ w.heap.size; omega) _
      have JB4 : Hid (Below w.heap.size w (w2.setCell ⟨w.heap.size, 1, none⟩ (.string ⟨ad.1.toArray⟩))) := JB.out.setCell (p := ⟨w.heap.size, 1, none⟩) (Nat.le_refl _) _
      have hzz := hostC_size ⟨1, ad.1, h.a⟩ ha
      have hoo := hostC_one ⟨1, ad.1, h.a⟩
      clear HV0 he k1 hc1 J1 J2
      go_upto_region 13 with fail
      generalize w2.setCell ⟨w.heap.size, 1, none⟩ (.string ⟨ad.1.toArray⟩) = w3 at J3 J4 JB4 ⊢
      obtain ⟨X, hX⟩ : ∃ X, X = hostC ⟨1, ad.1, h.a⟩ := ⟨_, rfl⟩
      rw [← hX] at J3 hzz hoo
      have HX : Hid (X = hostC ⟨1, ad.1, h.a⟩) := hX
      have hz3 := J4.out.lt
      clear hX hv1 hf1 hz2
      go_wp2_with (first | (refine wpList_load_row rfl 28 _ rfl w.heap.size rfl X 28 _ J3.out Tryz.underlying28 rfl (by rw [hzz]; exact infoHo) ?_) | (refine wpList_store_row rfl 28 _ _ rfl (w.heap.size + 1) rfl _ X rfl 28 J4.out (by rw [hzz]; exact infoHo) (by rw [hzz]; rfl) hoo rfl ?_))
      exact bodyPost_ret (results_mix (p := 2) (q := 3) (by kernel_rfl) _ _ (w.heap.size + 1) ⟨1, ad.1, h.a⟩ ha (.int .i64 0) rfl rfl (by rw [← HX.out]; exact J4.out.row _)) rfl ⟨by rw [HV.out]; rfl, below_row JB4.out (by omega) _⟩
    · have HV : Hid (ascii asciiL h = (ho0, ad.2)) := by show _ = _; rw [HV0.out, if_neg he]
      have he' : ((ad.2 : Int) == 0) = false := by rw [beq_eq_false_iff_ne]; omega
      clear HV0 he k1
      go_wp2_with (refine wpList_store_row rfl 28 _ _ rfl (w.heap.size + 1) rfl _ #[.int .i64 0, .string ⟨#[]⟩, .int .u8 0, .int .u8 0, .int .u8 0, .int .u8 0, .int .u8 0, .int .u8 0, .int .u8 0, .int .u8 0, .int .u8 0, .int .u8 0, .int .u8 0, .int .u8 0, .int .u8 0, .int .u8 0, .int .u8 0, .int .u8 0] rfl 28 J2.out infoHo rfl (by simp [Value.oneCell']) rfl ?_)
      exact bodyPost_ret (results_mix (p := 2) (q := 3) (by kernel_rfl) _ _ (w.heap.size + 1) ho0 rfl (.int .i64 (ad.2 : Int)) rfl rfl (J2.out.row _)) rfl ⟨by rw [HV.out]; rfl, below_row JB.out (by omega) _⟩
  have k1' : (h.k == 1) = false := by rw [beq_eq_false_iff_ne]; exact k1
  by_cases k4 : h.k = 4
  · rw [k4] at c0
    have htg := (check_tag k4 hck).2
    have hnl : h.n.length ≤ 253 := by
      unfold chTag at htg
      rcases Nat.lt_or_ge 253 h.n.length with hl | hl
      · rw [if_pos hl] at htg; cases htg
      · exact hl
    obtain ⟨k, hk⟩ : ∃ k, colonAt h.n = some k := by
      unfold chTag at htg
      rw [if_neg (by omega)] at htg
      cases hk : colonAt h.n with
      | none => rw [hk] at htg; cases htg
      | some k => exact ⟨k, rfl⟩
    have hkl := (colonAt_some hk).1
    have hSs : S.size ≤ 253 := by rw [← len_list, hSl]; exact hnl
    have hkS : k ≤ S.size := by rw [← len_list, hSl]; omega
    have HV : Hid (ascii asciiL h = (⟨4, tagS h.n, h.a⟩, 0)) := by show _ = _; unfold ascii; rw [if_pos hck, if_neg k1, if_pos k4]
    have HIX := Tryz.strings_IndexByte S 58 w1
    rw [show (58 : Int).toNat.toUInt8 = 58 from rfl, index_colon, hSl, hk] at HIX
    have HIX2 : Hid (Calls Tryz.prog 35 #[.string S, .int .u8 58] w1 fun e w' => e = .returned (.int .i64 (k : Int)) ∧ w' = w1) := HIX
    have HSM : Hid (∀ wx, Calls Tryz.prog 36 #[.string (S.extract 0 k)] wx fun e w' => e = .returned (.string (smS (S.extract 0 k))) ∧ Below wx.heap.size wx w') := fun wx => small_any (S.extract 0 k) wx (by have := ext_size S k; unfold maxLen; omega)
    have HTG : Hid ((⟨(tagS h.n).toArray⟩ : ByteArray) = smS (S.extract 0 k) ++ S.extract k S.size) := by
      show _ = _
      have e2 : S.extract k S.size = ⟨(h.n.drop k).toArray⟩ := by
        have := ext_drop S k
        rw [hSl] at this
        rw [← this]
      rw [tagS_some hk, e2]
      unfold smS
      rw [ext_take, hSl, str_append]
    have hss : (smS (S.extract 0 k)).size ≤ 253 := by
      show (sml (S.extract 0 k).data.toList).toArray.size ≤ _
      rw [List.size_toArray, sml_len, len_list]
      have := ext_size S k
      omega
    generalize smS (S.extract 0 k) = sm at HSM HTG hss
    have ad1 : ∀ W, (Op.stringOp .add sm (S.extract k S.size)).run Tryz.prog W = .ok (.string (sm ++ S.extract k S.size)) W := fun W => run_string_add_sum _ _ _ (by rw [ByteArray.size_extract]; omega)
    have hkk : (k : Int) ≤ (S.size : Int) := by omega
    have hkm : min k S.size = k := by omega
    clear hck hS hSl hnl hk htg HIX k1 hkl
    go_wp2_with fail
    refine HIX2.out.mono ?_
    rintro e w2 ⟨rfl, rfl⟩
    clear HIX2
    go_upto_region 12 with fail
    have HSV : Hid (∀ wx, Below w2.heap.size w2 wx → wx.cell? ⟨w.heap.size, 1, none⟩ = some (.string S)) := fun wx hb => (hb.cell (p := ⟨w.heap.size, 1, none⟩) (by show w.heap.size < w2.heap.size; omega)).trans c1
    have hS0 := HSV.out w2.drew (Below.refl _ w2).drew
    refine wp_region_late (fun wx => wx.cell? ⟨w.heap.size, 1, none⟩ = some (.string S)) 11 (by kernel_rfl) hS0 (fun hHeld => ?_)
    refine wpAnyE_take (i := 0) (d := some 35) (v := ?_) rfl (by kernel_rfl) (by kernel_rfl) (by kernel_rfl) (by kernel_rfl) (fun _ _ _ h => h) rfl rfl ?hy (by assumption) ?_
    case hy => (intro w' hSw; (try dsimp only at hSw); go_simp <;> (first | with_reducible rfl | omega | skip))
    simp only [Act.put, List.setIfInBounds_toArray, List.set_cons_zero, List.set_cons_succ]
    refine wpAnyE_take (i := 1) (d := some 36) (v := ?_) rfl (by kernel_rfl) (by kernel_rfl) (by kernel_rfl) (by kernel_rfl) (fun _ _ _ h => h) rfl rfl ?hy (by assumption) ?_
    case hy => (intro w' hSw; (try dsimp only at hSw); go_simp <;> (first | with_reducible rfl | omega | skip))
    simp only [Act.put, List.setIfInBounds_toArray, List.set_cons_zero, List.set_cons_succ]
    refine wpAnyE_take (i := 2) (d := some 37) (v := ?_) rfl (by kernel_rfl) (by kernel_rfl) (by kernel_rfl) (by kernel_rfl) (fun _ _ _ h => h) rfl rfl ?hy (by assumption) ?_
    case hy => (intro w' hSw; (try dsimp only at hSw); go_simp <;> (first | with_reducible rfl | omega | skip))
    simp only [Act.put, List.setIfInBounds_toArray, List.set_cons_zero, List.set_cons_succ]
    refine wpAnyE_take (i := 3) (d := some 38) (v := .string (S.extract 0 k)) rfl (by kernel_rfl) (by kernel_rfl) (by kernel_rfl) (by kernel_rfl) (fun _ _ _ h => h) rfl rfl ?hy (by assumption) ?_
    case hy => (intro w' hSw; (try dsimp only at hSw); go_simp <;> (first | with_reducible rfl | omega | skip))
    simp only [Act.put, List.setIfInBounds_toArray, List.set_cons_zero, List.set_cons_succ]
    refine wpAnyE_take (i := 5) (d := some 40) (v := ?_) rfl (by kernel_rfl) (by kernel_rfl) (by kernel_rfl) (by kernel_rfl) (fun _ _ _ h => h) rfl rfl ?hy (by assumption) ?_
    case hy => (intro w' hSw; (try dsimp only at hSw); go_simp <;> (first | with_reducible rfl | omega | skip))
    simp only [Act.put, List.setIfInBounds_toArray, List.set_cons_zero, List.set_cons_succ]
    refine wpAnyE_take (i := 6) (d := some 41) (v := ?_) rfl (by kernel_rfl) (by kernel_rfl) (by kernel_rfl) (by kernel_rfl) (fun _ _ _ h => h) rfl rfl ?hy (by assumption) ?_
    case hy => (intro w' hSw; (try dsimp only at hSw); go_simp <;> (first | with_reducible rfl | omega | skip))
    simp only [Act.put, List.setIfInBounds_toArray, List.set_cons_zero, List.set_cons_succ]
    refine wpAnyE_take (i := 7) (d := some 42) (v := ?_) rfl (by kernel_rfl) (by kernel_rfl) (by kernel_rfl) (by kernel_rfl) (fun _ _ _ h => h) rfl rfl ?hy (by assumption) ?_
    case hy => (intro w' hSw; (try dsimp only at hSw); go_simp <;> (first | with_reducible rfl | omega | skip))
    simp only [Act.put, List.setIfInBounds_toArray, List.set_cons_zero, List.set_cons_succ]
    refine wpAnyE_take (i := 8) (d := some 43) (v := .string (S.extract k S.size)) rfl (by kernel_rfl) (by kernel_rfl) (by kernel_rfl) (by kernel_rfl) (fun _ _ _ h => h) rfl rfl ?hy (by assumption) ?_
    case hy => (intro w' hSw; (try dsimp only at hSw); go_simp <;> (first | with_reducible rfl | omega | skip))
    simp only [Act.put, List.setIfInBounds_toArray, List.set_cons_zero, List.set_cons_succ]
    refine wpAnyE_on (i := 4) (by kernel_rfl) rfl rfl ?_
    go_simp
    refine Calls.mono (HSM.out _) ?_
    rintro e w3 ⟨rfl, hb3⟩
    have hb3' : Below w2.heap.size w2 w3 := (Below.refl _ w2).drew.trans hb3
    have hS3 := HSV.out _ hb3'
    refine ⟨hS3, ?_⟩
    refine wpAnyE_take (i := 9) (d := some 44) (v := .string (sm ++ S.extract k S.size)) rfl (by kernel_rfl) (by kernel_rfl) (by kernel_rfl) (by kernel_rfl) (fun _ _ _ h => h) rfl rfl ?hy (by assumption) ?_
    case hy => (intro w' hSw; (try dsimp only at hSw); go_simp <;> (first | with_reducible rfl | omega | skip))
    simp only [Act.put, List.setIfInBounds_toArray, List.set_cons_zero, List.set_cons_succ]
    refine wpAnyE_take (i := 10) (d := some 45) (v := ?_) rfl (by kernel_rfl) (by kernel_rfl) (by kernel_rfl) (by kernel_rfl) (fun _ _ _ h => h) rfl rfl ?hy (by assumption) ?_
    case hy => (intro w' hSw; (try dsimp only at hSw); go_simp <;> (first | with_reducible rfl | omega | skip))
    simp only [Act.put, List.setIfInBounds_toArray, List.set_cons_zero, List.set_cons_succ]
    have J1 : Lies w3 w.heap.size (hostC h) 28 := K1h.below hb3' K1h.lt
    have J2 : Lies w3 (w.heap.size + 1) #[.int .i64 0, .string ⟨#[]⟩, .int .u8 0, .int .u8 0, .int .u8 0, .int .u8 0, .int .u8 0, .int .u8 0, .int .u8 0, .int .u8 0, .int .u8 0, .int .u8 0, .int .u8 0, .int .u8 0, .int .u8 0, .int .u8 0, .int .u8 0, .int .u8 0] 28 := K2.out.below hb3' K2.out.lt
    have JB : Below w.heap.size w w3 := KB.out.trans (hb3'.mono (Nat.le_of_lt K1.out.lt))
    have hf3 := J1.frozen 1
    have J3 : Hid (Lies (w3.setCell ⟨w.heap.size, 1, none⟩ (.string (sm ++ S.extract k S.size))) w.heap.size (hostC ⟨4, tagS h.n, h.a⟩) 28) := by
      have := J1.set 1 (.string (sm ++ S.extract k S.size))
      rw [← HTG.out, hostC_name, k4] at this
      rw [← HTG.out]
      exact this
    have J4 : Hid (Lies (w3.setCell ⟨w.heap.size, 1, none⟩ (.string (sm ++ S.extract k S.size))) (w.heap.size + 1) #[.int .i64 0, .string ⟨#[]⟩, .int .u8 0, .int .u8 0, .int .u8 0, .int .u8 0, .int .u8 0, .int .u8 0, .int .u8 0, .int .u8 0, .int .u8 0, .int .u8 0, .int .u8 0, .int .u8 0, .int .u8 0, .int .u8 0, .int .u8 0, .int .u8 0] 28) := J2.set_other (a := ⟨w.heap.size, 1, none⟩) (by show w.heap.size + 1 ≠ w.heap.size; omega) _
    have JB4 : Hid (Below w.heap.size w (w3.setCell ⟨w.heap.size, 1, none⟩ (.string (sm ++ S.extract k S.size)))) := JB.setCell (p := ⟨w.heap.size, 1, none⟩) (Nat.le_refl _) _
    refine wpAnyE_on (i := 11) (by kernel_rfl) rfl rfl ?_
    have hz3 := J2.lt
    clear J1 J2 JB hb3 hHeld hS0 hb3'
    go_simp
    refine wpAnyE_done (by kernel_rfl) ?_ _
    generalize w3.setCell ⟨w.heap.size, 1, none⟩ (.string (sm ++ S.extract k S.size)) = w4 at J3 J4 JB4 ⊢
    have hzz := hostC_size ⟨4, tagS h.n, h.a⟩ ha
    have hoo := hostC_one ⟨4, tagS h.n, h.a⟩
    obtain ⟨X, hX⟩ : ∃ X, X = hostC ⟨4, tagS h.n, h.a⟩ := ⟨_, rfl⟩
    rw [← hX] at J3 hzz hoo
    have HX : Hid (X = hostC ⟨4, tagS h.n, h.a⟩) := hX
    have hz4 := J4.out.lt
    clear hX hf3 hS3 hz3 c0 c1 k4
    go_wp2_with (first | (refine wpList_load_row rfl 28 _ rfl w.heap.size rfl X 28 _ J3.out Tryz.underlying28 rfl (by rw [hzz]; exact infoHo) ?_) | (refine wpList_store_row rfl 28 _ _ rfl (w.heap.size + 1) rfl _ X rfl 28 J4.out (by rw [hzz]; exact infoHo) (by rw [hzz]; rfl) hoo rfl ?_))
    exact bodyPost_ret (results_mix (p := 2) (q := 3) (by kernel_rfl) _ _ (w.heap.size + 1) ⟨4, tagS h.n, h.a⟩ ha (.int .i64 0) rfl rfl (by rw [← HX.out]; exact J4.out.row _)) rfl ⟨by rw [HV.out]; rfl, below_row JB4.out (by omega) _⟩
  have k4' : (h.k == 4) = false := by rw [beq_eq_false_iff_ne]; exact k4
  have HV : Hid (ascii asciiL h = (h, 0)) := by show _ = _; unfold ascii; rw [if_pos hck, if_neg k1, if_neg k4]
  have hoo : HC.all (·.oneCell') = true := by rw [HHC.out]; exact hostC_one h
  clear k1 k4 hck hS hSl
  go_wp2_with (first | (refine wpList_load_row rfl 28 _ rfl w.heap.size rfl HC 28 _ K1.out Tryz.underlying28 rfl (by rw [hsz]; exact infoHo) ?_) | (refine wpList_store_row rfl 28 _ _ rfl (w.heap.size + 1) rfl _ HC rfl 28 K2.out (by rw [hsz]; exact infoHo) (by rw [hsz]; rfl) hoo rfl ?_))
  exact bodyPost_ret (results_mix (p := 2) (q := 3) (by kernel_rfl) _ _ (w.heap.size + 1) h ha (.int .i64 0) rfl rfl (by rw [← HHC.out]; exact K2.out.row _)) rfl ⟨by rw [HV.out]; rfl, below_row KB.out (by omega) _⟩
end Go.Proofs.YtnlgbopdbihnjaaGreatDoor
/-
  The contract of domain.cut.
-/
namespace Go.Proofs.YtnlgbopdbihnjaaGreatDoor
open Go.RowKit

theorem cutGo_set : ∀ (a : List Nat) (i : Nat) (bits : Int) (j : Nat), j < a.length → (cutGo i bits (a.take j) ++ a.drop j).set j (cutB (i + j) bits (a.getD j 0)) = cutGo i bits (a.take (j + 1)) ++ a.drop (j + 1)
  | [], _, _, _, h => by simp at h
  | x :: a, i, bits, 0, _ => by simp [cutGo]
  | x :: a, i, bits, j + 1, h => by
    have := cutGo_set a (i + 1) bits j (by simpa using h)
    rw [List.take_succ_cons, List.drop_succ_cons, cutGo, List.cons_append, List.set_cons_succ, List.take_succ_cons, List.drop_succ_cons, cutGo, List.cons_append, List.getD_cons_succ, show i + (j + 1) = i + 1 + j from by omega, this]
theorem and_cut : ∀ x : Fin 256, ∀ m : Fin 8, bits .andNot .u8 (x.val : Int) ((255 / 2 ^ m.val : Nat) : Int) = ((x.val - x.val % 2 ^ (8 - m.val) : Nat) : Int) := by decide +kernel
/-- The blocks of cut: the address, its first bytes cut, and the result. -/
structure CuS (w : World) (a : List Nat) (bits : Int) (i : Nat) (wr : World) : Prop where
  a : Lies wr w.heap.size (bytesV (cutGo 0 bits (a.take i) ++ a.drop i)) 26
  r : Lies wr (w.heap.size + 1) (bytesV (List.replicate 16 0)) 26
  below : Below w.heap.size w wr
theorem cut_keep (a : List Nat) (bits : Int) (i : Nat) (hi : i < a.length) (h : ¬ bits - 8 * i < 8) : cutGo 0 bits (a.take (i + 1)) ++ a.drop (i + 1) = cutGo 0 bits (a.take i) ++ a.drop i := by
  rw [← cutGo_set a 0 bits i hi]
  have e : cutB (0 + i) bits (a.getD i 0) = a.getD i 0 := by unfold cutB; rw [Nat.zero_add, if_neg h]
  rw [e]
  apply List.ext_getElem?
  intro j
  rw [List.getElem?_set]
  split
  · rename_i hj
    subst hj
    have hl : (cutGo 0 bits (a.take i)).length = i := by
      have : ∀ (l : List Nat) (k : Nat), (cutGo k bits l).length = l.length := fun l => by
        induction l with
        | nil => intro k; rfl
        | cons x l ih => intro k; rw [cutGo, List.length_cons, List.length_cons, ih]
      rw [this, List.length_take]
      omega
    rw [List.getElem?_append_right (by omega), hl, Nat.sub_self, List.getElem?_drop, Nat.add_zero, List.getD_eq_getElem?_getD, List.getElem?_eq_getElem hi]
    rw [if_pos (by rw [List.length_append, hl, List.length_drop]; omega)]
    rfl
  · rfl
theorem CuS.put {w wr : World} {a : List Nat} {bits : Int} {i : Nat} (h : CuS w a bits i wr) (hi : i < a.length) (v : Nat) (hv : cutB i bits (a.getD i 0) = v) : CuS w a bits (i + 1) (wr.setCell ⟨w.heap.size, i, none⟩ (.int .u8 (v : Nat))) := by
  refine ⟨?_, h.r.set_other (a := ⟨w.heap.size, i, none⟩) (by show w.heap.size + 1 ≠ w.heap.size; omega) _, h.below.setCell (p := ⟨w.heap.size, i, none⟩) (Nat.le_refl _) _⟩
  have := h.a.set i (.int .u8 (v : Nat))
  rw [bytesV_set, ← hv] at this
  have e := cutGo_set a 0 bits i hi
  rw [Nat.zero_add] at e
  rw [e] at this
  rw [← hv]
  exact this
theorem CuS.keep {w wr : World} {a : List Nat} {bits : Int} {i : Nat} (h : CuS w a bits i wr) (hi : i < a.length) (hn : ¬ bits - 8 * i < 8) : CuS w a bits (i + 1) wr := by
  refine ⟨?_, h.r, h.below⟩
  rw [cut_keep a bits i hi hn]
  exact h.a
theorem cutGo_at (a : List Nat) (bits : Int) (i : Nat) (hi : i < a.length) : (bytesV (cutGo 0 bits (a.take i) ++ a.drop i))[i]? = some (.int .u8 (a[i] : Nat)) := by
  have hl : (cutGo 0 bits (a.take i)).length = i := by
    have : ∀ (l : List Nat) (k : Nat), (cutGo k bits l).length = l.length := fun l => by
      induction l with
      | nil => intro k; rfl
      | cons x l ih => intro k; rw [cutGo, List.length_cons, List.length_cons, ih]
    rw [this, List.length_take]
    omega
  unfold bytesV
  rw [List.getElem?_toArray, List.getElem?_map, List.getElem?_append_right (by omega), hl, Nat.sub_self, List.getElem?_drop, Nat.add_zero, List.getElem?_eq_getElem hi]
  rfl

set_option maxHeartbeats 4000000 in
set_option maxRecDepth 100000 in
theorem cut_any (a : List Nat) (n : Nat) (ha : a.length = 16) (hb : ∀ x ∈ a, x < 256) (hn : n ≤ 128) (w : World) : Calls Tryz.prog 47 #[.agg (bytesV a), .int .i64 (n : Int)] w fun e w' => e = .returned (.agg (bytesV (cutGo 0 n a))) ∧ Below w.heap.size w w' := by
  have HL : Hid (a.length = 16) := ha
  have HX : Hid (∀ x ∈ a, x < 256) := hb
  have H0 : Hid (CuS w a n 0 ((w.alloc (.cells (bytesV a) 26)).alloc (.cells (bytesV (List.replicate 16 0)) 26))) := ⟨(Lies.new w _ _).alloc _, new_one w _ _ _, ((Below.refl _ _).alloc (Nat.le_refl _) _).alloc (by simp) _⟩
  clear ha hb
  have hn' : (n : Int) ≤ 128 := by omega
  go_enter Tryz.func47, Tryz.ntmps47
  go_wp2_with fail
  go_loopw [7] (fun c wr => ∃ i : Nat, i ≤ 16 ∧ c = .int .i64 i ∧ Hid (CuS w a n i wr)) (fun c _ => 16 - (intOf c).toNat)
  case atStart => exact ⟨0, by omega, rfl, H0⟩
  case round =>
    obtain ⟨i, hi, rfl, HS⟩ := hrel
    clear H0
    by_cases hlt : i < 16
    · have hil : i < a.length := by rw [HL.out]; exact hlt
      have hlt' : (i : Int) < 16 := by omega
      by_cases hleft : (n : Int) - 8 * i < 8
      · have hc : wr.cell? ⟨w.heap.size, i, none⟩ = some (.int .u8 (a[i] : Nat)) := (HS.out.a.cell i).trans (cutGo_at a n i hil)
        have hf := HS.out.a.frozen i
        have hz := HS.out.a.lt
        have hx : a[i] < 256 := HX.out _ (List.getElem_mem hil)
        have hgd : a.getD i 0 = a[i] := by rw [List.getD_eq_getElem?_getD, List.getElem?_eq_getElem hil]; rfl
        obtain ⟨m, hm⟩ : ∃ m : Nat, m = (max ((n : Int) - 8 * i) 0).toNat := ⟨_, rfl⟩
        have hm8 : m < 8 := by omega
        have hif : (if (n : Int) - 8 * (i : Int) < 0 then 0 else (n : Int) - 8 * (i : Int)) = (m : Int) := by split <;> omega
        have hcb : cutB i n a[i] = a[i] - a[i] % 2 ^ (8 - m) := by unfold cutB; rw [if_pos hleft, ← hm]
        generalize a[i] = x at hc hx hgd hcb
        have hand := and_cut ⟨x, hx⟩ ⟨m, hm8⟩
        dsimp only at hand
        have HN : Hid (CuS w a n (i + 1) (wr.setCell ⟨w.heap.size, i, none⟩ (.int .u8 ((x - x % 2 ^ (8 - m) : Nat) : Int)))) := HS.out.put hil _ (by rw [hgd, hcb])
        generalize hv : x - x % 2 ^ (8 - m) = v at hand HN
        have hand2 : bits .andNot .u8 (x : Int) ((255 : Int) / 2 ^ m) = (v : Int) := by
          rw [← hand]
          congr 1
        have HN2 : Hid (CuS w a n (i + 1) (wr.setCell ⟨w.heap.size, i, none⟩ (.int .u8 (v : Int))).drew) := ⟨HN.out.a, HN.out.r, HN.out.below.drew⟩
        have HH2 : Hid (bits .andNot .u8 (x : Int) ((255 : Int) / 2 ^ (max ((n : Int) - 8 * i) 0).toNat) = (v : Int)) := by rw [← hm]; exact hand2
        clear hcb hgd hv HS hm hand HN
        go_wp2_with fail
        go_region
        try rw [hand2]
        clear hif hand2
        go_wp2_with fail
        go_roundw
        case rel => first | exact ⟨i + 1, by omega, by go_num, HN2⟩ | (rw [← HH2.out] at HN2; exact ⟨i + 1, by omega, by go_num, HN2⟩)
        case measure => simp [intOf]; omega
      · have HN : Hid (CuS w a n (i + 1) wr) := HS.out.keep hil hleft
        clear HS
        go_wp2_with fail
        go_roundw
        case rel => exact ⟨i + 1, by omega, by go_num, HN⟩
        case measure => simp [intOf]; omega
    · obtain rfl : i = 16 := by omega
      have HA : Hid (Lies wr w.heap.size (bytesV (cutGo 0 n a)) 26) := by
        have := HS.out.a
        rw [List.take_of_length_le (by rw [HL.out]; omega), List.drop_eq_nil_of_le (by rw [HL.out]; omega), List.append_nil] at this
        exact this
      have hsz : (bytesV (cutGo 0 n a)).size = 16 := by
        have : ∀ (l : List Nat) (k : Nat), (cutGo k (n : Int) l).length = l.length := fun l => by
          induction l with
          | nil => intro k; rfl
          | cons x l ih => intro k; rw [cutGo, List.length_cons, List.length_cons, ih]
        rw [bytesV_size, this, HL.out]
      have HR : Hid (Lies (wr.setRow (w.heap.size + 1) (bytesV (cutGo 0 n a))) (w.heap.size + 1) (bytesV (cutGo 0 n a)) 26) := HS.out.r.row _
      have HB : Hid (Below w.heap.size w (wr.setRow (w.heap.size + 1) (bytesV (cutGo 0 n a)))) := below_row HS.out.below (by omega) _
      go_wp2_with (first | (refine wpList_load_row rfl 26 _ rfl w.heap.size rfl (bytesV (cutGo 0 n a)) 26 _ HA.out Tryz.underlying26 rfl (by rw [hsz]; exact info16) ?_) | (refine wpList_store_row rfl 26 _ _ rfl (w.heap.size + 1) rfl _ (bytesV (cutGo 0 n a)) rfl 26 HS.out.r (by rw [hsz]; exact info16) (by rw [hsz]; rfl) (bytesV_one _) rfl ?_))
      exact bodyPost_ret (results_row (p := 4) (by kernel_rfl) _ _ (w.heap.size + 1) 26 _ (0, 0) _ rfl HR.out Tryz.underlying26 rfl (by rw [hsz]; exact info16)) rfl ⟨rfl, HB.out⟩
end Go.Proofs.YtnlgbopdbihnjaaGreatDoor
