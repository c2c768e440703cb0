/-
  The contract of domain.Ascii.
-/
import Derived.Test.YtnlgbopdbihnjaaGreatDoorRf8
import Derived.Shelf.Strings.Builder1
import Derived.Shelf.Strings.Builder2
import Derived.Shelf.Strings.OnBuilder
import Derived.Shelf.Strings.Search1
import Derived.Shelf.Strings.Search2
import Derived.Shelf.Strings.Search3
import Derived.Shelf.Strings.Cut
import Derived.Shelf.Strings.Count
import Derived.Shelf.Strings.Shaped
import Derived.Shelf.Strings.Repeat
import Derived.Shelf.Small.Bits
import Derived.Shelf.Small.Strs
import Derived.Shelf.Bits.Mul64
import Derived.Test.YtnlgbopdbihnjaaGreatDoorProg
namespace Go.Proofs.YtnlgbopdbihnjaaGreatDoor
open Go.RowKit

theorem hostC_name (h : Ho) (n : List UInt8) : (hostC h).setIfInBounds 1 (.string ⟨n.toArray⟩) = hostC ⟨h.k, n, h.a⟩ := rfl
theorem results_mix {fn : Func} {p q : Tmp} (h : fn.results = #[.cell p 28, .tmp q]) (tmps : Array Value) (w : World) (g : Nat) (x : Ho) (hx : x.a.length = 16) (v : Value) (hp : tmps.getD p undef = .pointer (some ⟨g, 0, none⟩)) (hq : tmps.getD q undef = v) (hg : Lies w g (hostC x) 28) :
    (results fn tmps).run Tryz.prog w = .ok (.tuple #[hostV x, v]) w := by
  have hp' : tmps[p]?.getD undef = .pointer (some ⟨g, 0, none⟩) := by simpa using hp
  have hq' : tmps[q]?.getD undef = v := by simpa using hq
  simp [results, h, hp', hq', asAddr, run_loadVar_row w g 28 28 (hostC x) (0, 0) _ hg Tryz.underlying28 rfl (by rw [hostC_size x hx]; exact infoHo), hostV]
def ascV (r : Ho × Nat) : Value := .tuple #[hostV r.1, .int .i64 (r.2 : Nat)]
theorem ext_size (s : ByteArray) (k : Nat) : (s.extract 0 k).size ≤ s.size := by rw [ByteArray.size_extract]; omega

set_option maxHeartbeats 4000000 in
set_option maxRecDepth 100000 in
theorem asc_any (h : Ho) (ok : h.Ok) (w : World) (hT : Tc w) (hn : h.n.length ≤ 140737488351232) :
    Calls Tryz.prog 11 #[hostV h] w fun e w' => e = .returned (ascV (ascii asciiL h)) ∧ Below w.heap.size w w' := by
  have ha := ok.len
  have HT : Hid (∀ wx, Below w.heap.size w wx → Tc wx) := fun wx hb => hT.below hb
  have hsz := hostC_size h ha
  obtain ⟨HC, hHC⟩ : ∃ HC, HC = hostC h := ⟨_, rfl⟩
  have e1 : hostV h = .agg HC := by rw [hHC]; rfl
  have HHC : Hid (HC = hostC h) := hHC
  rw [← hHC] at hsz
  have L1 : Hid (Lies ((w.alloc (.cells HC 28)).alloc (.cells #[.int .i64 0, .string ⟨#[]⟩, .int .u8 0, .int .u8 0, .int .u8 0, .int .u8 0, .int .u8 0, .int .u8 0, .int .u8 0, .int .u8 0, .int .u8 0, .int .u8 0, .int .u8 0, .int .u8 0, .int .u8 0, .int .u8 0, .int .u8 0, .int .u8 0] 28)) w.heap.size HC 28) := (Lies.new w _ _).alloc _
  have L2 : Hid (Lies ((w.alloc (.cells HC 28)).alloc (.cells #[.int .i64 0, .string ⟨#[]⟩, .int .u8 0, .int .u8 0, .int .u8 0, .int .u8 0, .int .u8 0, .int .u8 0, .int .u8 0, .int .u8 0, .int .u8 0, .int .u8 0, .int .u8 0, .int .u8 0, .int .u8 0, .int .u8 0, .int .u8 0, .int .u8 0] 28)) (w.heap.size + 1) #[.int .i64 0, .string ⟨#[]⟩, .int .u8 0, .int .u8 0, .int .u8 0, .int .u8 0, .int .u8 0, .int .u8 0, .int .u8 0, .int .u8 0, .int .u8 0, .int .u8 0, .int .u8 0, .int .u8 0, .int .u8 0, .int .u8 0, .int .u8 0, .int .u8 0] 28) := new_one w _ _ _
  have HB : Hid (Below w.heap.size w ((w.alloc (.cells HC 28)).alloc (.cells #[.int .i64 0, .string ⟨#[]⟩, .int .u8 0, .int .u8 0, .int .u8 0, .int .u8 0, .int .u8 0, .int .u8 0, .int .u8 0, .int .u8 0, .int .u8 0, .int .u8 0, .int .u8 0, .int .u8 0, .int .u8 0, .int .u8 0, .int .u8 0, .int .u8 0] 28))) := ((Below.refl _ _).alloc (Nat.le_refl _) _).alloc (by simp) _
  have HCK : Hid (∀ wx, Below w.heap.size w wx → Calls Tryz.prog 21 #[.agg HC, .bool true] wx fun e w' => e = .returned (.int .i64 (check h true : Nat)) ∧ Below wx.heap.size wx w') := fun wx hb => by
    rw [← e1]
    exact chk_any h ha true wx (HT.out _ hb).tb hn
  rw [e1]
  clear hT hHC e1
  go_enter Tryz.func11, Tryz.ntmps11
  go_upto_region 1 with fail
  generalize (w.alloc (.cells HC 28)).alloc (.cells #[.int .i64 0, .string ⟨#[]⟩, .int .u8 0, .int .u8 0, .int .u8 0, .int .u8 0, .int .u8 0, .int .u8 0, .int .u8 0, .int .u8 0, .int .u8 0, .int .u8 0, .int .u8 0, .int .u8 0, .int .u8 0, .int .u8 0, .int .u8 0, .int .u8 0] 28) = wA at L1 L2 HB ⊢
  have hzA := L2.out.lt
  go_wp2_with (refine wpList_load_row rfl 28 _ rfl w.heap.size rfl HC 28 _ L1.out Tryz.underlying28 rfl (by rw [hsz]; exact infoHo) ?_)
  refine (HCK.out _ HB.out).mono ?_
  rintro e w1 ⟨rfl, hb1⟩
  have K1 : Hid (Lies w1 w.heap.size HC 28) := L1.out.below hb1 L1.out.lt
  have K2 : Hid (Lies w1 (w.heap.size + 1) #[.int .i64 0, .string ⟨#[]⟩, .int .u8 0, .int .u8 0, .int .u8 0, .int .u8 0, .int .u8 0, .int .u8 0, .int .u8 0, .int .u8 0, .int .u8 0, .int .u8 0, .int .u8 0, .int .u8 0, .int .u8 0, .int .u8 0, .int .u8 0, .int .u8 0] 28) := L2.out.below hb1 L2.out.lt
  have KB : Hid (Below w.heap.size w w1) := HB.out.trans (hb1.mono (Nat.le_of_lt L1.out.lt))
  clear hb1 L1 L2 HB HCK hzA
  have hz1 := K2.out.lt
  have K1h : Lies w1 w.heap.size (hostC h) 28 := by rw [← HHC.out]; exact K1.out
  obtain ⟨c0, c1⟩ := host_cells K1h
  have hf1 := K1h.frozen 1
  by_cases hck : check h true = 0
  case neg =>
    have HV : Hid (ascii asciiL h = (ho0, check h true)) := by show _ = _; unfold ascii; rw [if_neg hck]
    have hck' : ((check h true : Int) == 0) = false := by rw [beq_eq_false_iff_ne]; omega
    generalize check h true = ck at HV hck' ⊢
    clear hck
    go_wp2_with (refine wpList_store_row rfl 28 _ _ rfl (w.heap.size + 1) rfl _ #[.int .i64 0, .string ⟨#[]⟩, .int .u8 0, .int .u8 0, .int .u8 0, .int .u8 0, .int .u8 0, .int .u8 0, .int .u8 0, .int .u8 0, .int .u8 0, .int .u8 0, .int .u8 0, .int .u8 0, .int .u8 0, .int .u8 0, .int .u8 0, .int .u8 0] rfl 28 K2.out infoHo rfl (by simp [Value.oneCell']) rfl ?_)
    exact bodyPost_ret (results_mix (p := 2) (q := 3) (by kernel_rfl) _ _ (w.heap.size + 1) ho0 rfl (.int .i64 (ck : Int)) rfl rfl (K2.out.row _)) rfl ⟨by rw [HV.out]; rfl, below_row KB.out (by omega) _⟩
  rw [hck]
  obtain ⟨S, hS⟩ : ∃ S : ByteArray, S = ⟨h.n.toArray⟩ := ⟨_, rfl⟩
  have hSl : S.data.toList = h.n := by rw [hS]
  rw [← hS] at c1
  by_cases k1 : h.k = 1
  · rw [k1] at c0
    have hnl : S.size ≤ 255 := by
      rw [← len_list, hSl]
      exact (wd_ok (check_name k1 hck).2).1
    have HAD : Hid (Calls Tryz.prog 34 #[.string S] w1 fun e w' => e = .returned (.tuple #[.string ⟨(asciiD asciiL h.n).1.toArray⟩, .int .i64 ((asciiD asciiL h.n).2 : Nat)]) ∧ Below w1.heap.size w1 w') := by
      have := ad_any S w1 (HT.out _ KB.out) hnl
      rw [hSl] at this
      exact this
    have HV0 : Hid (ascii asciiL h = if (asciiD asciiL h.n).2 = 0 then (⟨1, (asciiD asciiL h.n).1, h.a⟩, 0) else (ho0, (asciiD asciiL h.n).2)) := by show _ = _; unfold ascii; rw [if_pos hck, if_pos k1]
    generalize asciiD asciiL h.n = ad at HAD HV0
    clear hck hS hSl hnl
    go_wp2_with fail
    refine HAD.out.mono ?_
    rintro e w2 ⟨rfl, hb2⟩
    have J1 : Hid (Lies w2 w.heap.size (hostC h) 28) := K1h.below hb2 K1h.lt
    have J2 : Hid (Lies w2 (w.heap.size + 1) #[.int .i64 0, .string ⟨#[]⟩, .int .u8 0, .int .u8 0, .int .u8 0, .int .u8 0, .int .u8 0, .int .u8 0, .int .u8 0, .int .u8 0, .int .u8 0, .int .u8 0, .int .u8 0, .int .u8 0, .int .u8 0, .int .u8 0, .int .u8 0, .int .u8 0] 28) := K2.out.below hb2 K2.out.lt
    have JB : Hid (Below w.heap.size w w2) := KB.out.trans (hb2.mono (Nat.le_of_lt K1.out.lt))
    clear hb2 HAD K1 K2 KB K1h c0 c1 hf1
    have hz2 := J2.out.lt
    by_cases he : ad.2 = 0
    · have HV : Hid (ascii asciiL h = (⟨1, ad.1, h.a⟩, 0)) := by show _ = _; rw [HV0.out, if_pos he]
      have he' : ((ad.2 : Int) == 0) = true := by rw [beq_iff_eq]; omega
      have hc1 := J1.out.cell 1
      have hf1 := J1.out.frozen 1
      obtain ⟨v1, hv1⟩ : ∃ v, w2.cell? ⟨w.heap.size, 1, none⟩ = some v := ⟨_, hc1⟩
      have J3 : Hid (Lies (w2.setCell ⟨w.heap.size, 1, none⟩ (.string ⟨ad.1.toArray⟩)) w.heap.size (hostC ⟨1, ad.1, h.a⟩) 28) := by
        have := J1.out.set 1 (.string ⟨ad.1.toArray⟩)
        rw [hostC_name, k1] at this
        exact this
      have J4 : Hid (Lies (w2.setCell ⟨w.heap.size, 1, none⟩ (.string ⟨ad.1.toArray⟩)) (w.heap.size + 1) #[.int .i64 0, .string ⟨#[]⟩, .int .u8 0, .int .u8 0, .int .u8 0, .int .u8 0, .int .u8 0, .int .u8 0, .int .u8 0, .int .u8 0, .int .u8 0, .int .u8 0, .int .u8 0, .int .u8 0, .int .u8 0, .int .u8 0, .int .u8 0, .int .u8 0] 28) := J2.out.set_other (a := ⟨w.heap.size, 1, none⟩) (by show w.heap.size + 1 ≠ w.heap.size; omega) _
      have JB4 : Hid (Below w.heap.size w (w2.setCell ⟨w.heap.size, 1, none⟩ (.string ⟨ad.1.toArray⟩))) := JB.out.setCell (p := ⟨w.heap.size, 1, none⟩) (Nat.le_refl _) _
      have hzz := hostC_size ⟨1, ad.1, h.a⟩ ha
      have hoo := hostC_one ⟨1, ad.1, h.a⟩
      clear HV0 he k1 hc1 J1 J2
      go_upto_region 13 with fail
      generalize w2.setCell ⟨w.heap.size, 1, none⟩ (.string ⟨ad.1.toArray⟩) = w3 at J3 J4 JB4 ⊢
      obtain ⟨X, hX⟩ : ∃ X, X = hostC ⟨1, ad.1, h.a⟩ := ⟨_, rfl⟩
      rw [← hX] at J3 hzz hoo
      have HX : Hid (X = hostC ⟨1, ad.1, h.a⟩) := hX
      have hz3 := J4.out.lt
      clear hX hv1 hf1 hz2
      go_wp2_with (first | (refine wpList_load_row rfl 28 _ rfl w.heap.size rfl X 28 _ J3.out Tryz.underlying28 rfl (by rw [hzz]; exact infoHo) ?_) | (refine wpList_store_row rfl 28 _ _ rfl (w.heap.size + 1) rfl _ X rfl 28 J4.out (by rw [hzz]; exact infoHo) (by rw [hzz]; rfl) hoo rfl ?_))
      exact bodyPost_ret (results_mix (p := 2) (q := 3) (by kernel_rfl) _ _ (w.heap.size + 1) ⟨1, ad.1, h.a⟩ ha (.int .i64 0) rfl rfl (by rw [← HX.out]; exact J4.out.row _)) rfl ⟨by rw [HV.out]; rfl, below_row JB4.out (by omega) _⟩
    · have HV : Hid (ascii asciiL h = (ho0, ad.2)) := by show _ = _; rw [HV0.out, if_neg he]
      have he' : ((ad.2 : Int) == 0) = false := by rw [beq_eq_false_iff_ne]; omega
      clear HV0 he k1
      go_wp2_with (refine wpList_store_row rfl 28 _ _ rfl (w.heap.size + 1) rfl _ #[.int .i64 0, .string ⟨#[]⟩, .int .u8 0, .int .u8 0, .int .u8 0, .int .u8 0, .int .u8 0, .int .u8 0, .int .u8 0, .int .u8 0, .int .u8 0, .int .u8 0, .int .u8 0, .int .u8 0, .int .u8 0, .int .u8 0, .int .u8 0, .int .u8 0] rfl 28 J2.out infoHo rfl (by simp [Value.oneCell']) rfl ?_)
      exact bodyPost_ret (results_mix (p := 2) (q := 3) (by kernel_rfl) _ _ (w.heap.size + 1) ho0 rfl (.int .i64 (ad.2 : Int)) rfl rfl (J2.out.row _)) rfl ⟨by rw [HV.out]; rfl, below_row JB.out (by omega) _⟩
  have k1' : (h.k == 1) = false := by rw [beq_eq_false_iff_ne]; exact k1
  by_cases k4 : h.k = 4
  · rw [k4] at c0
    have htg := (check_tag k4 hck).2
    have hnl : h.n.length ≤ 253 := by
      unfold chTag at htg
      rcases Nat.lt_or_ge 253 h.n.length with hl | hl
      · rw [if_pos hl] at htg; cases htg
      · exact hl
    obtain ⟨k, hk⟩ : ∃ k, colonAt h.n = some k := by
      unfold chTag at htg
      rw [if_neg (by omega)] at htg
      cases hk : colonAt h.n with
      | none => rw [hk] at htg; cases htg
      | some k => exact ⟨k, rfl⟩
    have hkl := (colonAt_some hk).1
    have hSs : S.size ≤ 253 := by rw [← len_list, hSl]; exact hnl
    have hkS : k ≤ S.size := by rw [← len_list, hSl]; omega
    have HV : Hid (ascii asciiL h = (⟨4, tagS h.n, h.a⟩, 0)) := by show _ = _; unfold ascii; rw [if_pos hck, if_neg k1, if_pos k4]
    have HIX := Tryz.strings_IndexByte S 58 w1
    rw [show (58 : Int).toNat.toUInt8 = 58 from rfl, index_colon, hSl, hk] at HIX
    have HIX2 : Hid (Calls Tryz.prog 35 #[.string S, .int .u8 58] w1 fun e w' => e = .returned (.int .i64 (k : Int)) ∧ w' = w1) := HIX
    have HSM : Hid (∀ wx, Calls Tryz.prog 36 #[.string (S.extract 0 k)] wx fun e w' => e = .returned (.string (smS (S.extract 0 k))) ∧ Below wx.heap.size wx w') := fun wx => small_any (S.extract 0 k) wx (by have := ext_size S k; unfold maxLen; omega)
    have HTG : Hid ((⟨(tagS h.n).toArray⟩ : ByteArray) = smS (S.extract 0 k) ++ S.extract k S.size) := by
      show _ = _
      have e2 : S.extract k S.size = ⟨(h.n.drop k).toArray⟩ := by
        have := ext_drop S k
        rw [hSl] at this
        rw [← this]
      rw [tagS_some hk, e2]
      unfold smS
      rw [ext_take, hSl, str_append]
    have hss : (smS (S.extract 0 k)).size ≤ 253 := by
      show (sml (S.extract 0 k).data.toList).toArray.size ≤ _
      rw [List.size_toArray, sml_len, len_list]
      have := ext_size S k
      omega
    generalize smS (S.extract 0 k) = sm at HSM HTG hss
    have ad1 : ∀ W, (Op.stringOp .add sm (S.extract k S.size)).run Tryz.prog W = .ok (.string (sm ++ S.extract k S.size)) W := fun W => run_string_add_sum _ _ _ (by rw [ByteArray.size_extract]; omega)
    have hkk : (k : Int) ≤ (S.size : Int) := by omega
    have hkm : min k S.size = k := by omega
    clear hck hS hSl hnl hk htg HIX k1 hkl
    go_wp2_with fail
    refine HIX2.out.mono ?_
    rintro e w2 ⟨rfl, rfl⟩
    clear HIX2
    go_upto_region 12 with fail
    have HSV : Hid (∀ wx, Below w2.heap.size w2 wx → wx.cell? ⟨w.heap.size, 1, none⟩ = some (.string S)) := fun wx hb => (hb.cell (p := ⟨w.heap.size, 1, none⟩) (by show w.heap.size < w2.heap.size; omega)).trans c1
    have hS0 := HSV.out w2.drew (Below.refl _ w2).drew
    refine wp_region_late (fun wx => wx.cell? ⟨w.heap.size, 1, none⟩ = some (.string S)) 11 (by kernel_rfl) hS0 (fun hHeld => ?_)
    refine wpAnyE_take (i := 0) (d := some 35) (v := ?_) rfl (by kernel_rfl) (by kernel_rfl) (by kernel_rfl) (by kernel_rfl) (fun _ _ _ h => h) rfl rfl ?hy (by assumption) ?_
    case hy => (intro w' hSw; (try dsimp only at hSw); go_simp <;> (first | with_reducible rfl | omega | skip))
    simp only [Act.put, List.setIfInBounds_toArray, List.set_cons_zero, List.set_cons_succ]
    refine wpAnyE_take (i := 1) (d := some 36) (v := ?_) rfl (by kernel_rfl) (by kernel_rfl) (by kernel_rfl) (by kernel_rfl) (fun _ _ _ h => h) rfl rfl ?hy (by assumption) ?_
    case hy => (intro w' hSw; (try dsimp only at hSw); go_simp <;> (first | with_reducible rfl | omega | skip))
    simp only [Act.put, List.setIfInBounds_toArray, List.set_cons_zero, List.set_cons_succ]
    refine wpAnyE_take (i := 2) (d := some 37) (v := ?_) rfl (by kernel_rfl) (by kernel_rfl) (by kernel_rfl) (by kernel_rfl) (fun _ _ _ h => h) rfl rfl ?hy (by assumption) ?_
    case hy => (intro w' hSw; (try dsimp only at hSw); go_simp <;> (first | with_reducible rfl | omega | skip))
    simp only [Act.put, List.setIfInBounds_toArray, List.set_cons_zero, List.set_cons_succ]
    refine wpAnyE_take (i := 3) (d := some 38) (v := .string (S.extract 0 k)) rfl (by kernel_rfl) (by kernel_rfl) (by kernel_rfl) (by kernel_rfl) (fun _ _ _ h => h) rfl rfl ?hy (by assumption) ?_
    case hy => (intro w' hSw; (try dsimp only at hSw); go_simp <;> (first | with_reducible rfl | omega | skip))
    simp only [Act.put, List.setIfInBounds_toArray, List.set_cons_zero, List.set_cons_succ]
    refine wpAnyE_take (i := 5) (d := some 40) (v := ?_) rfl (by kernel_rfl) (by kernel_rfl) (by kernel_rfl) (by kernel_rfl) (fun _ _ _ h => h) rfl rfl ?hy (by assumption) ?_
    case hy => (intro w' hSw; (try dsimp only at hSw); go_simp <;> (first | with_reducible rfl | omega | skip))
    simp only [Act.put, List.setIfInBounds_toArray, List.set_cons_zero, List.set_cons_succ]
    refine wpAnyE_take (i := 6) (d := some 41) (v := ?_) rfl (by kernel_rfl) (by kernel_rfl) (by kernel_rfl) (by kernel_rfl) (fun _ _ _ h => h) rfl rfl ?hy (by assumption) ?_
    case hy => (intro w' hSw; (try dsimp only at hSw); go_simp <;> (first | with_reducible rfl | omega | skip))
    simp only [Act.put, List.setIfInBounds_toArray, List.set_cons_zero, List.set_cons_succ]
    refine wpAnyE_take (i := 7) (d := some 42) (v := ?_) rfl (by kernel_rfl) (by kernel_rfl) (by kernel_rfl) (by kernel_rfl) (fun _ _ _ h => h) rfl rfl ?hy (by assumption) ?_
    case hy => (intro w' hSw; (try dsimp only at hSw); go_simp <;> (first | with_reducible rfl | omega | skip))
    simp only [Act.put, List.setIfInBounds_toArray, List.set_cons_zero, List.set_cons_succ]
    refine wpAnyE_take (i := 8) (d := some 43) (v := .string (S.extract k S.size)) rfl (by kernel_rfl) (by kernel_rfl) (by kernel_rfl) (by kernel_rfl) (fun _ _ _ h => h) rfl rfl ?hy (by assumption) ?_
    case hy => (intro w' hSw; (try dsimp only at hSw); go_simp <;> (first | with_reducible rfl | omega | skip))
    simp only [Act.put, List.setIfInBounds_toArray, List.set_cons_zero, List.set_cons_succ]
    refine wpAnyE_on (i := 4) (by kernel_rfl) rfl rfl ?_
    go_simp
    refine Calls.mono (HSM.out _) ?_
    rintro e w3 ⟨rfl, hb3⟩
    have hb3' : Below w2.heap.size w2 w3 := (Below.refl _ w2).drew.trans hb3
    have hS3 := HSV.out _ hb3'
    refine ⟨hS3, ?_⟩
    refine wpAnyE_take (i := 9) (d := some 44) (v := .string (sm ++ S.extract k S.size)) rfl (by kernel_rfl) (by kernel_rfl) (by kernel_rfl) (by kernel_rfl) (fun _ _ _ h => h) rfl rfl ?hy (by assumption) ?_
    case hy => (intro w' hSw; (try dsimp only at hSw); go_simp <;> (first | with_reducible rfl | omega | skip))
    simp only [Act.put, List.setIfInBounds_toArray, List.set_cons_zero, List.set_cons_succ]
    refine wpAnyE_take (i := 10) (d := some 45) (v := ?_) rfl (by kernel_rfl) (by kernel_rfl) (by kernel_rfl) (by kernel_rfl) (fun _ _ _ h => h) rfl rfl ?hy (by assumption) ?_
    case hy => (intro w' hSw; (try dsimp only at hSw); go_simp <;> (first | with_reducible rfl | omega | skip))
    simp only [Act.put, List.setIfInBounds_toArray, List.set_cons_zero, List.set_cons_succ]
    have J1 : Lies w3 w.heap.size (hostC h) 28 := K1h.below hb3' K1h.lt
    have J2 : Lies w3 (w.heap.size + 1) #[.int .i64 0, .string ⟨#[]⟩, .int .u8 0, .int .u8 0, .int .u8 0, .int .u8 0, .int .u8 0, .int .u8 0, .int .u8 0, .int .u8 0, .int .u8 0, .int .u8 0, .int .u8 0, .int .u8 0, .int .u8 0, .int .u8 0, .int .u8 0, .int .u8 0] 28 := K2.out.below hb3' K2.out.lt
    have JB : Below w.heap.size w w3 := KB.out.trans (hb3'.mono (Nat.le_of_lt K1.out.lt))
    have hf3 := J1.frozen 1
    have J3 : Hid (Lies (w3.setCell ⟨w.heap.size, 1, none⟩ (.string (sm ++ S.extract k S.size))) w.heap.size (hostC ⟨4, tagS h.n, h.a⟩) 28) := by
      have := J1.set 1 (.string (sm ++ S.extract k S.size))
      rw [← HTG.out, hostC_name, k4] at this
      rw [← HTG.out]
      exact this
    have J4 : Hid (Lies (w3.setCell ⟨w.heap.size, 1, none⟩ (.string (sm ++ S.extract k S.size))) (w.heap.size + 1) #[.int .i64 0, .string ⟨#[]⟩, .int .u8 0, .int .u8 0, .int .u8 0, .int .u8 0, .int .u8 0, .int .u8 0, .int .u8 0, .int .u8 0, .int .u8 0, .int .u8 0, .int .u8 0, .int .u8 0, .int .u8 0, .int .u8 0, .int .u8 0, .int .u8 0] 28) := J2.set_other (a := ⟨w.heap.size, 1, none⟩) (by show w.heap.size + 1 ≠ w.heap.size; omega) _
    have JB4 : Hid (Below w.heap.size w (w3.setCell ⟨w.heap.size, 1, none⟩ (.string (sm ++ S.extract k S.size)))) := JB.setCell (p := ⟨w.heap.size, 1, none⟩) (Nat.le_refl _) _
    refine wpAnyE_on (i := 11) (by kernel_rfl) rfl rfl ?_
    have hz3 := J2.lt
    clear J1 J2 JB hb3 hHeld hS0 hb3'
    go_simp
    refine wpAnyE_done (by kernel_rfl) ?_ _
    generalize w3.setCell ⟨w.heap.size, 1, none⟩ (.string (sm ++ S.extract k S.size)) = w4 at J3 J4 JB4 ⊢
    have hzz := hostC_size ⟨4, tagS h.n, h.a⟩ ha
    have hoo := hostC_one ⟨4, tagS h.n, h.a⟩
    obtain ⟨X, hX⟩ : ∃ X, X = hostC ⟨4, tagS h.n, h.a⟩ := ⟨_, rfl⟩
    rw [← hX] at J3 hzz hoo
    have HX : Hid (X = hostC ⟨4, tagS h.n, h.a⟩) := hX
    have hz4 := J4.out.lt
    clear hX hf3 hS3 hz3 c0 c1 k4
    go_wp2_with (first | (refine wpList_load_row rfl 28 _ rfl w.heap.size rfl X 28 _ J3.out Tryz.underlying28 rfl (by rw [hzz]; exact infoHo) ?_) | (refine wpList_store_row rfl 28 _ _ rfl (w.heap.size + 1) rfl _ X rfl 28 J4.out (by rw [hzz]; exact infoHo) (by rw [hzz]; rfl) hoo rfl ?_))
    exact bodyPost_ret (results_mix (p := 2) (q := 3) (by kernel_rfl) _ _ (w.heap.size + 1) ⟨4, tagS h.n, h.a⟩ ha (.int .i64 0) rfl rfl (by rw [← HX.out]; exact J4.out.row _)) rfl ⟨by rw [HV.out]; rfl, below_row JB4.out (by omega) _⟩
  have k4' : (h.k == 4) = false := by rw [beq_eq_false_iff_ne]; exact k4
  have HV : Hid (ascii asciiL h = (h, 0)) := by show _ = _; unfold ascii; rw [if_pos hck, if_neg k1, if_neg k4]
  have hoo : HC.all (·.oneCell') = true := by rw [HHC.out]; exact hostC_one h
  clear k1 k4 hck hS hSl
  go_wp2_with (first | (refine wpList_load_row rfl 28 _ rfl w.heap.size rfl HC 28 _ K1.out Tryz.underlying28 rfl (by rw [hsz]; exact infoHo) ?_) | (refine wpList_store_row rfl 28 _ _ rfl (w.heap.size + 1) rfl _ HC rfl 28 K2.out (by rw [hsz]; exact infoHo) (by rw [hsz]; rfl) hoo rfl ?_))
  exact bodyPost_ret (results_mix (p := 2) (q := 3) (by kernel_rfl) _ _ (w.heap.size + 1) h ha (.int .i64 0) rfl rfl (by rw [← HHC.out]; exact K2.out.row _)) rfl ⟨by rw [HV.out]; rfl, below_row KB.out (by omega) _⟩
end Go.Proofs.YtnlgbopdbihnjaaGreatDoor
/-
  The library's further contracts on strings, laid at this program.
-/
namespace Go.Proofs

open Go.RowKit Go.Lib in
open Go.RowKit Go.Lib in
def Tryz.lays145_ren : Go.Shelf.Ren := ⟨fun | 145 => 55 | 220 => 95 | 219 => 122 | 217 => 83 | 225 => 154 | 224 => 155 | 267 => 156 | 266 => 113 | 314 => 176 | n => n, fun | 9 => 9 | 4 => 4 | 59 => 81 | 3 => 3 | 5 => 5 | 46 => 70 | 146 => 200 | 51 => 176 | n => n, fun | 1 => 1 | n => n⟩
theorem Tryz.lays145 : Go.Proofs.Lays.n145 Tryz.prog Tryz.lays145_ren := {
  mixed := by kernel_rfl
  f145 := Tryz.func55.trans (congrArg some (by kernel_rfl))
  f217 := Tryz.func83.trans (congrArg some (by kernel_rfl))
  f219 := Tryz.func122.trans (congrArg some (by kernel_rfl))
  f220 := Tryz.func95.trans (congrArg some (by kernel_rfl))
  f224 := Tryz.func155.trans (congrArg some (by kernel_rfl))
  f225 := Tryz.func154.trans (congrArg some (by kernel_rfl))
  f266 := Tryz.func113.trans (congrArg some (by kernel_rfl))
  f267 := Tryz.func156.trans (congrArg some (by kernel_rfl))
  f314 := Tryz.func176.trans (congrArg some (by kernel_rfl))
  t3 := Tryz.underlying3
  a3 := Tryz.isAgg3
  z3 := Tryz.sizeOf3
  v3 := Tryz.zeroValue3
  t4 := Tryz.underlying4
  a4 := Tryz.isAgg4
  z4 := Tryz.sizeOf4
  v4 := Tryz.zeroValue4
  t5 := Tryz.underlying5
  a5 := Tryz.isAgg5
  z5 := Tryz.sizeOf5
  v5 := Tryz.zeroValue5
  t9 := Tryz.underlying9
  a9 := Tryz.isAgg9
  z9 := Tryz.sizeOf9
  v9 := Tryz.zeroValue9
  t46 := Tryz.underlying70
  a46 := Tryz.isAgg70
  z46 := Tryz.sizeOf70
  v46 := Tryz.zeroValue70
  t51 := Tryz.underlying176
  a51 := Tryz.isAgg176
  z51 := Tryz.sizeOf176
  v51 := Tryz.zeroValue176
  t59 := Tryz.underlying81
  a59 := Tryz.isAgg81
  z59 := Tryz.sizeOf81
  v59 := Tryz.zeroValue81
  t146 := Tryz.underlying200
  a146 := Tryz.isAgg200
  z146 := Tryz.sizeOf200
  v146 := Tryz.zeroValue200
  g1 := by kernel_rfl }
open Go.RowKit Go.Lib in
theorem Tryz.strings_Cut (s sep : ByteArray) (m : Int) (w : World) (hs : s.size < 4294967281) (hm : w.cell? ⟨1, 0, none⟩ = some (.int .i64 m)) :
    Calls Tryz.prog 55 #[.string s, .string sep] w fun e w' => e = .returned (.tuple #[.string ⟨(Lib.cut s.data.toList sep.data.toList).1.toArray⟩, .string ⟨(Lib.cut s.data.toList sep.data.toList).2.1.toArray⟩, .bool (Lib.cut s.data.toList sep.data.toList).2.2]) ∧ ∃ n, w' = w.drewN n := Any.strings_Cut Tryz.lays145 s sep m w hs hm
def Tryz.lays105_ren : Go.Shelf.Ren := ⟨fun | 105 => 127 | 212 => 161 | 99 => 31 | 165 => 88 | 166 => 89 | 170 => 135 | 169 => 90 | 263 => 178 | 264 => 179 | 206 => 72 | 240 => 120 | 241 => 121 | 276 => 152 | 277 => 153 | n => n, fun | 9 => 9 | 3 => 3 | 4 => 4 | 20 => 20 | 0 => 0 | 46 => 70 | 109 => 184 | 5 => 5 | 72 => 118 | 76 => 120 | 51 => 176 | 146 => 200 | 53 => 74 | 148 => 203 | 70 => 116 | 37 => 88 | 75 => 113 | 127 => 151 | 164 => 179 | 80 => 122 | n => n, fun | n => n⟩
theorem Tryz.lays105 : Go.Proofs.Lays.n105 Tryz.prog Tryz.lays105_ren := {
  mixed := by kernel_rfl
  f99 := Tryz.func31.trans (congrArg some (by kernel_rfl))
  f105 := Tryz.func127.trans (congrArg some (by kernel_rfl))
  f165 := Tryz.func88.trans (congrArg some (by kernel_rfl))
  f166 := Tryz.func89.trans (congrArg some (by kernel_rfl))
  f169 := Tryz.func90.trans (congrArg some (by kernel_rfl))
  f170 := Tryz.func135.trans (congrArg some (by kernel_rfl))
  f206 := Tryz.func72.trans (congrArg some (by kernel_rfl))
  f212 := Tryz.func161.trans (congrArg some (by kernel_rfl))
  f240 := Tryz.func120.trans (congrArg some (by kernel_rfl))
  f241 := Tryz.func121.trans (congrArg some (by kernel_rfl))
  f263 := Tryz.func178.trans (congrArg some (by kernel_rfl))
  f264 := Tryz.func179.trans (congrArg some (by kernel_rfl))
  f276 := Tryz.func152.trans (congrArg some (by kernel_rfl))
  f277 := Tryz.func153.trans (congrArg some (by kernel_rfl))
  t0 := Tryz.underlying0
  a0 := Tryz.isAgg0
  z0 := Tryz.sizeOf0
  v0 := Tryz.zeroValue0
  t3 := Tryz.underlying3
  a3 := Tryz.isAgg3
  z3 := Tryz.sizeOf3
  v3 := Tryz.zeroValue3
  t4 := Tryz.underlying4
  a4 := Tryz.isAgg4
  z4 := Tryz.sizeOf4
  v4 := Tryz.zeroValue4
  t5 := Tryz.underlying5
  a5 := Tryz.isAgg5
  z5 := Tryz.sizeOf5
  v5 := Tryz.zeroValue5
  t9 := Tryz.underlying9
  a9 := Tryz.isAgg9
  z9 := Tryz.sizeOf9
  v9 := Tryz.zeroValue9
  t20 := Tryz.underlying20
  a20 := Tryz.isAgg20
  z20 := Tryz.sizeOf20
  v20 := Tryz.zeroValue20
  t37 := Tryz.underlying88
  a37 := Tryz.isAgg88
  z37 := Tryz.sizeOf88
  v37 := Tryz.zeroValue88
  t46 := Tryz.underlying70
  a46 := Tryz.isAgg70
  z46 := Tryz.sizeOf70
  v46 := Tryz.zeroValue70
  t51 := Tryz.underlying176
  a51 := Tryz.isAgg176
  z51 := Tryz.sizeOf176
  v51 := Tryz.zeroValue176
  t53 := Tryz.underlying74
  a53 := Tryz.isAgg74
  z53 := Tryz.sizeOf74
  v53 := Tryz.zeroValue74
  t70 := Tryz.underlying116
  a70 := Tryz.isAgg116
  z70 := Tryz.sizeOf116
  v70 := Tryz.zeroValue116
  t72 := Tryz.underlying118
  a72 := Tryz.isAgg118
  z72 := Tryz.sizeOf118
  v72 := Tryz.zeroValue118
  t75 := Tryz.underlying113
  a75 := Tryz.isAgg113
  z75 := Tryz.sizeOf113
  v75 := Tryz.zeroValue113
  t76 := Tryz.underlying120
  a76 := Tryz.isAgg120
  z76 := Tryz.sizeOf120
  v76 := Tryz.zeroValue120
  t109 := Tryz.underlying184
  a109 := Tryz.isAgg184
  z109 := Tryz.sizeOf184
  v109 := Tryz.zeroValue184
  t127 := Tryz.underlying151
  a127 := Tryz.isAgg151
  z127 := Tryz.sizeOf151
  v127 := Tryz.zeroValue151
  t146 := Tryz.underlying200
  a146 := Tryz.isAgg200
  z146 := Tryz.sizeOf200
  v146 := Tryz.zeroValue200
  t148 := Tryz.underlying203
  a148 := Tryz.isAgg203
  z148 := Tryz.sizeOf203
  v148 := Tryz.zeroValue203
  t164 := Tryz.underlying179
  a164 := Tryz.isAgg179
  z164 := Tryz.sizeOf179
  v164 := Tryz.zeroValue179 }
theorem Tryz.Builder_Extra_105 : Builder.Extra Tryz.prog Tryz.lays105_ren := {
  sizeBuilder := by kernel_rfl
  liesBuilder := by kernel_rfl
  t5 := Tryz.underlying5
  a5 := Tryz.isAgg5
  z5 := Tryz.sizeOf5
  v5 := Tryz.zeroValue5
  infoByte := by kernel_rfl
  cellsByte := by kernel_rfl
  sizeByte := by kernel_rfl
  neB5 := by decide }
open Go.RowKit Go.Lib in
theorem Tryz.strings_Repeat (s : ByteArray) (c : Nat) (w : World) (hc : c ≤ 9223372036854775807) (hlen : s.size * c ≤ 140737488355328) :
    Calls Tryz.prog 127 #[.string s, .int .i64 c] w fun e w' => e = .returned (.string ⟨(Lib.repeatL s.data.toList c).toArray⟩) ∧ Below w.heap.size w w' := Any.strings_Repeat Tryz.lays105 Tryz.Builder_Extra_105 s c w hc hlen
end Go.Proofs
