/-
  All replies that a reader tells.
-/
import Derived.Test.YtbfgefgadplcjaaDoorFd12
import Derived.Test.YtbfgefgadplcjaaDoorOwn7
namespace Go.Proofs.YtbfgefgadplcjaaDoor
open Go.RowKit

theorem Rys.take_snoc {w : World} {l : List Rx} {o : List Ry} {i : Nat} (h : Rys w l (o.take i)) {x : Rx} (hi : i < o.length) (hx : RyAt w x o[i]) : Rys w (l ++ [x]) (o.take (i + 1)) := by
  rw [List.take_succ_eq_append_getElem hi]
  exact h.snoc hx
set_option maxHeartbeats 4000000 in
set_option maxRecDepth 20000 in
theorem told_any (F : Nat → Prop) (b : Nat) (S : Sr) (most : Nat) (w : World) (h : Rd w F b S) (hF : ∀ k, F k → k < w.heap.size) (hm : S.o.length ≤ most) (hm2 : most ≤ 1099511627776) :
    Calls Tryd.prog 24 #[.pointer (some ⟨b, 0, none⟩), .int .i64 (most : Int)] w fun e w' => ∃ v xs, e = .returned v ∧ Ow celR 50 5 w' v xs ∧ Rys w' xs S.o ∧ (∀ x ∈ xs, ∀ ad, x.a = some ad → F ad.block) ∧ (∀ k, v.ownBlock = some k → w.heap.size ≤ k) ∧ Rd w' F b ⟨S.p, S.h, [], S.b⟩ ∧ Chg F w w' := by
  have HR0 : Hid (Rd w F b ⟨S.p, S.h, S.o.drop 0, S.b⟩) := h
  have HF : Hid (∀ k, F k → k < w.heap.size) := hF
  clear h hF
  go_enter Tryd.func24, Tryd.ntmps24
  go_wp2_with fail
  go_loopw [5, 6, 7, 8] (fun vo iv _ _ wr => ∃ (i : Nat) (xs : List Rx), i ≤ S.o.length ∧ xs.length = i ∧ iv = .int .i64 i ∧ Hid (Ow celR 50 5 wr vo xs) ∧ Hid (Rys wr xs (S.o.take i)) ∧ Hid (∀ x ∈ xs, ∀ ad, x.a = some ad → F ad.block) ∧ Hid (∀ k, vo.ownBlock = some k → w.heap.size ≤ k) ∧ Hid (Rd wr F b ⟨S.p, S.h, S.o.drop i, S.b⟩) ∧ Hid (Chg F w wr)) (fun _ iv _ _ _ => S.o.length + 1 - (intOf iv).toNat)
  case atStart => exact ⟨0, [], Nat.zero_le _, rfl, rfl, Ow.nil _ _ _ _, Rys.nil _, (fun x hx => by cases hx), (fun k e => by cases e), HR0.out, Chg.refl _ _⟩
  case round =>
    obtain ⟨i, xs, hi, hxi, rfl, HO, HY, HX, HV, HR, HC⟩ := hrel
    clear HR0
    have him : (i : Int) ≤ (most : Int) := by omega
    have HXI : Hid (xs.length = i) := hxi
    have hxl : xs.length ≤ 1099511627776 := by omega
    clear hxi
    have HFr : Hid (∀ k, F k → k < wr.heap.size) := fun k hk => Nat.lt_of_lt_of_le (HF.out k hk) HC.out.size
    have HNX := rnext_any F b _ wr HR.out HFr.out
    dsimp only at HNX
    by_cases hlt : i < S.o.length
    · have hdr : S.o.drop i = S.o[i] :: S.o.drop (i + 1) := List.drop_eq_getElem_cons hlt
      rw [hdr] at HNX
      simp only [List.isEmpty_cons, Bool.not_false, List.tail_cons] at HNX
      go_wp2_with fail
      refine HNX.mono ?_
      rintro e w2 ⟨x, rfl, hN2, hR2, hC2, hK2⟩
      obtain ⟨hyx, hfx⟩ := hN2.yes _ _ rfl
      have HO2 : Hid (Ow celR 50 5 w2 u5 xs) := HO.out.chg hC2 (fun g hg hf => by have := HV.out g hg; have := HF.out g hf; omega)
      have HY2 : Hid (Rys w2 xs (S.o.take i)) := hK2.rys HY.out
      have HYX : Hid (RyAt w2 x S.o[i]) := hyx
      have HFX : Hid (∀ ad, x.a = some ad → F ad.block) := hfx
      have HR2 : Hid (Rd w2 F b ⟨S.p, S.h, S.o.drop (i + 1), S.b⟩) := hR2
      have HC2 : Hid (Chg F w w2) := HC.out.trans hC2
      clear hN2 hR2 hC2 hK2 hyx hfx HNX HO HY HR HC HFr hdr
      obtain ⟨W3, hW3⟩ : ∃ W3, W3 = (w2.alloc (.cells (rxC x) 50)).alloc (.cells (rxC x) 50) := ⟨_, rfl⟩
      have hB3 : Below w2.heap.size w2 W3 := by subst hW3; exact ((Below.refl _ _).alloc (Nat.le_refl _) _).alloc (by simp) _
      have HO3 : Hid (Ow celR 50 5 W3 u5 xs) := HO2.out.below hB3
      have HY3 : Hid (Rys W3 xs (S.o.take i)) := HY2.out.keep (fun y hy ad e => hB3.block _ (HY2.out.lt y hy ad e))
      have HYX3 : Hid (RyAt W3 x S.o[i]) := HYX.out.keep (fun ad e => hB3.block _ (HYX.out.lt ad e))
      have HR3 : Hid (Rd W3 F b ⟨S.p, S.h, S.o.drop (i + 1), S.b⟩) := HR2.out.below hB3
      have HC3 : Hid (Chg F w W3) := HC2.out.below hB3
      have HNW : Hid (∀ j u, (celR x)[j]? = some u → W3.cell? ⟨w2.heap.size + 1, j, none⟩ = some u) := fun j u hu => by
        subst hW3
        have := new_cells (w := w2.alloc (.cells (rxC x) 50)) (t := 50) (celR x) j u hu
        rwa [show (w2.alloc (.cells (rxC x) 50)).heap.size = w2.heap.size + 1 by simp] at this
      have HWW : Hid ((w2.alloc (.cells #[.int .i64 x.c, .int .i64 x.s.1, .int .i64 x.s.2.1, .int .i64 x.s.2.2, .slice x.a x.n x.k] 50)).alloc (.cells #[.int .i64 x.c, .int .i64 x.s.1, .int .i64 x.s.2.1, .int .i64 x.s.2.2, .slice x.a x.n x.k] 50) = W3) := hW3.symm
      clear hB3 hW3 HO2 HY2 HYX HR2 HC2
      unfold rxV
      obtain ⟨ua, uc, hu, -⟩ := HO3.out.shape
      subst hu
      go_wp2_with (rw [HWW.out]; refine wpList_append_ow celR_length (by decide) oneR rfl _ _ 29 rfl Tryd.underlying29 _ 56 infoER rfl _ xs rfl HO3.out (w2.heap.size + 1) 1 x rfl HNW.out (by omega) (by omega) ?_; intro g4 cap4 w4 HO4 HC4 HG4; apply Hid.out)
      unfold Hid
      have hap : ∀ j, F j → ¬ (Value.slice ua xs.length uc).ownBlock = some j := fun j hf e => by have := HV.out _ e; have := HF.out _ hf; omega
      have HY4 : Hid (Rys w4 (xs ++ [x]) (S.o.take (i + 1))) := by
        refine Rys.take_snoc (HY3.out.keep (fun y hy ad e => HC4.block _ (HY3.out.lt y hy ad e) (hap _ (HX.out y hy ad e)))) hlt (HYX3.out.keep (fun ad e => HC4.block _ (HYX3.out.lt ad e) (hap _ (HFX.out ad e))))
      have HR4 : Hid (Rd w4 F b ⟨S.p, S.h, S.o.drop (i + 1), S.b⟩) := HR3.out.chg HC4 hap
      have HV4 : Hid (w.heap.size ≤ g4) := by
        rcases HG4 with e | e
        · exact HV.out _ e
        · exact Nat.le_trans HC3.out.size e
      have HC5 : Hid (Chg F w w4) := HC3.out.then HC4 (fun j e => .inr (HV.out j e))
      have HO5 : Hid (Ow celR 50 5 w4 (.slice (some ⟨g4, 0, none⟩) (xs.length + 1) cap4) (xs ++ [x])) := HO4
      clear HO4 HC4 HG4 HO3 HY3 HYX3 HR3 HC3 HNW HWW hap
      go_wp2_with fail
      go_round
      case rel => exact ⟨i + 1, xs ++ [x], hlt, by rw [List.length_append, HXI.out]; rfl, by go_num, HO5.out, HY4.out, (fun y hy ad e => by
          rcases List.mem_append.1 hy with hy | hy
          · exact HX.out y hy ad e
          · rw [List.mem_singleton.1 hy] at e; exact HFX.out ad e), (fun k e => by cases e; exact HV4.out), HR4.out, HC5.out⟩
      case measure => simp [intOf]; omega
    · have hdr : S.o.drop i = [] := List.drop_eq_nil_of_le (by omega)
      rw [hdr] at HNX
      simp only [List.isEmpty_nil, Bool.not_true, List.tail_nil] at HNX
      have hti : S.o.take i = S.o := List.take_of_length_le (by omega)
      have HY2 := HY.out
      rw [hti] at HY2
      go_wp2_with fail
      refine HNX.mono ?_
      rintro e w2 ⟨x, rfl, hN2, hR2, hC2, hK2⟩
      have HO2 : Hid (Ow celR 50 5 w2 u5 xs) := HO.out.chg hC2 (fun g hg hf => by have := HV.out g hg; have := HF.out g hf; omega)
      have HR2 : Hid (Rd w2 F b ⟨S.p, S.h, [], S.b⟩) := hR2
      have HC2 : Hid (Chg F w w2) := HC.out.trans hC2
      have HY3 : Hid (Rys w2 xs S.o) := hK2.rys HY2
      clear hN2 hR2 hC2 hK2 HNX HO HY HY2 HR HC hdr hti
      obtain ⟨ua, uc, hu, -⟩ := HO2.out.shape
      subst hu
      unfold rxV
      go_wp2_with fail
      go_ret
      have hB3 : Below w2.heap.size w2 (w2.alloc (.cells #[.int .i64 x.c, .int .i64 x.s.1, .int .i64 x.s.2.1, .int .i64 x.s.2.2, .slice x.a x.n x.k] 50)) := (Below.refl _ _).alloc (Nat.le_refl _) _
      exact ⟨_, xs, rfl, HO2.out.below hB3, HY3.out.keep (fun y hy ad e => hB3.block _ (HY3.out.lt y hy ad e)), HX.out, HV.out, HR2.out.below hB3, HC2.out.below hB3⟩
end Go.Proofs.YtbfgefgadplcjaaDoor
