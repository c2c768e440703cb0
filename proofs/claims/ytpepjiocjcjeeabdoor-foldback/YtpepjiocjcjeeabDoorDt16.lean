/-
  The document's Fold.
-/
import Derived.Test.YtpepjiocjcjeeabDoorSht
import Derived.Test.YtpepjiocjcjeeabDoorFr16
import Derived.Test.YtpepjiocjcjeeabDoorFsP
namespace Go.Proofs.YtpepjiocjcjeeabDoor
open Go.RowKit

/-- A place, or -1. -/
def opI : Option Nat → Int
  | none => -1
  | some x => (x : Int)
theorem fst_ge {l : List UInt8} {b i f : Nat} (h : fstJ l b i = some f) : b < f ∧ f < l.length := by
  unfold fstJ at h
  have := List.mem_of_mem_head? h
  exact jbs_lt this
theorem lst_ge {l : List UInt8} {most a b i f : Nat} (h : lstJ l most a b i = some f) : b < f ∧ f < l.length := by
  unfold lstJ at h
  have := List.mem_of_getLast? h
  rw [List.mem_filter] at this
  exact jbs_lt this.1
theorem results_ft {P : Program} {fn : Func} {p q : Tmp} {tz : TypeId} (h : fn.results = #[.cell p tz, .tmp q]) (tmps : Array Value) (w : World) (g1 : Nat) (ds : Array Value) (d2 : TypeDesc) (u : Value)
    (hp : tmps.getD p undef = .pointer (some ⟨g1, 0, none⟩)) (hq : tmps.getD q undef = u) (hg1 : Lies w g1 ds tz)
    (hu2 : P.underlying tz = some d2) (ha2 : (match d2 with | .struct _ | .array _ _ => true | _ => false) = true) (hz2 : (P.info? tz).map (·.size) = some ds.size) : (results fn tmps).run P w = .ok (.tuple #[.agg ds, u]) w := by
  have hp' : tmps[p]?.getD undef = .pointer (some ⟨g1, 0, none⟩) := by simpa using hp
  have hq' : tmps[q]?.getD undef = u := by simpa using hq
  simp [results, h, hp', hq', asAddr, run_loadVar_row w g1 tz tz ds (0, 0) d2 hg1 hu2 ha2 hz2]
theorem cut_cat (o : List UInt8) (s : ByteArray) (b e : Nat) : tx o ++ s.extract b e = tx (o ++ stE s.data.toList b e) := by
  have h : s.extract b e = tx (stE s.data.toList b e) := by
    unfold tx stE
    rw [← ext_list, Array.toArray_toList]
  rw [h, tx_cat]
set_option maxRecDepth 100000 in
set_option maxHeartbeats 8000000 in
theorem ufold_any (nm s : ByteArray) (most : Int) (hn : nm.size ≤ 140737488351232) (hs : s.size ≤ 4294967296) (w : World) : Calls Tryd.prog 14 #[.string nm, .string s, .int .i64 most] w fun e w' =>
    e = .returned (.tuple #[.agg #[.string (tx (foldF nm.data.toList s.data.toList most).2.name), .string (tx (foldF nm.data.toList s.data.toList most).2.body)], .int .i64 ((foldF nm.data.toList s.data.toList most).1 : Int)]) ∧ Below w.heap.size w w' := by
  have hnI : (nm.size : Int) ≤ 140737488351232 := by omega
  have hsI : (s.size : Int) ≤ 4294967296 := by omega
  have HNA : Hid (∀ wx, Calls Tryd.prog 34 #[.string nm] wx fun e w' => e = .returned (.bool (nmB nm.data.toList)) ∧ w' = wx) := fun wx => uname_any nm (by omega) wx
  have HRE : Hid (∀ wx, Calls Tryd.prog 23 #[.string s, .int .i64 0] wx fun e w' => e = .returned (.string (s.extract 0 (rwE s.data.toList 0))) ∧ w' = wx) := fun wx => urow_any s 0 (by omega) (Nat.zero_le _) wx
  have hle := rwE_le s.data.toList 0 (Nat.zero_le _)
  rw [len_list] at hle
  have hex : (s.extract 0 (rwE s.data.toList 0)).size = rwE s.data.toList 0 := by rw [ByteArray.size_extract]; omega
  have h1 : foldF nm.data.toList s.data.toList most = if nmB nm.data.toList = false ∨ rwE s.data.toList 0 < s.data.toList.length then (160, ⟨[], []⟩) else if most < 1 ∨ 998 < most then (2, ⟨[], []⟩) else
      match foldR s.data.toList (cuts s.data.toList (nm.data.toList.length + 1) most.toNat) (nm.data.toList.length + 1) [] with
      | none => (160, ⟨[], []⟩)
      | some b => (0, ⟨nm.data.toList, b⟩) := rfl
  rw [len_list, len_list] at h1
  have HFE : Hid _ := h1
  obtain ⟨V, hV⟩ : ∃ V, V = w.alloc (.cells #[.string ⟨#[]⟩, .string ⟨#[]⟩] 32) := ⟨_, rfl⟩
  have HV : Hid (w.alloc (.cells #[.string ⟨#[]⟩, .string ⟨#[]⟩] 32) = V) := hV.symm
  have HB0 : Hid (Below w.heap.size w V) := by rw [hV]; exact (Below.refl _ _).alloc (Nat.le_refl _) _
  have HF0 : Hid (Lies V w.heap.size #[.string ⟨#[]⟩, .string ⟨#[]⟩] 32) := by rw [hV]; exact Lies.new _ _ _
  have c1 := HF0.out.cell 0
  have z1 := HF0.out.frozen 0
  have c2 := HF0.out.cell 1
  have z2 := HF0.out.frozen 1
  simp only [List.getElem?_toArray, List.getElem?_cons_zero, List.getElem?_cons_succ] at c1 c2
  have HBAD : Hid (∀ (err : Int) (tmps : Array Value), tmps.getD 6 undef = .pointer (some ⟨w.heap.size, 0, none⟩) → tmps.getD 7 undef = .int .i64 err → (results Tryd.f14 tmps).run Tryd.prog ((V.setCell ⟨w.heap.size, 0, none⟩ (.string ⟨#[]⟩)).setCell ⟨w.heap.size, 1, none⟩ (.string ⟨#[]⟩)) = .ok (.tuple #[.agg #[.string ⟨#[]⟩, .string ⟨#[]⟩], .int .i64 err]) ((V.setCell ⟨w.heap.size, 0, none⟩ (.string ⟨#[]⟩)).setCell ⟨w.heap.size, 1, none⟩ (.string ⟨#[]⟩))) :=
    fun err tmps h6 h7 => results_ft rfl tmps _ w.heap.size _ _ _ h6 h7 ((HF0.out.set 0 (.string ⟨#[]⟩)).set 1 (.string ⟨#[]⟩)) Tryd.underlying32 rfl (by kernel_rfl)
  have HBB : Hid (Below w.heap.size w ((V.setCell ⟨w.heap.size, 0, none⟩ (.string ⟨#[]⟩)).setCell ⟨w.heap.size, 1, none⟩ (.string ⟨#[]⟩))) := (HB0.out.setCell (p := ⟨w.heap.size, 0, none⟩) (Nat.le_refl _) _).setCell (p := ⟨w.heap.size, 1, none⟩) (Nat.le_refl _) _
  clear h1 hV
  generalize foldF nm.data.toList s.data.toList most = R at *
  go_enter Tryd.func14, Tryd.ntmps14
  cases hnb : nmB nm.data.toList with
  | false =>
    rw [hnb] at HNA HFE
    have HR : Hid (R = (160, ⟨[], []⟩)) := by rw [HFE.out]; rfl
    clear HFE HRE
    go_wp2_with (rw [HV.out])
    refine (HNA.out _).mono ?_
    rintro e w1 ⟨rfl, rfl⟩
    go_wp2_with fail
    refine bodyPost_ret (HBAD.out 160 _ (by rfl) (by rfl)) rfl ?_
    exact ⟨by rw [HR.out]; rfl, HBB.out⟩
  | true =>
    rw [hnb] at HNA HFE
    by_cases hcr : rwE s.data.toList 0 < s.size
    · have hcI : ((s.extract 0 (rwE s.data.toList 0)).size : Int) < (s.size : Int) := by omega
      have HR : Hid (R = (160, ⟨[], []⟩)) := by rw [HFE.out, if_pos (.inr hcr)]; exact rfl
      clear HFE
      generalize s.extract 0 (rwE s.data.toList 0) = rw0 at *
      go_wp2_with (rw [HV.out])
      refine (HNA.out _).mono ?_
      rintro e w1 ⟨rfl, rfl⟩
      go_wp2_with fail
      refine (HRE.out _).mono ?_
      rintro e w1 ⟨rfl, rfl⟩
      go_wp2_with fail
      refine bodyPost_ret (HBAD.out 160 _ (by rfl) (by rfl)) rfl ?_
      exact ⟨by rw [HR.out]; rfl, HBB.out⟩
    · have hcI : ¬ ((s.extract 0 (rwE s.data.toList 0)).size : Int) < (s.size : Int) := by omega
      have HFE2 : Hid _ := HFE.out
      rw [if_neg (show ¬ (true = false ∨ rwE s.data.toList 0 < s.size) by simp; omega)] at HFE2
      generalize s.extract 0 (rwE s.data.toList 0) = rw0 at *
      go_wp2_with (rw [HV.out])
      refine (HNA.out _).mono ?_
      rintro e w1 ⟨rfl, rfl⟩
      go_wp2_with fail
      refine (HRE.out _).mono ?_
      rintro e w1 ⟨rfl, rfl⟩
      clear HNA HRE hex HFE hcr hle
      by_cases hm1 : most < 1
      · have HR : Hid (R = (2, ⟨[], []⟩)) := by rw [HFE2.out, if_pos (.inl hm1)]; exact rfl
        go_wp2_with fail
        refine bodyPost_ret (HBAD.out 2 _ (by rfl) (by rfl)) rfl ?_
        exact ⟨by rw [HR.out]; rfl, HBB.out⟩
      · by_cases hm2 : 998 < most
        · have HR : Hid (R = (2, ⟨[], []⟩)) := by rw [HFE2.out, if_pos (.inr hm2)]; exact rfl
          go_wp2_with fail
          refine bodyPost_ret (HBAD.out 2 _ (by rfl) (by rfl)) rfl ?_
          exact ⟨by rw [HR.out]; rfl, HBB.out⟩
        · obtain ⟨mo, rfl⟩ : ∃ mo : Nat, most = (mo : Int) := ⟨most.toNat, by omega⟩
          have hmo : mo ≤ 998 := by omega
          have hst : StR R nm.data.toList s.data.toList mo 0 (nm.size + 1) [] := str_start (by rw [HFE2.out, if_neg (by omega)]; rfl)
          have HST : Hid (StR R nm.data.toList s.data.toList mo 0 (nm.size + 1) []) := hst
          have e1 : IntKind.i64.wrap ((nm.size : Int) + 1) = (nm.size : Int) + 1 := by rw [IntKind.wrap_i64]; omega
          have HJ : Hid (∀ j wx, 0 < j → j < s.size → Calls Tryd.prog 35 #[.string s, .int .i64 (j : Int)] wx fun e w' => e = .returned (.bool (jtB s.data.toList j)) ∧ w' = wx) := fun j wx h0 h1 => by
            obtain ⟨k, rfl⟩ : ∃ k, j = k + 1 := ⟨j - 1, by omega⟩
            exact ujoint_any s k (by omega) h1 wx
          clear HFE2 hst
          go_wp2_with fail
          go_loopw [8, 9, 10] (fun ov bv av wr => ∃ (b a : Nat) (o : List UInt8), b ≤ s.size ∧ (b < s.size ∨ s.size = 0) ∧ a ≤ nm.size + 1 ∧ ov = .string (tx o) ∧ bv = .int .i64 (b : Int) ∧ av = .int .i64 (a : Int) ∧ wr = w1 ∧ Hid (o.length ≤ 3 * b) ∧ Hid (StR R nm.data.toList s.data.toList mo b a o)) (fun _ bv _ _ => s.size - (intOf bv).toNat)
          case atStart =>
            exact ⟨0, nm.size + 1, [], Nat.zero_le _, by omega, Nat.le_refl _, rfl, rfl, rfl, rfl, Nat.zero_le _, HST.out⟩
          case round =>
            obtain ⟨b, a, o, hb, hb0, ha, rfl, rfl, rfl, rfl, Ho, HS⟩ := hrel
            have e2 : IntKind.i64.wrap ((b : Int) + 1) = (b : Int) + 1 := by rw [IntKind.wrap_i64]; omega
            go_wp2_with fail
            go_loopw [11, 12, 13] (fun fv lv iv wq => ∃ i : Nat, b < i ∧ (i ≤ s.size ∨ s.size = 0 ∧ i = 1) ∧ fv = .int .i64 (opI (fstJ s.data.toList b i)) ∧ lv = .int .i64 (opI (lstJ s.data.toList mo a b i)) ∧ iv = .int .i64 (i : Int) ∧ wq = wr) (fun _ _ iv _ => s.size + 1 - (intOf iv).toNat)
            case atStart =>
              exact ⟨b + 1, Nat.lt_succ_self _, by omega, by rw [fst_new]; rfl, by rw [lst_new]; rfl, by rw [show ((b + 1 : Nat) : Int) = (b : Int) + 1 by omega], rfl⟩
            case round =>
              obtain ⟨i, hi, hi2, rfl, rfl, rfl, rfl⟩ := hrel
              by_cases hlt : i < s.size
              · have hltI : (i : Int) < (s.size : Int) := by omega
                have e3 : IntKind.i64.wrap ((i : Int) + 1) = (i : Int) + 1 := by rw [IntKind.wrap_i64]; omega
                have e4 : IntKind.i64.wrap ((a : Int) + (i : Int)) = (a : Int) + (i : Int) := by rw [IntKind.wrap_i64]; omega
                have e5 : IntKind.i64.wrap ((a : Int) + (i : Int) - (b : Int)) = (a : Int) + (i : Int) - (b : Int) := by rw [IntKind.wrap_i64]; omega
                have hj1 := HJ.out i wr (by omega) hlt
                cases hj : jtB s.data.toList i with
                | false =>
                  rw [hj] at hj1
                  go_wp2_with fail
                  refine hj1.mono ?_
                  rintro e w2 ⟨rfl, rfl⟩
                  go_wp2_with fail
                  exact ⟨⟨i + 1, by omega, by omega, by rw [fst_no hi hj], by rw [lst_no hi hj], by rw [show ((i + 1 : Nat) : Int) = (i : Int) + 1 by omega], trivial⟩, by simp only [intOf]; omega⟩
                | true =>
                  rw [hj] at hj1
                  cases hf : fstJ s.data.toList b i with
                  | none =>
                    have hfI : opI none < 0 := by decide
                    by_cases hw : a + i - b ≤ mo
                    · have hwI : (a : Int) + (i : Int) - (b : Int) ≤ (mo : Int) := by omega
                      go_wp2_with fail
                      refine hj1.mono ?_
                      rintro e w2 ⟨rfl, rfl⟩
                      go_wp2_with fail
                      exact ⟨⟨i + 1, by omega, by omega, by rw [fst_none hi hj hf]; rfl, by rw [lst_fit hi hj hw]; rfl, by rw [show ((i + 1 : Nat) : Int) = (i : Int) + 1 by omega], trivial⟩, by simp only [intOf]; omega⟩
                    · have hwI : ¬ (a : Int) + (i : Int) - (b : Int) ≤ (mo : Int) := by omega
                      go_wp2_with fail
                      refine hj1.mono ?_
                      rintro e w2 ⟨rfl, rfl⟩
                      go_wp2_with fail
                      exact ⟨⟨i + 1, by omega, by omega, by rw [fst_none hi hj hf]; rfl, by rw [lst_far hi hw], by rw [show ((i + 1 : Nat) : Int) = (i : Int) + 1 by omega], trivial⟩, by simp only [intOf]; omega⟩
                  | some f =>
                    have hfI : ¬ opI (some f) < 0 := by show ¬ (f : Int) < 0; omega
                    by_cases hw : a + i - b ≤ mo
                    · have hwI : (a : Int) + (i : Int) - (b : Int) ≤ (mo : Int) := by omega
                      go_wp2_with fail
                      refine hj1.mono ?_
                      rintro e w2 ⟨rfl, rfl⟩
                      go_wp2_with fail
                      exact ⟨⟨i + 1, by omega, by omega, by rw [fst_some hi hf], by rw [lst_fit hi hj hw]; rfl, by rw [show ((i + 1 : Nat) : Int) = (i : Int) + 1 by omega], trivial⟩, by simp only [intOf]; omega⟩
                    · have hwI : ¬ (a : Int) + (i : Int) - (b : Int) ≤ (mo : Int) := by omega
                      go_wp2_with fail
                      refine hj1.mono ?_
                      rintro e w2 ⟨rfl, rfl⟩
                      go_wp2_with fail
                      exact ⟨⟨i + 1, by omega, by omega, by rw [fst_some hi hf], by rw [lst_far hi hw], by rw [show ((i + 1 : Nat) : Int) = (i : Int) + 1 by omega], trivial⟩, by simp only [intOf]; omega⟩
              · have hltI : ¬ (i : Int) < (s.size : Int) := by omega
                have hlen := len_list s
                have hF : fstJ s.data.toList b i = fstJ s.data.toList b s.data.toList.length := fst_fin _ _ _ (by omega)
                have hL : lstJ s.data.toList mo a b i = lstJ s.data.toList mo a b s.data.toList.length := lst_fin _ _ _ _ _ (by omega)
                have hST := str_step HS.out (by rw [len_list]; exact hb) (by rw [len_list]; exact hb0)
                rw [hF, hL]
                by_cases hw : mo < a + s.data.toList.length - b
                · have hwI : (mo : Int) < (a : Int) + (s.size : Int) - (b : Int) := by omega
                  cases hf : fstJ s.data.toList b s.data.toList.length with
                  | none =>
                    have hD : rowD s.data.toList mo a b = s.size := by rw [rowD_none hf, len_list]
                    have hfI : ¬ (0 : Int) ≤ opI none := by decide
                    rw [hD] at hST
                    clear hD
                    have e6 : IntKind.i64.wrap ((a : Int) + ((s.size : Nat) : Int)) = (a : Int) + ((s.size : Nat) : Int) := by rw [IntKind.wrap_i64]; omega
                    have e7 : IntKind.i64.wrap ((a : Int) + ((s.size : Nat) : Int) - (b : Int)) = (a : Int) + ((s.size : Nat) : Int) - (b : Int) := by rw [IntKind.wrap_i64]; omega
                    have ho : o.length ≤ 3 * b := Ho.out
                    have hs0 : (tx o).size = o.length := tx_size _
                    have hsx : (s.extract b s.size).size = s.size - b := by rw [ByteArray.size_extract]; omega
                    have hxl : tx o ++ s.extract b s.size = tx (o ++ stE s.data.toList b s.size) := cut_cat o s b s.size
                    have hsl : (stE s.data.toList b s.size).length = s.size - b := stE_len _ _ _ (by rw [len_list]; omega)
                    obtain ⟨x1, hx1⟩ : ∃ x1, x1 = o ++ stE s.data.toList b s.size := ⟨_, rfl⟩
                    have hs1 : (tx x1).size = o.length + (s.size - b) := by rw [hx1, tx_size, List.length_append, hsl]
                    have hc2 : tx x1 ++ ⟨#[13, 10]⟩ = tx (x1 ++ [13, 10]) := tx_cat x1 [13, 10]
                    have hl2 : (x1 ++ [13, 10]).length = o.length + (s.size - b) + 2 := by rw [hx1, List.length_append, List.length_append, hsl]; rfl
                    rw [← hx1] at hST hxl
                    clear hx1 hsl
                    rcases hST with ⟨g1, rfl⟩ | ⟨g1, g2, rfl⟩ | ⟨g1, g2, g3, g4⟩
                    · have g1I : (998 : Int) < (a : Int) + ((s.size : Nat) : Int) - (b : Int) := by omega
                      clear hxl hs1 hc2
                      go_wp2_with fail
                      refine bodyPost_ret (HBAD.out 160 _ (by rfl) (by rfl)) rfl ?_
                      exact ⟨rfl, HBB.out⟩
                    · have g1I : ¬ (998 : Int) < (a : Int) + ((s.size : Nat) : Int) - (b : Int) := by omega
                      clear g2
                      go_wp2_with fail
                      refine bodyPost_ret (results_ft rfl _ _ w.heap.size _ _ _ (by rfl) (by rfl) ((HF0.out.set 0 (.string nm)).set 1 (.string (tx x1))) Tryd.underlying32 rfl (by kernel_rfl)) rfl ?_
                      exact ⟨by dsimp only; rw [tx_back]; rfl, (HB0.out.setCell (p := ⟨w.heap.size, 0, none⟩) (Nat.le_refl _) _).setCell (p := ⟨w.heap.size, 1, none⟩) (Nat.le_refl _) _⟩
                    · have g1I : ¬ (998 : Int) < (a : Int) + ((s.size : Nat) : Int) - (b : Int) := by omega
                      exact absurd g3 (by rw [len_list]; omega)
                  | some f =>
                    have hfI : (0 : Int) ≤ opI (some f) := by show (0 : Int) ≤ (f : Int); omega
                    have hfg := fst_ge hf
                    cases hl : lstJ s.data.toList mo a b s.data.toList.length with
                    | none =>
                      have hD : rowD s.data.toList mo a b = f := rowD_one (by rw [len_list]; exact hb) hw hf hl
                      have hm : max (opI (some f)) (opI none) = (f : Int) := by show max (f : Int) (-1) = _; omega
                      rw [hD] at hST
                      clear hD
                      have e6 : IntKind.i64.wrap ((a : Int) + ((f : Nat) : Int)) = (a : Int) + ((f : Nat) : Int) := by rw [IntKind.wrap_i64]; omega
                      have e7 : IntKind.i64.wrap ((a : Int) + ((f : Nat) : Int) - (b : Int)) = (a : Int) + ((f : Nat) : Int) - (b : Int) := by rw [IntKind.wrap_i64]; omega
                      have ho : o.length ≤ 3 * b := Ho.out
                      have hs0 : (tx o).size = o.length := tx_size _
                      have hsx : (s.extract b f).size = f - b := by rw [ByteArray.size_extract]; omega
                      have hxl : tx o ++ s.extract b f = tx (o ++ stE s.data.toList b f) := cut_cat o s b f
                      have hsl : (stE s.data.toList b f).length = f - b := stE_len _ _ _ (by rw [len_list]; omega)
                      obtain ⟨x1, hx1⟩ : ∃ x1, x1 = o ++ stE s.data.toList b f := ⟨_, rfl⟩
                      have hs1 : (tx x1).size = o.length + (f - b) := by rw [hx1, tx_size, List.length_append, hsl]
                      have hc2 : tx x1 ++ ⟨#[13, 10]⟩ = tx (x1 ++ [13, 10]) := tx_cat x1 [13, 10]
                      have hl2 : (x1 ++ [13, 10]).length = o.length + (f - b) + 2 := by rw [hx1, List.length_append, List.length_append, hsl]; rfl
                      rw [← hx1] at hST hxl
                      clear hx1 hsl
                      rcases hST with ⟨g1, rfl⟩ | ⟨g1, g2, rfl⟩ | ⟨g1, g2, g3, g4⟩
                      · have g1I : (998 : Int) < (a : Int) + ((f : Nat) : Int) - (b : Int) := by omega
                        clear hxl hs1 hc2
                        go_wp2_with fail
                        refine bodyPost_ret (HBAD.out 160 _ (by rfl) (by rfl)) rfl ?_
                        exact ⟨rfl, HBB.out⟩
                      · have g1I : ¬ (998 : Int) < (a : Int) + ((f : Nat) : Int) - (b : Int) := by omega
                        exact absurd g2 (by rw [len_list]; omega)
                      · have g1I : ¬ (998 : Int) < (a : Int) + ((f : Nat) : Int) - (b : Int) := by omega
                        go_wp2_with fail
                        exact ⟨⟨f, 0, x1 ++ [13, 10], by omega, by omega, Nat.zero_le _, rfl, rfl, rfl, trivial, by show _ ≤ _; omega, g4⟩, by simp only [intOf]; omega⟩
                    | some g =>
                      have hD : rowD s.data.toList mo a b = max f g := rowD_two (by rw [len_list]; exact hb) hw hf hl
                      have hlg := lst_ge hl
                      obtain ⟨x, hx⟩ : ∃ x, x = max f g := ⟨_, rfl⟩
                      have hx1 : f ≤ x := by omega
                      have hx2 : x < s.size := by omega
                      have hm : max (opI (some f)) (opI (some g)) = (x : Int) := by show max (f : Int) (g : Int) = _; omega
                      rw [← hx] at hD
                      clear hx
                      rw [hD] at hST
                      clear hD
                      have e6 : IntKind.i64.wrap ((a : Int) + ((x : Nat) : Int)) = (a : Int) + ((x : Nat) : Int) := by rw [IntKind.wrap_i64]; omega
                      have e7 : IntKind.i64.wrap ((a : Int) + ((x : Nat) : Int) - (b : Int)) = (a : Int) + ((x : Nat) : Int) - (b : Int) := by rw [IntKind.wrap_i64]; omega
                      have ho : o.length ≤ 3 * b := Ho.out
                      have hs0 : (tx o).size = o.length := tx_size _
                      have hsx : (s.extract b x).size = x - b := by rw [ByteArray.size_extract]; omega
                      have hxl : tx o ++ s.extract b x = tx (o ++ stE s.data.toList b x) := cut_cat o s b x
                      have hsl : (stE s.data.toList b x).length = x - b := stE_len _ _ _ (by rw [len_list]; omega)
                      obtain ⟨x1, hx1⟩ : ∃ x1, x1 = o ++ stE s.data.toList b x := ⟨_, rfl⟩
                      have hs1 : (tx x1).size = o.length + (x - b) := by rw [hx1, tx_size, List.length_append, hsl]
                      have hc2 : tx x1 ++ ⟨#[13, 10]⟩ = tx (x1 ++ [13, 10]) := tx_cat x1 [13, 10]
                      have hl2 : (x1 ++ [13, 10]).length = o.length + (x - b) + 2 := by rw [hx1, List.length_append, List.length_append, hsl]; rfl
                      rw [← hx1] at hST hxl
                      clear hx1 hsl
                      rcases hST with ⟨g1, rfl⟩ | ⟨g1, g2, rfl⟩ | ⟨g1, g2, g3, g4⟩
                      · have g1I : (998 : Int) < (a : Int) + ((x : Nat) : Int) - (b : Int) := by omega
                        clear hxl hs1 hc2
                        go_wp2_with fail
                        refine bodyPost_ret (HBAD.out 160 _ (by rfl) (by rfl)) rfl ?_
                        exact ⟨rfl, HBB.out⟩
                      · have g1I : ¬ (998 : Int) < (a : Int) + ((x : Nat) : Int) - (b : Int) := by omega
                        exact absurd g2 (by rw [len_list]; omega)
                      · have g1I : ¬ (998 : Int) < (a : Int) + ((x : Nat) : Int) - (b : Int) := by omega
                        go_wp2_with fail
                        exact ⟨⟨x, 0, x1 ++ [13, 10], by omega, by omega, Nat.zero_le _, rfl, rfl, rfl, trivial, by show _ ≤ _; omega, g4⟩, by simp only [intOf]; omega⟩
                · have hwI : ¬ (mo : Int) < (a : Int) + (s.size : Int) - (b : Int) := by omega
                  have hD : rowD s.data.toList mo a b = s.size := by rw [rowD_near (by rw [len_list]; exact hb) hw, len_list]
                  rw [hD] at hST
                  clear hD
                  have e6 : IntKind.i64.wrap ((a : Int) + ((s.size : Nat) : Int)) = (a : Int) + ((s.size : Nat) : Int) := by rw [IntKind.wrap_i64]; omega
                  have e7 : IntKind.i64.wrap ((a : Int) + ((s.size : Nat) : Int) - (b : Int)) = (a : Int) + ((s.size : Nat) : Int) - (b : Int) := by rw [IntKind.wrap_i64]; omega
                  have ho : o.length ≤ 3 * b := Ho.out
                  have hs0 : (tx o).size = o.length := tx_size _
                  have hsx : (s.extract b s.size).size = s.size - b := by rw [ByteArray.size_extract]; omega
                  have hxl : tx o ++ s.extract b s.size = tx (o ++ stE s.data.toList b s.size) := cut_cat o s b s.size
                  have hsl : (stE s.data.toList b s.size).length = s.size - b := stE_len _ _ _ (by rw [len_list]; omega)
                  obtain ⟨x1, hx1⟩ : ∃ x1, x1 = o ++ stE s.data.toList b s.size := ⟨_, rfl⟩
                  have hs1 : (tx x1).size = o.length + (s.size - b) := by rw [hx1, tx_size, List.length_append, hsl]
                  have hc2 : tx x1 ++ ⟨#[13, 10]⟩ = tx (x1 ++ [13, 10]) := tx_cat x1 [13, 10]
                  have hl2 : (x1 ++ [13, 10]).length = o.length + (s.size - b) + 2 := by rw [hx1, List.length_append, List.length_append, hsl]; rfl
                  rw [← hx1] at hST hxl
                  clear hx1 hsl
                  rcases hST with ⟨g1, rfl⟩ | ⟨g1, g2, rfl⟩ | ⟨g1, g2, g3, g4⟩
                  · have g1I : (998 : Int) < (a : Int) + ((s.size : Nat) : Int) - (b : Int) := by omega
                    exact absurd g1 (by omega)
                  · have g1I : ¬ (998 : Int) < (a : Int) + ((s.size : Nat) : Int) - (b : Int) := by omega
                    clear g2
                    go_wp2_with fail
                    refine bodyPost_ret (results_ft rfl _ _ w.heap.size _ _ _ (by rfl) (by rfl) ((HF0.out.set 0 (.string nm)).set 1 (.string (tx x1))) Tryd.underlying32 rfl (by kernel_rfl)) rfl ?_
                    exact ⟨by dsimp only; rw [tx_back]; rfl, (HB0.out.setCell (p := ⟨w.heap.size, 0, none⟩) (Nat.le_refl _) _).setCell (p := ⟨w.heap.size, 1, none⟩) (Nat.le_refl _) _⟩
                  · have g1I : ¬ (998 : Int) < (a : Int) + ((s.size : Nat) : Int) - (b : Int) := by omega
                    exact absurd g3 (by rw [len_list]; omega)
end Go.Proofs.YtpepjiocjcjeeabDoor
