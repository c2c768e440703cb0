/-
  P5.7: UTF-8 there and back: decoded and encoded again, encoded and decoded again.
-/
import Derived.Test.YtedgimkffkflbaaDoorOpen5
import Derived.Test.YtedgimkffkflbaaDoorREnc
import Derived.Test.YtedgimkffkflbaaDoorWak
import Derived.Test.YtedgimkffkflbaaDoorLate5
import Derived.Test.YtedgimkffkflbaaDoorCard5
import Derived.ProofKit
import Derived.ChangeMaps5
import Derived.OpenShut
import Derived.ShutString
import Derived.ChangeOld
import Derived.SizedLaws
namespace Go.Proofs.YtedgimkffkflbaaDoor.runesBack
open Go.ChangeShapes Go.WideShapes Go.ChangeAt Go.RowKit
open Go.ChangeMaps (open_string shut_string)

theorem dec_ok {s : ByteArray} (h : badU s.data.toList = s.size) : decR s.data.toList = decL s.data.toList ∧ decE s.data.toList = #[.int .i64 0, .int .i64 0] ∧ encT (decL s.data.toList) = s ∧ encE (decL s.data.toList) = #[.int .i64 0, .int .i64 0] := by
  have hn : ¬ badU s.data.toList < s.data.toList.length := by rw [len_list]; omega
  have hr := (noR_all (decL s.data.toList)).2 (decL_isR _)
  have hr' : ¬ noR (decL s.data.toList) < (decL s.data.toList).length := by omega
  refine ⟨if_neg hn, if_neg hn, ?_, if_neg hr'⟩
  unfold encT
  rw [if_neg hr', encL_decL, List.take_of_length_le (by rw [len_list]; omega)]
theorem dec_no {s : ByteArray} (h : badU s.data.toList < s.size) : decR s.data.toList = [] ∧ decE s.data.toList = #[.int .i64 50, .int .i64 (badU s.data.toList)] := by
  have hn : badU s.data.toList < s.data.toList.length := by rw [len_list]; omega
  exact ⟨if_pos hn, if_pos hn⟩
theorem enc_no {l : List Int} (h : noR l < l.length) : encT l = ⟨#[]⟩ ∧ encE l = #[.int .i64 50, .int .i64 (noR l)] := ⟨if_pos h, if_pos h⟩
theorem enc_ok {l : List Int} (h : noR l = l.length) : encT l = ⟨(encL l).toArray⟩ ∧ encE l = #[.int .i64 0, .int .i64 0] ∧ decR (encT l).data.toList = l ∧ decE (encT l).data.toList = #[.int .i64 0, .int .i64 0] := by
  have hr' : ¬ noR l < l.length := by omega
  have e : encT l = ⟨(encL l).toArray⟩ := if_neg hr'
  have := decL_encL l ((noR_all l).1 h)
  refine ⟨e, if_neg hr', ?_, ?_⟩
  · rw [e]
    show decR (encL l) = l
    unfold decR
    rw [if_neg (by omega), this.1]
  · rw [e]
    show decE (encL l) = _
    unfold decE
    rw [if_neg (by omega)]
theorem isR_32 {r : Int} (h : isR r) : -2147483648 ≤ r ∧ r ≤ 2147483647 := by obtain ⟨a, b, _⟩ := h; omega

set_option maxHeartbeats 4000000 in
set_option maxRecDepth 100000 in
theorem walk (s : ByteArray) (hs : s.size ≤ 1048576) {w : World} (a : Option Addr) (l : List Int) (cap : Nat) (hr : Nts .i32 a l w) (hl : l.length ≤ 1048576) (h32 : ∀ x ∈ l, -2147483648 ≤ x ∧ x ≤ 2147483647) (ht : Tb w) :
    Calls Tryd.prog 8 #[.string s, .slice a l.length cap] w fun e w' => e = .returned (.bool true) ∧ Below w.heap.size w w' := by
  have HL : Hid (Nts .i32 a l w) := hr
  have HT : Hid (Tb w) := ht
  have HX : Hid (∀ x ∈ l, -2147483648 ≤ x ∧ x ≤ 2147483647) := h32
  have hD := dec_any s w ht.fst (by omega)
  have hbl := badU_le s.data.toList
  have hlen := len_list s
  have hds := decL_length s.data.toList
  have hdr := decL_isR s.data.toList
  have hEN := enc_any a l cap
  clear hr ht h32
  go_enter Tryd.func8, Tryd.ntmps8
  go_wp2_with fail
  by_cases hA : badU s.data.toList = s.size
  case' pos =>
    obtain ⟨q1, q2, q3, q4⟩ := dec_ok hA
    rw [q1, q2] at hD
    refine hD.mono ?_
    rintro e w1 ⟨⟨v1, rfl, o1⟩, b1⟩
    obtain ⟨a1, k1, rfl, n1, -⟩ := own_nts o1
    have B1 : Below w1.heap.size w1 (w1.alloc (.cells #[.int .i64 0, .int .i64 0] 33)) := (Below.refl _ w1).alloc (Nat.le_refl _) _
    have HB2 : Hid (Below w.heap.size w (w1.alloc (.cells #[.int .i64 0, .int .i64 0] 33))) := b1.trans (B1.mono b1.size)
    have HE := enc_any a1 (decL s.data.toList) k1 (w1.alloc (.cells #[.int .i64 0, .int .i64 0] 33)) (n1.below B1) (by omega) (fun x hx => isR_32 (hdr x hx))
    rw [q3, q4] at HE
    have HU : Hid (∀ wx, Below w.heap.size w wx → Calls Tryd.prog 10 #[.string s] wx fun e w' => e = .returned (.int .i64 s.size) ∧ Below wx.heap.size wx w') := fun wx hx => by
      have := ubs_any s wx ((HT.out.below hx (Nat.le_refl _)).fst) (by omega)
      rw [hA] at this
      exact this
    clear hD n1 o1 B1 q1 q2 q3 q4 b1 hds hdr hbl hlen hA
    go_wp2_with fail
    refine HE.mono ?_
    rintro e w2 ⟨rfl, b2⟩
    have HB3 : Hid (Below w.heap.size w (w2.alloc (.cells #[.int .i64 0, .int .i64 0] 33))) := (HB2.out.trans (b2.mono HB2.out.size)).alloc (HB2.out.trans (b2.mono HB2.out.size)).size _
    clear HE b2 HB2
    go_wp2_with fail
    refine (HU.out _ HB3.out).mono ?_
    rintro e wk ⟨rfl, b3⟩
    have HBK : Hid (Below w.heap.size w wk) := HB3.out.trans (b3.mono HB3.out.size)
    clear b3 HB3 HU
    go_wp2_with fail
  case' neg =>
    obtain ⟨q1, q2⟩ := dec_no (s := s) (by omega)
    rw [q1, q2] at hD
    refine hD.mono ?_
    rintro e w1 ⟨⟨v1, rfl, o1⟩, b1⟩
    obtain ⟨a1, k1, rfl, n1, -⟩ := own_nts o1
    have B1 : Below w1.heap.size w1 (w1.alloc (.cells #[.int .i64 50, .int .i64 (badU s.data.toList)] 33)) := (Below.refl _ w1).alloc (Nat.le_refl _) _
    have HB2 : Hid (Below w.heap.size w (w1.alloc (.cells #[.int .i64 50, .int .i64 (badU s.data.toList)] 33))) := b1.trans (B1.mono b1.size)
    have HU : Hid (∀ wx, Below w.heap.size w wx → Calls Tryd.prog 10 #[.string s] wx fun e w' => e = .returned (.int .i64 (badU s.data.toList)) ∧ Below wx.heap.size wx w') := fun wx hx => ubs_any s wx ((HT.out.below hx (Nat.le_refl _)).fst) (by omega)
    have hbx : badU s.data.toList < s.size := by omega
    generalize badU s.data.toList = bd at *
    clear hD n1 o1 B1 q1 q2 b1 hds hdr hbl hlen hA
    go_wp2_with fail
    have hcell : (w1.alloc (.cells #[.int .i64 50, .int .i64 bd] 33)).cell? ⟨w1.heap.size, 1, none⟩ = some (.int .i64 bd) := by simp
    have hlt1 : w1.heap.size < (w1.alloc (.cells #[.int .i64 50, .int .i64 bd] 33)).heap.size := by simp
    generalize w1.heap.size = g1 at *
    generalize w1.alloc (.cells #[.int .i64 50, .int .i64 bd] 33) = w2 at *
    have HUD := HU.out w2.drew (HB2.out.trans ((Below.refl _ w2).drew))
    clear HU
    refine wp_region_late (fun wx => wx.cell? ⟨g1, 1, none⟩ = some (.int .i64 bd)) 17 (by kernel_rfl) hcell (fun hHeld => ?_)
    refine wpAnyE_tk (i := 0) (d := some 43) (v := ?_) rfl (by kernel_rfl) (by kernel_rfl) (by kernel_rfl) rfl (fun _ _ _ h => h) rfl rfl ?hy (by assumption) ?_
    case hy => (intro w' hSw; (try dsimp only at hSw); go_simp <;> (try with_reducible rfl))
    simp only [Act.put, List.setIfInBounds_toArray, List.set_cons_zero, List.set_cons_succ]
    refine wpAnyE_tk (i := 2) (d := some 45) (v := ?_) rfl (by kernel_rfl) (by kernel_rfl) (by kernel_rfl) rfl (fun _ _ _ h => h) rfl rfl ?hy (by assumption) ?_
    case hy => (intro w' hSw; (try dsimp only at hSw); go_simp <;> (try with_reducible rfl))
    simp only [Act.put, List.setIfInBounds_toArray, List.set_cons_zero, List.set_cons_succ]
    refine wpAnyE_tk (i := 3) (d := some 46) (v := .int .i64 bd) rfl (by kernel_rfl) (by kernel_rfl) (by kernel_rfl) rfl (fun _ _ _ h => h) rfl rfl ?hy (by assumption) ?_
    case hy => (intro w' hSw; (try dsimp only at hSw); go_simp <;> (try with_reducible rfl))
    simp only [Act.put, List.setIfInBounds_toArray, List.set_cons_zero, List.set_cons_succ]
    refine wpAnyE_on (i := 1) (by kernel_rfl) rfl rfl ?_
    go_simp
    refine HUD.mono ?_
    rintro e wk ⟨rfl, b3⟩
    have hcell3 := (b3.cell (p := ⟨g1, 1, none⟩) hlt1).trans hcell
    have HBK : Hid (Below w.heap.size w wk) := (HB2.out.drew.trans (b3.mono HB2.out.size))
    clear b3 hHeld HUD hcell
    refine ⟨hcell3, ?_⟩
    refine wpAnyE_tk (i := 4) (d := some 47) (v := ?_) rfl (by kernel_rfl) (by kernel_rfl) (by kernel_rfl) rfl (fun _ _ _ h => h) rfl rfl ?hy (by assumption) ?_
    case hy => (intro w' hSw; (try dsimp only at hSw); go_simp <;> (try with_reducible rfl))
    simp only [Act.put, List.setIfInBounds_toArray, List.set_cons_zero, List.set_cons_succ]
    refine wpAnyE_tk (i := 5) (d := some 48) (v := ?_) rfl (by kernel_rfl) (by kernel_rfl) (by kernel_rfl) rfl (fun _ _ _ h => h) rfl rfl ?hy (by assumption) ?_
    case hy => (intro w' hSw; (try dsimp only at hSw); go_simp <;> (try with_reducible rfl))
    simp only [Act.put, List.setIfInBounds_toArray, List.set_cons_zero, List.set_cons_succ]
    refine wpAnyE_tk (i := 6) (d := some 49) (v := ?_) rfl (by kernel_rfl) (by kernel_rfl) (by kernel_rfl) rfl (fun _ _ _ h => h) rfl rfl ?hy (by assumption) ?_
    case hy => (intro w' hSw; (try dsimp only at hSw); go_simp <;> (try with_reducible rfl))
    simp only [Act.put, List.setIfInBounds_toArray, List.set_cons_zero, List.set_cons_succ]
    refine wpAnyE_tk (i := 7) (d := some 50) (v := .int .i64 bd) rfl (by kernel_rfl) (by kernel_rfl) (by kernel_rfl) rfl (fun _ _ _ h => h) rfl rfl ?hy (by assumption) ?_
    case hy => (intro w' hSw; (try dsimp only at hSw); go_simp <;> (try with_reducible rfl))
    simp only [Act.put, List.setIfInBounds_toArray, List.set_cons_zero, List.set_cons_succ]
    refine wpAnyE_tk (i := 8) (d := some 51) (v := ?_) rfl (by kernel_rfl) (by kernel_rfl) (by kernel_rfl) rfl (fun _ _ _ h => h) rfl rfl ?hy (by assumption) ?_
    case hy => (intro w' hSw; (try dsimp only at hSw); go_simp <;> (try with_reducible rfl))
    simp only [Act.put, List.setIfInBounds_toArray, List.set_cons_zero, List.set_cons_succ]
    refine wpAnyE_tk (i := 9) (d := some 52) (v := ?_) rfl (by kernel_rfl) (by kernel_rfl) (by kernel_rfl) rfl (fun _ _ _ h => h) rfl rfl ?hy (by assumption) ?_
    case hy => (intro w' hSw; (try dsimp only at hSw); go_simp <;> (try with_reducible rfl))
    simp only [Act.put, List.setIfInBounds_toArray, List.set_cons_zero, List.set_cons_succ]
    refine wpAnyE_tk (i := 10) (d := some 53) (v := .bool false) rfl (by kernel_rfl) (by kernel_rfl) (by kernel_rfl) rfl (fun _ _ _ h => h) rfl rfl ?hy (by assumption) ?_
    case hy => (intro w' hSw; (try dsimp only at hSw); go_simp <;> (try with_reducible rfl))
    simp only [Act.put, List.setIfInBounds_toArray, List.set_cons_zero, List.set_cons_succ]
    refine wpAnyE_tk (i := 11) (d := some 54) (v := ?_) rfl (by kernel_rfl) (by kernel_rfl) (by kernel_rfl) rfl (fun _ _ _ h => h) rfl rfl ?hy (by assumption) ?_
    case hy => (intro w' hSw; (try dsimp only at hSw); go_simp <;> (try with_reducible rfl))
    simp only [Act.put, List.setIfInBounds_toArray, List.set_cons_zero, List.set_cons_succ]
    refine wpAnyE_tk (i := 12) (d := some 55) (v := ?_) rfl (by kernel_rfl) (by kernel_rfl) (by kernel_rfl) rfl (fun _ _ _ h => h) rfl rfl ?hy (by assumption) ?_
    case hy => (intro w' hSw; (try dsimp only at hSw); go_simp <;> (try with_reducible rfl))
    simp only [Act.put, List.setIfInBounds_toArray, List.set_cons_zero, List.set_cons_succ]
    refine wpAnyE_tk (i := 13) (d := some 56) (v := ?_) rfl (by kernel_rfl) (by kernel_rfl) (by kernel_rfl) rfl (fun _ _ _ h => h) rfl rfl ?hy (by assumption) ?_
    case hy => (intro w' hSw; (try dsimp only at hSw); go_simp <;> (try with_reducible rfl))
    simp only [Act.put, List.setIfInBounds_toArray, List.set_cons_zero, List.set_cons_succ]
    refine wpAnyE_tk (i := 14) (d := some 57) (v := ?_) rfl (by kernel_rfl) (by kernel_rfl) (by kernel_rfl) rfl (fun _ _ _ h => h) rfl rfl ?hy (by assumption) ?_
    case hy => (intro w' hSw; (try dsimp only at hSw); go_simp <;> (try with_reducible rfl))
    simp only [Act.put, List.setIfInBounds_toArray, List.set_cons_zero, List.set_cons_succ]
    refine wpAnyE_tk (i := 15) (d := some 58) (v := ?_) rfl (by kernel_rfl) (by kernel_rfl) (by kernel_rfl) rfl (fun _ _ _ h => h) rfl rfl ?hy (by assumption) ?_
    case hy => (intro w' hSw; (try dsimp only at hSw); go_simp <;> (try with_reducible rfl))
    simp only [Act.put, List.setIfInBounds_toArray, List.set_cons_zero, List.set_cons_succ]
    refine wpAnyE_tk (i := 16) (d := some 59) (v := ?_) rfl (by kernel_rfl) (by kernel_rfl) (by kernel_rfl) rfl (fun _ _ _ h => h) rfl rfl ?hy (by assumption) ?_
    case hy => (intro w' hSw; (try dsimp only at hSw); go_simp <;> (try with_reducible rfl))
    simp only [Act.put, List.setIfInBounds_toArray, List.set_cons_zero, List.set_cons_succ]
    refine wpAnyE_done (by kernel_rfl) ?_ _
    clear hcell3
    go_wp2_with fail
  all_goals
    have hN := noR_le l
    have HEN := hEN wk (HL.out.below HBK.out) (by omega) HX.out
    have HDE : Hid (∀ wx, Below w.heap.size w wx → Calls Tryd.prog 18 #[.slice a l.length cap] wx fun e w' => e = .returned (.tuple #[.string (encT l), .agg (encE l)]) ∧ Below wx.heap.size wx w') := fun wx hx => denc_any a l cap wx (HL.out.below hx) (by omega) HX.out
    have HWK : Hid (∀ wx, Below w.heap.size w wx → Calls Tryd.prog 9 #[] wx fun e w' => e = .returned (.bool true) ∧ Below wx.heap.size wx w') := fun wx hx => wakes_any wx (HT.out.below hx (Nat.le_refl _))
    by_cases hB : noR l = l.length
    · obtain ⟨q1, q2, q3, q4⟩ := enc_ok hB
      have hts : (encT l).size ≤ 4194304 := by
        rw [q1]
        show (encL l).toArray.size ≤ _
        rw [List.size_toArray]
        have := encL_length l
        omega
      have HDC : Hid (∀ wx, Below w.heap.size w wx → Calls Tryd.prog 17 #[.string (encT l)] wx fun e w' => (∃ v, e = .returned (.tuple #[v, .agg #[.int .i64 0, .int .i64 0]]) ∧ w'.ownsRow wx.heap.size 21 1 v l.length (cellsN .i32 l)) ∧ Below wx.heap.size wx w') := fun wx hx => by
        have := dec_any (encT l) wx ((HT.out.below hx (Nat.le_refl _)).fst) (by omega)
        rw [q3, q4] at this
        exact this
      rw [q2] at HEN HDE
      clear q1 q2 q3 q4 hts hEN
      generalize encT l = T at *
      refine HEN.mono ?_
      rintro e w5 ⟨rfl, b5⟩
      have B5 : Below w5.heap.size w5 (w5.alloc (.cells #[.int .i64 0, .int .i64 0] 33)) := (Below.refl _ w5).alloc (Nat.le_refl _) _
      have HB5 : Hid (Below w.heap.size w (w5.alloc (.cells #[.int .i64 0, .int .i64 0] 33))) := (HBK.out.trans (b5.mono HBK.out.size)).trans (B5.mono (HBK.out.trans (b5.mono HBK.out.size)).size)
      have HE5 : Hid (Lies (w5.alloc (.cells #[.int .i64 0, .int .i64 0] 33)) w5.heap.size #[.int .i64 0, .int .i64 0] 33) := Lies.new w5 _ _
      clear b5 B5 HEN HBK
      go_wp2_with fail
      generalize w5.alloc (.cells #[.int .i64 0, .int .i64 0] 33) = w6 at *
      generalize w5.heap.size = g5 at *
      refine (HDE.out _ HB5.out).mono ?_
      rintro e w7 ⟨rfl, b7⟩
      have B7 : Below w7.heap.size w7 (w7.alloc (.cells #[.int .i64 0, .int .i64 0] 33)) := (Below.refl _ w7).alloc (Nat.le_refl _) _
      have HB7 : Hid (Below w.heap.size w (w7.alloc (.cells #[.int .i64 0, .int .i64 0] 33))) := (HB5.out.trans (b7.mono HB5.out.size)).trans (B7.mono (HB5.out.trans (b7.mono HB5.out.size)).size)
      have he7 : Lies (w7.alloc (.cells #[.int .i64 0, .int .i64 0] 33)) g5 #[.int .i64 0, .int .i64 0] 33 := (HE5.out.below b7 HE5.out.lt).alloc _
      have c0 := he7.cell 0
      have c1 := he7.cell 1
      have z0 := (Lies.new w7 #[.int .i64 0, .int .i64 0] 33).cell 0
      have z1 := (Lies.new w7 #[.int .i64 0, .int .i64 0] 33).cell 1
      simp only [List.getElem?_toArray, List.getElem?_cons_zero, List.getElem?_cons_succ] at c0 c1 z0 z1
      clear b7 B7 HDE HE5 he7 HB5
      go_wp2_with fail
      refine (HDC.out _ HB7.out).mono ?_
      rintro e w8 ⟨⟨v8, rfl, o8⟩, b8⟩
      obtain ⟨a8, k8, rfl, n8, -⟩ := own_nts o8
      have B8 : Below w8.heap.size w8 (w8.alloc (.cells #[.int .i64 0, .int .i64 0] 33)) := (Below.refl _ w8).alloc (Nat.le_refl _) _
      have HB8 : Hid (Below w.heap.size w (w8.alloc (.cells #[.int .i64 0, .int .i64 0] 33))) := (HB7.out.trans (b8.mono HB7.out.size)).trans (B8.mono (HB7.out.trans (b8.mono HB7.out.size)).size)
      have HEQ := eqr_any a8 a l l k8 cap (w8.alloc (.cells #[.int .i64 0, .int .i64 0] 33)) (n8.below B8) (HL.out.below HB8.out) (by omega)
      rw [decide_eq_true rfl] at HEQ
      clear HDC o8 b8 n8 B8 HB7 c0 c1 z0 z1 hB
      go_wp2_with fail
      refine HEQ.mono ?_
      rintro e w9 ⟨rfl, q, rfl⟩
      have HB9 : Hid (Below w.heap.size w ((w8.alloc (.cells #[.int .i64 0, .int .i64 0] 33)).drewN q)) := ⟨HB8.out.os, HB8.out.tape, HB8.out.output, HB8.out.size, HB8.out.block⟩
      clear HEQ HB8
      go_wp2_with fail
      refine (HWK.out _ HB9.out).mono ?_
      rintro e w10 ⟨rfl, b10⟩
      have HB10 : Hid (Below w.heap.size w w10) := HB9.out.trans (b10.mono HB9.out.size)
      clear b10 HB9 HWK
      go_wp2
      go_ret
      exact ⟨rfl, HB10.out⟩
    · obtain ⟨q1, q2⟩ := enc_no (l := l) (by omega)
      rw [q1, q2] at HEN HDE
      clear q1 q2 hEN
      have hbx : noR l < l.length := by omega
      generalize noR l = bx at *
      refine HEN.mono ?_
      rintro e w5 ⟨rfl, b5⟩
      have B5 : Below w5.heap.size w5 (w5.alloc (.cells #[.int .i64 50, .int .i64 bx] 33)) := (Below.refl _ w5).alloc (Nat.le_refl _) _
      have HB5 : Hid (Below w.heap.size w (w5.alloc (.cells #[.int .i64 50, .int .i64 bx] 33))) := (HBK.out.trans (b5.mono HBK.out.size)).trans (B5.mono (HBK.out.trans (b5.mono HBK.out.size)).size)
      have HE5 : Hid (Lies (w5.alloc (.cells #[.int .i64 50, .int .i64 bx] 33)) w5.heap.size #[.int .i64 50, .int .i64 bx] 33) := Lies.new w5 _ _
      clear b5 B5 HEN HBK
      go_wp2_with fail
      generalize w5.alloc (.cells #[.int .i64 50, .int .i64 bx] 33) = w6 at *
      generalize w5.heap.size = g5 at *
      refine (HDE.out _ HB5.out).mono ?_
      rintro e w7 ⟨rfl, b7⟩
      have B7 : Below w7.heap.size w7 (w7.alloc (.cells #[.int .i64 50, .int .i64 bx] 33)) := (Below.refl _ w7).alloc (Nat.le_refl _) _
      have HB7 : Hid (Below w.heap.size w (w7.alloc (.cells #[.int .i64 50, .int .i64 bx] 33))) := (HB5.out.trans (b7.mono HB5.out.size)).trans (B7.mono (HB5.out.trans (b7.mono HB5.out.size)).size)
      have he7 : Lies (w7.alloc (.cells #[.int .i64 50, .int .i64 bx] 33)) g5 #[.int .i64 50, .int .i64 bx] 33 := (HE5.out.below b7 HE5.out.lt).alloc _
      have c0 := he7.cell 0
      have c1 := he7.cell 1
      have z0 := (Lies.new w7 #[.int .i64 50, .int .i64 bx] 33).cell 0
      have z1 := (Lies.new w7 #[.int .i64 50, .int .i64 bx] 33).cell 1
      simp only [List.getElem?_toArray, List.getElem?_cons_zero, List.getElem?_cons_succ] at c0 c1 z0 z1
      clear b7 B7 HDE HE5 he7 HB5
      go_wp2_with fail
      refine (HWK.out _ HB7.out).mono ?_
      rintro e w10 ⟨rfl, b10⟩
      have HB10 : Hid (Below w.heap.size w w10) := HB7.out.trans (b10.mono HB7.out.size)
      clear b10 HB7 HWK c0 c1 z0 z1
      go_wp2
      go_ret
      exact ⟨rfl, HB10.out⟩

set_option maxRecDepth 100000 in
theorem contract (H : Type) (enc : TypeId × Value → H) (W : World) (base : Nat) (args : Array Value) (ds gs : List (DataW H)) (before : List MemPlace)
    (hval : ∀ (j : Nat) t v, Tryd.f8.params[j]? = some t → args[j]? = some v → Value.okWide Tryd.prog W .any base t v)
    (hW : DataW.Whole enc Tryd.prog Tryd.f8.params.toList Rows.runesBackSpec.vars false W args.toList ds gs before)
    (hsz : (DataW.weightsEach Tryd.prog (Tryd.f8.params.toList ++ (Rows.OpenSpec.upto Rows.runesBackSpec).bare.plain.varTypes Tryd.prog) (ds ++ gs)).all (· ≤ reachBytes) = true)
    (hk : Rows.uptoSmall H (ds ++ gs) = true) (hL : laidMetH Tryd.prog Rows.runesBackUptoRow.laid W) (hsh : W.ShapedOpen Tryd.prog) :
    Calls Tryd.prog 8 args W fun e W' => ∃ v, e = .returned v ∧ Rows.runesBackSpec.post enc Tryd.prog Tryd.f8 false true false false W args v W' := by
  have hW' := hW
  obtain ⟨p, q, hA0, hV, rfl, hfz, hnd⟩ := hW
  have hA : DataW.TrodAll enc Tryd.prog W 0 (fun _ => true) true Tryd.f8.params.toList args.toList ds p := hA0
  rw [Tryd.params8] at hA hval hsz
  obtain ⟨v0, vs0, d0, ds0, p0, q0, hargs, rfl, rfl, h0, r0⟩ := trodAll_cons hA
  obtain ⟨v1, vs1, d1, ds1, p1, q1, rfl, rfl, rfl, h1, r1⟩ := trodAll_cons r0
  obtain ⟨rfl, rfl, rfl⟩ := trodAll_nil r1
  obtain rfl : args = #[v0, v1] := by cases args; simp_all
  obtain ⟨rfl, rfl⟩ := trodVars_none hV
  obtain ⟨a0, rfl, rfl, rfl, w0⟩ := open_string Tryd.underlying9 (hval 0 9 v0 rfl rfl) h0
  have k1 := h1
  have lt1 : ∀ x ∈ p1, x.block < W.heap.size := by obtain ⟨m, hm⟩ := k1; exact DataW.trod_lt m _ _ _ hm
  obtain ⟨a1, len1, cap1, rfl⟩ := okWide_slice Tryd.underlying28 (hval 1 28 v1 rfl rfl)
  obtain ⟨l1, e1, row1, bx1, bd1⟩ := open_runes h1
  clear hA0
  have s0 : a0.size ≤ 1048576 := bulk_string hk (by simp)
  have s1 : l1.length ≤ 1048576 := by
    rcases bd1 with ⟨el, sp, rfl, hl⟩ | ⟨rfl, hl⟩
    · have := bulk_slice hk (el := el) (sp := sp) (by simp)
      omega
    · omega
  subst e1
  refine (walk a0 s0 a1 l1 cap1 row1 s1 bx1 (tabs_of hL hsh)).mono fun e W' ⟨he, bel⟩ => ?_
  subst he
  exact ⟨_, rfl, _, _, _, [], _, [], hW', trodAll_mk1 (shut_bool Tryd.underlying4 _), trodAll_cons_mk (shut_string Tryd.underlying9 w0) (trodAll_cons_mk (Below.trod laidOut (by kernel_rfl) (of_decide_eq_true (by kernel_rfl)) k1 bel lt1) trodAll_mk0), rfl, bel.frame _, fun h => by cases h⟩

set_option maxRecDepth 100000 in
theorem laid_met (os : Os) : laidMet Tryd.prog Rows.runesBackUptoRow.laid ((laidWorld os).forCall (fun _ _ => 0) ⟨#[], #[.string ByteArray.empty, .slice none 0 0], []⟩).memory :=
  laidMet_of_run' 8 (by kernel_rfl) (by kernel_rfl)
set_option maxRecDepth 100000 in
theorem reads (os : Os) {H : Type} (enc : TypeId × Value → H) : ∃ places, DataW.whole enc Tryd.prog ((laidWorld os).forCall (fun _ _ => 0) ⟨#[], #[.string ByteArray.empty, .slice none 0 0], []⟩).memory Tryd.f8.params.toList Rows.runesBackSpec.vars false #[Value.string ByteArray.empty, Value.slice none 0 0].toList 8 = some ([.lit (.string []), .nil], [], places) :=
  ⟨[], by kernel_rfl⟩

set_option maxRecDepth 100000 in
theorem lifted (os : Os) (started : os.Started) (H : Type) (enc : TypeId × Value → H) (F : Stop.Interp) :
    ReturnsInHanded {} Tryd.checked os 8 .any ((Rows.OpenSpec.upto Rows.runesBackSpec).preRow enc Tryd.prog Tryd.f8 Rows.runesBackUptoRow.domain false Rows.runesBackUptoRow.laid) (((Rows.OpenSpec.upto Rows.runesBackSpec).at F).post enc Tryd.prog Tryd.f8 false true false false) := by
  obtain ⟨places, hx⟩ := reads os enc
  refine returnsInHanded_of_row (C := Tryd.checked) (s := Rows.OpenSpec.upto Rows.runesBackSpec) own started (by kernel_rfl) Tryd.func8
    (witness_row_at (enc := enc) (C := Tryd.checked) false (laidWorld os) #[.string ByteArray.empty, .slice none 0 0] rfl (by kernel_rfl) (by kernel_rfl) (by kernel_rfl)
      (OpenSpec.preRow_of_cond 8 hx (by kernel_rfl) (fun k hk => by cases hk; kernel_rfl) (by kernel_rfl) (laid_met os))) ?_
  intro W base args ds gs before hval hW _ hcond hsz hL hsh _
  exact contract H enc W base args ds gs before hval hW hsz (hcond _ rfl) hL hsh

theorem said : Rows.RunesBackUptoSaid :=
  OpenClaim.holds_of_cond 8 Tryd.f8 rfl rfl rfl rfl rfl rfl rfl ⟨rfl, rfl, rfl, rfl, rfl⟩ rfl rfl rfl rfl rfl (by kernel_rfl) Tryd.func8 (by kernel_rfl)
    (of_decide_eq_true (by kernel_rfl)) (by unfold Func.isWrapper; first | (rw [if_pos (by decide +kernel)]; kernel_rfl) | (rw [if_neg (by decide +kernel)]; exact ⟨rfl, rfl⟩))
    (fun os started H enc _ F => by rw [OpenClaim.pre_eq_preRow]; exact lifted os started H enc F)

/-- No parameter wants a stand-in; the program's own looks are off. -/
theorem plain (f : FuncId) (fn : Func) (hf : Tryd.pinned.checked.prog.funcNamed "posthorn/posthornlaw05.RunesBack" = some f) (hfn : Tryd.pinned.checked.prog.funcs[f]? = some fn) :
    false = Tryd.pinned.checked.prog.looks [] ∧ ∀ (j : Nat) t, fn.params[j]? = some t → Tryd.pinned.checked.prog.wantsStandIn t = false := by
  obtain rfl : f = 8 := Option.some.inj ((show Tryd.prog.funcNamed "posthorn/posthornlaw05.RunesBack" = some 8 by kernel_rfl).symm.trans hf) |>.symm
  obtain rfl : fn = Tryd.f8 := (Option.some.inj (Tryd.func8.symm.trans hfn)).symm
  refine ⟨by kernel_rfl, fun j t ht => ?_⟩
  rw [Tryd.params8] at ht
  have hm : t ∈ [9, 28] := by simpa using Array.mem_of_getElem? ht
  have hall : ([9, 28].all fun u => !Tryd.prog.wantsStandIn u) = true := by kernel_rfl
  exact (show Tryd.prog.wantsStandIn t = false by simpa using List.all_eq_true.1 hall t hm)

/-- The card. -/
theorem card : Rows.RunesBackUptoCardSaid :=
  Claim7.holds_tied_plain_at .later [] _ _ _ _ said (fun _ h => by cases h) (by kernel_rfl) (fun _ h => by cases h) runesBackUpto_row_tie rfl ⟨rfl, rfl⟩ (by kernel_rfl) rfl plain (by kernel_rfl)
end Go.Proofs.YtedgimkffkflbaaDoor.runesBack
namespace Go.Proofs.YtedgimkffkflbaaDoor
theorem runesBackUpto_card : Rows.RunesBackUptoCardSaid := runesBack.card
#print axioms runesBackUpto_card
end Go.Proofs.YtedgimkffkflbaaDoor
