/-
  A reader that was fed bytes in pieces.
-/
import Derived.Test.YtbfgefgadplcjaaDoorHd12
namespace Go.Proofs.YtbfgefgadplcjaaDoor
open Go.RowKit

set_option maxHeartbeats 1000000 in
theorem copied_any (ad : Addr) (l : List UInt8) (n cap : Nat) (hn : n = l.length) (hl : l.length ≤ 140737488355328) (w : World) (hb : Bts (some ad) l w) : Calls Tryd.prog 26 #[.slice (some ad) n cap] w fun e w' => ∃ v, e = .returned v ∧ w'.ownsRow w.heap.size 5 1 v n (cellsB l) ∧ Below w.heap.size w w' := by
  subst hn
  have HO : Hid ((w.alloc (.cells #[] 5)).ownsRow w.heap.size 5 1 (.slice (some ⟨w.heap.size, 0, none⟩) 0 0) 0 (cellsB [])) := ⟨rfl, .inr ⟨w.heap.size, 0, #[], rfl, Nat.le_refl _, heap_alloc_new w _, Nat.le_refl _, Nat.zero_le _, rfl, rfl⟩⟩
  have HB : Hid (Bts (some ad) l w) := hb
  clear hb
  go_enter Tryd.func26, Tryd.ntmps26
  go_wp2_with (refine wpList_append_keep rfl _ _ rfl w.heap.size (.slice (some ⟨w.heap.size, 0, none⟩) 0 0) 0 [] rfl HO.out (some ad) l _ cap rfl rfl (HB.out.below ((Below.refl _ _).alloc (Nat.le_refl _) _)) (fun e => by cases e) (by omega) (by simp) ?_; intro v1 w1 HO1 HG1; apply Hid.out)
  unfold Hid
  rw [Nat.zero_add, List.nil_append] at HO1
  have HO2 : Hid (w1.ownsRow w.heap.size 5 1 v1 l.length (cellsB l)) := HO1
  have HB2 : Hid (Below w.heap.size w w1) := ((Below.refl _ w).alloc (Nat.le_refl _) _).grown HG1 (by simp) (fun j e => by cases e; exact Nat.le_refl _)
  clear HO1 HG1
  go_wp2_with fail
  go_ret
  exact ⟨_, rfl, HO2.out, HB2.out⟩
def lenOf : Value → Nat
  | .slice _ n _ => n
  | _ => 0
set_option maxHeartbeats 4000000 in
set_option maxRecDepth 20000 in
theorem fed_any (g o : Nat) (l : List UInt8) (cap : Nat) (ca : Option Addr) (cs : List UInt8) (ccap : Nat) (w : World) (ht : Tb w) (hl0 : 0 < l.length) (hl : l.length ≤ 1099511627776) (hb : Bts (some ⟨g, o, none⟩) l w) (hcap : l.length ≤ cap) (hcap2 : cap ≤ 9223372036854775807) (hcl : cs.length ≤ 9223372036854775807) (hcb : Bts ca cs w) (ho : (Sr.nil.run l).o.length ≤ 1048576) :
    Calls Tryd.prog 22 #[.slice (some ⟨g, o, none⟩) l.length cap, .slice ca cs.length ccap] w fun e w' => ∃ b, e = .returned (.tuple #[.pointer (some ⟨b, 0, none⟩), .int .i64 (errS (Sr.nil.run l).b)]) ∧ Rd w' (fun k => w.heap.size ≤ k ∧ k < w'.heap.size) b (Sr.nil.run l) ∧ Below w.heap.size w w' := by
  have HT : Hid (Tb w) := ht
  have HBT : Hid (Bts (some ⟨g, o, none⟩) l w) := hb
  have HCB : Hid (Bts ca cs w) := hcb
  have HO : Hid ((Sr.nil.run l).o.length ≤ 1048576) := ho
  clear ht hb hcb ho
  go_enter Tryd.func22, Tryd.ntmps22
  go_wp2_with fail
  refine (rnew_any w).mono ?_
  rintro e w1 ⟨b, rfl, hR1, hB1⟩
  have HR1 : Hid (Rd w1 (fun k => w.heap.size ≤ k ∧ k < w1.heap.size) b (Sr.nil.run (l.take 0))) := hR1.mono (fun k h1 h2 => ⟨h1, h2⟩)
  have HB1 : Hid (Below w.heap.size w w1) := hB1
  clear hR1 hB1
  go_wp2_with fail
  go_loopw [0, 7, 8, 9] (fun s0 ev iv _ wr => ∃ (j i N C : Nat) (A : Option Addr), j + N = l.length ∧ j + C ≤ cap ∧ N ≤ C ∧ i ≤ j ∧ j ≤ l.length ∧ s0 = .slice A N C ∧ ev = .int .i64 (errS (Sr.nil.run (l.take j)).b) ∧ iv = .int .i64 i ∧ Hid (Rd wr (fun k => w.heap.size ≤ k ∧ k < wr.heap.size) b (Sr.nil.run (l.take j))) ∧ Hid (Below w.heap.size w wr) ∧ (0 < N → A = some ⟨g, o + j, none⟩)) (fun s0 _ _ _ _ => lenOf s0)
  case atStart => exact ⟨0, 0, l.length, cap, _, by omega, by omega, hcap, Nat.le_refl _, Nat.zero_le _, rfl, rfl, rfl, HR1.out, HB1.out, fun _ => rfl⟩
  case round =>
    obtain ⟨j, i, N, C, A, hjN, hjC, hNC, hij, hjl, rfl, rfl, rfl, HR, HB, hA⟩ := hrel
    clear HR1 HB1
    by_cases hN : 0 < N
    · obtain rfl := hA hN
      obtain ⟨q, hqo⟩ : ∃ q, q = o + j := ⟨_, rfl⟩
      rw [← hqo]
      have HQO : Hid (q = o + j) := hqo
      have HBD : Hid (Bts (some ⟨g, q, none⟩) (l.drop j) wr) := by
        rw [hqo]
        rcases HBT.out.below HB.out with e | ⟨g', o', e, hg, hrow⟩
        · rw [e] at hl0; cases hl0
        · cases e
          exact .inr ⟨g, o + j, rfl, hg, fun k hk => by
            rw [List.length_drop] at hk
            rw [Nat.add_assoc, hrow (j + k) (by omega), List.getElem_drop]⟩
      have HFD : Hid (∀ nn, nn ≤ N → ∀ w2 a2 cap2, Below wr.heap.size wr w2 → Rd w2 (fun k => w.heap.size ≤ k ∧ k < wr.heap.size) b (Sr.nil.run (l.take j)) → Bts a2 ((l.drop j).take nn) w2 → (∀ ad, a2 = some ad → ¬ (w.heap.size ≤ ad.block ∧ ad.block < wr.heap.size)) → Calls Tryd.prog 25 #[.pointer (some ⟨b, 0, none⟩), .slice a2 nn cap2] w2 fun e w' => e = .returned (.int .i64 (errS (Sr.nil.run (l.take (j + nn))).b)) ∧ Rd w' (fun k => (w.heap.size ≤ k ∧ k < wr.heap.size) ∨ w2.heap.size ≤ k) b (Sr.nil.run (l.take (j + nn))) ∧ Chg (fun k => w.heap.size ≤ k ∧ k < wr.heap.size) w2 w') := fun nn hnn w2 a2 cap2 hb2 hr hbt hne => by
        have hsp : Sr.nil.run (l.take (j + nn)) = (Sr.nil.run (l.take j)).run ((l.drop j).take nn) := by rw [← run_append, List.take_add]
        have hln : nn = ((l.drop j).take nn).length := by rw [List.length_take, List.length_drop]; omega
        rw [hsp]
        cases hbad : (Sr.nil.run (l.take j)).b with
        | true =>
          rw [run_bad _ hbad]
          refine (feed_bad _ b _ _ w2 hr hbad).mono ?_
          rintro e w' ⟨rfl, rfl⟩
          exact ⟨by rw [hbad]; rfl, hr.mono (fun k h _ => .inl h), Chg.refl _ _⟩
        | false =>
          exact feed_any _ b _ a2 ((l.drop j).take nn) nn cap2 hln (by rw [← hln]; omega) w2 hr (fun k hk => ⟨Nat.lt_of_lt_of_le hk.2 hb2.size, Nat.le_trans HT.out.big hk.1⟩) hbad (by rw [← hsp]; exact Nat.le_trans (run_o_take _ _ _) HO.out) hbt hne (HT.out.on (HB.out.trans (hb2.mono HB.out.size)))
      have hN' : (0 : Int) < (N : Int) := by omega
      have HJN : Hid (j + N = l.length) := hjN
      have HJC : Hid (j + C ≤ cap) := hjC
      have hNl : N ≤ 1099511627776 := by omega
      have hCc : C ≤ 9223372036854775807 := by omega
      clear hqo hA
      by_cases hm : cs.length = 0
      · have hm' : ¬ (0 : Int) < (cs.length : Int) := by omega
        have HPL : Hid (((l.drop j).take N).length = N) := by show _ = _; rw [List.length_take, List.length_drop]; omega
        have HFD := HFD.out N (by omega)
        have HFD : Hid _ := HFD
        have hnC : (N : Int) ≤ (C : Int) := by omega
        clear hjN hjC hm
        have HCP := copied_any ⟨g, q, none⟩ ((l.drop j).take N) N C HPL.out.symm (by rw [HPL.out]; omega) wr (Bts.take (show Bts (some ⟨g, q, none⟩) (l.drop j) wr from HBD.out) N)
        go_wp2_with fail
        refine HCP.mono ?_
        rintro e w2 ⟨v2, rfl, hO2, hB2⟩
        obtain ⟨a2, cap2, rfl, hbt2, -, -, -, hblk⟩ := own_bts hO2
        have HB2 : Hid (Below w.heap.size w w2) := HB.out.trans (hB2.mono HB.out.size)
        have HR2 : Hid (Rd w2 (fun k => w.heap.size ≤ k ∧ k < wr.heap.size) b (Sr.nil.run (l.take j))) := HR.out.below hB2
        have HFE := HFD.out w2 a2 cap2 hB2 HR2.out hbt2 (fun ad e h => by have := (hblk ad e).1; omega)
        have HSZ : Hid (wr.heap.size ≤ w2.heap.size) := hB2.size
        clear hO2 hB2 hbt2 hblk HCP
        go_wp2_with fail
        refine HFE.mono ?_
        rintro e w3 ⟨rfl, hR3, hC3⟩
        have HB3 : Hid (Below w.heap.size w w3) := HB2.out.trans (hC3.to_below HB2.out.size (fun k hk => hk.1))
        have HR3 : Hid (Rd w3 (fun k => w.heap.size ≤ k ∧ k < w3.heap.size) b (Sr.nil.run (l.take (j + N)))) := hR3.mono (fun k h1 h2 => ⟨by rcases h1 with h1 | h1; exact h1.1; exact Nat.le_trans HB2.out.size h1, h2⟩)
        clear hR3 hC3 HFE HR2 HB2
        by_cases hCn : C = N
        · have hcn0 : C - N = 0 := by omega
          have hcn1 : ¬ (N : Int) < (C : Int) := by omega
          subst hCn
          go_wp2_with fail
          go_round
          case rel => exact ⟨j + C, i + 1, 0, 0, some ⟨g, q, none⟩, by have := HJN.out; have := HJC.out; omega, by have := HJN.out; have := HJC.out; omega, Nat.le_refl _, by omega, by have := HJN.out; omega, by first | rfl | (congr 1; omega), rfl, by go_num, HR3.out, HB3.out, fun h => absurd h (Nat.lt_irrefl 0)⟩
          case measure => simp [lenOf]; omega
        · have hcn1 : (N : Int) < (C : Int) := by omega
          go_wp2_with fail
          go_round
          case rel => exact ⟨j + N, i + 1, 0, C - N, some ⟨g, q + N, none⟩, by have := HJN.out; omega, by have := HJC.out; omega, by omega, by omega, by have := HJN.out; omega, rfl, rfl, by go_num, HR3.out, HB3.out, fun h => by rw [HQO.out, Nat.add_assoc]⟩
          case measure => simp [lenOf]; omega
      · have hm' : (0 : Int) < (cs.length : Int) := by omega
        have hmod : ((i : Int)).tmod (cs.length : Int) = ((i % cs.length : Nat) : Int) := by rw [Int.tmod_eq_emod_of_nonneg (by omega)]; rfl
        have hmod2 : ((i : Int)) % (cs.length : Int) = ((i % cs.length : Nat) : Int) := rfl
        have hlt : i % cs.length < cs.length := Nat.mod_lt _ (by omega)
        obtain ⟨cg, co, rfl, hcg, hcc⟩ := (HCB.out.below HB.out).cell (i % cs.length) hlt
        have hne0 : ((cs.length : Int) == 0) = false := by rw [beq_eq_false_iff_ne]; omega
        have hne1 : ¬ (cs.length : Int) = 0 := by omega
        have hlt2 : ((i % cs.length : Nat) : Int) < (cs.length : Int) := by omega
        have hlt3 : (0 : Int) ≤ ((i % cs.length : Nat) : Int) := by omega
        have hcs : ¬ cs = [] := fun e => by rw [e] at hm; exact hm rfl
        generalize cs[i % cs.length] = z at *
        obtain ⟨im, hmod3⟩ : ∃ im, i % cs.length = im := ⟨_, rfl⟩
        rw [hmod3] at hmod hmod2 hlt hlt2 hlt3 hcc
        obtain ⟨nn, hnn⟩ : ∃ nn : Nat, nn = min N (max 1 z.toNat) := ⟨_, rfl⟩
        have hwz : IntKind.i64.wrap (z.toNat : Int) = (z.toNat : Int) := by
          have := z.toNat_lt
          simp [IntKind.wrap, IntKind.bits, IntKind.signed]
          omega
        obtain ⟨M, hM⟩ : ∃ M : Nat, M = max 1 z.toNat := ⟨_, rfl⟩
        have hM1 : (if (1 : Int) < (z.toNat : Int) then (z.toNat : Int) else 1) = (M : Int) := by split <;> omega
        have hM2 : max (1 : Int) (z.toNat : Int) = (M : Int) := by omega
        have hq1 : min (N : Int) (M : Int) = (nn : Int) := by omega
        have hq2 : (if (M : Int) < (N : Int) then (M : Int) else (N : Int)) = (nn : Int) := by split <;> omega
        have HPL : Hid (((l.drop j).take nn).length = nn) := by show _ = _; rw [List.length_take, List.length_drop]; omega
        have HFD := HFD.out nn (by omega)
        have HFD : Hid _ := HFD
        have hnN : nn ≤ N := by omega
        have hn1 : 1 ≤ nn := by omega
        have hnC : (nn : Int) ≤ (C : Int) := by omega
        have hnN' : (nn : Int) ≤ (N : Int) := by omega
        clear hnn hjN hjC hm hM
        have HCP := copied_any ⟨g, q, none⟩ ((l.drop j).take nn) nn C HPL.out.symm (by rw [HPL.out]; omega) wr (Bts.take (show Bts (some ⟨g, q, none⟩) (l.drop j) wr from HBD.out) nn)
        go_wp2_with fail
        refine HCP.mono ?_
        rintro e w2 ⟨v2, rfl, hO2, hB2⟩
        obtain ⟨a2, cap2, rfl, hbt2, -, -, -, hblk⟩ := own_bts hO2
        have HB2 : Hid (Below w.heap.size w w2) := HB.out.trans (hB2.mono HB.out.size)
        have HR2 : Hid (Rd w2 (fun k => w.heap.size ≤ k ∧ k < wr.heap.size) b (Sr.nil.run (l.take j))) := HR.out.below hB2
        have HFE := HFD.out w2 a2 cap2 hB2 HR2.out hbt2 (fun ad e h => by have := (hblk ad e).1; omega)
        have HSZ : Hid (wr.heap.size ≤ w2.heap.size) := hB2.size
        clear hO2 hB2 hbt2 hblk HCP
        go_wp2_with fail
        refine HFE.mono ?_
        rintro e w3 ⟨rfl, hR3, hC3⟩
        have HB3 : Hid (Below w.heap.size w w3) := HB2.out.trans (hC3.to_below HB2.out.size (fun k hk => hk.1))
        have HR3 : Hid (Rd w3 (fun k => w.heap.size ≤ k ∧ k < w3.heap.size) b (Sr.nil.run (l.take (j + nn)))) := hR3.mono (fun k h1 h2 => ⟨by rcases h1 with h1 | h1; exact h1.1; exact Nat.le_trans HB2.out.size h1, h2⟩)
        clear hR3 hC3 HFE HR2 HB2
        by_cases hCn : C = nn
        · have hNn : N = nn := by omega
          have hcn0 : C - nn = 0 := by omega
          have hcn1 : ¬ (nn : Int) < (C : Int) := by omega
          subst hCn
          go_wp2_with fail
          go_round
          case rel => exact ⟨j + C, i + 1, 0, 0, some ⟨g, q, none⟩, by have := HJN.out; have := HJC.out; omega, by have := HJN.out; have := HJC.out; omega, Nat.le_refl _, by omega, by have := HJN.out; omega, by first | rfl | (congr 1; omega), rfl, by go_num, HR3.out, HB3.out, fun h => absurd h (Nat.lt_irrefl 0)⟩
          case measure => simp [lenOf]; omega
        · have hcn1 : (nn : Int) < (C : Int) := by omega
          go_wp2_with fail
          go_round
          case rel => exact ⟨j + nn, i + 1, N - nn, C - nn, some ⟨g, q + nn, none⟩, by have := HJN.out; omega, by have := HJC.out; omega, by omega, by omega, by have := HJN.out; omega, rfl, rfl, by go_num, HR3.out, HB3.out, fun h => by rw [HQO.out, Nat.add_assoc]⟩
          case measure => simp [lenOf]; omega
    · have hN0 : N = 0 := by omega
      subst hN0
      have hjl2 : l.take j = l := List.take_of_length_le (by omega)
      have HR9 := HR.out
      rw [hjl2] at HR9 ⊢
      have HR9 : Hid (Rd wr (fun k => w.heap.size ≤ k ∧ k < wr.heap.size) b (Sr.nil.run l)) := HR9
      clear HR hjl2
      go_wp2_with fail
      go_ret2
      exact ⟨b, rfl, HR9.out, HB.out⟩
end Go.Proofs.YtbfgefgadplcjaaDoor
