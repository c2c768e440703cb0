/-
  A hash's digest: Sum; the digest of pieces and of bytes.
-/
import Derived.Test.YtlkflikhbkhpeabDoorHash
namespace Go.Proofs.YtlkflikhbkhpeabDoor
open Go.RowKit

theorem wpList_load_midA {P : Program} {ops : Array Oper} {rest : List Oper} {op : Oper} {a : Act} {w : World} {Q : Exit → Act → World → Prop} (hgd : op.guard = none) (ty : TypeId) (x : Operand) (ho : op.op = .load ty x)
    (b o : Nat) (hx : a.eval x = .pointer (some ⟨b, o, none⟩)) (cs : Array Value) (d : TypeDesc) (hc : w.rangeAt b o cs.toList)
    (hu : P.underlying ty = some d) (hd : d.isRow = true) (hi : (P.info? ty).map (·.size) = some cs.size)
    (h : wpList P ops Q rest (a.put op.dst (.agg cs)) w) : wpList P ops Q (op :: rest) a w :=
  wpList_load_mid hgd ty x ho b o hx cs.toList d hc hu hd (by rw [Array.length_toList]; exact hi) (by rw [Array.toArray_toList]; exact h)
theorem infoMd (l : List UInt8) : (Tryd.prog.info? 24).map (·.size) = some (rowV (md5 l)).size := infoD _ (md5_length l)

set_option maxRecDepth 100000 in
theorem sum_any (g : Nat) (t : List UInt8) (w : World) (hh : HashAt w g t) (ht : Tabs w) (hl : t.length ≤ 1152921504606846000) :
    Calls Tryd.prog 16 #[.pointer (some ⟨g, 0, none⟩)] w fun e w' => e = .returned (.agg (rowV (md5 t))) ∧ Below w.heap.size w w' := by
  have H1 : Hid (HashAt w g t) := hh
  have HT : Hid (Tabs w) := ht
  obtain ⟨row, hrow, hwait, hlie⟩ := hh.ex
  have HL : Hid (Lies w g (hv true (eat t (t.length / 64)) row t.length) 46) := hlie
  have HR : Hid (row.length = 64) := hrow
  have HW : Hid (row.take (t.length % 64) = t.drop (64 * (t.length / 64))) := hwait
  have h69 : w.cell? ⟨g, 69, none⟩ = some (.int .i64 (t.length : Int)) := (hlie.cell 69).trans (hv_len _ _ _ _ hrow)
  have H69 : Hid (w.cell? ⟨g, 69, none⟩ = some (.int .i64 (t.length : Int))) := h69
  clear hh ht hrow hwait hlie h69
  obtain ⟨cs, hcs⟩ : ∃ cs, cs = hv true (eat t (t.length / 64)) row t.length := ⟨_, rfl⟩
  have HCS : Hid (cs = hv true (eat t (t.length / 64)) row t.length) := hcs
  have HLC : Hid (Lies w g cs 46) := by rw [hcs]; exact HL
  have HI : Hid ((Tryd.prog.info? 46).map (·.size) = some cs.size) := by rw [hcs]; exact infoH _ _ _ _ HR.out
  have H70 : Hid (cs.size = 70) := by rw [hcs]; exact hv_size _ _ _ _ HR.out
  have HO : Hid (cs.all (·.oneCell') = true) := by rw [hcs]; exact hv_one _ _ _ _
  clear hcs
  have hz := zero_hash
  obtain ⟨n, hn⟩ : ∃ n, n = t.length := ⟨_, rfl⟩
  have HN : Hid (n = t.length) := hn
  rw [← hn] at hl
  clear hn
  go_enter Tryd.func16, Tryd.ntmps16
  go_wp2_with fail
  rw [zeroD_spelt]
  have HA : Hid (HashAt (w.alloc (.cells zeroD 24)) g t) := ⟨row, HR.out, HW.out, HL.out.alloc _⟩
  refine (there_hash HA.out).mono ?_
  rintro e w1 ⟨rfl, hw⟩
  rw [hw]
  clear hw w1
  obtain ⟨w1, hw1⟩ : ∃ w1, w1 = w.alloc (.cells zeroD 24) := ⟨_, rfl⟩
  have HD1 : Hid (Lies w1 w.heap.size zeroD 24) := by rw [hw1]; exact Lies.new w _ _
  have HB1 : Hid (Below w.heap.size w w1) := by rw [hw1]; exact (Below.refl _ _).alloc (Nat.le_refl _) _
  have HC1 : Hid (Lies w1 g cs 46) := by rw [hw1]; exact HLC.out.alloc _
  have hs1 : w1.heap.size = w.heap.size + 1 := by rw [hw1]; simp
  have HCE : Hid (cs[69]? = some (.int .i64 (n : Int))) := by
    show _ = _
    rw [HCS.out, HN.out]
    exact hv_len _ _ _ _ HR.out
  have hg1 : g ≠ w.heap.size + 1 := by have := HC1.out.lt; omega
  rw [← hw1]
  clear hw1
  go_wp2_with (first | (refine wpList_load_row rfl 46 _ rfl _ rfl cs 46 _ HC1.out Tryd.underlying46 rfl HI.out ?_) | (refine wpList_store_row rfl 46 _ _ rfl (w.heap.size + 1) rfl _ cs rfl 46 (by rw [← hs1]; exact Lies.new w1 _ _) HI.out (zeroH_size.trans H70.out.symm) HO.out rfl ?_; refine wpList_gen (fun w2 => Hid (Lies w2 w.heap.size zeroD 24) ∧ Hid (Lies w2 (w.heap.size + 1) cs 46) ∧ Hid (Below w.heap.size w w2) ∧ w2.heap.size = w.heap.size + 2 ∧ w2.cell? ⟨g, 69, none⟩ = some (.int .i64 (n : Int))) ⟨(HD1.out.alloc _).row_other (by omega) _, by rw [← hs1]; exact (Lies.new w1 _ _).row _, below_row (HB1.out.alloc (by omega) _) (by omega) _, by simp [World.setRow, hs1], (((HC1.out.alloc _).row_other hg1 _).cell 69).trans HCE.out⟩ ?_; rintro w2 ⟨HD2, HC2, HB2, hs2, c2⟩; clear HD1 HC1 HB1 hs1))
  refine (ending_any n (by omega) w2).mono ?_
  rintro e w3 ⟨v, rfl, hown, hb3⟩
  obtain ⟨a, cap, rfl, hbts, hlen, _, hcap, hblk⟩ := own_bts hown
  have H3 : Hid (HashAt w3 (w.heap.size + 1) t) := ⟨row, HR.out, HW.out, by rw [← HCS.out]; exact HC2.out.below hb3 HC2.out.lt⟩
  have HD3 : Hid (Lies w3 w.heap.size zeroD 24) := HD2.out.below hb3 HD2.out.lt
  have HB3 : Hid (Below w.heap.size w w3) := HB2.out.trans (hb3.mono (by omega))
  have HT3 : Hid (Tabs w3) := HT.out.below HB3.out
  have HBT : Hid (Bts a (tailB n) w3) := hbts
  have HNE : Hid (∀ ad, a = some ad → ad.block ≠ w.heap.size + 1) := fun ad e => by have := (hblk ad e).1; omega
  have HCA : Hid ((tailB n).length ≤ cap) := hcap
  have HTL : Hid ((tailB n).length ≤ 100) := by
    show _ ≤ _
    rw [tailB_length]
    unfold nou
    omega
  have hw2 : 2 ≤ w.heap.size + 1 := by have := HT.out.size; omega
  clear hown hb3 hbts hlen hcap hblk c2
  go_wp2_with fail
  refine (take_any (w.heap.size + 1) t (tailB n) a cap w3 H3.out HBT.out HNE.out HCA.out hw2 HT3.out (by have := HTL.out; rw [← HN.out]; omega)).mono ?_
  rintro e w4 ⟨rfl, h4, hb4⟩
  obtain ⟨row4, hr4, _, hl4⟩ := h4.ex
  obtain ⟨r, hr⟩ : ∃ r, r = eat (t ++ tailB n) ((t ++ tailB n).length / 64) := ⟨_, rfl⟩
  have HRR : Hid (rowV (dig r) = rowV (md5 t)) := by
    show _ = _
    rw [hr, HN.out]
    rfl
  have HG4 : Hid (w4.rangeAt (w.heap.size + 1) 1 (rgv r).toList) := by rw [hr]; exact hv_reg hl4
  have HD4 : Hid (Lies w4 w.heap.size zeroD 24) := hb4.lies HD3.out (by omega)
  have HB4 : Hid (Below w.heap.size w w4) := HB3.out.trans (hb4.below (by omega) HB3.out.size)
  clear h4 hb4 hr4 hl4 hr
  go_wp2_with (refine wpList_load_midA rfl 43 _ rfl (w.heap.size + 1) 1 rfl (rgv r) _ HG4.out Tryd.underlying43 rfl (infoRg _) ?_)
  refine (digest_any r w4).mono ?_
  rintro e w5 ⟨rfl, hb5⟩
  rw [HRR.out]
  have HD5 : Hid (Lies w5 w.heap.size zeroD 24) := HD4.out.below hb5 HD4.out.lt
  have HB5 : Hid (Below w.heap.size w w5) := HB4.out.trans (hb5.mono HB4.out.size)
  clear hb5
  go_wp2_with (refine wpList_store_row rfl 24 _ _ rfl w.heap.size rfl zeroD (rowV (md5 t)) rfl 24 HD5.out (infoMd t) (by rw [rowV_size, md5_length]; rfl) (rowV_one _) rfl ?_)
  refine bodyPost_ret (v := .agg (rowV (md5 t))) ?_ rfl ⟨rfl, below_row HB5.out (Nat.le_refl _) _⟩
  exact results_cell_row rfl _ _ _ 24 _ (0, 0) _ rfl (HD5.out.row _) Tryd.underlying24 rfl (infoMd t)
end Go.Proofs.YtlkflikhbkhpeabDoor
