/-
  The keyed digest, the program's.
-/
import Derived.Test.YtlkflikhbkhpeabDoorMd5
import Derived.Test.YtlkflikhbkhpeabDoorRegn
import Derived.Laws.CopyRow
namespace Go.Proofs.YtlkflikhbkhpeabDoor
open Go.RowKit

/-- copy into an array of 64 bytes. -/
theorem wp_copy_arr {o : Oper} {a : Act} {w : World} {K : Act → World → Prop} {Q : Exit → Act → World → Prop} (d s : Operand)
    (ho : o.op = .call { callee := .builtin .copy, args := #[d, s], argTypes := #[22, 22] }) (g : Nat) (sp : Option Addr) (dCap sCap n : Nat) (l : List UInt8)
    (hd : a.eval d = .slice (some ⟨g, 0, none⟩) 64 dCap) (hs : a.eval s = .slice sp n sCap) (hn : n = l.length) (hb : Bts sp l w)
    (row : List UInt8) (hrow : row.length = 64) (hl : Lies w g (rowV row) 38) (hle : l.length ≤ 64) (dst : Option Tmp) (hdst : o.dst = dst)
    (h : ∀ w', Lies w' g (rowV (splice row 0 l)) 38 → But g w w' → K (a.put dst (goInt l.length)) w') : o.wp Tryd.prog a w K Q := by
  subst hn hdst
  have hmin : Nat.min l.length 64 = l.length := Nat.min_eq_left hle
  by_cases h0 : l.length = 0
  · obtain rfl : l = [] := List.eq_nil_of_length_eq_zero h0
    have hrun := run_copy_none (P := Tryd.prog) w 22 22 o.type 5 (some ⟨g, 0, none⟩) sp 64 dCap 0 sCap Tryd.underlying22 (by kernel_rfl) rfl
    unfold Oper.wp
    simp [execOp, ho, resolve, invoke, builtin, hd, hs, hrun, Result.andThen]
    exact h w (by simpa [splice] using hl) (But.refl g w)
  · rcases hb with rfl | ⟨gb, ob, rfl, hgb, hrb⟩
    · simp at h0
    · have hrun := run_copy_row (P := Tryd.prog) w 22 22 o.type 5 g 0 64 dCap ⟨gb, ob, none⟩ l.length sCap (rowV row) 38 (cellsB l) Tryd.underlying22 (by kernel_rfl) hl (by rw [cellsB_length, hmin]) (fun j v hj => by
        have hj' : j < l.length := by
          have := (List.getElem?_eq_some_iff.1 hj).1
          rwa [cellsB_length] at this
        rw [Addr.add_lit, hrb j hj', ← hj, cellsB_at l j hj']) (by rw [cellsB_length, rowV_size, hrow]; omega) (cellsB_one l)
      have e2 : ((rowV row).toList.take 0 ++ cellsB l ++ (rowV row).toList.drop (0 + (cellsB l).length)).toArray = rowV (splice row 0 l) := by
        unfold rowV
        rw [cellsB_splice, List.append_assoc]
        rfl
      rw [e2, cellsB_length] at hrun
      unfold Oper.wp
      simp [execOp, ho, resolve, invoke, builtin, hd, hs, hrun, Result.andThen]
      exact h _ (hl.row _) ((But.refl g w).row _)
theorem wpList_copy_arr {ops : Array Oper} {rest : List Oper} {o : Oper} {a : Act} {w : World} {Q : Exit → Act → World → Prop} (hgd : o.guard = none) (d s : Operand)
    (ho : o.op = .call { callee := .builtin .copy, args := #[d, s], argTypes := #[22, 22] }) (g : Nat) (sp : Option Addr) (dCap sCap n : Nat) (l : List UInt8)
    (hd : a.eval d = .slice (some ⟨g, 0, none⟩) 64 dCap) (hs : a.eval s = .slice sp n sCap) (hn : n = l.length) (hb : Bts sp l w)
    (row : List UInt8) (hrow : row.length = 64) (hl : Lies w g (rowV row) 38) (hle : l.length ≤ 64)
    (h : ∀ w', Lies w' g (rowV (splice row 0 l)) 38 → But g w w' → wpList Tryd.prog ops Q rest (a.put o.dst (goInt l.length)) w') : wpList Tryd.prog ops Q (o :: rest) a w :=
  wpList_plain hgd fun _ hK => wp_copy_arr d s ho g sp dCap sCap n l hd hs hn hb row hrow hl hle _ rfl (fun w' h1 h2 => hK _ _ (h w' h1 h2))

theorem keyRow_of (l : List UInt8) : splice (List.replicate 64 0) 0 l = l ++ List.replicate (64 - l.length) 0 := by
  unfold splice
  rw [List.take_zero, List.nil_append, Nat.zero_add, List.drop_replicate]
theorem keyRow_le (l : List UInt8) (h : l.length ≤ 64) : keyRow l = splice (List.replicate 64 0) 0 l := by
  rw [keyRow_of l]
  unfold keyRow keyB
  rw [if_pos h]
theorem keyRow_gt (l : List UInt8) (h : ¬ l.length ≤ 64) : keyRow l = splice (List.replicate 64 0) 0 (md5 l) := by
  rw [keyRow_of]
  unfold keyRow keyB
  rw [if_neg h]
/-- An array of bytes as a list of bytes. -/
theorem lies_bts {w : World} {g : Nat} {l : List UInt8} {t : TypeId} (h : Lies w g (rowV l) t) : Bts (some ⟨g, 0, none⟩) l w :=
  .inr ⟨g, 0, rfl, h.lt, fun j hj => by rw [Nat.zero_add, h.cell j, rowV_at l j hj]⟩

set_option maxHeartbeats 1000000 in
set_option maxRecDepth 100000 in
theorem keyRow_any (a : Option Addr) (l : List UInt8) (cap : Nat) (w : World) (h : Bts a l w) (hlt : ∀ ad, a = some ad → ad.block < w.heap.size) (hcap : l.length ≤ cap) (ht : Tabs w) (hl : l.length ≤ 1152921504606846000) :
    Calls Tryd.prog 19 #[.slice a l.length cap] w fun e w' => e = .returned (.agg (rowV (keyRow l))) ∧ Below w.heap.size w w' := by
  have HH : Hid (Bts a l w) := h
  have HLT : Hid (∀ ad, a = some ad → ad.block < w.heap.size) := hlt
  have HCAP : Hid (l.length ≤ cap) := hcap
  have HT : Hid (Tabs w) := ht
  have HLL : Hid (l.length ≤ 1152921504606846000) := hl
  have HKL : Hid ((keyRow l).length = 64) := keyRow_length l
  have hz := zero_row
  clear h hlt hcap ht hl
  obtain ⟨n, hn⟩ : ∃ n, n = l.length := ⟨_, rfl⟩
  have HN : Hid (n = l.length) := hn
  have hnb : n ≤ 1152921504606846000 := by rw [hn]; exact HLL.out
  rw [← hn]
  clear hn
  have HZ0 : Hid (Lies ((w.alloc (.cells zeroRw 38)).alloc (.cells zeroRw 38)) w.heap.size zeroRw 38) := (Lies.new w _ _).alloc _
  have HR0 : Hid (Lies ((w.alloc (.cells zeroRw 38)).alloc (.cells zeroRw 38)) (w.heap.size + 1) (rowV (List.replicate 64 0)) 38) := by rw [← zeroRw_eq]; exact new_one w _ _ _
  have HB0 : Hid (Below w.heap.size w ((w.alloc (.cells zeroRw 38)).alloc (.cells zeroRw 38))) := ((Below.refl _ _).alloc (Nat.le_refl _) _).alloc (by simp) _
  go_enter Tryd.func19, Tryd.ntmps19
  by_cases h64 : n ≤ 64
  · go_wp2_with (first | (refine wpList_copy_arr rfl _ _ rfl (w.heap.size + 1) a 64 cap n l rfl rfl HN.out (HH.out.below HB0.out) (List.replicate 64 0) rfl HR0.out (by rw [← HN.out]; exact h64) ?_; rw [← keyRow_le l (by rw [← HN.out]; exact h64)]; intro w1 hl1 hb1; have HR1 : Hid (Lies w1 (w.heap.size + 1) (rowV (keyRow l)) 38) := hl1; have HZ1 : Hid (Lies w1 w.heap.size zeroRw 38) := hb1.lies HZ0.out (by omega); have HB1 : Hid (Below w.heap.size w w1) := HB0.out.trans (hb1.below (by omega) HB0.out.size); clear hl1 hb1) | (refine wpList_load_row rfl 38 _ rfl _ rfl (rowV (keyRow l)) 38 _ HR1.out Tryd.underlying38 rfl (infoRw _ HKL.out) ?_) | (refine wpList_store_row rfl 38 _ _ rfl w.heap.size rfl zeroRw (rowV (keyRow l)) rfl 38 HZ1.out (infoRw _ HKL.out) (by rw [rowV_size, HKL.out]; rfl) (rowV_one _) rfl ?_))
    refine bodyPost_ret (v := .agg (rowV (keyRow l))) ?_ rfl ⟨rfl, below_row HB1.out (Nat.le_refl _) _⟩
    exact results_cell_row rfl _ _ _ 38 _ (0, 0) _ rfl (HZ1.out.row _) Tryd.underlying38 rfl (infoRw _ HKL.out)
  · go_wp2_with fail
    have hmd := md5_any a l cap _ (HH.out.below HB0.out) (fun ad e => Nat.lt_of_lt_of_le (HLT.out ad e) HB0.out.size) HCAP.out (HT.out.below HB0.out) HLL.out
    rw [← HN.out] at hmd
    refine hmd.mono ?_
    clear hmd
    rintro e w1 ⟨rfl, hb1⟩
    have HR1 : Hid (Lies w1 (w.heap.size + 1) (rowV (List.replicate 64 0)) 38) := HR0.out.below hb1 (by simp)
    have HZ1 : Hid (Lies w1 w.heap.size zeroRw 38) := HZ0.out.below hb1 (by simp; omega)
    have HB1 : Hid (Below w.heap.size w w1) := HB0.out.trans (hb1.mono (by simp; omega))
    have hs1 : w.heap.size + 2 ≤ w1.heap.size := by have := hb1.size; simp at this; omega
    clear hb1
    go_wp2_with (refine wpList_store_row rfl 24 _ _ rfl w1.heap.size rfl _ (rowV (md5 l)) rfl 24 (Lies.new w1 _ _) (infoMd l) (by rw [rowV_size, md5_length]; rfl) (rowV_one _) rfl ?_; refine wpList_gen (fun w2 => Hid (Lies w2 w1.heap.size (rowV (md5 l)) 24) ∧ Hid (Lies w2 (w.heap.size + 1) (rowV (List.replicate 64 0)) 38) ∧ Hid (Lies w2 w.heap.size zeroRw 38) ∧ Hid (Below w.heap.size w w2)) ⟨(Lies.new w1 _ _).row _, (HR1.out.alloc _).row_other (by omega) _, (HZ1.out.alloc _).row_other (by omega) _, below_row (HB1.out.alloc HB1.out.size _) HB1.out.size _⟩ ?_; rintro w2 ⟨HM2, HR2, HZ2, HB2⟩)
    refine wp_region_late (fun _ => True) 2 (by kernel_rfl) trivial (fun hHeld => ?_)
    refine wpAnyE_take (i := 0) (d := some 14) (v := ?_) rfl (by kernel_rfl) (by kernel_rfl) (by kernel_rfl) (by kernel_rfl) (fun _ _ _ h => h) rfl rfl ?hy (by assumption) ?_
    case hy => (intro w' hSw; (try dsimp only at hSw); go_simp <;> (try with_reducible rfl))
    simp only [Act.put, List.setIfInBounds_toArray, List.set_cons_zero, List.set_cons_succ]
    refine wpAnyE_take (i := 1) (d := some 15) (v := ?_) rfl (by kernel_rfl) (by kernel_rfl) (by kernel_rfl) (by kernel_rfl) (fun _ _ _ h => h) rfl rfl ?hy (by assumption) ?_
    case hy => (intro w' hSw; (try dsimp only at hSw); go_simp <;> (try with_reducible rfl))
    simp only [Act.put, List.setIfInBounds_toArray, List.set_cons_zero, List.set_cons_succ]
    refine wpAnyE_one (i := 2) (by kernel_rfl) rfl rfl ?_
    refine wp_copy_arr _ _ rfl (w.heap.size + 1) (some ⟨w1.heap.size, 0, none⟩) 64 16 16 (md5 l) rfl rfl (md5_length l).symm (lies_bts HM2.out.drew) (List.replicate 64 0) rfl HR2.out.drew (by rw [md5_length]; omega) _ rfl ?_
    rw [← keyRow_gt l (by rw [← HN.out]; exact h64)]
    intro w3 hl3 hb3
    have HR3 : Hid (Lies w3 (w.heap.size + 1) (rowV (keyRow l)) 38) := hl3
    have HZ3 : Hid (Lies w3 w.heap.size zeroRw 38) := hb3.lies HZ2.out.drew (by omega)
    have HB3 : Hid (Below w.heap.size w w3) := HB2.out.drew.trans (hb3.below (by omega) HB2.out.size)
    clear hl3 hb3
    refine ⟨.inr trivial, wpAnyE_done (by kernel_rfl) ?_ _⟩
    go_wp2_with (first | (refine wpList_load_row rfl 38 _ rfl _ rfl (rowV (keyRow l)) 38 _ HR3.out Tryd.underlying38 rfl (infoRw _ HKL.out) ?_) | (refine wpList_store_row rfl 38 _ _ rfl w.heap.size rfl zeroRw (rowV (keyRow l)) rfl 38 HZ3.out (infoRw _ HKL.out) (by rw [rowV_size, HKL.out]; rfl) (rowV_one _) rfl ?_))
    refine bodyPost_ret (v := .agg (rowV (keyRow l))) ?_ rfl ⟨rfl, below_row HB3.out (Nat.le_refl _) _⟩
    exact results_cell_row rfl _ _ _ 38 _ (0, 0) _ rfl (HZ3.out.row _) Tryd.underlying38 rfl (infoRw _ HKL.out)

theorem pcs_two {w : World} {gp : Nat} {p q : Pc} (h0 : w.cell? ⟨gp, 0, none⟩ = some p.val) (h1 : w.cell? ⟨gp, 1, none⟩ = some q.val) (bp : Bts p.at_ p.bs w) (bq : Bts q.at_ q.bs w) (rp : p.bs.length ≤ p.cap) (rq : q.bs.length ≤ q.cap)
    (lp : ∀ ad, p.at_ = some ad → ad.block < w.heap.size) (lq : ∀ ad, q.at_ = some ad → ad.block < w.heap.size) (hg : gp < w.heap.size) : Pcs [p, q] gp w := by
  refine ⟨fun j hj => ?_, fun j hj => ?_, fun j hj => ?_, fun j hj => ?_, hg⟩
  · match j, hj with
    | 0, _ => exact h0
    | 1, _ => exact h1
  · match j, hj with
    | 0, _ => exact bp
    | 1, _ => exact bq
  · match j, hj with
    | 0, _ => exact rp
    | 1, _ => exact rq
  · match j, hj with
    | 0, _ => exact lp
    | 1, _ => exact lq
theorem some_lt {w : World} {g : Nat} (h : g < w.heap.size) : ∀ ad : Addr, some (⟨g, 0, none⟩ : Addr) = some ad → ad.block < w.heap.size := by
  intro ad e
  injection e with e
  subst e
  exact h

set_option maxHeartbeats 1000000 in
set_option maxRecDepth 100000 in
theorem mac_any (a b : Option Addr) (l m : List UInt8) (ca cb : Nat) (w : World) (ha : Bts a l w) (hb : Bts b m w) (hla : ∀ ad, a = some ad → ad.block < w.heap.size) (hlb : ∀ ad, b = some ad → ad.block < w.heap.size) (hca : l.length ≤ ca) (hcb : m.length ≤ cb) (ht : Tabs w)
    (hl : l.length ≤ 1152921504606846000) (hm : m.length ≤ 1152921504606845000) :
    Calls Tryd.prog 8 #[.slice a l.length ca, .slice b m.length cb] w fun e w' => e = .returned (.agg (rowV (mac l m))) ∧ Below w.heap.size w w' := by
  have HBm : Hid (Bts b m w) := hb
  have HLB : Hid (∀ ad, b = some ad → ad.block < w.heap.size) := hlb
  have HCB : Hid (m.length ≤ cb) := hcb
  have HT : Hid (Tabs w) := ht
  have HML : Hid (m.length ≤ 1152921504606845000) := hm
  have HKL : Hid ((keyRow l).length = 64) := keyRow_length l
  have hz := zero_row
  have HB0 : Hid (Below w.heap.size w (w.alloc (.cells zeroD 24))) := (Below.refl _ _).alloc (Nat.le_refl _) _
  have hkr := keyRow_any a l ca (w.alloc (.cells zeroD 24)) (ha.below HB0.out) (fun ad e => Nat.lt_of_lt_of_le (hla ad e) HB0.out.size) hca (ht.below HB0.out) hl
  have HKR : Hid _ := hkr
  clear ha hb hla hlb hca hcb ht hl hm hkr
  go_enter Tryd.func8, Tryd.ntmps8
  go_wp2_with fail
  rw [zeroD_spelt]
  refine Calls.mono HKR.out ?_
  clear HKR
  rintro e w1 ⟨rfl, hb1⟩
  have HZ1 : Hid (Lies w1 w.heap.size zeroD 24) := (Lies.new w zeroD 24).below hb1 (by simp)
  have HB1 : Hid (Below w.heap.size w w1) := HB0.out.trans (hb1.mono (by simp))
  have hs1 : w.heap.size + 1 ≤ w1.heap.size := by have := hb1.size; simpa using this
  clear hb1
  obtain ⟨kr, hkr⟩ : ∃ kr, kr = keyRow l := ⟨_, rfl⟩
  have HKR : Hid (kr = keyRow l) := hkr
  rw [← hkr] at HKL
  rw [← hkr]
  clear hkr
  go_wp2_with (refine wpList_store_row rfl 38 _ _ rfl w1.heap.size rfl _ (rowV kr) rfl 38 (Lies.new w1 _ _) (infoRw _ HKL.out) (by rw [rowV_size, HKL.out]; rfl) (rowV_one _) rfl ?_; refine wpList_gen (fun w2 => Hid (Lies w2 w1.heap.size (rowV kr) 38) ∧ Hid (Lies w2 w.heap.size zeroD 24) ∧ Hid (Below w.heap.size w w2)) ⟨(Lies.new w1 _ _).row _, (HZ1.out.alloc _).row_other (by omega) _, below_row (HB1.out.alloc HB1.out.size _) HB1.out.size _⟩ ?_; rintro w2 ⟨HK2, HZ2, HB2⟩)
  have HS : Hid (∀ w', Below w2.heap.size w2 w' → w'.rangeAt w1.heap.size 0 (rowV kr).toList) := fun w' hb => (HK2.out.below hb HK2.out.lt).range
  refine wp_region_late (fun w' => w'.rangeAt w1.heap.size 0 (rowV kr).toList) 7 (by kernel_rfl) (HS.out _ (Below.refl _ w2).drew) (fun hHeld => ?_)
  refine wpAnyE_take (i := 0) (d := some 11) (v := .agg (rowV kr)) rfl (by kernel_rfl) (by kernel_rfl) (by kernel_rfl) (by kernel_rfl) (fun _ _ _ h => h) rfl rfl ?hy (by assumption) ?_
  case hy => exact fun w' hSw => exec_load 38 _ rfl w1.heap.size 0 rfl (rowV kr) _ hSw Tryd.underlying38 rfl (infoRow _ HKL.out)
  simp only [Act.put, List.setIfInBounds_toArray, List.set_cons_zero, List.set_cons_succ]
  refine wpAnyE_take (i := 2) (d := some 13) (v := .agg (rowV kr)) rfl (by kernel_rfl) (by kernel_rfl) (by kernel_rfl) (by kernel_rfl) (fun _ _ _ h => h) rfl rfl ?hy (by assumption) ?_
  case hy => exact fun w' hSw => exec_load 38 _ rfl w1.heap.size 0 rfl (rowV kr) _ hSw Tryd.underlying38 rfl (infoRow _ HKL.out)
  simp only [Act.put, List.setIfInBounds_toArray, List.set_cons_zero, List.set_cons_succ]
  have F : Slots (fun x6 x7 x12 x14 => { tmps := #[.slice a l.length ca, .slice b m.length cb, undef, undef, .pointer (some ⟨w.heap.size, 0, none⟩), .pointer (some ⟨w1.heap.size, 0, none⟩), x6, x7, undef, .slice a l.length ca, .agg (rowV kr), .agg (rowV kr), x12, .agg (rowV kr), x14, undef, undef, undef, undef, undef, undef, undef, undef], defers := [] }) kr :=
    ⟨fun _ _ _ _ _ => rfl, fun _ _ _ _ _ => rfl, fun _ _ _ _ _ => rfl, fun _ _ _ _ _ => rfl, fun _ _ _ _ => rfl, fun _ _ _ _ => rfl, fun _ _ _ _ => rfl, fun _ _ _ _ => rfl, fun _ _ _ _ => rfl, fun _ _ _ _ => rfl⟩
  refine reg_0000 F HKL.out (w0 := w2) (B := w2.heap.size) ?_ (fun w' hb => HS.out w' hb) ⟨(Below.refl _ w2).drew, Nat.le_refl _, (fun h => by cases h), (fun h => by cases h), (fun h => by cases h), (fun h => by cases h), (fun h => by cases h)⟩
  clear F hHeld HS
  intro g6 g7 x12 x14 w3 hne hB6 hB7 hl6 hl7 hbel
  have HI3 : Hid (Lies w3 g6 (rowV (laid 54 kr)) 38) := hl6
  have HO3 : Hid (Lies w3 g7 (rowV (laid 92 kr)) 38) := hl7
  have HZ3 : Hid (Lies w3 w.heap.size zeroD 24) := HZ2.out.below hbel HZ2.out.lt
  have HB3 : Hid (Below w.heap.size w w3) := HB2.out.trans (hbel.mono HB2.out.size)
  have HL54 : Hid ((laid 54 kr).length = 64) := by show _ = _; rw [laid_length]; exact HKL.out
  have HL92 : Hid ((laid 92 kr).length = 64) := by show _ = _; rw [laid_length]; exact HKL.out
  have hw3 : w.heap.size + 1 ≤ w3.heap.size := by have := HZ3.out.lt; omega
  clear hl6 hl7 hbel hne hB6 hB7
  simp only []
  go_wp2_with fail
  have HBP : Hid (Below w3.heap.size w3 (w3.alloc (.cells #[.slice (some ⟨g6, 0, none⟩) 64 64, .slice b m.length cb] 22))) := (Below.refl _ _).alloc (Nat.le_refl _) _
  have hp : Pcs [⟨some ⟨g6, 0, none⟩, laid 54 kr, 64⟩, ⟨b, m, cb⟩] w3.heap.size (w3.alloc (.cells #[.slice (some ⟨g6, 0, none⟩) 64 64, .slice b m.length cb] 22)) := by
    refine pcs_two ?_ ((Lies.new w3 _ _).cell 1) (lies_bts (HI3.out.alloc _)) (HBm.out.below (HB3.out.trans (HBP.out.mono HB3.out.size))) (by rw [HL54.out]; exact Nat.le_refl _) HCB.out (some_lt (HI3.out.alloc _).lt) (fun ad e => ?_) (by simp)
    · unfold Pc.val
      rw [HL54.out]
      exact (Lies.new w3 _ _).cell 0
    · have := HLB.out ad e
      simp
      omega
  have hcat : cat [⟨some ⟨g6, 0, none⟩, laid 54 kr, 64⟩, ⟨b, m, cb⟩] = laid 54 kr ++ m := cat_two _ _
  have hd := digestOf_any [⟨some ⟨g6, 0, none⟩, laid 54 kr, 64⟩, ⟨b, m, cb⟩] w3.heap.size 2 _ hp (by simp) (HT.out.below (HB3.out.trans (HBP.out.mono HB3.out.size))) (by rw [hcat, List.length_append, HL54.out]; have := HML.out; omega)
  rw [hcat] at hd
  refine hd.mono ?_
  clear hd hp hcat
  rintro e w4 ⟨rfl, hb4⟩
  obtain ⟨inn, hinn⟩ : ∃ inn, inn = md5 (laid 54 kr ++ m) := ⟨_, rfl⟩
  have HINN : Hid (inn = md5 (laid 54 kr ++ m)) := hinn
  have HI16 : Hid (inn.length = 16) := by rw [hinn]; exact md5_length _
  rw [← hinn]
  clear hinn
  have hb4' : Below w3.heap.size w3 w4 := HBP.out.trans (hb4.mono (by simp))
  have HO4 : Hid (Lies w4 g7 (rowV (laid 92 kr)) 38) := HO3.out.below hb4' HO3.out.lt
  have HZ4 : Hid (Lies w4 w.heap.size zeroD 24) := HZ3.out.below hb4' HZ3.out.lt
  have HB4 : Hid (Below w.heap.size w w4) := HB3.out.trans (hb4'.mono HB3.out.size)
  have hs4 : w.heap.size + 1 ≤ w4.heap.size := by have := HZ4.out.lt; omega
  clear hb4 hb4' HBP
  go_wp2_with (refine wpList_store_row rfl 24 _ _ rfl w4.heap.size rfl _ (rowV inn) rfl 24 (Lies.new w4 _ _) (infoD _ HI16.out) (by rw [rowV_size, HI16.out]; rfl) (rowV_one _) rfl ?_; refine wpList_gen (fun w5 => Hid (Lies w5 w4.heap.size (rowV inn) 24) ∧ Hid (Lies w5 g7 (rowV (laid 92 kr)) 38) ∧ Hid (Lies w5 w.heap.size zeroD 24) ∧ Hid (Below w.heap.size w w5)) ⟨(Lies.new w4 _ _).row _, (HO4.out.alloc _).row_other (by have := HO4.out.lt; omega) _, (HZ4.out.alloc _).row_other (by omega) _, below_row (HB4.out.alloc HB4.out.size _) HB4.out.size _⟩ ?_; rintro w5 ⟨HM5, HO5, HZ5, HB5⟩)
  refine wp_region_late (fun _ => True) 4 (by kernel_rfl) trivial (fun hHeld => ?_)
  refine wpAnyE_take (i := 0) (d := some 19) (v := ?_) rfl (by kernel_rfl) (by kernel_rfl) (by kernel_rfl) (by kernel_rfl) (fun _ _ _ h => h) rfl rfl ?hy (by assumption) ?_
  case hy => (intro w' hSw; (try dsimp only at hSw); go_simp <;> (try with_reducible rfl))
  simp only [Act.put, List.setIfInBounds_toArray, List.set_cons_zero, List.set_cons_succ]
  refine wpAnyE_take (i := 1) (d := some 20) (v := ?_) rfl (by kernel_rfl) (by kernel_rfl) (by kernel_rfl) (by kernel_rfl) (fun _ _ _ h => h) rfl rfl ?hy (by assumption) ?_
  case hy => (intro w' hSw; (try dsimp only at hSw); go_simp <;> (try with_reducible rfl))
  simp only [Act.put, List.setIfInBounds_toArray, List.set_cons_zero, List.set_cons_succ]
  refine wpAnyE_one (i := 2) (by kernel_rfl) rfl rfl ?_
  go_simp
  refine wpAnyE_one (i := 3) (by kernel_rfl) rfl rfl ?_
  go_simp
  have HBP : Hid (Below w5.heap.size w5 (w5.alloc (.cells #[.slice (some ⟨g7, 0, none⟩) 64 64, .slice (some ⟨w4.heap.size, 0, none⟩) 16 16] 22)).drew) := ((Below.refl _ _).alloc (Nat.le_refl _) _).drew
  have hp : Pcs [⟨some ⟨g7, 0, none⟩, laid 92 kr, 64⟩, ⟨some ⟨w4.heap.size, 0, none⟩, inn, 16⟩] w5.heap.size (w5.alloc (.cells #[.slice (some ⟨g7, 0, none⟩) 64 64, .slice (some ⟨w4.heap.size, 0, none⟩) 16 16] 22)).drew := by
    refine pcs_two ?_ ?_ (lies_bts (HO5.out.alloc _).drew) (lies_bts (HM5.out.alloc _).drew) (by rw [HL92.out]; exact Nat.le_refl _) (by rw [HI16.out]; exact Nat.le_refl _) (some_lt (HO5.out.alloc _).drew.lt) (some_lt (HM5.out.alloc _).drew.lt) (Lies.lt (Lies.new w5 _ _).drew)
    · unfold Pc.val
      rw [HL92.out]
      exact (Lies.new w5 _ _).drew.cell 0
    · unfold Pc.val
      rw [HI16.out]
      exact (Lies.new w5 _ _).drew.cell 1
  have hcat : cat [⟨some ⟨g7, 0, none⟩, laid 92 kr, 64⟩, ⟨some ⟨w4.heap.size, 0, none⟩, inn, 16⟩] = laid 92 kr ++ inn := cat_two _ _
  have hd := digestOf_any [⟨some ⟨g7, 0, none⟩, laid 92 kr, 64⟩, ⟨some ⟨w4.heap.size, 0, none⟩, inn, 16⟩] w5.heap.size 2 _ hp (by simp) (HT.out.below (HB5.out.trans (HBP.out.mono HB5.out.size))) (by rw [hcat, List.length_append, HL92.out, HI16.out]; omega)
  have emac : md5 (laid 92 kr ++ inn) = mac l m := by rw [HINN.out, HKR.out]; rfl
  rw [hcat, emac] at hd
  refine hd.mono ?_
  clear hd hp hcat emac
  rintro e w6 ⟨rfl, hb6⟩
  have hb6' : Below w5.heap.size w5 w6 := HBP.out.trans (hb6.mono HBP.out.size)
  have HZ6 : Hid (Lies w6 w.heap.size zeroD 24) := HZ5.out.below hb6' HZ5.out.lt
  have HB6 : Hid (Below w.heap.size w w6) := HB5.out.trans (hb6'.mono HB5.out.size)
  clear hb6 hb6' HBP
  refine wpAnyE_one (i := 4) (by kernel_rfl) rfl rfl ?_
  refine wp_store_none 24 _ _ rfl w.heap.size (rowV (mac l m)) rfl rfl 24 zeroD HZ6.out (infoD _ (mac_length l m)) (by rw [rowV_size, mac_length]; rfl) (rowV_one _) rfl ?_
  refine ⟨.inr trivial, wpAnyE_done (by kernel_rfl) ?_ _⟩
  go_wp2_with fail
  refine bodyPost_ret (v := .agg (rowV (mac l m))) ?_ rfl ⟨rfl, below_row HB6.out (Nat.le_refl _) _⟩
  exact results_cell_row rfl _ _ _ 24 _ (0, 0) _ rfl (HZ6.out.row _) Tryd.underlying24 rfl (infoD _ (mac_length l m))
end Go.Proofs.YtlkflikhbkhpeabDoor
