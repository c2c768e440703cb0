/-
  What is due behind a byte: the program's walks, and the document's number, low and why.
-/
import Derived.Test.YtdgepnfgjgbkoaaDoorPureUp
import Derived.Test.YtdgepnfgjgbkoaaDoorBase
import Derived.Test.YtdgepnfgjgbkoaaDoorShelf
import Derived.Test.YtdgepnfgjgbkoaaDoorChk2
import Derived.Test.YtdgepnfgjgbkoaaDoorChk
namespace Go.Proofs.YtdgepnfgjgbkoaaDoor
open Go.RowKit

def letS : ByteArray := ⟨#[65, 66, 67, 68, 69, 70, 71, 72, 73, 74, 75, 76, 77, 78, 79, 80, 81, 82, 83, 84, 85, 86, 87, 88, 89, 90, 97, 98, 99, 100, 101, 102, 103, 104, 105, 106, 107, 108, 109, 110, 111, 112, 113, 114, 115, 116, 117, 118, 119, 120, 121, 122, 48, 49, 50, 51, 52, 53, 54, 55, 56, 57, 43, 47]⟩
theorem idx_num (c : UInt8) : Lib.indexByte letS.data.toList c = numI c := by
  have := u8_all (p := fun c => decide (Lib.indexByte letS.data.toList c = numI c)) (by decide +kernel) c
  simpa using this
theorem let_at : ∀ k : Fin 64, (letS[k.val]'(k.isLt)) = ltr k.val := by decide +kernel
theorem idx_any (c : UInt8) (w : World) : Calls Tryd.prog 78 #[.string letS, .int .u8 (c.toNat : Int)] w fun e w' => e = .returned (.int .i64 (numI c)) ∧ w' = w := by
  have := Tryd.strings_IndexByte letS (c.toNat : Int) w
  refine this.mono ?_
  rintro e w' ⟨rfl, rfl⟩
  refine ⟨?_, rfl⟩
  congr 2
  rw [← idx_num c]
  congr 1
  simp

theorem and15 : ∀ n : Fin 64, bits .and .i64 (n.val : Int) 15 = (n.val : Int) % 16 := by decide +kernel
theorem and3 : ∀ n : Fin 64, bits .and .i64 (n.val : Int) 3 = (n.val : Int) % 4 := by decide +kernel

/-- What a step tells: what is due next, or what was, and the error. -/
def behD (d : Nat) (c : UInt8) : Nat := (nextD d c).getD d
def behE (d : Nat) (c : UInt8) : Nat := if (nextD d c).isSome = true then 0 else errC c

theorem bletter_any (d n : Nat) (hd : d < 8) (hn : n < 64) (w : World) :
    Calls Tryd.prog 100 #[.int .i64 d, .int .i64 n] w fun e w' => e = .returned (.tuple #[.int .i64 (behD d (ltr n) : Nat), .int .i64 (behE d (ltr n) : Nat)]) ∧ w' = w := by
  have h0 := ltr_ok n hn
  have hq : (0 : Int) ≤ (n : Int) := by omega
  have a15 := and15 ⟨n, hn⟩
  have a3 := and3 ⟨n, hn⟩
  simp only at a15 a3
  have he : errC (ltr n) = 41 := by unfold errC; rw [if_neg (by rw [h0]; omega)]
  by_cases d0 : d = 0
  · subst d0
    have e1 : behD 0 (ltr n) = 1 := by simp [behD, nextD, h0, hq]
    have e2 : behE 0 (ltr n) = 0 := by simp [behE, nextD, h0, hq]
    rw [e1, e2]
    clear e1 e2 h0 he
    go_enter Tryd.func100, Tryd.ntmps100
    go_wp2
    go_ret2
    exact ⟨rfl, rfl⟩
  by_cases d1 : d = 1
  · subst d1
    by_cases q : (n : Int) % 16 = 0
    · have e1 : behD 1 (ltr n) = 3 := by simp [behD, nextD, h0, hq, q]
      have e2 : behE 1 (ltr n) = 0 := by simp [behE, nextD, h0, hq, q]
      rw [e1, e2]
      rw [q] at a15
      clear e1 e2 h0 he q
      go_enter Tryd.func100, Tryd.ntmps100
      go_wp2
      go_ret2
      exact ⟨rfl, rfl⟩
    · have e1 : behD 1 (ltr n) = 2 := by simp [behD, nextD, h0, hq, q]
      have e2 : behE 1 (ltr n) = 0 := by simp [behE, nextD, h0, hq, q]
      rw [e1, e2]
      have q' : (bits .and .i64 (n : Int) 15 == 0) = false := by rw [a15]; simpa using q
      clear e1 e2 h0 he q a15
      go_enter Tryd.func100, Tryd.ntmps100
      go_wp2
      go_ret2
      exact ⟨rfl, rfl⟩
  by_cases d2 : d = 2 ∨ d = 3
  · by_cases q : (n : Int) % 4 = 0
    · have e1 : behD d (ltr n) = 5 := by simp [behD, nextD, h0, hq, q, d0, d1, d2]
      have e2 : behE d (ltr n) = 0 := by simp [behE, nextD, h0, hq, q, d0, d1, d2]
      rw [e1, e2]
      rw [q] at a3
      clear e1 e2 h0 he q
      rcases d2 with rfl | rfl
      all_goals
        go_enter Tryd.func100, Tryd.ntmps100
        go_wp2
        go_ret2
        exact ⟨rfl, rfl⟩
    · have e1 : behD d (ltr n) = 4 := by simp [behD, nextD, h0, hq, q, d0, d1, d2]
      have e2 : behE d (ltr n) = 0 := by simp [behE, nextD, h0, hq, q, d0, d1, d2]
      rw [e1, e2]
      have q' : (bits .and .i64 (n : Int) 3 == 0) = false := by rw [a3]; simpa using q
      clear e1 e2 h0 he q a3
      rcases d2 with rfl | rfl
      all_goals
        go_enter Tryd.func100, Tryd.ntmps100
        go_wp2
        go_ret2
        exact ⟨rfl, rfl⟩
  by_cases d4 : d = 4 ∨ d = 5
  · have e1 : behD d (ltr n) = 0 := by simp [behD, nextD, h0, hq, d0, d1, d2, d4]
    have e2 : behE d (ltr n) = 0 := by simp [behE, nextD, h0, hq, d0, d1, d2, d4]
    rw [e1, e2]
    clear e1 e2 h0 he
    rcases d4 with rfl | rfl
    all_goals
      go_enter Tryd.func100, Tryd.ntmps100
      go_wp2
      go_ret2
      exact ⟨rfl, rfl⟩
  · have e1 : behD d (ltr n) = d := by simp [behD, nextD, h0, hq, d0, d1, d2, d4]
    have e2 : behE d (ltr n) = 41 := by simp [behE, nextD, h0, hq, d0, d1, d2, d4, he]
    rw [e1, e2]
    clear e1 e2 h0 he
    have hd' : d = 6 ∨ d = 7 := by omega
    rcases hd' with rfl | rfl
    all_goals
      go_enter Tryd.func100, Tryd.ntmps100
      go_wp2
      go_ret2
      exact ⟨rfl, rfl⟩

theorem bpad_any (d : Nat) (hd : d < 8) (w : World) :
    Calls Tryd.prog 101 #[.int .i64 d] w fun e w' => e = .returned (.tuple #[.int .i64 (behD d 61 : Nat), .int .i64 (behE d 61 : Nat)]) ∧ w' = w := by
  have h : ∀ d : Fin 8, behD d.val 61 = (if d.val = 3 then 6 else if d.val = 5 ∨ d.val = 6 then 7 else d.val) ∧ behE d.val 61 = (if d.val = 3 ∨ d.val = 5 ∨ d.val = 6 then 0 else 41) := by decide +kernel
  obtain ⟨e1, e2⟩ := h ⟨d, hd⟩
  simp only at e1 e2
  rw [e1, e2]
  clear e1 e2 h
  match d, hd with
  | 0, _ | 1, _ | 2, _ | 3, _ | 4, _ | 5, _ | 6, _ | 7, _ =>
    go_enter Tryd.func101, Tryd.ntmps101
    go_wp2
    go_ret2
    exact ⟨rfl, rfl⟩

theorem behind_any (d : Nat) (hd : d < 8) (c : UInt8) (w : World) :
    Calls Tryd.prog 83 #[.int .i64 d, .int .u8 (c.toNat : Int)] w fun e w' => e = .returned (.tuple #[.int .i64 (behD d c : Nat), .int .i64 (behE d c : Nat)]) ∧ w' = w := by
  have hb := numI_lt c
  have HI : Hid (Calls Tryd.prog 78 #[.string letS, .int .u8 (c.toNat : Int)] w fun e w' => e = .returned (.int .i64 (numI c)) ∧ w' = w) := idx_any c w
  by_cases h0 : 0 ≤ numI c
  · obtain ⟨n, hn⟩ := Int.eq_ofNat_of_zero_le h0
    have hl : ltr n = c := by
      have := ltr_num c h0
      rw [hn] at this
      simpa using this
    have HL : Hid (Calls Tryd.prog 100 #[.int .i64 d, .int .i64 n] w fun e w' => e = .returned (.tuple #[.int .i64 (behD d c : Nat), .int .i64 (behE d c : Nat)]) ∧ w' = w) := by
      have := bletter_any d n hd (by omega) w
      rw [hl] at this
      exact this
    rw [hn] at HI
    clear hl hn h0 hb
    generalize behD d c = x at HL ⊢
    generalize behE d c = y at HL ⊢
    go_enter Tryd.func83, Tryd.ntmps83
    go_wp2_with fail
    refine Calls.mono HI.out ?_
    rintro e w1 ⟨rfl, rfl⟩
    go_wp2_with fail
    refine Calls.mono HL.out ?_
    rintro e w1 ⟨rfl, rfl⟩
    go_wp2
    go_ret2
    exact ⟨rfl, rfl⟩
  · have hm : numI c = -1 := by omega
    rw [hm] at HI
    by_cases hc : c = 61
    · subst hc
      have HP : Hid (Calls Tryd.prog 101 #[.int .i64 d] w fun e w' => e = .returned (.tuple #[.int .i64 (behD d 61 : Nat), .int .i64 (behE d 61 : Nat)]) ∧ w' = w) := bpad_any d hd w
      clear hb h0 hm
      generalize behD d 61 = x at HP ⊢
      generalize behE d 61 = y at HP ⊢
      go_enter Tryd.func83, Tryd.ntmps83
      go_wp2_with fail
      refine Calls.mono HI.out ?_
      rintro e w1 ⟨rfl, rfl⟩
      go_wp2_with fail
      refine Calls.mono HP.out ?_
      rintro e w1 ⟨rfl, rfl⟩
      go_wp2
      go_ret2
      exact ⟨rfl, rfl⟩
    · have e1 : behD d c = d := by simp [behD, nextD, h0, hc]
      have e2 : behE d c = 40 := by simp [behE, nextD, hc, errC, hm]
      rw [e1, e2]
      have hne : ((c.toNat : Int) == 61) = false := by
        simp
        intro h
        exact hc (UInt8.toNat_inj.1 (by simpa using (by omega : c.toNat = 61)))
      clear e1 e2 hb h0 hm
      go_enter Tryd.func83, Tryd.ntmps83
      go_wp2_with fail
      refine Calls.mono HI.out ?_
      rintro e w1 ⟨rfl, rfl⟩
      go_wp2
      go_ret2
      exact ⟨rfl, rfl⟩

end Go.Proofs.YtdgepnfgjgbkoaaDoor
/-
  The program's layDown: a group's bytes behind others.
-/
namespace Go.Proofs.YtdgepnfgjgbkoaaDoor
open Go.RowKit

theorem sh6 : ∀ a b : Fin 64, bits .or .u8 ((a.val : Int) * 64 % 256) (b.val : Int) = ((a.val % 4 * 64 + b.val : Nat) : Int) := by decide +kernel
theorem sh4 : ∀ a b : Fin 64, bits .or .u8 ((a.val : Int) * 16 % 256) ((b.val : Int) / 4) = ((a.val % 16 * 16 + b.val / 4 : Nat) : Int) := by decide +kernel
theorem sh2 : ∀ a b : Fin 64, bits .or .u8 ((a.val : Int) * 4) ((b.val : Int) / 16) = ((a.val * 4 + b.val / 16 : Nat) : Int) := by decide +kernel
theorem ofNat_nat {n : Nat} (h : n < 256) : ((UInt8.ofNat n).toNat : Int) = (n : Int) := by
  rw [UInt8.toNat_ofNat']
  omega

set_option maxHeartbeats 4000000 in
set_option maxRecDepth 100000 in
theorem lay4 (a b c d : UInt8) (ha : 0 ≤ numI a) (hb : 0 ≤ numI b) (hc : 0 ≤ numI c) (hd : 0 ≤ numI d) (gb o : Nat) (v : Value) (B n : Nat) (D : List UInt8) (w : World) (hown : w.ownsRow B 5 1 v n (cellsB D)) (hB : B ≤ w.heap.size) (hn : n + 3 ≤ 140737488355328)
    (h0 : w.cell? ⟨gb, o, none⟩ = some (.int .u8 (a.toNat : Int))) (h1 : w.cell? ⟨gb, o + 1, none⟩ = some (.int .u8 (b.toNat : Int))) (h2 : w.cell? ⟨gb, o + 2, none⟩ = some (.int .u8 (c.toNat : Int))) (h3 : w.cell? ⟨gb, o + 3, none⟩ = some (.int .u8 (d.toNat : Int))) :
    Calls Tryd.prog 102 #[v, .slice (some ⟨gb, o, none⟩) 4 4] w fun e w' => ∃ v', e = .returned v' ∧ w'.ownsRow B 5 1 v' (n + 3) (cellsB (D ++ grp a b c d)) ∧ w.grownBy w' v.ownBlock := by
  have hg : gb < w.heap.size := World.block_lt_of_cell? w _ h0
  have IA : Hid (∀ wx, Calls Tryd.prog 78 #[.string letS, .int .u8 (a.toNat : Int)] wx fun e w' => e = .returned (.int .i64 (numI a)) ∧ w' = wx) := fun wx => idx_any a wx
  have IB : Hid (∀ wx, Calls Tryd.prog 78 #[.string letS, .int .u8 (b.toNat : Int)] wx fun e w' => e = .returned (.int .i64 (numI b)) ∧ w' = wx) := fun wx => idx_any b wx
  have IC : Hid (∀ wx, Calls Tryd.prog 78 #[.string letS, .int .u8 (c.toNat : Int)] wx fun e w' => e = .returned (.int .i64 (numI c)) ∧ w' = wx) := fun wx => idx_any c wx
  have ID : Hid (∀ wx, Calls Tryd.prog 78 #[.string letS, .int .u8 (d.toNat : Int)] wx fun e w' => e = .returned (.int .i64 (numI d)) ∧ w' = wx) := fun wx => idx_any d wx
  have HG : Hid (grp a b c d = [UInt8.ofNat ((numI a).toNat * 4 + (numI b).toNat / 16), UInt8.ofNat ((numI b).toNat % 16 * 16 + (numI c).toNat / 4), UInt8.ofNat ((numI c).toNat % 4 * 64 + (numI d).toNat)]) := by
    show _ = _
    unfold grp
    simp only [if_neg (ne_pad hc), if_neg (ne_pad hd)]
  have na := pad_ne a
  have nb := pad_ne b
  have nc := pad_ne c
  have nd := pad_ne d
  simp only [ne_pad ha, ne_pad hb, ne_pad hc, ne_pad hd, decide_false, Bool.not_false] at na nb nc nd
  have la := numI_lt a
  have lb := numI_lt b
  have lc := numI_lt c
  have ld := numI_lt d
  obtain ⟨xa, ea⟩ := Int.eq_ofNat_of_zero_le ha
  obtain ⟨xb, eb⟩ := Int.eq_ofNat_of_zero_le hb
  obtain ⟨xc, ec⟩ := Int.eq_ofNat_of_zero_le hc
  obtain ⟨xd, ed⟩ := Int.eq_ofNat_of_zero_le hd
  simp only [ea, eb, ec, ed, Int.toNat_natCast] at IA IB IC ID HG la lb lc ld
  have ha' : xa < 64 := by omega
  have hb' : xb < 64 := by omega
  have hc' : xc < 64 := by omega
  have hd' : xd < 64 := by omega
  have s6 := sh6 ⟨xc, hc'⟩ ⟨xd, hd'⟩
  have s4 := sh4 ⟨xb, hb'⟩ ⟨xc, hc'⟩
  have s2 := sh2 ⟨xa, ha'⟩ ⟨xb, hb'⟩
  simp only at s6 s4 s2
  have HO : Hid (w.ownsRow B 5 1 v n (cellsB D)) := hown
  generalize grp a b c d = G at HG
  clear hown ha hb hc hd ea eb ec ed la lb lc ld
  go_enter Tryd.func102, Tryd.ntmps102
  go_wp2_with fail
  refine wp_loop_rounds 5 ?_
  rw [rounds_succ]
  go_wp2_with fail
  refine Calls.mono (IA.out _) ?_
  rintro e w1 ⟨rfl, rfl⟩
  go_wp2_with fail
  rw [rounds_succ]
  go_wp2_with fail
  refine Calls.mono (IB.out _) ?_
  rintro e w1 ⟨rfl, rfl⟩
  go_wp2_with fail
  rw [rounds_succ]
  go_wp2_with fail
  refine Calls.mono (IC.out _) ?_
  rintro e w1 ⟨rfl, rfl⟩
  go_wp2_with fail
  rw [rounds_succ]
  go_wp2_with fail
  refine Calls.mono (ID.out _) ?_
  rintro e w1 ⟨rfl, rfl⟩
  go_wp2_with fail
  rw [rounds_succ]
  have HB3 : Hid (∀ (ob : Obj) (x y z : Int), x = ((xa * 4 + xb / 16 : Nat) : Int) → y = ((xb % 16 * 16 + xc / 4 : Nat) : Int) → z = ((xc % 4 * 64 + xd : Nat) : Int) → Bts (some ⟨w.heap.size + 1, 0, none⟩) G ((w.alloc ob).alloc (.cells #[.int .u8 x, .int .u8 y, .int .u8 z] 141))) := fun ob x y z hx hy hz => by
    have := three_bts (w.alloc ob) 141 x y z (UInt8.ofNat (xa * 4 + xb / 16)) (UInt8.ofNat (xb % 16 * 16 + xc / 4)) (UInt8.ofNat (xc % 4 * 64 + xd)) (by rw [hx]; exact (ofNat_nat (by omega)).symm) (by rw [hy]; exact (ofNat_nat (by omega)).symm) (by rw [hz]; exact (ofNat_nat (by omega)).symm) 3
    rw [HG.out]
    simpa using this
  have hGl : G.length = 3 := by rw [HG.out]; rfl
  go_wp2_with (at_builtin; refine wpList_append_keep rfl _ _ rfl B _ n D rfl ((HO.out.alloc _).alloc _) (some ⟨w.heap.size + 1, 0, none⟩) G 3 3 rfl hGl.symm (HB3.out _ _ _ _ (by first | rfl | (push_cast; rfl) | (simp; done)) (by first | rfl | (push_cast; rfl) | (simp; done)) (by first | rfl | (push_cast; rfl) | (simp; done))) (fun e => by cases e) (by omega) (by simp; omega) ?_; intro v3 w3 hown3 hgrow3)
  have HO3 : Hid (w3.ownsRow B 5 1 v3 (n + 3) (cellsB (D ++ G))) := hown3
  have HG3 : Hid (w.grownBy w3 v.ownBlock) := two_alloc _ _ hgrow3
  clear hown3 hgrow3 HB3 HO
  go_wp2
  go_ret
  exact ⟨_, rfl, HO3.out, HG3.out⟩

set_option maxHeartbeats 4000000 in
set_option maxRecDepth 100000 in
theorem lay3 (a b c : UInt8) (ha : 0 ≤ numI a) (hb : 0 ≤ numI b) (hc : 0 ≤ numI c) (gb o : Nat) (v : Value) (B n : Nat) (D : List UInt8) (w : World) (hown : w.ownsRow B 5 1 v n (cellsB D)) (hB : B ≤ w.heap.size) (hn : n + 3 ≤ 140737488355328)
    (h0 : w.cell? ⟨gb, o, none⟩ = some (.int .u8 (a.toNat : Int))) (h1 : w.cell? ⟨gb, o + 1, none⟩ = some (.int .u8 (b.toNat : Int))) (h2 : w.cell? ⟨gb, o + 2, none⟩ = some (.int .u8 (c.toNat : Int))) (h3 : w.cell? ⟨gb, o + 3, none⟩ = some (.int .u8 61)) :
    Calls Tryd.prog 102 #[v, .slice (some ⟨gb, o, none⟩) 4 4] w fun e w' => ∃ v', e = .returned v' ∧ w'.ownsRow B 5 1 v' (n + 2) (cellsB (D ++ grp a b c 61)) ∧ w.grownBy w' v.ownBlock := by
  have hg : gb < w.heap.size := World.block_lt_of_cell? w _ h0
  have IA : Hid (∀ wx, Calls Tryd.prog 78 #[.string letS, .int .u8 (a.toNat : Int)] wx fun e w' => e = .returned (.int .i64 (numI a)) ∧ w' = wx) := fun wx => idx_any a wx
  have IB : Hid (∀ wx, Calls Tryd.prog 78 #[.string letS, .int .u8 (b.toNat : Int)] wx fun e w' => e = .returned (.int .i64 (numI b)) ∧ w' = wx) := fun wx => idx_any b wx
  have IC : Hid (∀ wx, Calls Tryd.prog 78 #[.string letS, .int .u8 (c.toNat : Int)] wx fun e w' => e = .returned (.int .i64 (numI c)) ∧ w' = wx) := fun wx => idx_any c wx
  have HG : Hid (grp a b c 61 = [UInt8.ofNat ((numI a).toNat * 4 + (numI b).toNat / 16), UInt8.ofNat ((numI b).toNat % 16 * 16 + (numI c).toNat / 4)]) := by
    show _ = _
    unfold grp
    simp only [if_neg (ne_pad hc), if_true]
  have na := pad_ne a
  have nb := pad_ne b
  have nc := pad_ne c
  simp only [ne_pad ha, ne_pad hb, ne_pad hc, decide_false, Bool.not_false] at na nb nc
  have la := numI_lt a
  have lb := numI_lt b
  have lc := numI_lt c
  obtain ⟨xa, ea⟩ := Int.eq_ofNat_of_zero_le ha
  obtain ⟨xb, eb⟩ := Int.eq_ofNat_of_zero_le hb
  obtain ⟨xc, ec⟩ := Int.eq_ofNat_of_zero_le hc
  simp only [ea, eb, ec, Int.toNat_natCast] at IA IB IC HG la lb lc
  have ha' : xa < 64 := by omega
  have hb' : xb < 64 := by omega
  have hc' : xc < 64 := by omega
  have s4 := sh4 ⟨xb, hb'⟩ ⟨xc, hc'⟩
  have s2 := sh2 ⟨xa, ha'⟩ ⟨xb, hb'⟩
  simp only at s4 s2
  have HO : Hid (w.ownsRow B 5 1 v n (cellsB D)) := hown
  generalize grp a b c 61 = G at HG
  clear hown ha hb hc ea eb ec la lb lc
  go_enter Tryd.func102, Tryd.ntmps102
  go_wp2_with fail
  refine wp_loop_rounds 4 ?_
  rw [rounds_succ]
  go_wp2_with fail
  refine Calls.mono (IA.out _) ?_
  rintro e w1 ⟨rfl, rfl⟩
  go_wp2_with fail
  rw [rounds_succ]
  go_wp2_with fail
  refine Calls.mono (IB.out _) ?_
  rintro e w1 ⟨rfl, rfl⟩
  go_wp2_with fail
  rw [rounds_succ]
  go_wp2_with fail
  refine Calls.mono (IC.out _) ?_
  rintro e w1 ⟨rfl, rfl⟩
  go_wp2_with fail
  rw [rounds_succ]
  have HB3 : Hid (∀ (ob : Obj) (x y z : Int), x = ((xa * 4 + xb / 16 : Nat) : Int) → y = ((xb % 16 * 16 + xc / 4 : Nat) : Int) → z = 0 → Bts (some ⟨w.heap.size + 1, 0, none⟩) G ((w.alloc ob).alloc (.cells #[.int .u8 x, .int .u8 y, .int .u8 z] 141))) := fun ob x y z hx hy hz => by
    have := three_bts (w.alloc ob) 141 x y z (UInt8.ofNat (xa * 4 + xb / 16)) (UInt8.ofNat (xb % 16 * 16 + xc / 4)) 0 (by rw [hx]; exact (ofNat_nat (by omega)).symm) (by rw [hy]; exact (ofNat_nat (by omega)).symm) (by rw [hz]; rfl) 2
    rw [HG.out]
    simpa using this
  have hGl : G.length = 2 := by rw [HG.out]; rfl
  go_wp2_with (at_builtin; refine wpList_append_keep rfl _ _ rfl B _ n D rfl ((HO.out.alloc _).alloc _) (some ⟨w.heap.size + 1, 0, none⟩) G 2 3 rfl hGl.symm (HB3.out _ _ _ _ (by first | rfl | (push_cast; rfl) | (simp; done)) (by first | rfl | (push_cast; rfl) | (simp; done)) (by first | rfl | (push_cast; rfl) | (simp; done))) (fun e => by cases e) (by omega) (by simp; omega) ?_; intro v3 w3 hown3 hgrow3)
  have HO3 : Hid (w3.ownsRow B 5 1 v3 (n + 2) (cellsB (D ++ G))) := hown3
  have HG3 : Hid (w.grownBy w3 v.ownBlock) := two_alloc _ _ hgrow3
  clear hown3 hgrow3 HB3 HO
  go_wp2
  go_ret
  exact ⟨_, rfl, HO3.out, HG3.out⟩

set_option maxHeartbeats 4000000 in
set_option maxRecDepth 100000 in
theorem lay2 (a b : UInt8) (ha : 0 ≤ numI a) (hb : 0 ≤ numI b) (gb o : Nat) (v : Value) (B n : Nat) (D : List UInt8) (w : World) (hown : w.ownsRow B 5 1 v n (cellsB D)) (hB : B ≤ w.heap.size) (hn : n + 3 ≤ 140737488355328)
    (h0 : w.cell? ⟨gb, o, none⟩ = some (.int .u8 (a.toNat : Int))) (h1 : w.cell? ⟨gb, o + 1, none⟩ = some (.int .u8 (b.toNat : Int))) (h2 : w.cell? ⟨gb, o + 2, none⟩ = some (.int .u8 61)) :
    Calls Tryd.prog 102 #[v, .slice (some ⟨gb, o, none⟩) 4 4] w fun e w' => ∃ v', e = .returned v' ∧ w'.ownsRow B 5 1 v' (n + 1) (cellsB (D ++ grp a b 61 61)) ∧ w.grownBy w' v.ownBlock := by
  have hg : gb < w.heap.size := World.block_lt_of_cell? w _ h0
  have IA : Hid (∀ wx, Calls Tryd.prog 78 #[.string letS, .int .u8 (a.toNat : Int)] wx fun e w' => e = .returned (.int .i64 (numI a)) ∧ w' = wx) := fun wx => idx_any a wx
  have IB : Hid (∀ wx, Calls Tryd.prog 78 #[.string letS, .int .u8 (b.toNat : Int)] wx fun e w' => e = .returned (.int .i64 (numI b)) ∧ w' = wx) := fun wx => idx_any b wx
  have HG : Hid (grp a b 61 61 = [UInt8.ofNat ((numI a).toNat * 4 + (numI b).toNat / 16)]) := by
    show _ = _
    unfold grp
    simp only [if_true]
  have na := pad_ne a
  have nb := pad_ne b
  simp only [ne_pad ha, ne_pad hb, decide_false, Bool.not_false] at na nb
  have la := numI_lt a
  have lb := numI_lt b
  obtain ⟨xa, ea⟩ := Int.eq_ofNat_of_zero_le ha
  obtain ⟨xb, eb⟩ := Int.eq_ofNat_of_zero_le hb
  simp only [ea, eb, Int.toNat_natCast] at IA IB HG la lb
  have ha' : xa < 64 := by omega
  have hb' : xb < 64 := by omega
  have s2 := sh2 ⟨xa, ha'⟩ ⟨xb, hb'⟩
  simp only at s2
  have HO : Hid (w.ownsRow B 5 1 v n (cellsB D)) := hown
  generalize grp a b 61 61 = G at HG
  clear hown ha hb ea eb la lb
  go_enter Tryd.func102, Tryd.ntmps102
  go_wp2_with fail
  refine wp_loop_rounds 3 ?_
  rw [rounds_succ]
  go_wp2_with fail
  refine Calls.mono (IA.out _) ?_
  rintro e w1 ⟨rfl, rfl⟩
  go_wp2_with fail
  rw [rounds_succ]
  go_wp2_with fail
  refine Calls.mono (IB.out _) ?_
  rintro e w1 ⟨rfl, rfl⟩
  go_wp2_with fail
  rw [rounds_succ]
  have HB3 : Hid (∀ (ob : Obj) (x y z : Int), x = ((xa * 4 + xb / 16 : Nat) : Int) → y = 0 → z = 0 → Bts (some ⟨w.heap.size + 1, 0, none⟩) G ((w.alloc ob).alloc (.cells #[.int .u8 x, .int .u8 y, .int .u8 z] 141))) := fun ob x y z hx hy hz => by
    have := three_bts (w.alloc ob) 141 x y z (UInt8.ofNat (xa * 4 + xb / 16)) 0 0 (by rw [hx]; exact (ofNat_nat (by omega)).symm) (by rw [hy]; rfl) (by rw [hz]; rfl) 1
    rw [HG.out]
    simpa using this
  have hGl : G.length = 1 := by rw [HG.out]; rfl
  go_wp2_with (at_builtin; refine wpList_append_keep rfl _ _ rfl B _ n D rfl ((HO.out.alloc _).alloc _) (some ⟨w.heap.size + 1, 0, none⟩) G 1 3 rfl hGl.symm (HB3.out _ _ _ _ (by first | rfl | (push_cast; rfl) | (simp; done)) (by first | rfl | (push_cast; rfl) | (simp; done)) (by first | rfl | (push_cast; rfl) | (simp; done))) (fun e => by cases e) (by omega) (by simp; omega) ?_; intro v3 w3 hown3 hgrow3)
  have HO3 : Hid (w3.ownsRow B 5 1 v3 (n + 1) (cellsB (D ++ G))) := hown3
  have HG3 : Hid (w.grownBy w3 v.ownBlock) := two_alloc _ _ hgrow3
  clear hown3 hgrow3 HB3 HO
  go_wp2
  go_ret
  exact ⟨_, rfl, HO3.out, HG3.out⟩
end Go.Proofs.YtdgepnfgjgbkoaaDoor
