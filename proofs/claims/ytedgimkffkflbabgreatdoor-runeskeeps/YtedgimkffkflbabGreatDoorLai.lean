/-
  The program's laid: wide runes put to their places.
-/
import Derived.Test.YtedgimkffkflbabGreatDoorBck
import Derived.Test.YtedgimkffkflbabGreatDoorMk
import Derived.Test.YtedgimkffkflbabGreatDoorLaiP
import Derived.Test.YtedgimkffkflbabGreatDoorBase2
import Derived.Lib.OthersKept
namespace Go.Proofs.YtedgimkffkflbabGreatDoor
open Go.RowKit
attribute [local go_sem] Oper.semAt_some

/-- What lies in memory when t runes are laid. -/
structure LayAt (w0 : World) (a : Option Addr) (ps : List (Int × Nat)) (cap T gl bl gm bm bs : Nat) (sl : List (Option Int)) (W : World) : Prop where
  row : Lies W gl (cellsN .i32 (slC sl)).toArray 21
  box : Lies W bl #[.slice (some ⟨gl, 0, none⟩) T T] 22
  mks : MkAt W gm T (free sl)
  mbx : Lies W bm #[.slice (some ⟨gm, 0, none⟩) (T + 1) (T + 1)] 81
  pbx : Lies W bs #[.slice a ps.length cap] 56
  put : PsAt a ps W
  bel : Below w0.heap.size w0 W
theorem Lies.grown {W W' : World} {g : Nat} {cs : Array Value} {t : TypeId} {row : Option Nat} {B : Nat} (h : Lies W g cs t) (hg : W.grownBy W' row) (hr : ∀ r, row = some r → B ≤ r ∧ ∃ o : Obj, W.heap[r]? = some o ∧ o.isCells = false) : Lies W' g cs t :=
  (hg.block g h.lt (fun e => by
    obtain ⟨_, o, ho, hc⟩ := hr g e.symm
    rw [h] at ho
    injection ho with ho
    subst ho
    cases hc)).trans h
theorem cell_grown' {W W' : World} {p : Addr} {v : Value} {row : Option Nat} {B : Nat} (h : W.cell? p = some v) (hg : W.grownBy W' row) (hr : ∀ r, row = some r → B ≤ r ∧ ∃ o : Obj, W.heap[r]? = some o ∧ o.isCells = false) : W'.cell? p = some v :=
  cell_kept h hg (fun r e => (hr r e).2)
theorem LayAt.grown {w0 : World} {a : Option Addr} {ps : List (Int × Nat)} {cap T gl bl gm bm bs : Nat} {sl : List (Option Int)} {W W' : World} {row : Option Nat} {B : Nat} (h : LayAt w0 a ps cap T gl bl gm bm bs sl W) (hB : w0.heap.size ≤ B) (hg : W.grownBy W' row) (hr : ∀ r, row = some r → B ≤ r ∧ ∃ o : Obj, W.heap[r]? = some o ∧ o.isCells = false) :
    LayAt w0 a ps cap T gl bl gm bm bs sl W' := by
  refine ⟨h.row.grown hg hr, h.box.grown hg hr, ?_, h.mbx.grown hg hr, h.pbx.grown hg hr, ?_, ?_⟩
  · obtain ⟨cs, h1, h2, h3⟩ := h.mks
    exact ⟨cs, h1, h2.grown hg hr, h3⟩
  · rcases h.put with h' | ⟨g, e, hlt, hc⟩
    · exact .inl h'
    · exact .inr ⟨g, e, Nat.lt_of_lt_of_le hlt hg.size, fun j hj => ⟨cell_grown' (hc j hj).1 hg hr, cell_grown' (hc j hj).2 hg hr⟩⟩
  · exact h.bel.grown hg h.bel.size (fun k e => Nat.le_trans hB (hr k e).1)
theorem MkAt.but {w w' : World} {g N k : Nat} {f : Nat → Int} (h : MkAt w g N f) (hb : But k w w') (hne : g ≠ k) : MkAt w' g N f := h.keep (hb.block g h.lt hne)
set_option maxHeartbeats 1000000 in
set_option maxRecDepth 100000 in
theorem backw_any (a : Option Addr) (n c : Nat) (w : World) : Calls Tryz.prog 67 #[.slice a n c] w fun e w' => e = .returned (.func (.func 80) #[] #[.pointer (some ⟨w.heap.size, 0, none⟩)]) ∧ w' = w.alloc (.cells #[.slice a n c] 56) := by
  go_enter Tryz.func67, Tryz.ntmps67
  go_wp2
  go_ret
  exact ⟨rfl, rfl⟩

set_option maxHeartbeats 4000000 in
set_option maxRecDepth 100000 in
theorem laid_any (s : ByteArray) (a : Option Addr) (ps : List (Int × Nat)) (cap : Nat) (w : World) (hs : s.size + ps.length ≤ 1073741824) (hps : PsAt a ps w) (hok : PsOk s.size ps) (hasc : ∀ k (h : k < s.size), s[k].toNat < 128) :
    Calls Tryz.prog 39 #[.string s, .slice a ps.length cap] w fun e w' => ∃ v, e = .returned v ∧ w'.ownsRow w.heap.size 21 1 v (s.size + ps.length) (cellsN .i32 (insAll (lowR s.data.toList) ps)) ∧ Below w.heap.size w w' := by
  have HPS : Hid (PsAt a ps w) := hps
  have HOK : Hid (PsOk s.size ps) := hok
  have HAS : Hid (∀ k (h : k < s.size), s[k].toNat < 128) := hasc
  clear hps hok hasc
  obtain ⟨w1, hmk, hown1, b1, hsz1⟩ := make_roomN w 22 21 4 .i32 Tryz.underlying22 infoR (by omega) (s.size + ps.length) (s.size + ps.length) ((s.size : Int) + ps.length) ((s.size : Int) + ps.length) (by push_cast; rfl) (by push_cast; rfl) (Nat.le_refl _) (by omega) w.heap.size (Nat.le_refl _)
  refine (callsIn_wide (n := 3)).1 ?_
  refine callsIn_of_wp_marks Tryz.func39 rfl trivial ?_ rfl
  simp only [Tryz.ntmps39, List.size_toArray, List.length_cons, List.length_nil, Nat.reduceAdd, Nat.reduceSub, Array.replicate_succ, Array.replicate_zero, List.push_toArray, List.append_toArray, List.nil_append, List.cons_append]
  gi_wp2_with fail
  have HL1 : Hid (Lies w1 w.heap.size (cellsN .i32 (slC (List.replicate (s.size + ps.length) none))).toArray 21) := by
    obtain ⟨h1, ⟨h2, _⟩ | ⟨g, cp, cur, hv, hB, hg, hcap, _, hs', ht⟩⟩ := hown1
    · cases h2
    · injection hv with e1 e2 e3
      injection e1 with e1
      injection e1 with e1 e4
      subst e1 e3
      have : cur = (cellsN .i32 (slC (List.replicate (s.size + ps.length) none))).toArray := by
        apply Array.ext'
        show cur.toList = cellsN .i32 (slC (List.replicate (s.size + ps.length) none))
        rw [slC_none, ← ht, Nat.mul_one, List.take_of_length_le (by simp; omega)]
      rw [← this]
      exact hg
  have HB1 : Hid (Below w.heap.size w w1) := b1
  clear hown1 b1 hmk
  have hcm := mfor_any (s.size + ps.length) (w1.alloc (.cells #[.slice (some ⟨w.heap.size, 0, none⟩) (s.size + ps.length) (s.size + ps.length)] 22)) hs
  simp only [World.size_alloc, hsz1, Int.natCast_add] at hcm
  have HX2 : Hid (Lies (w1.alloc (.cells #[.slice (some ⟨w.heap.size, 0, none⟩) (s.size + ps.length) (s.size + ps.length)] 22)) (w.heap.size + 1) #[.slice (some ⟨w.heap.size, 0, none⟩) (s.size + ps.length) (s.size + ps.length)] 22) := by
    have := Lies.new w1 #[.slice (some ⟨w.heap.size, 0, none⟩) (s.size + ps.length) (s.size + ps.length)] 22
    rw [hsz1] at this
    exact this
  refine ⟨trivial, (callsIn_wide.2 hcm).mono ?_⟩
  rintro e w2 ⟨rfl, b2, m2, s2⟩
  have HL2 : Hid (Lies w2 w.heap.size (cellsN .i32 (slC (List.replicate (s.size + ps.length) none))).toArray 21) := (HL1.out.alloc _).below b2 (by omega)
  have HX3 : Hid (Lies w2 (w.heap.size + 1) #[.slice (some ⟨w.heap.size, 0, none⟩) (s.size + ps.length) (s.size + ps.length)] 22) := HX2.out.below b2 (by omega)
  have HB2 : Hid (Below w.heap.size w w2) := (HB1.out.alloc HB1.out.size _).trans (b2.mono (by omega))
  have HM2 : Hid (MkAt w2 (w.heap.size + 2) (s.size + ps.length) (fun _ => 0)) := m2
  have hs2 : w2.heap.size = w.heap.size + 3 := by rw [s2]
  clear b2 m2 hcm s2 HL1 HX2 HB1
  gi_wp2_with fail
  have hca := addall_any (w.heap.size + 1 + 1) (s.size + ps.length) (w2.alloc (.cells #[.slice (some ⟨w.heap.size + 1 + 1, 0, none⟩) (s.size + ps.length + 1) (s.size + ps.length + 1)] 81)) (HM2.out.keep (Below.heap_alloc _ _ _ (by omega))) hs
  refine ⟨trivial, (callsIn_wide.2 hca).mono ?_⟩
  rintro e w3 ⟨rfl, b3, m3⟩
  have HY3 : Hid (Lies w3 (w.heap.size + 3) #[.slice (some ⟨w.heap.size + 1 + 1, 0, none⟩) (s.size + ps.length + 1) (s.size + ps.length + 1)] 81) := by
    have := Lies.new w2 #[.slice (some ⟨w.heap.size + 1 + 1, 0, none⟩) (s.size + ps.length + 1) (s.size + ps.length + 1)] 81
    rw [hs2] at this
    exact b3.lies this (by omega)
  have HL3 : Hid (Lies w3 w.heap.size (cellsN .i32 (slC (List.replicate (s.size + ps.length) none))).toArray 21) := b3.lies (HL2.out.alloc _) (by omega)
  have HX4 : Hid (Lies w3 (w.heap.size + 1) #[.slice (some ⟨w.heap.size, 0, none⟩) (s.size + ps.length) (s.size + ps.length)] 22) := b3.lies (HX3.out.alloc _) (by omega)
  have HB3 : Hid (Below w.heap.size w w3) := (HB2.out.alloc HB2.out.size _).trans (b3.below (by omega) (by simp; omega))
  have HM3 : Hid (MkAt w3 (w.heap.size + 1 + 1) (s.size + ps.length) (fun _ => 1)) := m3
  have hs3 : w.heap.size + 3 < w3.heap.size := HY3.out.lt
  clear b3 m3 hca HL2 HX3 HB2 HM2
  gi_wp2_with fail
  have hcb := backw_any a ps.length cap w3
  refine ⟨trivial, (callsIn_wide.2 hcb).mono ?_⟩
  rintro e w4 ⟨rfl, rfl⟩
  clear hcb
  gi_wp2_with fail
  have HI0 : Hid (LayAt w a ps cap (s.size + ps.length) w.heap.size (w.heap.size + 1) (w.heap.size + 1 + 1) (w.heap.size + 3) w3.heap.size (List.replicate (s.size + ps.length) none) (w3.alloc (.cells #[.slice a ps.length cap] 56))) := by
    refine ⟨HL3.out.alloc _, HX4.out.alloc _, ?_, HY3.out.alloc _, Lies.new w3 _ _, ?_, HB3.out.alloc HB3.out.size _⟩
    · exact (HM3.out.keep (Below.heap_alloc _ _ _ (by omega))).ext (fun j hj => (free_none _ j hj).symm)
    · have hb := HB3.out.alloc HB3.out.size (.cells #[.slice a ps.length cap] 56)
      rcases HPS.out with h' | ⟨g, e, hlt, hc⟩
      · exact .inl h'
      · exact .inr ⟨g, e, Nat.lt_of_lt_of_le hlt hb.size, fun j hj => ⟨(hb.cell (p := ⟨g, j * 2, none⟩) hlt).trans (hc j hj).1, (hb.cell (p := ⟨g, j * 2 + 1, none⟩) hlt).trans (hc j hj).2⟩⟩
  clear HL3 HX4 HY3 HB3 HM3
  have hlr : (lowR s.data.toList).length = s.size := by unfold lowR; rw [List.length_map, len_list]
  have HOK' : Hid (PsOk (lowR s.data.toList).length ps) := by show PsOk _ _; rw [hlr]; exact HOK.out
  have HS0 : Hid (SlOk (lowR s.data.toList) ps 0 (List.replicate (s.size + ps.length) none)) := by
    have := slOk_start (lowR s.data.toList) ps HOK'.out
    rw [hlr] at this
    exact this
  have HBA : Hid (∀ k (h : k < s.size), (lowR s.data.toList)[k]? = some ((s[k].toNat : Nat) : Int)) := fun k h => by
    unfold lowR
    rw [List.getElem?_map, List.getElem?_eq_getElem (by rw [len_list]; exact h), at_list s k h]
    rfl
  generalize hbase : lowR s.data.toList = base at *
  have HBASE : Hid (lowR s.data.toList = base) := hbase
  clear hbase
  refine range_box (slot := 8) rfl (by omega) (gf := 80) (lb := #[.pointer (some ⟨w3.heap.size, 0, none⟩)]) rfl trivial (enters_of Tryz.func80 (by kernel_rfl) rfl) ps.length (encI ps) (encV ps)
    (fun t W => ∃ sl, SlOk base ps t sl ∧ LayAt w a ps cap (s.size + ps.length) w.heap.size (w.heap.size + 1) (w.heap.size + 1 + 1) (w.heap.size + 3) w3.heap.size sl W) ?own ⟨_, HS0.out, HI0.out⟩ ?seq
    (fun t B W => w3.heap.size < B ∧ Lies W B #[.int .i32 (ps.getD (ps.length - 1 - t) (0, 0)).1, .int .i64 ((ps.getD (ps.length - 1 - t) (0, 0)).2 : Int)] 65) ?ownR ?assign ?body ?done
  case own =>
    rintro t W W' row ⟨sl, h1, h2⟩ hg hr
    exact ⟨sl, h1, h2.grown (by simp; omega) hg hr⟩
  case seq =>
    intro l J hJI hY W hJ
    refine back_seq Fence.wide 2 trivial rfl (by omega) l w3.heap.size a ps cap (by omega) J (fun t W h => ?_) hY W hJ
    obtain ⟨sl, _, h2⟩ := hJI t W h
    exact ⟨h2.pbx.cell 0, h2.put⟩
  case ownR =>
    rintro t B _ W W' row ⟨h1, h2⟩ hg hr
    exact ⟨h1, h2.grown hg hr⟩
  case assign =>
    rintro l t W K ⟨sl, h1, h2⟩ ht hK
    unfold encI encV at hK ⊢
    simp only [List.setIfInBounds_toArray, List.set_cons_zero, List.set_cons_succ] at hK ⊢
    have hlt := h2.pbx.lt
    gi_wp2
    exact hK _ _ ((KeepsOthers.alloc _ _).from _) ⟨sl, h1, h2.grown (B := w.heap.size) (Nat.le_refl _) (World.grownBy_alloc W _ none) (fun r e => by cases e)⟩ ⟨hlt, Lies.new W _ _⟩
  case body =>
    rintro l t B W ⟨sl, h1, h2⟩ ⟨hB, hx⟩ ht
    unfold encI encV
    simp only [List.setIfInBounds_toArray, List.set_cons_zero, List.set_cons_succ]
    have hgd : ps.getD (ps.length - 1 - t) (0, 0) = ps[ps.length - 1 - t]'(by omega) := by simp [List.getD_eq_getElem?_getD, List.getElem?_eq_getElem (show ps.length - 1 - t < ps.length by omega)]
    rw [hgd] at hx ⊢
    have hpg := PsOk_get HOK'.out (ps.length - 1 - t) (by omega)
    have HSTP : Hid (∀ at', free sl at' = 1 → pre (free sl) at' = ((ps[ps.length - 1 - t]'(by omega)).2 : Int) → SlOk base ps (t + 1) (sl.set at' (some (ps[ps.length - 1 - t]'(by omega)).1))) := fun at' e1 e2 => h1.step HOK'.out ht at' e1 e2
    have hidx : ps.length - 1 - t < ps.length := by omega
    generalize ps[ps.length - 1 - t]'hidx = x at hx hpg HSTP ⊢
    obtain ⟨r, p⟩ := x
    simp only at hx hpg HSTP ⊢
    have hcnt := h1.cnt
    have hlen := h1.len
    rw [hlr] at hcnt hlen hpg
    have HX : Hid (Lies W B #[.int .i32 r, .int .i64 (p : Int)] 65) := hx
    have c0 := hx.cell 0
    have c1 := hx.cell 1
    have d0 := h2.mbx.cell 0
    have d1 := h2.box.cell 0
    simp at c0 c1 d0 d1
    have HL : Hid (LayAt w a ps cap (s.size + ps.length) w.heap.size (w.heap.size + 1) (w.heap.size + 1 + 1) (w.heap.size + 3) w3.heap.size sl W) := h2
    have hfi := find_any (w.heap.size + 1 + 1) (s.size + ps.length) (p : Int) (free sl) W h2.mks (free_01 sl) hs (by omega) (by rw [hcnt]; omega)
    have hBlt := hx.lt
    have hwlt := h2.pbx.lt
    clear hx h2 h1 hcnt
    gi_wp2_with fail
    refine ⟨trivial, (CallsIn.inRound l (callsIn_wide.2 hfi)).mono ?_⟩
    rintro e W2 ⟨⟨at', rfl, hat, hf1, hf2⟩, rfl⟩
    have HST : Hid (SlOk base ps (t + 1) (sl.set at' (some r))) := HSTP.out at' hf1 hf2
    have hnone := free_one hf1
    have hcell0 : (slC sl)[at']? = some 0 := by
      unfold slC
      rw [List.getElem?_map, hnone]
      rfl
    have e0 := cellsN_cell HL.out.row at' 0 hcell0
    have fz0 := HL.out.row.frozen at'
    have HROW : Hid (Lies (W2.setCell ⟨w.heap.size, at', none⟩ (.int .i32 r)) w.heap.size (cellsN .i32 (slC (sl.set at' (some r)))).toArray 21) := by
      have := cellsN_set HL.out.row at' r
      rw [← slC_set] at this
      exact this
    have hat' : (at' : Int) < (s.size : Int) + ps.length := by omega
    have HFS : Hid (∀ j, put1 (free sl) at' (-1) j = free (sl.set at' (some r)) j) := fun j => (free_set sl at' r hnone j).symm
    have hcadd := add_any (w.heap.size + 1 + 1) (s.size + ps.length) at' (-1) (free sl) (W2.setCell ⟨w.heap.size, at', none⟩ (.int .i32 r)) (HL.out.mks.keep (Below.heap_setCell _ _ _ _ (show w.heap.size + 1 + 1 ≠ w.heap.size by omega))) (free_01 sl) (by
      have := free_01 (sl.set at' (some r))
      exact ⟨fun j => by rw [HFS.out j]; exact this.1 j, fun j => by rw [HFS.out j]; exact this.2 j⟩) hs hat
    clear hfi hf1 hf2 hnone hcell0 HSTP
    gi_wp2_with fail
    refine ⟨trivial, (CallsIn.inRound l (callsIn_wide.2 hcadd)).mono ?_⟩
    rintro e W3 ⟨rfl, b3, m3⟩
    have HK3 : Hid (KeepsFrom (w3.alloc (.cells #[.slice a ps.length cap] 56)).heap.size W2 W3) := by
      refine ⟨Nat.le_trans (by simp) b3.size, fun k o hk ho hc => ?_⟩
      have hkl : k < W2.heap.size := (Array.getElem?_eq_some_iff.1 ho).1
      rw [World.size_alloc] at hk
      exact (b3.block k (by simp; exact hkl) (by omega)).trans ((Below.heap_setCell _ _ _ _ (show k ≠ w.heap.size by omega)).trans ho)
    have HL3 : Hid (LayAt w a ps cap (s.size + ps.length) w.heap.size (w.heap.size + 1) (w.heap.size + 1 + 1) (w.heap.size + 3) w3.heap.size (sl.set at' (some r)) W3) := by
      refine ⟨b3.lies HROW.out (by omega), b3.lies (HL.out.box.set_other (by simp) _) (by omega), m3.ext (fun j _ => HFS.out j), b3.lies (HL.out.mbx.set_other (by simp) _) (by omega), b3.lies (HL.out.pbx.set_other (show w3.heap.size ≠ w.heap.size by omega) _) (by omega), ?_, ?_⟩
      · have hb : Below w.heap.size W2 W3 := ((Below.refl w.heap.size W2).setCell (p := ⟨w.heap.size, at', none⟩) (Nat.le_refl _) _).trans (b3.below (B := w.heap.size) (by omega) (by simp; exact HL.out.bel.size))
        rcases HPS.out with h' | ⟨g, e, hlt, _⟩
        · exact .inl h'
        · rcases HL.out.put with h' | ⟨g', e', hlt', hc⟩
          · exact .inl h'
          · rw [e] at e'
            injection e' with e'
            injection e' with e'
            subst e'
            exact .inr ⟨g, e, Nat.lt_of_lt_of_le hlt' hb.size, fun j hj => ⟨(hb.cell (p := ⟨g, j * 2, none⟩) hlt).trans (hc j hj).1, (hb.cell (p := ⟨g, j * 2 + 1, none⟩) hlt).trans (hc j hj).2⟩⟩
      · exact (HL.out.bel.setCell (p := ⟨w.heap.size, at', none⟩) (Nat.le_refl _) _).trans (b3.below (B := w.heap.size) (by omega) (by simp; exact HL.out.bel.size))
    clear b3 m3 hcadd
    gi_wp2
    exact ⟨HK3.out, _, HST.out, HL3.out⟩
  case done =>
    rintro D W hD ⟨sl, h1, h2⟩ hK
    have hcnt := h1.cnt
    have hlen := h1.len
    have HFIL : Hid (fill sl base = insAll base ps) := by
      have := h1.fil
      rw [Nat.sub_self, List.take_zero] at this
      exact this
    have HBIG : Hid (∀ r, some r ∈ sl → 128 ≤ r) := h1.big
    rw [show base.length + ps.length - ps.length = base.length from by omega, ← hlen] at hcnt
    have HCNT : Hid (pre (free sl) sl.length = (base.length : Int)) := hcnt
    have HFL0 : Hid (FlOk base sl 0 0 (slC sl)) := flOk_start base sl
    have HROW : Hid (Lies W w.heap.size (cellsN .i32 (slC sl)).toArray 21) := h2.row
    have HBOX : Hid (Lies W (w.heap.size + 1) #[.slice (some ⟨w.heap.size, 0, none⟩) (s.size + ps.length) (s.size + ps.length)] 22) := h2.box
    have HBEL : Hid (Below w.heap.size w W) := h2.bel
    have HD : Hid (W.heap[D]? = some (.deferred (some []))) := hK
    have hWlt := h2.pbx.lt
    rw [hlr] at hlen
    rw [World.size_alloc] at hD
    clear hcnt h1 h2 hK
    gi_wp2
    have HIT : Hid ((W.iter s 0).heap[W.heap.size]? = some (.stringIter s 0)) := World.iter_heap W s 0
    gi_loopw [10] (fun av wr => ∃ (k aa : Nat) (cs : List Int), av = .int .i64 aa ∧ k ≤ s.size ∧ Hid (FlOk base sl k aa cs) ∧ Hid (Lies wr w.heap.size (cellsN .i32 cs).toArray 21) ∧ Hid (Lies wr (w.heap.size + 1) #[.slice (some ⟨w.heap.size, 0, none⟩) (s.size + ps.length) (s.size + ps.length)] 22) ∧ Hid (wr.heap[D]? = some (.deferred (some []))) ∧ Hid (wr.heap[W.heap.size]? = some (.stringIter s k)) ∧ Hid (Below w.heap.size w wr)) (fun _ wr => s.size - wr.iterPos W.heap.size)
    case atStart => exact ⟨0, 0, slC sl, rfl, Nat.zero_le _, HFL0, HROW.out.alloc _, HBOX.out.alloc _, (Below.heap_alloc _ _ _ (Array.getElem?_eq_some_iff.1 HD.out).1).trans HD.out, HIT, HBEL.out.alloc HBEL.out.size _⟩
    case round =>
      obtain ⟨k, aa, cs, rfl, hk, HFL, HRW, HBX, HDD, HI, HBB⟩ := hrel
      have hib := (Array.getElem?_eq_some_iff.1 HI.out).1
      by_cases hp : k < s.size
      · have hnx : ∀ ty, (Instr.next (.pointer (some ⟨W.heap.size, 0, none⟩)) true ty).run Tryz.prog wr = .ok (.tuple #[.bool true, .int .i64 k, .int .i32 (s[k]'hp).toNat]) (wr.iterAt W.heap.size s (k + 1)) := fun ty => Lib.run_next_ascii_at wr W.heap.size s k ty HI.out hp (HAS.out k hp)
        have hbk := HBA.out k hp
        have hkb : k < base.length := by rw [hlr]; exact hp
        have hbk2 : base[k] = ((s[k].toNat : Nat) : Int) := by
          rw [List.getElem?_eq_getElem hkb] at hbk
          injection hbk
        have hDlt : D < W.heap.size := (Array.getElem?_eq_some_iff.1 HD.out).1
        have HRI : Hid (Lies (wr.iterAt W.heap.size s (k + 1)) w.heap.size (cellsN .i32 cs).toArray 21) := (Lib.iterAt_other _ _ _ _ _ (by omega)).trans HRW.out
        have HXI : Hid (Lies (wr.iterAt W.heap.size s (k + 1)) (w.heap.size + 1) #[.slice (some ⟨w.heap.size, 0, none⟩) (s.size + ps.length) (s.size + ps.length)] 22) := (Lib.iterAt_other _ _ _ _ _ (by omega)).trans HBX.out
        have HDI : Hid ((wr.iterAt W.heap.size s (k + 1)).heap[D]? = some (.deferred (some []))) := (Lib.iterAt_other _ _ _ _ _ (by omega)).trans HDD.out
        have HII : Hid ((wr.iterAt W.heap.size s (k + 1)).heap[W.heap.size]? = some (.stringIter s (k + 1))) := Lib.iterAt_heap _ _ s k _ HI.out
        have HBI : Hid (Below w.heap.size w (wr.iterAt W.heap.size s (k + 1))) := Lib.below_iterAt HBB.out (by omega) _ _
        have hsI : W.heap.size < (wr.iterAt W.heap.size s (k + 1)).heap.size := by rw [Lib.iterAt_size]; exact hib
        clear hbk
        generalize wr.iterAt W.heap.size s (k + 1) = wi at hnx HRI HXI HDI HII HBI hsI
        have d1 := HXI.out.cell 0
        simp at d1
        gi_wp2
        gi_loopw [10] (fun av wj => wj = wi ∧ ∃ ab : Nat, av = .int .i64 ab ∧ ab < s.size + ps.length ∧ Hid (FlOk base sl k ab cs)) (fun av _ => s.size + ps.length - (intOf av).toNat)
        case atStart =>
          have := HFL.out.next HCNT.out hkb
          exact ⟨rfl, aa, rfl, by omega, HFL⟩
        case round =>
          obtain ⟨rfl, ab, rfl, hab, HFB⟩ := hrel
          have habl : ab < sl.length := by omega
          have hsl : sl[ab]? = some sl[ab] := List.getElem?_eq_getElem habl
          cases hso : sl[ab] with
          | some r =>
            rw [hso] at hsl
            obtain ⟨hcs, hfl⟩ := HFB.out.pass (by omega) r hsl
            have hr := HBIG.out r (by rw [← hso]; exact List.getElem_mem habl)
            have HFB2 : Hid (FlOk base sl k (ab + 1) cs) := hfl
            have hnext := hfl.next HCNT.out hkb
            have e0 := cellsN_cell HRI.out ab r hcs
            have hne : (r != 0) = true := by simp; omega
            have hab' : (ab : Int) < (s.size : Int) + ps.length := by omega
            clear hcs hfl hsl hso
            gi_wp2
            exact ⟨⟨by trivial, ab + 1, by go_num, by omega, HFB2⟩, by simp [intOf]; omega⟩
          | none =>
            rw [hso] at hsl
            obtain ⟨hcs, hfl⟩ := HFB.out.lay hkb hsl
            rw [hbk2] at hfl
            have HFB2 : Hid (FlOk base sl (k + 1) (ab + 1) (cs.set ab ((s[k].toNat : Nat) : Int))) := hfl
            have e0 := cellsN_cell HRI.out ab 0 hcs
            have fz := HRI.out.frozen ab
            have hab' : (ab : Int) < (s.size : Int) + ps.length := by omega
            have HR2 : Hid (Lies (wr.setCell ⟨w.heap.size, ab, none⟩ (.int .i32 ((s[k].toNat : Nat) : Int))) w.heap.size (cellsN .i32 (cs.set ab ((s[k].toNat : Nat) : Int))).toArray 21) := cellsN_set HRI.out ab _
            have HX2 : Hid (Lies (wr.setCell ⟨w.heap.size, ab, none⟩ (.int .i32 ((s[k].toNat : Nat) : Int))) (w.heap.size + 1) #[.slice (some ⟨w.heap.size, 0, none⟩) (s.size + ps.length) (s.size + ps.length)] 22) := HXI.out.set_other (by simp) _
            have HD2 : Hid ((wr.setCell ⟨w.heap.size, ab, none⟩ (.int .i32 ((s[k].toNat : Nat) : Int))).heap[D]? = some (.deferred (some []))) := (Below.heap_setCell _ _ _ _ (show D ≠ w.heap.size by omega)).trans HDI.out
            have HI2 : Hid ((wr.setCell ⟨w.heap.size, ab, none⟩ (.int .i32 ((s[k].toNat : Nat) : Int))).heap[W.heap.size]? = some (.stringIter s (k + 1))) := (Below.heap_setCell _ _ _ _ (show W.heap.size ≠ w.heap.size by omega)).trans HII.out
            have HB2 : Hid (Below w.heap.size w (wr.setCell ⟨w.heap.size, ab, none⟩ (.int .i32 ((s[k].toNat : Nat) : Int)))) := HBI.out.setCell (p := ⟨w.heap.size, ab, none⟩) (Nat.le_refl _) _
            clear hcs hfl hsl hso
            gi_wp2
            refine ⟨⟨k + 1, ab + 1, _, by go_num, by omega, HFB2, HR2, HX2, HD2, HI2, HB2⟩, ?_⟩
            simp only [World.iterPos, HI2.out, HI.out]
            omega
      · have hnx : ∀ ty, (Instr.next (.pointer (some ⟨W.heap.size, 0, none⟩)) true ty).run Tryz.prog wr = .ok (.tuple #[.bool false]) wr := fun ty => Lib.run_next_end_at wr W.heap.size s k ty HI.out hp
        obtain rfl : k = base.length := by omega
        have HDN : Hid (cs = insAll base ps) := by
          show _ = _
          rw [HFL.out.done HCNT.out, HFIL.out]
        have d1 := HBX.out.cell 0
        simp at d1
        gi_wp2
        refine ⟨by simp, .inl ⟨_, _, rfl, run_takeDeferred HDD.out, ?_⟩⟩
        refine ⟨_, results_tmp rfl _ _ _, _, rfl, ?_, ?_⟩
        · rw [HBASE.out, ← HDN.out]
          have hcl : cs.length = s.size + ps.length := by rw [HDN.out, insAll_length base ps HOK'.out, hlr]
          refine ⟨by rw [cellsN_length, hcl, Nat.mul_one], .inr ⟨w.heap.size, s.size + ps.length, (cellsN .i32 cs).toArray, rfl, Nat.le_refl _, (World.putObj_heap_other (by omega)).trans HRW.out, Nat.le_refl _, by unfold maxLen; omega, by simp [cellsN, hcl], ?_⟩⟩
          rw [Nat.mul_one, ← hcl]
          show List.take cs.length (cellsN .i32 cs) = _
          rw [← cellsN_length .i32 cs, List.take_length]
        · exact HBB.out.trans ⟨rfl, rfl, rfl, by simp [World.putObj], fun j hj => World.putObj_heap_other (by omega)⟩
end Go.Proofs.YtedgimkffkflbabGreatDoor
