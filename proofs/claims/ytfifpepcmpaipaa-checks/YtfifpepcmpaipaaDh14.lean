/-
  The document's Stuff.
-/
import Derived.Test.YtfifpepcmpaipaaDg14
import Derived.Test.YtfifpepcmpaipaaSf14
namespace Go.Proofs.Ytfifpepcmpaipaa
open Go.RowKit

set_option maxHeartbeats 1000000 in
theorem estuff_bad (a : Option Addr) (l : List UInt8) (n cap : Nat) (hn : n = l.length) (w : World) (hp : PeOk w ⟨a, l, cap⟩) (hl : l.length ≤ 1099511627776) (hz : ¬ wholeI l = 0) : Calls Try.prog 16 #[.slice a n cap] w fun e w' => e = .returned (.tuple #[.slice none 0 0, .int .i64 (wholeI l)]) ∧ Below w.heap.size w w' := by
  subst hn
  have HW := ewhole_any a l l.length cap rfl w hp hl
  have hzz : (wholeI l != 0) = true := by simp [hz]
  clear hz hp
  generalize wholeI l = Z at *
  go_enter Try.func16, Try.ntmps16
  go_wp2_with fail
  refine HW.mono ?_
  rintro e w2 ⟨rfl, hB⟩
  go_wp2_with fail
  go_ret2
  exact ⟨rfl, hB⟩
theorem flat_next (ys : List Pe) (j : Nat) (hj : j < ys.length) : ((ys.take (j + 1)).map (fun x => sx x.l)).flatten = ((ys.take j).map (fun x => sx x.l)).flatten ++ sx ys[j].l := by
  rw [List.take_succ_eq_append_getElem hj, List.map_append, List.flatten_append]
  simp only [List.map_cons, List.map_nil, List.flatten_cons, List.flatten_nil, List.append_nil]
theorem flat_bound : ∀ (xs : List (List UInt8)), (xs.map sx).flatten.length ≤ (xs.map List.length).sum + 3 * xs.length
  | [] => by simp
  | x :: xs => by
    have := flat_bound xs
    have h1 : (sx x).length ≤ x.length + 3 := by unfold sx sc; split <;> simp
    simp only [List.map_cons, List.flatten_cons, List.length_append, List.sum_cons, List.length_cons]
    omega
theorem lit2 (w : World) : Bts (some ⟨w.heap.size, 0, none⟩) [13, 10] (w.alloc (.cells #[.int .u8 13, .int .u8 10] 5)) := by
  refine .inr ⟨w.heap.size, 0, rfl, by simp, fun j hj => ?_⟩
  rw [Nat.zero_add]
  rcases (by simp at hj; omega : j = 0 ∨ j = 1) with rfl | rfl <;> simp
set_option maxHeartbeats 4000000 in
set_option maxRecDepth 20000 in
theorem estuff_ok (a : Option Addr) (l : List UInt8) (n cap : Nat) (hn : n = l.length) (w : World) (hp : PeOk w ⟨a, l, cap⟩) (hl : l.length ≤ 4294967296) (hz : wholeI l = 0) : Calls Try.prog 16 #[.slice a n cap] w fun e w' => ∃ v, e = .returned (.tuple #[v, .int .i64 0]) ∧ w'.ownsRow w.heap.size 5 1 v (stuffL l).length (cellsB (stuffL l)) ∧ Below w.heap.size w w' := by
  subst hn
  have HW := ewhole_any a l l.length cap rfl w hp (by omega)
  have HLI : Hid (∀ w', Below w.heap.size w w' → Calls Try.prog 33 #[.slice a l.length cap] w' fun e w'' => ∃ v ys ra rc, e = .returned (.tuple #[v, .slice ra (lns [] l).2.length rc]) ∧ Lne w' l v ys w'' ∧ PeOk w' ⟨ra, (lns [] l).2, rc⟩) := fun w' hb => elines_any a l l.length cap rfl w' (hp.below hb) (by omega)
  have HSL : Hid (((lns [] l).1.map sx).flatten ++ [46, 13, 10] = stuffL l) := stuff_lns hz
  have HSB : Hid ((stuffL l).length ≤ 17179869184) := by
    have := stf_len l true
    unfold stuffL
    show _ ≤ _
    rw [List.length_append]
    simp
    omega
  have HRL : Hid ((lns [] l).1.length ≤ l.length ∧ ∀ x ∈ (lns [] l).1, x.length ≤ l.length) := by have := lns_len l []; exact ⟨this.1, by simpa using this.2.2⟩
  rw [hz] at HW
  clear hz hp
  go_enter Try.func16, Try.ntmps16
  go_wp2_with fail
  refine HW.mono ?_
  rintro e w1 ⟨rfl, hB1⟩
  have HB1 : Hid (Below w.heap.size w w1) := hB1
  clear HW hB1
  go_wp2_with fail
  refine (HLI.out w1 HB1.out).mono ?_
  rintro e w3 ⟨v, ys, ra, rc, rfl, hL, -⟩
  have HB3 : Hid (Below w.heap.size w w3) := HB1.out.trans (hL.be.mono HB1.out.size)
  have HO3 : Hid (Ow celP 27 1 w3 v ys) := hL.ow
  have HLS : Hid (ys.map Pe.l = (lns [] l).1) := hL.ls
  have HPK : Hid (∀ x ∈ ys, PeOk w3 x ∧ x.l.length ≤ 4294967296) := fun x hx => ⟨(hL.ok x hx).below hL.be, by
    have : x.l ∈ (lns [] l).1 := by rw [← HLS.out]; exact List.mem_map_of_mem hx
    have := HRL.out.2 x.l this
    omega⟩
  have HFL : Hid ((ys.map (fun x => sx x.l)).flatten ++ [46, 13, 10] = stuffL l) := by
    rw [← HSL.out, ← HLS.out, List.map_map]
    exact rfl
  have HYL : Hid (ys.length ≤ 4294967296) := by have := HRL.out.1; rw [← HLS.out, List.length_map] at this; show _ ≤ _; omega
  obtain ⟨va, vc, hv, hvg⟩ := hL.ow.shape
  subst hv
  have HVG : Hid (ys ≠ [] → ∃ g, va = some ⟨g, 0, none⟩) := hvg
  have HPB : Hid (∀ j, ((ys.take j).map (fun x => sx x.l)).flatten.length + 3 ≤ 17179869184) := fun j => by
    have h1 : ((ys.take j).map (fun x => sx x.l)).flatten.length ≤ ((ys.map (fun x => sx x.l)).flatten).length := by
      conv => rhs; rw [← List.take_append_drop j ys]
      rw [List.map_append, List.flatten_append, List.length_append]
      omega
    have h2 := congrArg List.length HFL.out
    rw [List.length_append] at h2
    have := HSB.out
    simp only [List.length_cons, List.length_nil] at h2
    omega
  have hyl : ys.length ≤ 4294967296 := HYL.out
  clear hL HLI HLS HRL HSL HB1 hvg
  go_wp2_with fail
  go_loopw [5, 9, 22] (fun ov _ jv wr => ∃ j : Nat, j ≤ ys.length ∧ jv = .int .i64 j ∧ Hid (wr.ownsRow w3.heap.size 5 1 ov ((ys.take j).map (fun x => sx x.l)).flatten.length (cellsB ((ys.take j).map (fun x => sx x.l)).flatten)) ∧ Hid (Below w3.heap.size w3 wr)) (fun _ _ jv _ => ys.length - (intOf jv).toNat)
  case atStart => exact ⟨0, Nat.zero_le _, rfl, by rw [List.take_zero]; exact ⟨rfl, .inl ⟨rfl, rfl⟩⟩, Below.refl _ _⟩
  case round =>
    obtain ⟨j, hj, rfl, HO, HB⟩ := hrel
    by_cases hlt : j < ys.length
    · obtain ⟨gv, rfl⟩ := HVG.out (fun e => by rw [e] at hlt; cases hlt)
      have hcl := pe_cellD (HO3.out.below HB.out) j hlt
      have HNX : Hid (((ys.take (j + 1)).map (fun x => sx x.l)).flatten = ((ys.take j).map (fun x => sx x.l)).flatten ++ sx ys[j].l) := flat_next ys j hlt
      have HPX : Hid (PeOk wr ys[j] ∧ ys[j].l.length ≤ 4294967296) := ⟨(HPK.out _ (List.getElem_mem hlt)).1.below HB.out, (HPK.out _ (List.getElem_mem hlt)).2⟩
      have HPX3 : Hid (Bts ys[j].a ys[j].l w3) := (HPK.out _ (List.getElem_mem hlt)).1.bt
      have hob := HPB.out j
      obtain ⟨oa, oc, hov, -⟩ := own_bts HO.out
      subst hov
      generalize ys[j] = X at *
      obtain ⟨xa, xl, xc⟩ := X
      generalize ((ys.take j).map (fun x => sx x.l)).flatten = o at *
      dsimp only at *
      have hxl : xl.length ≤ 4294967296 := HPX.out.2
      have HXB : Hid (Bts xa xl wr) := HPX.out.1.bt
      have HXN : Hid (xa = none → xc = 0) := HPX.out.1.nn
      by_cases hdot : xl.head? = some 46
      · have HNX2 : Hid (((ys.take (j + 1)).map (fun x => sx x.l)).flatten = ((o ++ [46]) ++ xl) ++ [13, 10]) := by show _ = _; rw [HNX.out]; simp [sx, sc, hdot]
        obtain ⟨x0, xr, rfl⟩ : ∃ x0 xr, xl = x0 :: xr := by cases xl with | nil => cases hdot | cons x r => exact ⟨x, r, rfl⟩
        obtain ⟨gx, ox, rfl, hgx, hrx⟩ := HXB.out.resolve_left (fun e => by cases e)
        have hcx := hrx 0 (by simp)
        rw [Nat.add_zero] at hcx
        have hx46 : x0 = 46 := by simpa using hdot
        have k46 : (((x0 :: xr)[0].toNat : Int) == 46) = true := u8v hx46
        have hpos : (0 : Int) < ((x0 :: xr).length : Int) := by have : 0 < (x0 :: xr).length := (by simp); omega
        clear HNX hdot hrx hx46
        generalize hq0 : (x0 :: xr)[0] = d at *
        clear hq0
        have HXW : Hid (Bts (some ⟨gx, ox, none⟩) (x0 :: xr) w3) := HPX3.out
        generalize x0 :: xr = xl at *
        go_wp2_with (at_builtin; refine wpList_append_byte rfl _ _ rfl w3.heap.size _ o.length o rfl (HO.out.alloc _) wr 46 _ rfl rfl 1 rfl (by omega) HB.out.size ?_; intro v4 w4 hown4 hbel4; apply Hid.out)
        unfold Hid
        have HO4 : Hid (w4.ownsRow w3.heap.size 5 1 v4 (o ++ [46]).length (cellsB (o ++ [46]))) := by unfold Hid; rw [List.length_append]; exact hown4
        have HB4 : Hid (Below w3.heap.size w3 w4) := hbel4 _ _ HB.out (Nat.le_refl _)
        have HX4 : Hid (Bts (some ⟨gx, ox, none⟩) xl w4) := HXW.out.belowB (Nat.le_refl _) HB4.out
        have hob4 : (o ++ [46]).length ≤ 17179869184 := by simp; omega
        obtain ⟨g4, cap4, rfl, -⟩ := own_bts hown4
        have HE4 : Hid (o.length + 1 = (o ++ [46]).length) := by show _ = _; simp
        clear hown4 hbel4 HO HB
        rw [HE4.out] at HO4 ⊢
        generalize o ++ [46] = o4 at *
        go_wp2_with (at_builtin; refine wpList_append_bts rfl _ _ rfl w3.heap.size _ o4.length o4 rfl HO4.out (some ⟨gx, ox, none⟩) xl xc rfl HX4.out (fun e => by cases e) (by omega) HB4.out.size ?_; intro v5 w5 hown5 hbel5; apply Hid.out)
        unfold Hid
        have HO5 : Hid (w5.ownsRow w3.heap.size 5 1 v5 (o4 ++ xl).length (cellsB (o4 ++ xl))) := by unfold Hid; rw [List.length_append]; exact hown5
        have HB5 : Hid (Below w3.heap.size w3 w5) := hbel5 _ _ HB4.out (Nat.le_refl _)
        have hob5 : (o4 ++ xl).length ≤ 34359738368 := by simp; omega
        obtain ⟨g5, cap5, rfl, -⟩ := own_bts hown5
        have HE5 : Hid (o4.length + xl.length = (o4 ++ xl).length) := by show _ = _; simp
        clear hown5 hbel5 HO4 HB4
        rw [HE5.out] at HO5 ⊢
        generalize o4 ++ xl = o5 at *
        have HLT := lit2 w5
        go_wp2_with (at_builtin; refine wpList_append_bts rfl _ _ rfl w3.heap.size _ o5.length o5 rfl (HO5.out.alloc _) (some ⟨w5.heap.size, 0, none⟩) [13, 10] 2 rfl HLT (fun e => by cases e) (by simp; omega) (by simp; exact Nat.le_succ_of_le HB5.out.size) ?_; intro v6 w6 hown6 hbel6; apply Hid.out)
        unfold Hid
        have HO6 : Hid (w6.ownsRow w3.heap.size 5 1 v6 ((ys.take (j + 1)).map (fun x => sx x.l)).flatten.length (cellsB ((ys.take (j + 1)).map (fun x => sx x.l)).flatten)) := by
          unfold Hid
          rw [HNX2.out, List.length_append]
          exact hown6
        have HB6 : Hid (Below w3.heap.size w3 w6) := hbel6 _ _ (HB5.out.alloc HB5.out.size _) (Nat.le_refl _)
        clear hown6 hbel6 HO5 HB5 HLT hcl
        go_wp2_with fail
        go_round
        case rel => exact ⟨j + 1, hlt, by go_num, HO6.out, HB6.out⟩
        case measure => simp [intOf]; omega
      · have HNX2 : Hid (((ys.take (j + 1)).map (fun x => sx x.l)).flatten = (o ++ xl) ++ [13, 10]) := by show _ = _; rw [HNX.out]; simp [sx, sc, hdot]
        by_cases h0 : 0 < xl.length
        · obtain ⟨gx, ox, rfl, hgx, hrx⟩ := HXB.out.resolve_left (fun e => by rw [e] at h0; cases h0)
          have hcx := hrx 0 h0
          rw [Nat.add_zero] at hcx
          have hx46 : ¬ xl[0] = 46 := fun e => hdot (by rw [List.head?_eq_getElem?, List.getElem?_eq_getElem h0, e])
          have k46 : ((xl[0].toNat : Int) == 46) = false := u8w hx46
          have hpos : (0 : Int) < (xl.length : Int) := by omega
          clear HNX hdot hrx hx46
          generalize xl[0] = d at *
          go_wp2_with (at_builtin; refine wpList_append_bts rfl _ _ rfl w3.heap.size _ o.length o rfl HO.out (some ⟨gx, ox, none⟩) xl xc rfl HXB.out (fun e => by cases e) (by omega) HB.out.size ?_; intro v5 w5 hown5 hbel5; apply Hid.out)
          unfold Hid
          have HO5 : Hid (w5.ownsRow w3.heap.size 5 1 v5 (o ++ xl).length (cellsB (o ++ xl))) := by unfold Hid; rw [List.length_append]; exact hown5
          have HB5 : Hid (Below w3.heap.size w3 w5) := hbel5 _ _ HB.out (Nat.le_refl _)
          have hob5 : (o ++ xl).length ≤ 34359738368 := by simp; omega
          obtain ⟨g5, cap5, rfl, -⟩ := own_bts hown5
          have HE5 : Hid (o.length + xl.length = (o ++ xl).length) := by show _ = _; simp
          clear hown5 hbel5 HO HB
          rw [HE5.out] at HO5 ⊢
          generalize o ++ xl = o5 at *
          have HLT := lit2 w5
          go_wp2_with (at_builtin; refine wpList_append_bts rfl _ _ rfl w3.heap.size _ o5.length o5 rfl (HO5.out.alloc _) (some ⟨w5.heap.size, 0, none⟩) [13, 10] 2 rfl HLT (fun e => by cases e) (by simp; omega) (by simp; exact Nat.le_succ_of_le HB5.out.size) ?_; intro v6 w6 hown6 hbel6; apply Hid.out)
          unfold Hid
          have HO6 : Hid (w6.ownsRow w3.heap.size 5 1 v6 ((ys.take (j + 1)).map (fun x => sx x.l)).flatten.length (cellsB ((ys.take (j + 1)).map (fun x => sx x.l)).flatten)) := by
            unfold Hid
            rw [HNX2.out, List.length_append]
            exact hown6
          have HB6 : Hid (Below w3.heap.size w3 w6) := hbel6 _ _ (HB5.out.alloc HB5.out.size _) (Nat.le_refl _)
          clear hown6 hbel6 HO5 HB5 HLT hcl
          go_wp2_with fail
          go_round
          case rel => exact ⟨j + 1, hlt, by go_num, HO6.out, HB6.out⟩
          case measure => simp [intOf]; omega
        · have hpos : ¬ (0 : Int) < (xl.length : Int) := by omega
          clear HNX hdot
          go_wp2_with (at_builtin; refine wpList_append_bts rfl _ _ rfl w3.heap.size _ o.length o rfl HO.out xa xl xc rfl HXB.out HXN.out (by omega) HB.out.size ?_; intro v5 w5 hown5 hbel5; apply Hid.out)
          unfold Hid
          have HO5 : Hid (w5.ownsRow w3.heap.size 5 1 v5 (o ++ xl).length (cellsB (o ++ xl))) := by unfold Hid; rw [List.length_append]; exact hown5
          have HB5 : Hid (Below w3.heap.size w3 w5) := hbel5 _ _ HB.out (Nat.le_refl _)
          have hob5 : (o ++ xl).length ≤ 34359738368 := by simp; omega
          obtain ⟨g5, cap5, rfl, -⟩ := own_bts hown5
          have HE5 : Hid (o.length + xl.length = (o ++ xl).length) := by show _ = _; simp
          clear hown5 hbel5 HO HB
          rw [HE5.out] at HO5 ⊢
          generalize o ++ xl = o5 at *
          have HLT := lit2 w5
          go_wp2_with (at_builtin; refine wpList_append_bts rfl _ _ rfl w3.heap.size _ o5.length o5 rfl (HO5.out.alloc _) (some ⟨w5.heap.size, 0, none⟩) [13, 10] 2 rfl HLT (fun e => by cases e) (by simp; omega) (by simp; exact Nat.le_succ_of_le HB5.out.size) ?_; intro v6 w6 hown6 hbel6; apply Hid.out)
          unfold Hid
          have HO6 : Hid (w6.ownsRow w3.heap.size 5 1 v6 ((ys.take (j + 1)).map (fun x => sx x.l)).flatten.length (cellsB ((ys.take (j + 1)).map (fun x => sx x.l)).flatten)) := by
            unfold Hid
            rw [HNX2.out, List.length_append]
            exact hown6
          have HB6 : Hid (Below w3.heap.size w3 w6) := hbel6 _ _ (HB5.out.alloc HB5.out.size _) (Nat.le_refl _)
          clear hown6 hbel6 HO5 HB5 HLT hcl
          go_wp2_with fail
          go_round
          case rel => exact ⟨j + 1, hlt, by go_num, HO6.out, HB6.out⟩
          case measure => simp [intOf]; omega
    · obtain rfl : j = ys.length := by omega
      have HFN : Hid (((ys.take ys.length).map (fun x => sx x.l)).flatten ++ [46, 13, 10] = stuffL l) := by rw [List.take_length]; exact HFL.out
      have hob := HPB.out ys.length
      obtain ⟨oa, oc, hov, -⟩ := own_bts HO.out
      subst hov
      generalize ((ys.take ys.length).map (fun x => sx x.l)).flatten = o at *
      have HLT := lit3 wr
      go_wp2_with (at_builtin; refine wpList_append_bts rfl _ _ rfl w3.heap.size _ o.length o rfl (HO.out.alloc _) (some ⟨wr.heap.size, 0, none⟩) [46, 13, 10] 3 rfl HLT (fun e => by cases e) (by simp; omega) (by simp; exact Nat.le_succ_of_le HB.out.size) ?_; intro v3 w4 hown3 hbel3; apply Hid.out)
      unfold Hid
      obtain ⟨g3, cap3, rfl, -⟩ := own_bts hown3
      have HO4 : Hid (w4.ownsRow w.heap.size 5 1 (.slice g3 (o.length + [46, 13, 10].length) cap3) (stuffL l).length (cellsB (stuffL l))) := by
        unfold Hid
        rw [← HFN.out, List.length_append]
        exact base_le hown3 HB3.out.size
      have HB4 : Hid (Below w.heap.size w w4) := HB3.out.trans ((hbel3 _ _ (HB.out.alloc HB.out.size _) (Nat.le_refl _)).mono HB3.out.size)
      clear hown3 hbel3 HLT
      go_wp2_with fail
      go_ret2
      exact ⟨_, rfl, HO4.out, HB4.out⟩
end Go.Proofs.Ytfifpepcmpaipaa
