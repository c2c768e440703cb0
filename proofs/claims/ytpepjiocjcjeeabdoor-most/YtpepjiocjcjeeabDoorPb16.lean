/-
  header.begin.
-/
import Derived.Test.YtpepjiocjcjeeabDoorPa16
namespace Go.Proofs.YtpepjiocjcjeeabDoor
open Go.RowKit

theorem hd_drewN {B h : Nat} {W : World} {ps : List Plc} {v : Value} (hh : Hd B W h ps v) (n : Nat) : Hd B (W.drewN n) h ps v := ⟨hh.hd, ownX_keep hh.own (fun _ _ => rfl)⟩
set_option maxRecDepth 100000 in
set_option maxHeartbeats 4000000 in
theorem hbeg_any (l : List UInt8) (ps : List Plc) (f t h cap B : Nat) (ra : Option Addr) (v : Value) (w : World) (hft : f < t) (htl : t ≤ l.length) (hs : l.length ≤ 140737488355328) (hpl : ps.length ≤ 4096) (hh : Hd B w h ps v) (hB : B ≤ w.heap.size) (hr : Bts ra (stE l f t) w) (ht : Table w) :
    Calls Tryd.prog 42 #[.pointer (some ⟨h, 0, none⟩), .slice ra (t - f) cap, .int .i64 (f : Int)] w fun e w' => e = .returned (.agg #[.int .i64 ((spE (begH l ps f t)).1 : Int), .int .i64 ((spE (begH l ps f t)).2 : Int)]) ∧ (∃ v', Hd B w' h (psV (begH l ps f t) ps) v') ∧ Chg (fun k => k = h ∨ Fp B w k) w w' := by
  have hsl : (stE l f t).length = t - f := stE_len l f t htl
  obtain ⟨i0, hi, hz0, hz1, hz2⟩ := info_parts infoPl
  obtain ⟨pa, pc, rfl⟩ : ∃ pa pc, v = .slice pa ps.length pc := by
    rcases hh.own.2 with ⟨rfl, h0⟩ | ⟨g, cp, cur, rfl, _⟩
    · exact ⟨none, 0, by rw [h0]⟩
    · exact ⟨_, cp, rfl⟩
  obtain ⟨g, o, rfl, hg, hrow⟩ := hr.resolve_left (fun e => by rw [e] at hsl; simp at hsl; omega)
  obtain ⟨W1, hW1⟩ : ∃ W1, W1 = w.alloc (.cells #[.int .i64 0, .int .i64 0] 27) := ⟨_, rfl⟩
  have hlt := hh.hd.lt
  have hb1 : Below w.heap.size w W1 := by rw [hW1]; exact (Below.refl _ _).alloc (Nat.le_refl _) _
  have HW1 : Hid (w.alloc (.cells #[.int .i64 0, .int .i64 0] 27) = W1) := hW1.symm
  have HSP : Hid (Lies W1 w.heap.size #[.int .i64 0, .int .i64 0] 27) := by rw [hW1]; exact Lies.new w _ _
  have HH1 : Hid (Hd B W1 h ps (.slice pa ps.length pc)) := ⟨hh.hd.below hb1 hlt, by rw [hW1]; exact hh.own.alloc _⟩
  have HC1 : Hid (Chg (Fp B w) w W1) := Chg.of_below hb1
  have HRW : Hid (∀ j, (hj : j < (stE l f t).length) → W1.cell? ⟨g, o + j, none⟩ = some (.int .u8 ((stE l f t)[j].toNat : Int))) := fun j hj => (hb1.cell (p := ⟨g, o + j, none⟩) hg).trans (hrow j hj)
  have HBD : Hid (Calls Tryd.prog 51 #[.int .i64 11, .slice (some ⟨g, o, none⟩) (t - f) cap] W1 fun e w' => e = .returned (.int .i64 (badN 11 (stE l f t) : Int)) ∧ w' = W1) := by
    have := bad_anyB 11 (tx (stE l f t)) g o cap W1 (tab_below ht hb1) (fun j hj => HRW.out j (by rw [tx_size] at hj; exact hj)) (by rw [tx_size, hsl]; unfold maxLen; omega)
    rw [tx_size, tx_list, hsl] at this
    exact this
  have hbl : badN 11 (stE l f t) ≤ t - f := by have := badN_le 11 (stE l f t); rw [hsl] at this; exact this
  have HGE : Hid (∀ j (hj : j < t - f), (stE l f t)[j]'(by rw [hsl]; exact hj) = l[f + j]'(by omega)) := fun j hj => by
    unfold stE
    rw [List.getElem_drop, List.getElem_take]
  have c0 := HH1.out.hd.cell 0
  rw [show (#[Value.slice pa ps.length pc] : Array Value)[0]? = some (.slice pa ps.length pc) from rfl] at c0
  have s0 := HSP.out.cell 0
  have s1 := HSP.out.cell 1
  have y0 := HSP.out.frozen 0
  have y1 := HSP.out.frozen 1
  simp only [List.getElem?_toArray, List.getElem?_cons_zero, List.getElem?_cons_succ] at s0 s1
  have hplI : (ps.length : Int) ≤ 4096 := by omega
  have HBG : Hid (begH l ps f t = if badN 11 (stE l f t) = 0 ∨ badN 11 (stE l f t) = t - f ∨ l[f + badN 11 (stE l f t)]? ≠ some 58 then .error (160, f + badN 11 (stE l f t)) else if ps.length = 4096 then .error (160, f) else .ok (ps ++ [⟨f, f + badN 11 (stE l f t), t⟩])) := rfl
  have h58 : (⟨#[58]⟩ : ByteArray)[0] = 58 := rfl
  have hzc : ((58 : UInt8).toNat : Int) = 58 := rfl
  clear hh hr hrow hW1 hb1
  generalize badN 11 (stE l f t) = m at *
  have em : IntKind.i64.wrap ((f : Int) + (m : Int)) = (f : Int) + (m : Int) := by rw [IntKind.wrap_i64]; omega
  have ef : (f : Int) + ((t - f : Nat) : Int) = (t : Int) := by omega
  have ew : IntKind.i64.wrap ((f : Int) + ((t - f : Nat) : Int)) = (t : Int) := by rw [ef, IntKind.wrap_i64]; omega
  by_cases hm0 : m = 0
  · have hmI : ((m : Int) == 0) = true := by rw [beq_iff_eq]; omega
    have HF : Hid (begH l ps f t = .error (160, f + m)) := by rw [HBG.out, if_pos (.inl hm0)]; exact rfl
    clear hm0 HBG
    go_enter Tryd.func42, Tryd.ntmps42
    go_wp2_with (first
      | (go_at_call 51; refine HBD.out.mono ?_; rintro e w2 ⟨rfl, h2⟩; rw [h2]; clear h2 w2)
      | (rw [HW1.out]))
    go_quiet (fail)
    go_wp2_with fail
    obtain ⟨q1, q2, q3⟩ := sp_set (W := W1.drewN nq) (hd_drewN HH1.out nq) (HSP.out.drewN nq) (HC1.out.drewN nq) (Nat.le_refl _) (by omega) 160 ((f : Int) + (m : Int))
    rw [HF.out]
    refine bodyPost_ret (ret_sp rfl _ _ w.heap.size #[.int .i64 160, .int .i64 ((f : Int) + (m : Int))] _ rfl q1 Tryd.underlying27 rfl infoSp2) rfl ⟨?_, ⟨_, q2⟩, q3.mono (fun _ hk => .inr hk)⟩
    show Ending.returned (.agg #[.int .i64 160, .int .i64 ((f : Int) + (m : Int))]) = .returned (.agg #[.int .i64 160, .int .i64 ((f + m : Nat) : Int)])
    rw [show ((f + m : Nat) : Int) = (f : Int) + (m : Int) by omega]
  · have hmI : ((m : Int) == 0) = false := by rw [beq_eq_false_iff_ne]; omega
    by_cases hme : m = t - f
    · have hmE : ((m : Int) == ((t - f : Nat) : Int)) = true := by rw [beq_iff_eq]; omega
      have HF : Hid (begH l ps f t = .error (160, f + m)) := by rw [HBG.out, if_pos (.inr (.inl hme))]; exact rfl
      clear hm0 hme HBG
      go_enter Tryd.func42, Tryd.ntmps42
      go_wp2_with (first
        | (go_at_call 51; refine HBD.out.mono ?_; rintro e w2 ⟨rfl, h2⟩; rw [h2]; clear h2 w2)
        | (rw [HW1.out]))
      go_quiet (fail)
      go_wp2_with fail
      obtain ⟨q1, q2, q3⟩ := sp_set (W := W1.drewN nq) (hd_drewN HH1.out nq) (HSP.out.drewN nq) (HC1.out.drewN nq) (Nat.le_refl _) (by omega) 160 ((f : Int) + (m : Int))
      rw [HF.out]
      refine bodyPost_ret (ret_sp rfl _ _ w.heap.size #[.int .i64 160, .int .i64 ((f : Int) + (m : Int))] _ rfl q1 Tryd.underlying27 rfl infoSp2) rfl ⟨?_, ⟨_, q2⟩, q3.mono (fun _ hk => .inr hk)⟩
      show Ending.returned (.agg #[.int .i64 160, .int .i64 ((f : Int) + (m : Int))]) = .returned (.agg #[.int .i64 160, .int .i64 ((f + m : Nat) : Int)])
      rw [show ((f + m : Nat) : Int) = (f : Int) + (m : Int) by omega]
    · have hmE : ((m : Int) == ((t - f : Nat) : Int)) = false := by rw [beq_eq_false_iff_ne]; omega
      have hmlt : m < t - f := by omega
      have hmltI : (m : Int) < ((t - f : Nat) : Int) := by omega
      have cm := HRW.out m (by rw [hsl]; exact hmlt)
      rw [HGE.out m hmlt] at cm
      have hget : l[f + m]? = some (l[f + m]'(by omega)) := List.getElem?_eq_getElem (by omega)
      rw [hget] at HBG
      have HM0 : Hid (¬ m = 0) := hm0
      have HME : Hid (¬ m = t - f) := hme
      clear hget hm0 hme
      generalize l[f + m]'(by omega) = x at *
      by_cases hx : x = 58
      · have hxI := u8nv (m := 58) hx
        by_cases hp : ps.length = 4096
        · have hpI : ((ps.length : Int) == 4096) = true := by rw [beq_iff_eq]; omega
          have HF : Hid (begH l ps f t = .error (160, f)) := by rw [HBG.out, if_neg (fun e => e.elim HM0.out (fun e => e.elim HME.out (fun e => e (by rw [hx])))), if_pos hp]; exact rfl
          clear hx hp HBG
          go_enter Tryd.func42, Tryd.ntmps42
          go_wp2_with (first
            | (go_at_call 51; refine HBD.out.mono ?_; rintro e w2 ⟨rfl, h2⟩; rw [h2]; clear h2 w2)
            | (rw [HW1.out]))
          go_quiet (fail)
          go_wp2_with fail
          obtain ⟨q1, q2, q3⟩ := sp_set (W := W1.drewN nq) (hd_drewN HH1.out nq) (HSP.out.drewN nq) (HC1.out.drewN nq) (Nat.le_refl _) (by omega) 160 ((f : Int))
          rw [HF.out]
          refine bodyPost_ret (ret_sp rfl _ _ w.heap.size #[.int .i64 160, .int .i64 ((f : Int))] _ rfl q1 Tryd.underlying27 rfl infoSp2) rfl ⟨?_, ⟨_, q2⟩, q3.mono (fun _ hk => .inr hk)⟩
          exact rfl
        · have hpI : ((ps.length : Int) == 4096) = false := by rw [beq_eq_false_iff_ne]; omega
          have HF : Hid (begH l ps f t = .ok (ps ++ [⟨f, f + m, t⟩])) := by rw [HBG.out, if_neg (fun e => e.elim HM0.out (fun e => e.elim HME.out (fun e => e (by rw [hx])))), if_neg hp]; exact rfl
          have HP : Hid (¬ ps.length = 4096) := hp
          clear hx hp HBG
          go_enter Tryd.func42, Tryd.ntmps42
          go_wp2_with (first
            | (go_at_call 51; refine HBD.out.mono ?_; rintro e w2 ⟨rfl, h2⟩; rw [h2]; clear h2 w2)
            | (rw [HW1.out]))
          go_quiet (fail)
          have HO1 := (hd_drewN HH1.out nq).own
          have hb1 : B ≤ W1.heap.size := Nat.le_trans hB HC1.out.size
          go_wp2_with (at_builtin; refine wpList_append_own _ rfl _ _ 44 rfl B 70 i0 (.agg #[.int .i64 0, .int .i64 0, .int .i64 0]) 3 24 Tryd.underlying44 hi hz0 hz1 hz2 rfl (by decide) _ _ _ rfl (HO1.alloc _) ⟨(W1.drewN nq).heap.size, 0, none⟩ 1 1 [Value.int .i64 (f : Int), .int .i64 ((f : Int) + (m : Int)), .int .i64 (t : Int)] rfl rfl ?d1 ?d2 ?d3 ?d4 ?d5 ?_)
          case d1 =>
            intro j u hj
            rw [Addr.add_lit, Nat.zero_add]
            exact ((Lies.new (W1.drewN nq) _ _).cell j).trans (by rw [List.getElem?_toArray]; exact hj)
          case d2 =>
            intro u hu
            simp at hu
            rcases hu with rfl | rfl | rfl <;> rfl
          case d3 => unfold maxLen; omega
          case d4 => omega
          case d5 => simp; omega
          intro v3 w3 ho3 hg3 _
          have hoA := HO1.alloc (.cells #[.int .i64 (f : Int), .int .i64 ((f : Int) + (m : Int)), .int .i64 (t : Int)] 70)
          have hC3 : Chg (Fp B w) w w3 := chg_pl ((HC1.out.drewN nq).alloc _) hoA hg3 (fun k hk => hk)
          have hH3 : Lies w3 h #[.slice pa ps.length pc] 46 := lies_grown ((HH1.out.hd.drewN nq).alloc _) hoA hg3 (by decide)
          have hS3 : Lies w3 w.heap.size #[.int .i64 0, .int .i64 0] 27 := lies_grown ((HSP.out.drewN nq).alloc _) hoA hg3 (by decide)
          have hO3 : w3.ownsRow B 70 3 v3 (ps ++ [(⟨f, f + m, t⟩ : Plc)]).length (cellsPl (ps ++ [⟨f, f + m, t⟩])) := by
            rw [cellsPl_append, cellsPl_one, List.length_append]
            show w3.ownsRow B 70 3 v3 (ps.length + 1) (cellsPl ps ++ [.int .i64 (f : Int), .int .i64 ((f + m : Nat) : Int), .int .i64 (t : Int)])
            rw [show ((f + m : Nat) : Int) = (f : Int) + (m : Int) by omega]
            exact ho3
          obtain ⟨a3, n3, c3, rfl⟩ : ∃ a n c, v3 = .slice a n c := by
            rcases hO3.2 with ⟨rfl, _⟩ | ⟨g', cp, cur, rfl, _⟩
            · exact ⟨_, _, _, rfl⟩
            · exact ⟨_, _, _, rfl⟩
          have hnh : ∀ k, (Value.slice a3 n3 c3).ownBlock = some k → k ≠ h := fun k hk e => by
            subst e
            rcases hO3.2 with ⟨e1, _⟩ | ⟨g', cp, cur, e1, _, hg', _⟩
            · rw [e1] at hk; cases hk
            · rw [e1] at hk
              cases hk
              exact absurd (lies_kind hH3 hg') (by decide)
          have HH4 : Hid (Hd B (w3.setCell ⟨h, 0, none⟩ (.slice a3 n3 c3)) h (ps ++ [⟨f, f + m, t⟩]) (.slice a3 n3 c3)) := ⟨hH3.set 0 _, ownX_keep hO3 (fun j hj => Below.heap_setCell _ _ _ _ (hnh j hj))⟩
          have HS4 : Hid (Lies (w3.setCell ⟨h, 0, none⟩ (.slice a3 n3 c3)) w.heap.size #[.int .i64 0, .int .i64 0] 27) := hS3.set_other (a := ⟨h, 0, none⟩) (by dsimp only; omega) _
          have HC4 : Hid (Chg (fun k => k = h ∨ Fp B w k) w (w3.setCell ⟨h, 0, none⟩ (.slice a3 n3 c3))) := (hC3.mono (fun _ hk => .inr hk)).set (p := ⟨h, 0, none⟩) (.inl (.inl rfl)) _
          have d0 := hH3.cell 0
          have d1 := hH3.frozen 0
          rw [show (#[Value.slice pa ps.length pc] : Array Value)[0]? = some (.slice pa ps.length pc) from rfl] at d0
          have x0 := HS4.out.cell 0
          have x1 := HS4.out.cell 1
          have x2 := HS4.out.frozen 0
          have x3 := HS4.out.frozen 1
          simp only [List.getElem?_toArray, List.getElem?_cons_zero, List.getElem?_cons_succ] at x0 x1
          obtain ⟨W4, hW4⟩ : ∃ W4, W4 = w3.setCell ⟨h, 0, none⟩ (.slice a3 n3 c3) := ⟨_, rfl⟩
          rw [← hW4] at HH4 HS4 HC4 x0 x1 x2 x3
          have HW4 : Hid (w3.setCell ⟨h, 0, none⟩ (.slice a3 n3 c3) = W4) := hW4.symm
          clear hW4 ho3 hg3 hoA hC3 hH3 hS3 hO3 hnh HO1
          go_wp2_with (rw [HW4.out])
          obtain ⟨q1, q2, q3⟩ := sp_set HH4.out HS4.out HC4.out (Nat.le_refl _) (by omega) 0 0
          rw [HF.out]
          refine bodyPost_ret (ret_sp rfl _ _ w.heap.size #[.int .i64 0, .int .i64 0] _ rfl q1 Tryd.underlying27 rfl infoSp2) rfl ⟨rfl, ⟨_, q2⟩, q3⟩
      · have hxI := u8nw (m := 58) hx
        have HF : Hid (begH l ps f t = .error (160, f + m)) := by rw [HBG.out, if_pos (.inr (.inr (fun e => hx (Option.some.inj e))))]; exact rfl
        clear hx HBG
        go_enter Tryd.func42, Tryd.ntmps42
        go_wp2_with (first
          | (go_at_call 51; refine HBD.out.mono ?_; rintro e w2 ⟨rfl, h2⟩; rw [h2]; clear h2 w2)
          | (rw [HW1.out]))
        go_quiet (fail)
        go_wp2_with fail
        obtain ⟨q1, q2, q3⟩ := sp_set (W := W1.drewN nq) (hd_drewN HH1.out nq) (HSP.out.drewN nq) (HC1.out.drewN nq) (Nat.le_refl _) (by omega) 160 ((f : Int) + (m : Int))
        rw [HF.out]
        refine bodyPost_ret (ret_sp rfl _ _ w.heap.size #[.int .i64 160, .int .i64 ((f : Int) + (m : Int))] _ rfl q1 Tryd.underlying27 rfl infoSp2) rfl ⟨?_, ⟨_, q2⟩, q3.mono (fun _ hk => .inr hk)⟩
        show Ending.returned (.agg #[.int .i64 160, .int .i64 ((f : Int) + (m : Int))]) = .returned (.agg #[.int .i64 160, .int .i64 ((f + m : Nat) : Int)])
        rw [show ((f + m : Nat) : Int) = (f : Int) + (m : Int) by omega]
end Go.Proofs.YtpepjiocjcjeeabDoor
