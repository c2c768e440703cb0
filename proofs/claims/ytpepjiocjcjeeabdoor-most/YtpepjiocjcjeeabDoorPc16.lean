/-
  header.take.
-/
import Derived.Test.YtpepjiocjcjeeabDoorPb16
import Derived.Lib.SliceRun
namespace Go.Proofs.YtpepjiocjcjeeabDoor
open Go.RowKit

def sla (a : Option Addr) (k cap : Nat) : Option Addr := if cap = k then a else a.map (·.add k)
set_option maxRecDepth 100000 in
theorem run_slh (a : Option Addr) (n cap p q : Nat) (h1 : p ≤ q) (h2 : q ≤ cap) (w : World) : (Instr.sliceAt 22 (.slice a n cap) (some (.int .i64 (p : Int))) (some (.int .i64 (q : Int))) none).run Tryd.prog w = .ok (.slice (sla a p cap) (q - p) (cap - p)) w := by
  have hu : Tryd.prog.underlying 22 = some (.slice (Tryd.prog.elem 22)) := Tryd.underlying22
  have hs : (sizeOf (Tryd.prog.elem 22)).run Tryd.prog w = .ok 1 w := by
    obtain ⟨i0, hi0, hz0, hz1, hz2⟩ := info_parts info5
    have : (sizeOf 5).run Tryd.prog w = .ok 1 w := by go_simp
    exact this
  rw [run_sliceAt_slice (h := hu), run_slice_lh (ht := hu) (h0 := by omega) (h1 := by omega) (h2 := by omega), hs]
  simp [Result.andThen, sliced, sla]
theorem Fp.later {B k : Nat} {W W' : World} (h : Fp B W' k) (hb : Below W.heap.size W W') : Fp B W k ∨ W.heap.size ≤ k := by
  rcases Nat.lt_or_ge k W.heap.size with hlt | hge
  · obtain ⟨h1, cur, h2⟩ := h
    rw [hb.block k hlt] at h2
    exact .inl ⟨h1, cur, h2⟩
  · exact .inr hge
theorem bts_cut {ad : Option Addr} {l : List UInt8} {w : World} (hb : Bts ad l w) (cap f t : Nat) (hlc : l.length ≤ cap) (htl : t ≤ l.length) : Bts (sla ad f cap) (stE l f t) w := by
  by_cases h0 : stE l f t = []
  · exact .inl h0
  · have hsl := stE_len l f t htl
    have hpos : 0 < (stE l f t).length := List.length_pos_iff.2 h0
    rcases hb with e | ⟨g, o, rfl, hg, hrow⟩
    · subst e
      simp [stE] at h0
    · refine .inr ⟨g, o + f, ?_, hg, fun j hj => ?_⟩
      · unfold sla
        rw [if_neg (by omega)]
        simp [Addr.add]
      · have e : (stE l f t)[j] = l[f + j]'(by omega) := by
          have h5 : (stE l f t)[j]? = l[f + j]? := by
            unfold stE
            rw [List.getElem?_drop, List.getElem?_take_of_lt (by omega)]
          rw [List.getElem?_eq_getElem hj, List.getElem?_eq_getElem (show f + j < l.length by omega)] at h5
          exact Option.some.inj h5
        rw [e, Nat.add_assoc]
        exact hrow (f + j) (by omega)
set_option maxRecDepth 100000 in
set_option maxHeartbeats 4000000 in
theorem htake_any (ad : Option Addr) (l : List UInt8) (cap : Nat) (hlc : l.length ≤ cap) (hcm : cap ≤ 9223372036854775807) (ps : List Plc) (f t h B : Nat) (v : Value) (w : World) (hft : f ≤ t) (htl : t ≤ l.length) (hs : l.length ≤ 140737488355328) (hpl : ps.length ≤ 4096) (hne : t = f → leH (l.drop t) = false) (hh : Hd B w h ps v) (hB : B ≤ w.heap.size) (hr : Bts ad l w) (ht : Table w) :
    Calls Tryd.prog 21 #[.pointer (some ⟨h, 0, none⟩), .slice ad l.length cap, .int .i64 (f : Int), .int .i64 (t : Int)] w fun e w' => e = .returned (.agg #[.int .i64 ((spE (tkH l ps f t)).1 : Int), .int .i64 ((spE (tkH l ps f t)).2 : Int)]) ∧ (∃ v', Hd B w' h (psV (tkH l ps f t) ps) v') ∧ Chg (fun k => k = h ∨ Fp B w k) w w' := by
  have hsl := run_slh ad l.length cap f t hft (by omega)
  have hbc := bts_cut hr cap f t hlc htl
  have hlenS := stE_len l f t htl
  obtain ⟨W1, hW1⟩ : ∃ W1, W1 = w.alloc (.cells #[.int .i64 0, .int .i64 0] 27) := ⟨_, rfl⟩
  have hlt := hh.hd.lt
  have hb1 : Below w.heap.size w W1 := by rw [hW1]; exact (Below.refl _ _).alloc (Nat.le_refl _) _
  have HW1 : Hid (w.alloc (.cells #[.int .i64 0, .int .i64 0] 27) = W1) := hW1.symm
  have HSP : Hid (Lies W1 w.heap.size #[.int .i64 0, .int .i64 0] 27) := by rw [hW1]; exact Lies.new w _ _
  have HH1 : Hid (Hd B W1 h ps v) := ⟨hh.hd.below hb1 hlt, by rw [hW1]; exact hh.own.alloc _⟩
  have HC1 : Hid (Chg (Fp B w) w W1) := Chg.of_below hb1
  have HB1 : Hid (Below w.heap.size w W1) := hb1
  have HLE : Hid (Calls Tryd.prog 39 #[.slice ad l.length cap, .int .i64 (t : Int)] W1 fun e w' => e = .returned (.bool (leH (l.drop t))) ∧ w' = W1) := leb_any ad l l.length cap t rfl (by omega) (by omega) W1 (hr.below hb1)
  have HFO : Hid (Calls Tryd.prog 41 #[.pointer (some ⟨h, 0, none⟩), .slice (sla ad f cap) (t - f) (cap - f), .int .i64 (f : Int)] W1 fun e w' => e = .returned (.agg #[.int .i64 ((spE (foldH l ps f t)).1 : Int), .int .i64 ((spE (foldH l ps f t)).2 : Int)]) ∧ Hd B w' h (psV (foldH l ps f t) ps) v ∧ Chg (Fp B W1) W1 w') := hfold_any l ps f t h (cap - f) B (sla ad f cap) v W1 hft htl hs hpl HH1.out (hbc.below hb1)
  have HBE : Hid (f < t → Calls Tryd.prog 42 #[.pointer (some ⟨h, 0, none⟩), .slice (sla ad f cap) (t - f) (cap - f), .int .i64 (f : Int)] W1 fun e w' => e = .returned (.agg #[.int .i64 ((spE (begH l ps f t)).1 : Int), .int .i64 ((spE (begH l ps f t)).2 : Int)]) ∧ (∃ v', Hd B w' h (psV (begH l ps f t) ps) v') ∧ Chg (fun k => k = h ∨ Fp B W1 k) W1 w') := fun hlt2 => hbeg_any l ps f t h (cap - f) B (sla ad f cap) v W1 hlt2 htl hs hpl HH1.out (Nat.le_trans hB hb1.size) (hbc.below hb1) (tab_below ht hb1)
  have HBC : Hid (Bts (sla ad f cap) (stE l f t) W1) := hbc.below hb1
  have HTK : Hid (tkH l ps f t = if 998 < t - f then .error (160, f + 998) else if leH (l.drop t) = false then .error (160, t) else if (match l[f]? with
    | some c => blB c
    | none => false) = true then foldH l ps f t else begH l ps f t) := rfl
  have s0 := HSP.out.cell 0
  have s1 := HSP.out.cell 1
  have y0 := HSP.out.frozen 0
  have y1 := HSP.out.frozen 1
  simp only [List.getElem?_toArray, List.getElem?_cons_zero, List.getElem?_cons_succ] at s0 s1
  have hftI : (f : Int) ≤ (t : Int) := by omega
  have htlI : (t : Int) ≤ (cap : Int) := by omega
  have e998 : IntKind.i64.wrap ((f : Int) + 998) = (f : Int) + 998 := by rw [IntKind.wrap_i64]; omega
  clear hh hr hbc hW1 hb1
  generalize sla ad f cap = sa at *
  by_cases hbig : 998 < t - f
  · have hbI : (998 : Int) < ((t - f : Nat) : Int) := by omega
    have HF : Hid (tkH l ps f t = .error (160, f + 998)) := by rw [HTK.out, if_pos hbig]; exact rfl
    clear hbig HTK
    go_enter Tryd.func21, Tryd.ntmps21
    go_wp2_with (rw [HW1.out])
    obtain ⟨q1, q2, q3⟩ := sp_set HH1.out HSP.out HC1.out (Nat.le_refl _) (by omega) 160 ((f : Int) + 998)
    rw [HF.out]
    refine bodyPost_ret (ret_sp rfl _ _ w.heap.size #[.int .i64 160, .int .i64 ((f : Int) + 998)] _ rfl q1 Tryd.underlying27 rfl infoSp2) rfl ⟨?_, ⟨_, q2⟩, q3.mono (fun _ hk => .inr hk)⟩
    show Ending.returned (.agg #[.int .i64 160, .int .i64 ((f : Int) + 998)]) = .returned (.agg #[.int .i64 160, .int .i64 ((f + 998 : Nat) : Int)])
    rw [show ((f + 998 : Nat) : Int) = (f : Int) + 998 by omega]
  · have hbI : ¬ (998 : Int) < ((t - f : Nat) : Int) := by omega
    rw [if_neg hbig] at HTK
    cases hle : leH (l.drop t) with
    | false =>
      rw [hle] at HLE HTK
      have HF : Hid (tkH l ps f t = .error (160, t)) := HTK.out
      clear hbig HTK hle
      go_enter Tryd.func21, Tryd.ntmps21
      go_wp2_with (first
        | (go_at_call 39; refine HLE.out.mono ?_; rintro e w2 ⟨rfl, h2⟩; rw [h2]; clear h2 w2)
        | (rw [HW1.out]))
      obtain ⟨q1, q2, q3⟩ := sp_set HH1.out HSP.out HC1.out (Nat.le_refl _) (by omega) 160 (t : Int)
      rw [HF.out]
      refine bodyPost_ret (ret_sp rfl _ _ w.heap.size #[.int .i64 160, .int .i64 (t : Int)] _ rfl q1 Tryd.underlying27 rfl infoSp2) rfl ⟨rfl, ⟨_, q2⟩, q3.mono (fun _ hk => .inr hk)⟩
    | true =>
      have hft2 : f < t := by
        rcases Nat.lt_or_ge f t with h' | h'
        · exact h'
        · rw [hne (by omega)] at hle; cases hle
      rw [hle] at HLE HTK
      have hget : l[f]? = some (l[f]'(by omega)) := List.getElem?_eq_getElem (by omega)
      rw [hget] at HTK
      obtain ⟨g, o, rfl, -, hrow⟩ := HBC.out.resolve_left (fun e => by rw [e] at hlenS; simp at hlenS; omega)
      have r0 := hrow 0 (by rw [hlenS]; omega)
      rw [Nat.add_zero] at r0
      have e0 : (stE l f t)[0]'(by rw [hlenS]; omega) = l[f]'(by omega) := by
        have h5 : (stE l f t)[0]? = l[f]? := by
          unfold stE
          rw [List.getElem?_drop, List.getElem?_take_of_lt (by omega)]
          rfl
        rw [List.getElem?_eq_getElem (by rw [hlenS]; omega), hget] at h5
        exact Option.some.inj h5
      rw [e0] at r0
      have HIB : Hid (∀ wx, Calls Tryd.prog 40 #[.int .u8 ((l[f]'(by omega)).toNat : Int)] wx fun e w' => e = .returned (.bool (blB (l[f]'(by omega)))) ∧ w' = wx) := fun wx => isb_any _ wx
      have hposI : (0 : Int) < ((t - f : Nat) : Int) := by omega
      have HBE2 := HBE.out hft2
      clear hget hrow e0 hle hbig HBC HBE
      generalize l[f]'(by omega) = x at *
      cases hbx : blB x with
      | true =>
        rw [hbx] at HIB
        have HF : Hid (tkH l ps f t = foldH l ps f t) := by rw [HTK.out]; show (if _ then _ else _) = _; simp [hbx]
        clear HTK hbx
        go_enter Tryd.func21, Tryd.ntmps21
        go_wp2_with (first
          | (go_at_call 39; refine HLE.out.mono ?_; rintro e w2 ⟨rfl, h2⟩; rw [h2]; clear h2 w2)
          | (go_at_call 40; refine (HIB.out _).mono ?_; rintro e w2 ⟨rfl, h2⟩; rw [h2]; clear h2 w2)
          | (rw [HW1.out]))
        refine HFO.out.mono ?_
        rintro e w2 ⟨rfl, hhv, hc2⟩
        have hh2 : ∃ v', Hd B w2 h (psV (foldH l ps f t) ps) v' := ⟨_, hhv⟩
        obtain ⟨x5, hx5⟩ : ∃ x5 : Int, x5 = ((spE (foldH l ps f t)).1 : Int) := ⟨_, rfl⟩
        obtain ⟨x6, hx6⟩ : ∃ x6 : Int, x6 = ((spE (foldH l ps f t)).2 : Int) := ⟨_, rfl⟩
        have HX : Hid (x5 = ((spE (foldH l ps f t)).1 : Int) ∧ x6 = ((spE (foldH l ps f t)).2 : Int)) := ⟨hx5, hx6⟩
        rw [← hx5, ← hx6]
        have hS2 : Lies w2 w.heap.size #[.int .i64 0, .int .i64 0] 27 := hc2.lies HSP.out (Fp.no HSP.out (by decide))
        have HS2 : Hid (Lies w2 w.heap.size #[.int .i64 0, .int .i64 0] 27) := hS2
        have HC2 : Hid (Chg (fun k => k = h ∨ Fp B w k) w w2) := (HC1.out.mono (fun _ hk => .inr hk)).then hc2 (fun i hi => (hi.later HB1.out).imp .inr id)
        have HH2 : Hid (∃ v', Hd B w2 h (psV (foldH l ps f t) ps) v') := hh2
        have x0 := hS2.cell 0
        have x1 := hS2.cell 1
        have x2 := hS2.frozen 0
        have x3 := hS2.frozen 1
        simp only [List.getElem?_toArray, List.getElem?_cons_zero, List.getElem?_cons_succ] at x0 x1
        clear hx5 hx6 hc2 hh2 hS2
        go_wp2_with fail
        obtain ⟨v', hv'⟩ := HH2.out
        obtain ⟨q1, q2, q3⟩ := sp_set hv' HS2.out HC2.out (Nat.le_refl _) (by omega) x5 x6
        rw [HF.out]
        refine bodyPost_ret (ret_sp rfl _ _ w.heap.size #[.int .i64 x5, .int .i64 x6] _ rfl q1 Tryd.underlying27 rfl infoSp2) rfl ⟨by rw [HX.out.1, HX.out.2], ⟨_, q2⟩, q3⟩
      | false =>
        rw [hbx] at HIB
        have HF : Hid (tkH l ps f t = begH l ps f t) := by rw [HTK.out]; show (if _ then _ else _) = _; simp [hbx]
        clear HTK hbx
        go_enter Tryd.func21, Tryd.ntmps21
        go_wp2_with (first
          | (go_at_call 39; refine HLE.out.mono ?_; rintro e w2 ⟨rfl, h2⟩; rw [h2]; clear h2 w2)
          | (go_at_call 40; refine (HIB.out _).mono ?_; rintro e w2 ⟨rfl, h2⟩; rw [h2]; clear h2 w2)
          | (rw [HW1.out]))
        refine HBE2.mono ?_
        rintro e w2 ⟨rfl, hh2, hc2⟩
        obtain ⟨x5, hx5⟩ : ∃ x5 : Int, x5 = ((spE (begH l ps f t)).1 : Int) := ⟨_, rfl⟩
        obtain ⟨x6, hx6⟩ : ∃ x6 : Int, x6 = ((spE (begH l ps f t)).2 : Int) := ⟨_, rfl⟩
        have HX : Hid (x5 = ((spE (begH l ps f t)).1 : Int) ∧ x6 = ((spE (begH l ps f t)).2 : Int)) := ⟨hx5, hx6⟩
        rw [← hx5, ← hx6]
        have hS2 : Lies w2 w.heap.size #[.int .i64 0, .int .i64 0] 27 := hc2.lies HSP.out (fun e => e.elim (fun e => by omega) (Fp.no HSP.out (by decide)))
        have HS2 : Hid (Lies w2 w.heap.size #[.int .i64 0, .int .i64 0] 27) := hS2
        have HC2 : Hid (Chg (fun k => k = h ∨ Fp B w k) w w2) := (HC1.out.mono (fun _ hk => .inr hk)).then hc2 (fun i hi => hi.elim (fun e => .inl (.inl e)) (fun e => (e.later HB1.out).imp .inr id))
        have HH2 : Hid (∃ v', Hd B w2 h (psV (begH l ps f t) ps) v') := hh2
        have x0 := hS2.cell 0
        have x1 := hS2.cell 1
        have x2 := hS2.frozen 0
        have x3 := hS2.frozen 1
        simp only [List.getElem?_toArray, List.getElem?_cons_zero, List.getElem?_cons_succ] at x0 x1
        clear hx5 hx6 hc2 hh2 hS2
        go_wp2_with fail
        obtain ⟨v', hv'⟩ := HH2.out
        obtain ⟨q1, q2, q3⟩ := sp_set hv' HS2.out HC2.out (Nat.le_refl _) (by omega) x5 x6
        rw [HF.out]
        refine bodyPost_ret (ret_sp rfl _ _ w.heap.size #[.int .i64 x5, .int .i64 x6] _ rfl q1 Tryd.underlying27 rfl infoSp2) rfl ⟨by rw [HX.out.1, HX.out.2], ⟨_, q2⟩, q3⟩
end Go.Proofs.YtpepjiocjcjeeabDoor
