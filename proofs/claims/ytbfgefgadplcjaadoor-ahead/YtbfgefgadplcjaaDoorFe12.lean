/-
  A reader is fed bytes.
-/
import Derived.Test.YtbfgefgadplcjaaDoorRd12
import Derived.Test.YtbfgefgadplcjaaDoorGrown
import Derived.Deep.AppendLies
namespace Go.Proofs.YtbfgefgadplcjaaDoor
open Go.RowKit

set_option maxHeartbeats 400000 in
theorem feed_bad (F : Nat → Prop) (b : Nat) (S : Sr) (v : Value) (w : World) (h : Rd w F b S) (hb : S.b = true) : Calls Tryd.prog 25 #[.pointer (some ⟨b, 0, none⟩), v] w fun e w' => e = .returned (.int .i64 120) ∧ w' = w := by
  have HE := rerr_any F b S w h
  rw [hb] at HE
  clear h hb
  unfold errS at HE
  simp only [if_true] at HE
  go_enter Tryd.func25, Tryd.ntmps25
  go_wp2_with (go_at_call 15; refine HE.mono ?_; rintro e w2 ⟨rfl, rfl⟩)
  go_ret
  exact ⟨rfl, rfl⟩
theorem on_o (s : Sr) (c : UInt8) : s.o.length ≤ (s.on c).o.length := by
  unfold Sr.on
  split
  · exact Nat.le_refl _
  · split
    · exact Nat.le_refl _
    · split
      · simp
      · exact Nat.le_refl _
theorem run_o : ∀ (l : List UInt8) (s : Sr), s.o.length ≤ (s.run l).o.length
  | [], _ => Nat.le_refl _
  | c :: r, s => Nat.le_trans (on_o s c) (run_o r (s.on c))
theorem run_o_take (s : Sr) (l : List UInt8) (k : Nat) : (s.run (l.take k)).o.length ≤ (s.run l).o.length := by
  conv => rhs; rw [← List.take_append_drop k l, run_append]
  exact run_o _ _
/-- A row of bytes is no other kind. -/
theorem own_kind {w : World} {v : Value} {n : Nat} {xs : List Value} (h : w.ownsRow 0 5 1 v n xs) {k : Nat} (e : v.ownBlock = some k) : ∃ cs, Lies w k cs 5 := by
  obtain ⟨_, ⟨rfl, _⟩ | ⟨g, cap, cur, rfl, _, hh, _⟩⟩ := h
  · cases e
  · cases e
    exact ⟨cur, hh⟩
theorem ring_keep {w w' : World} {b p : Nat} {q : Option Nat} {l : List Rx} {v : Value} {n : Nat} {xs : List Value} {cs : Array Value} (h1 : Lies w b cs 43) (h2 : RgR w (some p) q 1048576 l) (h4 : w.ownsRow 0 5 1 v n xs) (hc : Chg (fun j => j = b ∨ v.ownBlock = some j ∨ w.heap.size ≤ j) w w') : RgR w' (some p) q 1048576 l :=
  h2.keep (fun k hk => hc.block k (h2.lt k hk) (fun hh => by
    rcases hh with rfl | hh | hh
    · exact ring_kind h2 hk h1 (by decide) (by decide)
    · obtain ⟨cs, hL⟩ := own_kind h4 hh
      exact ring_kind h2 hk hL (by decide) (by decide)
    · have := h2.lt k hk; omega))
theorem rys_keep {w w' : World} {b : Nat} {l : List Rx} {o : List Ry} {v : Value} {n : Nat} {xs : List Value} {cs : Array Value} (h1 : Lies w b cs 43) (h3 : Rys w l o) (h4 : w.ownsRow 0 5 1 v n xs) (hc : Chg (fun j => j = b ∨ v.ownBlock = some j ∨ w.heap.size ≤ j) w w') : Rys w' l o :=
  h3.keep (fun x hx ad ea => hc.block _ (h3.lt x hx ad ea) (fun hh => by
    rcases hh with hh | hh | hh
    · exact h3.kind h1 (by decide) x hx ad ea hh
    · obtain ⟨cs, hL⟩ := own_kind h4 hh
      exact h3.kind hL (by decide) x hx ad ea rfl
    · have := h3.lt x hx ad ea; omega))
theorem own_cut0 {w : World} {g n cap : Nat} {xs : List Value} (h : w.ownsRow 0 5 1 (.slice (some ⟨g, 0, none⟩) n cap) n xs) : w.ownsRow 0 5 1 (.slice (some ⟨g, 0, none⟩) 0 cap) 0 [] ∧ n ≤ cap ∧ cap ≤ 9223372036854775807 := by
  obtain ⟨_, ⟨h, _⟩ | ⟨g', cap', cur, h, hg, hh, h3, h4, h5, h6⟩⟩ := h
  · cases h
  · cases h
    refine ⟨⟨rfl, .inr ⟨g, cap, cur, rfl, hg, hh, Nat.zero_le _, h4, h5, by simp⟩⟩, h3, ?_⟩
    unfold maxLen at h4
    omega
theorem rd_next {w w' : World} {F : Nat → Prop} {b p e : Nat} {q : Option Nat} {l : List Rx} {v v' : Value} {n : Nat} {xs : List Value} {cs : Array Value} {T : Sr} (h1 : Lies w b cs 43) (h2 : RgR w (some p) q 1048576 l) (h3 : Rys w l T.o) (h4 : w.ownsRow 0 5 1 v n xs)
    (hc : Chg (fun j => j = b ∨ v.ownBlock = some j ∨ w.heap.size ≤ j) w w') (hl : Lies w' b (rdC p (errS T.b) T.p v').toArray 43) (hv : w'.ownsRow 0 5 1 v' T.h.length (cellsB T.h)) (fv : ∀ j, v'.ownBlock = some j → F j) (fb : F b) (fp : F p) (fq : ∀ j, q = some j → F j) (fr : ∀ x ∈ l, ∀ ad, x.a = some ad → F ad.block) (ok : T.Ok) (_he : e = 0) : Rd w' F b T := by
  exact ⟨⟨p, q, l, v', hl, ring_keep h1 h2 h4 hc, rys_keep h1 h3 h4 hc, hv, fp, fq, fv, fr⟩, fb, ok⟩
set_option maxHeartbeats 4000000 in
set_option maxRecDepth 20000 in
theorem feed_any (F : Nat → Prop) (b : Nat) (S : Sr) (a : Option Addr) (l : List UInt8) (n cap : Nat) (hn : n = l.length) (hl : l.length ≤ 140737488355328) (w : World) (h : Rd w F b S) (hF : ∀ k, F k → k < w.heap.size ∧ 8 ≤ k) (hS : S.b = false) (ho : (S.run l).o.length ≤ 1048576) (hb : Bts a l w) (hne : ∀ ad, a = some ad → ¬ F ad.block) (ht : Tb w) :
    Calls Tryd.prog 25 #[.pointer (some ⟨b, 0, none⟩), .slice a n cap] w fun e w' => e = .returned (.int .i64 (errS (S.run l).b)) ∧ Rd w' (fun k => F k ∨ w.heap.size ≤ k) b (S.run l) ∧ Chg F w w' := by
  subst hn
  have HE := rerr_any F b S w h
  obtain ⟨i0, hi0, hz0, hz1, hz2⟩ := info_parts info5
  rw [hS] at HE
  unfold errS at HE
  simp only [Bool.false_eq_true, if_false] at HE
  obtain ⟨p, q, l0, v, h1, h2, h3, h4, h5, h6, h7, h8⟩ := h.ex
  have HSS : Hid (∀ wx, Below w.heap.size w wx → wx.cell? ⟨b, 0, none⟩ = some (.pointer (some ⟨p, 0, none⟩)) ∧ wx.cell? ⟨b, 2, none⟩ = some (.int .i64 (S.p.r : Int)) ∧ wx.cell? ⟨b, 3, none⟩ = some (.int .u8 (S.p.x.toNat : Int)) ∧ wx.cell? ⟨b, 4, none⟩ = some (.int .u8 (S.p.y.toNat : Int)) ∧ wx.cell? ⟨b, 5, none⟩ = some (.int .u8 (S.p.z.toNat : Int)) ∧ wx.cell? ⟨b, 6, none⟩ = some (.int .i64 (S.p.n : Int)) ∧ wx.cell? ⟨b, 7, none⟩ = some (.bool S.p.m) ∧ wx.cell? ⟨b, 8, none⟩ = some (.bool S.p.e)) := fun wx hb => by
    have := h1.below hb h1.lt
    exact ⟨this.cell 0, this.cell 2, this.cell 3, this.cell 4, this.cell 5, this.cell 6, this.cell 7, this.cell 8⟩
  have HWH : Hid (∀ m, Calls Tryd.prog 40 #[.agg (plC S.p).toArray, .slice a l.length cap] (w.drewN m) fun e w' => e = .returned (.int .i64 (cntW S.p l : Nat)) ∧ Below w.heap.size (w.drewN m) w') := fun m => whole_any S.p h.ok.p a l cap _ (w.drewN m) rfl hl (hb.below (below_drN w m)) ht.dig ht.cls (Nat.lt_of_lt_of_le (by decide) ht.big) (Nat.lt_of_lt_of_le (by decide) ht.big)
  have HRM : Hid (∀ w', Below w.heap.size w w' → Calls Tryd.prog 41 #[.pointer (some ⟨p, 0, none⟩)] w' fun e w2 => e = .returned (.int .i64 ((1048576 - l0.length : Nat) : Int)) ∧ ∃ n, w2 = w'.drewN n) := fun w' hb => roomR_any (some p) q 1048576 l0 w' (h2.below hb)
  have hcw := run_cntW l S hS
  have hll := h3.1
  have hgt : ¬ ((1048576 - l0.length : Nat) : Int) < ((cntW S.p l : Nat) : Int) := by omega
  have HRD : Hid (Rd w F b S) := h
  have HBT : Hid (Bts a l w) := hb
  have HTB : Hid (Tb w) := ht
  have HF : Hid (∀ k, F k → k < w.heap.size ∧ 8 ≤ k) := hF
  have HNA : Hid (∀ ad, a = some ad → ¬ F ad.block) := hne
  have HOO : Hid ((S.run l).o.length ≤ 1048576) := ho
  clear h1 h2 h3 h4 h5 h6 h7 h8 h hb ht hF hne ho hll hcw
  generalize cntW S.p l = cw at *
  generalize (1048576 - l0.length : Nat) = rm at *
  go_enter Tryd.func25, Tryd.ntmps25
  go_wp2_with fail
  refine HE.mono ?_
  rintro e w0 ⟨rfl, hw0⟩
  rw [hw0]
  clear hw0
  clear HE
  go_wp2_with fail
  refine wp_region_late (fun wx => wx.cell? ⟨b, 0, none⟩ = some (.pointer (some ⟨p, 0, none⟩)) ∧ wx.cell? ⟨b, 2, none⟩ = some (.int .i64 (S.p.r : Int)) ∧ wx.cell? ⟨b, 3, none⟩ = some (.int .u8 (S.p.x.toNat : Int)) ∧ wx.cell? ⟨b, 4, none⟩ = some (.int .u8 (S.p.y.toNat : Int)) ∧ wx.cell? ⟨b, 5, none⟩ = some (.int .u8 (S.p.z.toNat : Int)) ∧ wx.cell? ⟨b, 6, none⟩ = some (.int .i64 (S.p.n : Int)) ∧ wx.cell? ⟨b, 7, none⟩ = some (.bool S.p.m) ∧ wx.cell? ⟨b, 8, none⟩ = some (.bool S.p.e)) 12 (by kernel_rfl) (HSS.out w (Below.refl _ _)) (fun hHeld => ?_)
  have hS0 := HSS.out w (Below.refl _ _)
  refine wpAnyE_tk (i := 0) (d := some 14) (v := ?_) rfl (by kernel_rfl) (by kernel_rfl) (by kernel_rfl) rfl (fun _ _ _ h => h) rfl rfl ?hy (by first | assumption | go_simp) ?_
  case hy => (intro w' hSw; (try dsimp only at hSw); go_simp <;> (first | with_reducible rfl | omega | skip))
  simp only [Act.put, List.setIfInBounds_toArray, List.set_cons_zero, List.set_cons_succ]
  refine wpAnyE_tk (i := 1) (d := some 15) (v := ?_) rfl (by kernel_rfl) (by kernel_rfl) (by kernel_rfl) rfl (fun _ _ _ h => h) rfl rfl ?hy (by first | assumption | go_simp) ?_
  case hy => (intro w' hSw; (try dsimp only at hSw); go_simp <;> (first | with_reducible rfl | omega | skip))
  simp only [Act.put, List.setIfInBounds_toArray, List.set_cons_zero, List.set_cons_succ]
  refine wpAnyE_tk (i := 2) (d := some 16) (v := ?_) rfl (by kernel_rfl) (by kernel_rfl) (by kernel_rfl) rfl (fun _ _ _ h => h) rfl rfl ?hy (by first | assumption | go_simp) ?_
  case hy => (intro w' hSw; (try dsimp only at hSw); go_simp <;> (first | with_reducible rfl | omega | skip))
  simp only [Act.put, List.setIfInBounds_toArray, List.set_cons_zero, List.set_cons_succ]
  refine wpAnyE_tk (i := 3) (d := some 17) (v := .agg (plC S.p).toArray) rfl (by kernel_rfl) (by kernel_rfl) (by kernel_rfl) rfl (fun _ _ _ h => h) rfl rfl ?hy (by first | assumption | go_simp) ?_
  case hy => (intro w' hSw; (try dsimp only at hSw); go_simp <;> rfl)
  simp only [Act.put, List.setIfInBounds_toArray, List.set_cons_zero, List.set_cons_succ]
  refine wpAnyE_tk (i := 4) (d := some 18) (v := ?_) rfl (by kernel_rfl) (by kernel_rfl) (by kernel_rfl) rfl (fun _ _ _ h => h) rfl rfl ?hy (by first | assumption | go_simp) ?_
  case hy => (intro w' hSw; (try dsimp only at hSw); go_simp <;> (first | with_reducible rfl | omega | skip))
  simp only [Act.put, List.setIfInBounds_toArray, List.set_cons_zero, List.set_cons_succ]
  refine wpAnyE_tk (i := 6) (d := some 20) (v := ?_) rfl (by kernel_rfl) (by kernel_rfl) (by kernel_rfl) rfl (fun _ _ _ h => h) rfl rfl ?hy (by first | assumption | go_simp) ?_
  case hy => (intro w' hSw; (try dsimp only at hSw); go_simp <;> (first | with_reducible rfl | omega | skip))
  simp only [Act.put, List.setIfInBounds_toArray, List.set_cons_zero, List.set_cons_succ]
  refine wpAnyE_tk (i := 7) (d := some 21) (v := ?_) rfl (by kernel_rfl) (by kernel_rfl) (by kernel_rfl) rfl (fun _ _ _ h => h) rfl rfl ?hy (by first | assumption | go_simp) ?_
  case hy => (intro w' hSw; (try dsimp only at hSw); go_simp <;> (first | with_reducible rfl | omega | skip))
  simp only [Act.put, List.setIfInBounds_toArray, List.set_cons_zero, List.set_cons_succ]
  refine wpAnyE_tk (i := 8) (d := some 22) (v := ?_) rfl (by kernel_rfl) (by kernel_rfl) (by kernel_rfl) rfl (fun _ _ _ h => h) rfl rfl ?hy (by first | assumption | go_simp) ?_
  case hy => (intro w' hSw; (try dsimp only at hSw); go_simp <;> (first | with_reducible rfl | omega | skip))
  simp only [Act.put, List.setIfInBounds_toArray, List.set_cons_zero, List.set_cons_succ]
  refine wpAnyE_tk (i := 9) (d := some 23) (v := ?_) rfl (by kernel_rfl) (by kernel_rfl) (by kernel_rfl) rfl (fun _ _ _ h => h) rfl rfl ?hy (by first | assumption | go_simp) ?_
  case hy => (intro w' hSw; (try dsimp only at hSw); go_simp <;> (first | with_reducible rfl | omega | skip))
  simp only [Act.put, List.setIfInBounds_toArray, List.set_cons_zero, List.set_cons_succ]
  refine wpAnyE_on (i := 5) (by kernel_rfl) rfl rfl ?_
  go_simp
  refine Calls.mono (HWH.out _) ?_
  rintro e w3 ⟨rfl, HB3⟩
  have HB3' : Hid (Below w.heap.size w w3) := ⟨HB3.os, HB3.tape, HB3.output, HB3.size, HB3.block⟩
  have hS3 := HSS.out w3 HB3'.out
  clear HB3 hS0
  refine ⟨hS3, ?_⟩
  refine wpAnyE_on (i := 10) (by kernel_rfl) rfl rfl ?_
  go_simp
  refine Calls.mono (HRM.out w3 HB3'.out) ?_
  rintro e w4 ⟨rfl, n4, rfl⟩
  have HB4 : Hid (Below w.heap.size w (w3.drewN n4)) := below_dN HB3'.out n4
  have hS4 := HSS.out _ HB4.out
  clear HB3' hS3
  refine ⟨hS4, ?_⟩
  refine wpAnyE_tk (i := 11) (d := some 25) (v := .bool false) rfl (by kernel_rfl) (by kernel_rfl) (by kernel_rfl) rfl (fun _ _ _ h => h) rfl rfl ?hy (by first | assumption | go_simp) ?_
  case hy => (intro w' hSw; (try dsimp only at hSw); go_simp <;> (first | with_reducible rfl | omega | skip))
  simp only [Act.put, List.setIfInBounds_toArray, List.set_cons_zero, List.set_cons_succ]
  refine wpAnyE_done (by kernel_rfl) ?_ _
  clear hHeld hS4
  clear HWH HRM HSS
  generalize w3.drewN n4 = W at *
  have HR4 : Hid (Rd W F b S) := HRD.out.below HB4.out
  have HC4 : Hid (Chg F w W) := Chg.of_below HB4.out
  clear HRD HB4
  go_wp2_with fail
  go_loopw [7, 8, 28] (fun _ _ iv wr => ∃ k : Nat, k ≤ l.length ∧ iv = .int .i64 k ∧ Hid (Rd wr (fun j => F j ∨ w.heap.size ≤ j) b (S.run (l.take k))) ∧ Hid (Chg F w wr) ∧ Hid ((S.run (l.take k)).b = false)) (fun _ _ iv _ => l.length - (intOf iv).toNat)
  case atStart => exact ⟨0, Nat.zero_le _, rfl, HR4.out.mono (fun j hj _ => .inl hj), HC4.out, hS⟩
  case round =>
    obtain ⟨k, hk, rfl, HR, HC, HBF⟩ := hrel
    clear HR4 HC4 hgt
    by_cases hlt : k < l.length
    · have hlt' : (k : Int) < (l.length : Int) := by omega
      have HTW : Hid (Tb wr) := HTB.out.keep HC.out.size (fun j hj => HC.out.block j (Nat.lt_of_lt_of_le hj HTB.out.big) (fun hf => by have := (HF.out j hf).2; omega))
      have hbt : Bts a l wr := by
        rcases HBT.out with e | ⟨g, o, rfl, hg, hrow⟩
        · exact .inl e
        · exact .inr ⟨g, o, rfl, Nat.lt_of_lt_of_le hg HC.out.size, fun j hj => (cell_keep (HC.out.block g hg (HNA.out _ rfl)) _).trans (hrow j hj)⟩
      obtain ⟨g, o, rfl, hgs, hce⟩ := hbt.cell k hlt
      have hsn := run_snoc S l k hlt
      have HON : Hid (S.run (l.take (k + 1)) = (S.run (l.take k)).on l[k]) := hsn
      have HOK2 : Hid (((S.run (l.take k)).on l[k]).o.length ≤ 1048576) := by have := run_o_take S l (k + 1); rw [hsn] at this; exact Nat.le_trans this HOO.out
      have HST : Hid (((S.run (l.take k)).on l[k]).b = true → S.run l = (S.run (l.take k)).on l[k]) := fun hh => by rw [run_stuck S l (k + 1) (by rw [hsn]; exact hh), hsn]
      clear hsn hbt
      generalize S.run (l.take k) = T at *
      generalize l[k] = c at *
      obtain ⟨p2, q2, l2, v2, h1, h2, h3, h4, h5, h6, h7, h8⟩ := HR.out.ex
      have hfb := HR.out.fb
      have hok := HR.out.ok
      rw [HBF.out] at h1
      have HTK := take_any b 2 [.pointer (some ⟨p2, 0, none⟩), .int .i64 (errS false)] [v2] 43 T.p hok.p c wr ⟨h1, rfl⟩ HTW.out.dig HTW.out.cls
      have HLW : Hid (Lies wr b (rdC p2 (errS false) T.p v2).toArray 43) := h1
      have HRG : Hid (RgR wr (some p2) q2 1048576 l2) := h2
      have HRY : Hid (Rys wr l2 T.o) := h3
      have HOW : Hid (wr.ownsRow 0 5 1 v2 T.h.length (cellsB T.h)) := h4
      have HFA : Hid ((F p2 ∨ w.heap.size ≤ p2) ∧ (∀ j, q2 = some j → F j ∨ w.heap.size ≤ j) ∧ (∀ j, v2.ownBlock = some j → F j ∨ w.heap.size ≤ j) ∧ (∀ x ∈ l2, ∀ ad, x.a = some ad → F ad.block ∨ w.heap.size ≤ ad.block)) := ⟨h5, h6, h7, h8⟩
      have HOK : Hid T.Ok := hok
      have HFB : Hid (F b ∨ w.heap.size ≤ b) := hfb
      clear h1 h2 h3 h4 h5 h6 h7 h8 hfb hok HR
      have HSG := step_sign T.p c
      go_wp2_with fail
      refine HTK.mono ?_
      rintro e w5 ⟨rfl, HP5, HC5⟩
      clear HTK hce
      have HL5 : Hid (Lies w5 b (rdC p2 (errS false) (stepP T.p c).1 v2).toArray 43) := HP5.lies
      have HC6 : Hid (Chg (fun j => j = b) wr w5) := HC5
      obtain ⟨c0, c1, c9⟩ := rdC_cells HL5.out
      have f1 := HL5.out.frozen 1
      have f9 := HL5.out.frozen 9
      have HO5 : Hid (w5.ownsRow 0 5 1 v2 T.h.length (cellsB T.h)) := own_keep HOW.out (fun j e => HC5.block j (HOW.out.lt j e).2 (own_apart HOW.out HLW.out (by decide) j e))
      clear HP5 HC5
      have hTL : T.h.length ≤ 32768 := HOK.out.short
      have HOC : Hid (T.on c).Ok := T.on_ok c HOK.out
      rcases HSG with h0 | h0 | h0
      · have HTN : Hid (T.on c = ⟨(stepP T.p c).1, T.h ++ [c], T.o, false⟩) := by show _ = _; unfold Sr.on; rw [if_neg (by rw [HBF.out]; decide), if_neg (by omega), if_neg (by omega)]
        rw [h0]
        go_wp2_with (refine wpList_append_lies _ rfl _ _ 31 rfl 0 5 i0 (.int .u8 0) 1 1 Tryd.underlying31 hi0 hz0 hz1 hz2 rfl (by decide) v2 T.h.length (cellsB T.h) rfl (own_below HO5.out ((Below.refl _ _).alloc (Nat.le_refl _) _)) ⟨w5.heap.size, 0, none⟩ 1 1 [.int .u8 (c.toNat : Int)] rfl rfl (one_new _) one_one (by decide) (by unfold maxLen; omega) (by omega) (Nat.zero_le _) (w5.heap.size + 1) (by simp) ?_; intro g6 cap6 w6 HO6 HG6 HW6 HS6; apply Hid.out)
        unfold Hid
        have HO6' : Hid (w6.ownsRow 0 5 1 (.slice (some ⟨g6, 0, none⟩) (T.h.length + 1) cap6) (T.h ++ [c]).length (cellsB (T.h ++ [c]))) := by rw [cellsB_append, List.length_append]; exact HO6
        have hnb : ∀ j, v2.ownBlock = some j → j ≠ b := own_apart HO5.out HL5.out (by decide)
        have HL6 : Hid (Lies w6 b (rdC p2 (errS false) (stepP T.p c).1 v2).toArray 43) := (HG6.block b (Nat.lt_of_lt_of_le HL5.out.lt (by simp)) (fun e => hnb b e.symm rfl)).trans (HL5.out.alloc _)
        have HC7 : Hid (Chg (fun j => j = b ∨ v2.ownBlock = some j ∨ wr.heap.size ≤ j) wr w6) := ((HC6.out.mono (fun j e => .inl e)).alloc _).grown HG6 (fun k e => .inl (.inr (.inl e)))
        have HG7 : Hid (F g6 ∨ w.heap.size ≤ g6) := by
          rcases HW6 with e | e
          · exact HFA.out.2.2.1 g6 e
          · have h1 := HC.out.size; have h2 := HC6.out.size; exact .inr (by omega)
        have HGB : Hid (g6 ≠ b) := own_apart HO6'.out HL6.out (by decide) g6 rfl
        have d9 : w6.cell? ⟨b, 9, none⟩ = some v2 := HL6.out.cell 9
        have d0 : w6.cell? ⟨b, 0, none⟩ = some (.pointer (some ⟨p2, 0, none⟩)) := HL6.out.cell 0
        have e9 := HL6.out.frozen 9
        clear HO6 HG6 HW6 HS6 hnb c0 c1 c9 f1 f9 HL5 HO5
        obtain ⟨W7, hW7⟩ : ∃ W7, W7 = w6.setCell ⟨b, 9, none⟩ (.slice (some ⟨g6, 0, none⟩) (T.h.length + 1) cap6) := ⟨_, rfl⟩
        have HL8 : Hid (Lies W7 b (rdC p2 (errS false) (stepP T.p c).1 (.slice (some ⟨g6, 0, none⟩) (T.h.length + 1) cap6)).toArray 43) := by subst hW7; exact HL6.out.set 9 _
        have HO8 : Hid (W7.ownsRow 0 5 1 (.slice (some ⟨g6, 0, none⟩) (T.h.length + 1) cap6) (T.h ++ [c]).length (cellsB (T.h ++ [c]))) := by subst hW7; exact own_keep HO6'.out (fun j e => by cases e; exact Below.heap_setCell _ _ _ _ HGB.out)
        have HC8 : Hid (Chg (fun j => j = b ∨ v2.ownBlock = some j ∨ wr.heap.size ≤ j) wr W7) := by subst hW7; exact HC7.out.set (.inl (.inl rfl)) _
        have HC9 : Hid (Chg F w W7) := HC.out.then HC8.out (fun j e => by
          rcases e with rfl | e | e
          · exact HFB.out
          · exact HFA.out.2.2.1 j e
          · exact .inr (Nat.le_trans HC.out.size e))
        have HWW : Hid (w6.setCell ⟨b, 9, none⟩ (.slice (some ⟨g6, 0, none⟩) (T.h.length + 1) cap6) = W7) := hW7.symm
        clear hW7 HL6 HO6' HC7
        go_wp2_with fail
        rw [HWW.out]
        go_round
        case rel =>
          refine ⟨k + 1, hlt, by go_num, ?_, HC9.out, by rw [HON.out, HTN.out]; rfl⟩
          rw [HON.out]
          rw [HTN.out] at HOC ⊢
          exact rd_next (e := 0) HLW.out HRG.out HRY.out HOW.out HC8.out HL8.out HO8.out (fun j e => by cases e; exact HG7.out) HFB.out HFA.out.1 HFA.out.2.1 HFA.out.2.2.2 HOC.out rfl
        case measure => simp [intOf]; omega
      · have HTN : Hid (T.on c = ⟨(stepP T.p c).1, [], T.o ++ [repOf (T.h ++ [c])], false⟩) := by show _ = _; unfold Sr.on; rw [if_neg (by rw [HBF.out]; decide), if_neg (by omega), if_pos h0]
        have HLO : Hid (3 ≤ (T.h ++ [c]).length) := by
          have h1 := (step_whole T.p c h0).2
          have h2 := HOK.out.lo HBF.out
          have h3 := HOK.out.p.e h1
          show _ ≤ _
          rw [List.length_append]
          simp only [h1, if_true] at h2
          omega
        rw [h0]
        go_wp2_with (refine wpList_append_lies _ rfl _ _ 31 rfl 0 5 i0 (.int .u8 0) 1 1 Tryd.underlying31 hi0 hz0 hz1 hz2 rfl (by decide) v2 T.h.length (cellsB T.h) rfl (own_below HO5.out ((Below.refl _ _).alloc (Nat.le_refl _) _)) ⟨w5.heap.size, 0, none⟩ 1 1 [.int .u8 (c.toNat : Int)] rfl rfl (one_new _) one_one (by decide) (by unfold maxLen; omega) (by omega) (Nat.zero_le _) (w5.heap.size + 1) (by simp) ?_; intro g6 cap6 w6 HO6 HG6 HW6 HS6; apply Hid.out)
        unfold Hid
        have HO6' : Hid (w6.ownsRow 0 5 1 (.slice (some ⟨g6, 0, none⟩) (T.h.length + 1) cap6) (T.h ++ [c]).length (cellsB (T.h ++ [c]))) := by rw [cellsB_append, List.length_append]; exact HO6
        have hnb : ∀ j, v2.ownBlock = some j → j ≠ b := own_apart HO5.out HL5.out (by decide)
        have HL6 : Hid (Lies w6 b (rdC p2 (errS false) (stepP T.p c).1 v2).toArray 43) := (HG6.block b (Nat.lt_of_lt_of_le HL5.out.lt (by simp)) (fun e => hnb b e.symm rfl)).trans (HL5.out.alloc _)
        have HC7 : Hid (Chg (fun j => j = b ∨ v2.ownBlock = some j ∨ wr.heap.size ≤ j) wr w6) := ((HC6.out.mono (fun j e => .inl e)).alloc _).grown HG6 (fun k e => .inl (.inr (.inl e)))
        have HG7 : Hid (F g6 ∨ w.heap.size ≤ g6) := by
          rcases HW6 with e | e
          · exact HFA.out.2.2.1 g6 e
          · have h1 := HC.out.size; have h2 := HC6.out.size; exact .inr (by omega)
        have HGB : Hid (g6 ≠ b) := own_apart HO6'.out HL6.out (by decide) g6 rfl
        have d9 : w6.cell? ⟨b, 9, none⟩ = some v2 := HL6.out.cell 9
        have d0 : w6.cell? ⟨b, 0, none⟩ = some (.pointer (some ⟨p2, 0, none⟩)) := HL6.out.cell 0
        have e9 := HL6.out.frozen 9
        clear HO6 HG6 HW6 HS6 hnb c0 c1 c9 f1 f9 HL5 HO5
        obtain ⟨W7, hW7⟩ : ∃ W7, W7 = w6.setCell ⟨b, 9, none⟩ (.slice (some ⟨g6, 0, none⟩) (T.h.length + 1) cap6) := ⟨_, rfl⟩
        have HL8 : Hid (Lies W7 b (rdC p2 (errS false) (stepP T.p c).1 (.slice (some ⟨g6, 0, none⟩) (T.h.length + 1) cap6)).toArray 43) := by subst hW7; exact HL6.out.set 9 _
        have HO8 : Hid (W7.ownsRow 0 5 1 (.slice (some ⟨g6, 0, none⟩) (T.h.length + 1) cap6) (T.h ++ [c]).length (cellsB (T.h ++ [c]))) := by subst hW7; exact own_keep HO6'.out (fun j e => by cases e; exact Below.heap_setCell _ _ _ _ HGB.out)
        have HC8 : Hid (Chg (fun j => j = b ∨ v2.ownBlock = some j ∨ wr.heap.size ≤ j) wr W7) := by subst hW7; exact HC7.out.set (.inl (.inl rfl)) _
        have HC9 : Hid (Chg F w W7) := HC.out.then HC8.out (fun j e => by
          rcases e with rfl | e | e
          · exact HFB.out
          · exact HFA.out.2.2.1 j e
          · exact .inr (Nat.le_trans HC.out.size e))
        have HWW : Hid (w6.setCell ⟨b, 9, none⟩ (.slice (some ⟨g6, 0, none⟩) (T.h.length + 1) cap6) = W7) := hW7.symm
        clear hW7 HL6 HO6' HC7
        have HTW7 : Hid (Tb W7) := HTB.out.keep HC9.out.size (fun j hj => HC9.out.block j (Nat.lt_of_lt_of_le hj HTB.out.big) (fun hf => by have := (HF.out j hf).2; omega))
        have HRO : Hid (∀ m, Calls Tryd.prog 44 #[.string (tx (T.h ++ [c]))] (W7.drewN m) fun e w' => ∃ g, (∃ k, e = .returned (rxV ⟨(repOf (T.h ++ [c])).code, (repOf (T.h ++ [c])).st, some ⟨g, 0, none⟩, (repOf (T.h ++ [c])).ls.length, k⟩)) ∧ W7.heap.size ≤ g ∧ Lies w' g (cellsT (repOf (T.h ++ [c])).ls) 9 ∧ Below W7.heap.size (W7.drewN m) w') := fun m => repof_any (T.h ++ [c]) HLO.out (by rw [List.length_append]; simp; omega) (W7.drewN m) (HTW7.out.drewN m)
        have HSS : Hid (∀ wx, Below W7.heap.size W7 wx → wx.cell? ⟨b, 0, none⟩ = some (.pointer (some ⟨p2, 0, none⟩)) ∧ wx.cell? ⟨b, 9, none⟩ = some (.slice (some ⟨g6, 0, none⟩) (T.h.length + 1) cap6) ∧ (convert 31 9 (.slice (some ⟨g6, 0, none⟩) (T.h.length + 1) cap6)).run Tryd.prog wx = .ok (.string (tx (T.h ++ [c]))) wx) := fun wx hb => by
          have h1 := HL8.out.below hb HL8.out.lt
          exact ⟨h1.cell 0, h1.cell 9, own_conv (own_below HO8.out hb)⟩
        have hlen : l2.length + 1 ≤ 1048576 := by
          have h1 := HOK2.out
          rw [HTN.out] at h1
          have h2 := HRY.out.1
          simp at h1
          omega
        have HPS : Hid (∀ x w', Below W7.heap.size W7 w' → Calls Tryd.prog 43 #[.pointer (some ⟨p2, 0, none⟩), valR x] w' fun e w2 => e = .returned (.int .i64 0) ∧ ∃ q', RgR w2 (some p2) q' 1048576 (l2 ++ [x]) ∧ Chg (Fq (some p2) q2) w' w2 ∧ (∀ k, q' = some k → q2 = some k ∨ w'.heap.size ≤ k)) := fun x w' hb => by
          have := pushR_any (some p2) q2 1048576 l2 x w' ((ring_keep HLW.out HRG.out HOW.out HC8.out).below hb)
          rw [show pushE 1048576 l2.length = 0 by unfold pushE; rw [if_neg (by decide), if_neg (by omega)], show pushLR 1048576 l2 x = l2 ++ [x] by unfold pushLR; rw [if_pos (by omega)]] at this
          exact this
        have HSC : Hid (∀ w' w2, Below W7.heap.size W7 w' → Chg (Fq (some p2) q2) w' w2 → w2.cell? ⟨b, 0, none⟩ = some (.pointer (some ⟨p2, 0, none⟩)) ∧ w2.cell? ⟨b, 9, none⟩ = some (.slice (some ⟨g6, 0, none⟩) (T.h.length + 1) cap6) ∧ (convert 31 9 (.slice (some ⟨g6, 0, none⟩) (T.h.length + 1) cap6)).run Tryd.prog w2 = .ok (.string (tx (T.h ++ [c]))) w2 ∧ w2.frozen? ⟨b, 9, none⟩ = false ∧ Lies w2 b (rdC p2 (errS false) (stepP T.p c).1 (.slice (some ⟨g6, 0, none⟩) (T.h.length + 1) cap6)).toArray 43 ∧ w2.ownsRow 0 5 1 (.slice (some ⟨g6, 0, none⟩) (T.h.length + 1) cap6) (T.h.length + 1) (cellsB (T.h ++ [c]))) := fun w' w2 hb hc => by
          have hrg := (ring_keep HLW.out HRG.out HOW.out HC8.out).below hb
          have h1 := HL8.out.below hb HL8.out.lt
          have h2 := hc.lies h1 (fun hf => ring_kind hrg hf h1 (by decide) (by decide))
          have h3 := own_below HO8.out hb
          have h4 := own_keep h3 (fun j e => hc.block j (h3.lt j e).2 (fun hf => by
            obtain ⟨cs, hL⟩ := own_kind h3 e
            exact ring_kind hrg hf hL (by decide) (by decide)))
          exact ⟨h2.cell 0, h2.cell 9, own_conv h4, h2.frozen 9, h2, by have := h4; rwa [List.length_append] at this⟩
        go_wp2_with fail
        rw [HWW.out]
        have hS8 := HSS.out W7.drew ((Below.refl _ _).drew)
        refine wp_region_late (fun wx => wx.cell? ⟨b, 0, none⟩ = some (.pointer (some ⟨p2, 0, none⟩)) ∧ wx.cell? ⟨b, 9, none⟩ = some (.slice (some ⟨g6, 0, none⟩) (T.h.length + 1) cap6) ∧ (convert 31 9 (.slice (some ⟨g6, 0, none⟩) (T.h.length + 1) cap6)).run Tryd.prog wx = .ok (.string (tx (T.h ++ [c]))) wx) 11 (by kernel_rfl) hS8 (fun hHeld => ?_)
        refine wpAnyE_tk (i := 0) (d := some 61) (v := ?_) rfl (by kernel_rfl) (by kernel_rfl) (by kernel_rfl) rfl (fun _ _ _ h => h) rfl rfl ?hy (by first | assumption | go_simp) ?_
        case hy => (intro w' hSw; (try dsimp only at hSw); go_simp <;> (first | with_reducible rfl | omega | skip))
        simp only [Act.put, List.setIfInBounds_toArray, List.set_cons_zero, List.set_cons_succ]
        refine wpAnyE_tk (i := 1) (d := some 62) (v := ?_) rfl (by kernel_rfl) (by kernel_rfl) (by kernel_rfl) rfl (fun _ _ _ h => h) rfl rfl ?hy (by first | assumption | go_simp) ?_
        case hy => (intro w' hSw; (try dsimp only at hSw); go_simp <;> (first | with_reducible rfl | omega | skip))
        simp only [Act.put, List.setIfInBounds_toArray, List.set_cons_zero, List.set_cons_succ]
        refine wpAnyE_tk (i := 2) (d := some 63) (v := ?_) rfl (by kernel_rfl) (by kernel_rfl) (by kernel_rfl) rfl (fun _ _ _ h => h) rfl rfl ?hy (by first | assumption | go_simp) ?_
        case hy => (intro w' hSw; (try dsimp only at hSw); go_simp <;> (first | with_reducible rfl | omega | skip))
        simp only [Act.put, List.setIfInBounds_toArray, List.set_cons_zero, List.set_cons_succ]
        refine wpAnyE_tk (i := 3) (d := some 64) (v := ?_) rfl (by kernel_rfl) (by kernel_rfl) (by kernel_rfl) rfl (fun _ _ _ h => h) rfl rfl ?hy (by first | assumption | go_simp) ?_
        case hy => (intro w' hSw; (try dsimp only at hSw); go_simp <;> (first | with_reducible rfl | omega | skip))
        simp only [Act.put, List.setIfInBounds_toArray, List.set_cons_zero, List.set_cons_succ]
        refine wpAnyE_tk (i := 4) (d := some 65) (v := ?_) rfl (by kernel_rfl) (by kernel_rfl) (by kernel_rfl) rfl (fun _ _ _ h => h) rfl rfl ?hy (by first | assumption | go_simp) ?_
        case hy => (intro w' hSw; (try dsimp only at hSw); go_simp <;> (first | with_reducible rfl | omega | skip))
        simp only [Act.put, List.setIfInBounds_toArray, List.set_cons_zero, List.set_cons_succ]
        refine wpAnyE_tk (i := 5) (d := some 66) (v := ?_) rfl (by kernel_rfl) (by kernel_rfl) (by kernel_rfl) rfl (fun _ _ _ h => h) rfl rfl ?hy (by first | assumption | go_simp) ?_
        case hy => (intro w' hSw; (try dsimp only at hSw); go_simp <;> (first | with_reducible rfl | omega | skip))
        simp only [Act.put, List.setIfInBounds_toArray, List.set_cons_zero, List.set_cons_succ]
        refine wpAnyE_tk (i := 6) (d := some 67) (v := ?_) rfl (by kernel_rfl) (by kernel_rfl) (by kernel_rfl) rfl (fun _ _ _ h => h) rfl rfl ?hy (by first | assumption | go_simp) ?_
        case hy => (intro w' hSw; (try dsimp only at hSw); go_simp <;> (first | with_reducible rfl | omega | skip))
        simp only [Act.put, List.setIfInBounds_toArray, List.set_cons_zero, List.set_cons_succ]
        refine wpAnyE_tk (i := 7) (d := some 68) (v := ?_) rfl (by kernel_rfl) (by kernel_rfl) (by kernel_rfl) rfl (fun _ _ _ h => h) rfl rfl ?hy (by first | assumption | go_simp) ?_
        case hy => (intro w' hSw; (try dsimp only at hSw); go_simp <;> (first | with_reducible rfl | omega | skip))
        simp only [Act.put, List.setIfInBounds_toArray, List.set_cons_zero, List.set_cons_succ]
        refine wpAnyE_tk (i := 8) (d := some 69) (v := ?_) rfl (by kernel_rfl) (by kernel_rfl) (by kernel_rfl) rfl (fun _ _ _ h => h) rfl rfl ?hy (by first | assumption | go_simp) ?_
        case hy => (intro w' hSw; (try dsimp only at hSw); go_simp <;> (first | with_reducible rfl | omega | skip))
        simp only [Act.put, List.setIfInBounds_toArray, List.set_cons_zero, List.set_cons_succ]
        refine wpAnyE_on (i := 9) (by kernel_rfl) rfl rfl ?_
        go_simp
        refine Calls.mono (HRO.out _) ?_
        rintro e w8 ⟨g8, ⟨k8, rfl⟩, hg8, hL8, hB8⟩
        have HB8 : Hid (Below W7.heap.size W7 w8) := ⟨hB8.os, hB8.tape, hB8.output, hB8.size, hB8.block⟩
        have HG8 : Hid (W7.heap.size ≤ g8) := hg8
        have HY8 : Hid (RyAt w8 ⟨(repOf (T.h ++ [c])).code, (repOf (T.h ++ [c])).st, some ⟨g8, 0, none⟩, (repOf (T.h ++ [c])).ls.length, k8⟩ (repOf (T.h ++ [c]))) := ⟨rfl, rfl, rfl, g8, rfl, hL8⟩
        have hS9 := HSS.out w8 HB8.out
        clear hB8 hg8 hL8 hS8 HRO
        refine ⟨hS9, ?_⟩
        have HPU := HPS.out ⟨(repOf (T.h ++ [c])).code, (repOf (T.h ++ [c])).st, some ⟨g8, 0, none⟩, (repOf (T.h ++ [c])).ls.length, k8⟩ w8 HB8.out
        unfold rxV
        unfold valR at HPU
        dsimp only at HPU ⊢
        refine wpAnyE_on (i := 10) (by kernel_rfl) rfl rfl ?_
        go_simp
        refine Calls.mono HPU ?_
        clear HPU
        rintro e w9 ⟨rfl, q9, HR9, HC9', HQ9⟩
        have hS10 := HSC.out w8 w9 HB8.out HC9'
        clear hS9
        refine ⟨⟨hS10.1, hS10.2.1, hS10.2.2.1⟩, ?_⟩
        refine wpAnyE_done (by kernel_rfl) ?_ _
        clear hHeld
        have HR10 : Hid (RgR w9 (some p2) q9 1048576 (l2 ++ [⟨(repOf (T.h ++ [c])).code, (repOf (T.h ++ [c])).st, some ⟨g8, 0, none⟩, (repOf (T.h ++ [c])).ls.length, k8⟩])) := HR9
        have HC10 : Hid (Chg (Fq (some p2) q2) w8 w9) := HC9'
        have HQ10 : Hid (∀ k, q9 = some k → q2 = some k ∨ w8.heap.size ≤ k) := HQ9
        obtain ⟨d0, d9, -, z9, HL10, HO10⟩ := hS10
        have HL10 : Hid (Lies w9 b (rdC p2 (errS false) (stepP T.p c).1 (.slice (some ⟨g6, 0, none⟩) (T.h.length + 1) cap6)).toArray 43) := HL10
        have HO10 : Hid (w9.ownsRow 0 5 1 (.slice (some ⟨g6, 0, none⟩) (T.h.length + 1) cap6) (T.h.length + 1) (cellsB (T.h ++ [c]))) := HO10
        clear HR9 HC9' HQ9 HSC HPS HSS
        obtain ⟨HO11, hc1, hc2⟩ := own_cut0 HO10.out
        have HO11 : Hid (w9.ownsRow 0 5 1 (.slice (some ⟨g6, 0, none⟩) 0 cap6) 0 []) := HO11
        have hc1' : (0 : Int) ≤ (cap6 : Int) := by omega
        go_wp2_with fail
        go_round
        case rel =>
          have hb8 := HB8.out
          have hb10 : w9.heap.size ≥ w8.heap.size := HC10.out.size
          have hC11 : Chg F w (w9.setCell ⟨b, 9, none⟩ (.slice (some ⟨g6, 0, none⟩) 0 cap6)) := ((HC9.out.below hb8).then HC10.out (fun j e => by
            rcases e with e | e
            · cases e; exact HFA.out.1
            · exact HFA.out.2.1 j e)).set HFB.out _
          refine ⟨k + 1, hlt, by go_num, ?_, hC11, by rw [HON.out, HTN.out]; rfl⟩
          rw [HON.out]
          rw [HTN.out] at HOC ⊢
          have hne : ∀ j, Fq (some p2) q9 j → j ≠ b := fun j hj e => by subst e; exact ring_kind HR10.out hj HL10.out (by decide) (by decide)
          have hset : ∀ j, j ≠ b → (w9.setCell ⟨b, 9, none⟩ (.slice (some ⟨g6, 0, none⟩) 0 cap6)).heap[j]? = w9.heap[j]? := fun j hj => Below.heap_setCell _ _ _ _ hj
          have hRY8 : Rys w8 l2 T.o := (rys_keep HLW.out HRY.out HOW.out HC8.out).keep (fun x hx ad ea => hb8.block _ ((rys_keep HLW.out HRY.out HOW.out HC8.out).lt x hx ad ea))
          have hRX := hRY8.snoc HY8.out
          have hRX9 : Rys w9 _ (T.o ++ [repOf (T.h ++ [c])]) := hRX.keep (fun x hx ad ea => HC10.out.block _ (hRX.lt x hx ad ea) (fun hf => by
            obtain ⟨i, hi, rfl⟩ := List.mem_iff_getElem.1 hx
            obtain ⟨_, _, _, gq, hgq, hLq⟩ := hRX.2 i hi (by rw [← hRX.1]; exact hi)
            rw [hgq] at ea
            cases ea
            exact ring_kind ((ring_keep HLW.out HRG.out HOW.out HC8.out).below hb8) hf hLq (by decide) (by decide)))
          refine ⟨⟨p2, q9, _, .slice (some ⟨g6, 0, none⟩) 0 cap6, HL10.out.set 9 _, HR10.out.keep (fun j hj => hset j (hne j hj)), hRX9.keep (fun x hx ad ea => hset _ (fun e => hRX9.kind HL10.out (by decide) x hx ad ea e)), own_keep HO11.out (fun j e => by cases e; exact hset _ HGB.out), HFA.out.1, fun j e => ?_, fun j e => by cases e; exact HG7.out, fun x hx ad ea => ?_⟩, HFB.out, HOC.out⟩
          · rcases HQ10.out j e with e | e
            · exact HFA.out.2.1 j e
            · exact .inr (Nat.le_trans HC9.out.size (Nat.le_trans hb8.size e))
          · rcases List.mem_append.1 hx with hx | hx
            · exact HFA.out.2.2.2 x hx ad ea
            · have : x = _ := List.mem_singleton.1 hx
              rw [this] at ea
              cases ea
              exact .inr (Nat.le_trans HC9.out.size HG8.out)
        case measure => simp [intOf]; omega
      · have HTN : Hid (T.on c = ⟨(stepP T.p c).1, [], T.o, true⟩) := by show _ = _; unfold Sr.on; rw [if_neg (by rw [HBF.out]; decide), if_pos h0]
        have HXX : Hid (S.run l = T.on c) := HST.out (by rw [HTN.out])
        have HC8 : Hid (Chg (fun j => j = b ∨ v2.ownBlock = some j ∨ wr.heap.size ≤ j) wr ((w5.setCell ⟨b, 1, none⟩ (.int .i64 120)).setCell ⟨b, 9, none⟩ (.slice none 0 0))) := (((HC6.out.mono (fun j e => .inl e)).set (.inl (.inl rfl)) _).set (.inl (.inl rfl)) _)
        have HL8 : Hid (Lies ((w5.setCell ⟨b, 1, none⟩ (.int .i64 120)).setCell ⟨b, 9, none⟩ (.slice none 0 0)) b (rdC p2 (errS true) (stepP T.p c).1 (.slice none 0 0)).toArray 43) := (HL5.out.set 1 _).set 9 _
        have HC9 : Hid (Chg F w ((w5.setCell ⟨b, 1, none⟩ (.int .i64 120)).setCell ⟨b, 9, none⟩ (.slice none 0 0))) := HC.out.then HC8.out (fun j e => by
          rcases e with rfl | e | e
          · exact HFB.out
          · exact HFA.out.2.2.1 j e
          · exact .inr (Nat.le_trans HC.out.size e))
        rw [h0]
        go_wp2_with fail
        go_ret
        rw [HXX.out]
        rw [HTN.out] at HOC ⊢
        exact ⟨rfl, rd_next (e := 0) HLW.out HRG.out HRY.out HOW.out HC8.out HL8.out ⟨rfl, .inl ⟨rfl, rfl⟩⟩ (fun j e => by cases e) HFB.out HFA.out.1 HFA.out.2.1 HFA.out.2.2.2 HOC.out rfl, HC9.out⟩
    · have hlt' : ¬ (k : Int) < (l.length : Int) := by omega
      have hkl : l.take k = l := List.take_of_length_le (by omega)
      rw [hkl] at HR HBF
      go_wp2
      go_ret
      exact ⟨by rw [HBF.out]; rfl, HR.out, HC.out⟩
end Go.Proofs.YtbfgefgadplcjaaDoor
