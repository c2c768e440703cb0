/-
  The statement's few answers that the document names.
-/
import Derived.Test.YtedgimkffkflbabGreatDoorConst4
namespace Go.Proofs.YtedgimkffkflbabGreatDoor
open Go.RowKit

/-- The tables. -/
structure Tb (w : World) : Prop where
  fst : Fst w
  tab : Table w
  gcl : 2 < w.heap.size
theorem Tb.below {w w' : World} {B : Nat} (h : Tb w) (hb : Below B w w') (hB : w.heap.size ≤ B) : Tb w' :=
  ⟨h.fst.below hb (by have := h.fst.lt; omega), fun c hc => (hb.cell (p := ⟨2, c, none⟩) (by have := h.gcl; simp; omega)).trans (h.tab c hc), Nat.lt_of_lt_of_le h.gcl hb.size⟩
theorem new_nts (w : World) (t : TypeId) (k : IntKind) (l : List Int) : Nts k (some ⟨w.heap.size, 0, none⟩) l (w.alloc (.cells (cellsN k l).toArray t)) :=
  .inr ⟨w.heap.size, 0, rfl, by simp, fun j hj => by
    rw [Nat.zero_add, (Lies.new w (cellsN k l).toArray t).cell j, List.getElem?_toArray, cellsN_at k l j hj]⟩

/-- What is held while the checker is fed. -/
structure WkS (w0 wX : World) (g1 g3 g6 gc : Nat) (a1 a6 : Option Addr) : Prop where
  bel : Below w0.heap.size w0 wX
  e : Lies wX g1 #[.int .i64 0, .int .i64 0] 30
  f : Lies wX g3 #[.int .i64 0, .int .i64 0] 30
  g : Lies wX g6 #[.int .i64 0, .int .i64 0] 30
  n : Nts .i32 a1 [97, 233] wX
  u : Nts .i32 a6 [9731] wX
  lt : g1 < gc ∧ g3 < gc ∧ g6 < gc ∧ w0.heap.size ≤ gc
  la : ∀ ad, a1 = some ad → ad.block < gc
  lb : ∀ ad, a6 = some ad → ad.block < gc
theorem WkS.step {w0 wX wY : World} {g1 g3 g6 gc : Nat} {a1 a6 : Option Addr} (h : WkS w0 wX g1 g3 g6 gc a1 a6) (hb : But gc wX wY) : WkS w0 wY g1 g3 g6 gc a1 a6 := by
  obtain ⟨h1, h2, h3, h4⟩ := h.lt
  exact ⟨h.bel.trans (hb.below h4 h.bel.size), hb.lies h.e (by omega), hb.lies h.f (by omega), hb.lies h.g (by omega), h.n.but hb (fun ad e => by have := h.la ad e; omega), h.u.but hb (fun ad e => by have := h.lb ad e; omega), h.lt, h.la, h.lb⟩
theorem WkS.alloc {w0 wX : World} {g1 g3 g6 gc : Nat} {a1 a6 : Option Addr} (h : WkS w0 wX g1 g3 g6 gc a1 a6) (o : Obj) : WkS w0 (wX.alloc o) g1 g3 g6 gc a1 a6 := h.step (But.of_below ((Below.refl _ _).alloc (Nat.le_refl _) _))
theorem CkAt.alloc {w : World} {g : Nat} {m : Option Q} (h : CkAt w g m) (o : Obj) : CkAt (w.alloc o) g m := h.below ((Below.refl _ _).alloc (Nat.le_refl _) _) h.lt

set_option maxHeartbeats 4000000 in
set_option maxRecDepth 100000 in
theorem wakes_any (w : World) (ht : Tb w) : Calls Tryz.prog 6 #[] w fun e w' => e = .returned (.bool true) ∧ Below w.heap.size w w' := by
  have HT : Hid (Tb w) := ht
  clear ht
  have h1 := dec_any ⟨#[97, 195, 169]⟩ w HT.out.fst (by decide)
  simp only [wk1.1, wk1.2] at h1
  go_enter Tryz.func6, Tryz.ntmps6
  go_wp2_with fail
  refine h1.mono ?_
  rintro e w1 ⟨⟨v1, rfl, o1⟩, b1⟩
  clear h1
  obtain ⟨a1, k1, rfl, n1, -⟩ := own_nts o1
  have HB1 : Hid (Below w.heap.size w ((w1.alloc (.cells #[.int .i64 0, .int .i64 0] 30)).alloc (.cells #[.int .i32 97, .int .i32 8364] 21))) := (b1.alloc b1.size _).alloc (by simp; have := b1.size; omega) _
  have HE1 : Hid (Lies ((w1.alloc (.cells #[.int .i64 0, .int .i64 0] 30)).alloc (.cells #[.int .i32 97, .int .i32 8364] 21)) w1.heap.size #[.int .i64 0, .int .i64 0] 30) := (Lies.new w1 _ _).alloc _
  have HN1 : Hid (Nts .i32 a1 [97, 233] ((w1.alloc (.cells #[.int .i64 0, .int .i64 0] 30)).alloc (.cells #[.int .i32 97, .int .i32 8364] 21))) := n1.below (((Below.refl _ w1).alloc (Nat.le_refl _) _).alloc (by simp) _)
  have hn2 : Nts .i32 (some ⟨w1.heap.size + 1, 0, none⟩) [97, 8364] ((w1.alloc (.cells #[.int .i64 0, .int .i64 0] 30)).alloc (.cells #[.int .i32 97, .int .i32 8364] 21)) := by
    have := new_nts (w1.alloc (.cells #[.int .i64 0, .int .i64 0] 30)) 21 .i32 [97, 8364]
    rw [World.size_alloc] at this
    exact this
  have hs1 : w1.heap.size + 1 < ((w1.alloc (.cells #[.int .i64 0, .int .i64 0] 30)).alloc (.cells #[.int .i32 97, .int .i32 8364] 21)).heap.size := by simp
  clear o1 n1 b1
  go_wp2_with fail
  generalize (w1.alloc (.cells #[.int .i64 0, .int .i64 0] 30)).alloc (.cells #[.int .i32 97, .int .i32 8364] 21) = w2 at *
  generalize w1.heap.size = g1 at *
  have h2 := enc_any (some ⟨g1 + 1, 0, none⟩) [97, 8364] 2 w2 hn2 (by decide) (by decide)
  simp only [wk2.1, wk2.2] at h2
  refine h2.mono ?_
  rintro e w3 ⟨rfl, b3⟩
  have HB3 : Hid (Below w.heap.size w w3) := HB1.out.trans (b3.mono HB1.out.size)
  have HE3 : Hid (Lies w3 g1 #[.int .i64 0, .int .i64 0] 30) := HE1.out.below b3 HE1.out.lt
  have HN3 : Hid (Nts .i32 a1 [97, 233] w3) := HN1.out.below b3
  clear h2 b3 HB1 HE1 HN1 hn2 hs1
  go_wp2_with fail
  have B3 : Below w3.heap.size w3 ((w3.alloc (.cells #[.int .i64 0, .int .i64 0] 30)).alloc (.cells #[.int .i32 98, .int .i32 252, .int .i32 99, .int .i32 104, .int .i32 101, .int .i32 114] 21)) := ((Below.refl _ w3).alloc (Nat.le_refl _) _).alloc (by simp) _
  have HF3 : Hid (Lies ((w3.alloc (.cells #[.int .i64 0, .int .i64 0] 30)).alloc (.cells #[.int .i32 98, .int .i32 252, .int .i32 99, .int .i32 104, .int .i32 101, .int .i32 114] 21)) w3.heap.size #[.int .i64 0, .int .i64 0] 30) := (Lies.new w3 _ _).alloc _
  have hn4 : Nts .i32 (some ⟨w3.heap.size + 1, 0, none⟩) [98, 252, 99, 104, 101, 114] ((w3.alloc (.cells #[.int .i64 0, .int .i64 0] 30)).alloc (.cells #[.int .i32 98, .int .i32 252, .int .i32 99, .int .i32 104, .int .i32 101, .int .i32 114] 21)) := by
    have := new_nts (w3.alloc (.cells #[.int .i64 0, .int .i64 0] 30)) 21 .i32 [98, 252, 99, 104, 101, 114]
    rw [World.size_alloc] at this
    exact this
  have HB4 : Hid (Below w.heap.size w ((w3.alloc (.cells #[.int .i64 0, .int .i64 0] 30)).alloc (.cells #[.int .i32 98, .int .i32 252, .int .i32 99, .int .i32 104, .int .i32 101, .int .i32 114] 21))) := HB3.out.trans (B3.mono HB3.out.size)
  have HE4 : Hid (Lies ((w3.alloc (.cells #[.int .i64 0, .int .i64 0] 30)).alloc (.cells #[.int .i32 98, .int .i32 252, .int .i32 99, .int .i32 104, .int .i32 101, .int .i32 114] 21)) g1 #[.int .i64 0, .int .i64 0] 30) := HE3.out.below B3 HE3.out.lt
  have HN4 : Hid (Nts .i32 a1 [97, 233] ((w3.alloc (.cells #[.int .i64 0, .int .i64 0] 30)).alloc (.cells #[.int .i32 98, .int .i32 252, .int .i32 99, .int .i32 104, .int .i32 101, .int .i32 114] 21))) := HN3.out.below B3
  clear B3 HB3 HE3 HN3
  generalize (w3.alloc (.cells #[.int .i64 0, .int .i64 0] 30)).alloc (.cells #[.int .i32 98, .int .i32 252, .int .i32 99, .int .i32 104, .int .i32 101, .int .i32 114] 21) = w4 at *
  generalize w3.heap.size = g3 at *
  have h3 := puny_any (some ⟨g3 + 1, 0, none⟩) [98, 252, 99, 104, 101, 114] 6 w4 hn4 (by decide)
  simp only [wk3.1, wk3.2] at h3
  refine h3.mono ?_
  rintro e w5 ⟨rfl, b5⟩
  have HB5 : Hid (Below w.heap.size w w5) := HB4.out.trans (b5.mono HB4.out.size)
  have HE5 : Hid (Lies w5 g1 #[.int .i64 0, .int .i64 0] 30) := HE4.out.below b5 HE4.out.lt
  have HF5 : Hid (Lies w5 g3 #[.int .i64 0, .int .i64 0] 30) := HF3.out.below b5 HF3.out.lt
  have HN5 : Hid (Nts .i32 a1 [97, 233] w5) := HN4.out.below b5
  have HT5 : Hid (Tb w5) := HT.out.below HB5.out (Nat.le_refl _)
  clear h3 b5 HB4 HE4 HF3 HN4 hn4
  have h4 := unp_any ⟨#[110, 51, 104]⟩ w5 HT5.out.tab HT5.out.gcl (by decide)
  simp only [unpV, wk4.1, wk4.2] at h4
  go_wp2_with fail
  refine h4.mono ?_
  rintro e w6 ⟨⟨v6, rfl, o6⟩, b6⟩
  obtain ⟨a6, k6, rfl, n6, -⟩ := own_nts o6
  have B6 : Below w6.heap.size w6 (w6.alloc (.cells #[.int .i64 0, .int .i64 0] 30)) := (Below.refl _ w6).alloc (Nat.le_refl _) _
  have HB6 : Hid (Below w.heap.size w (w6.alloc (.cells #[.int .i64 0, .int .i64 0] 30))) := (HB5.out.trans (b6.mono HB5.out.size)).trans (B6.mono (Nat.le_trans HB5.out.size b6.size))
  have HE6 : Hid (Lies (w6.alloc (.cells #[.int .i64 0, .int .i64 0] 30)) g1 #[.int .i64 0, .int .i64 0] 30) := (HE5.out.below b6 HE5.out.lt).alloc _
  have HF6 : Hid (Lies (w6.alloc (.cells #[.int .i64 0, .int .i64 0] 30)) g3 #[.int .i64 0, .int .i64 0] 30) := (HF5.out.below b6 HF5.out.lt).alloc _
  have HG6 : Hid (Lies (w6.alloc (.cells #[.int .i64 0, .int .i64 0] 30)) w6.heap.size #[.int .i64 0, .int .i64 0] 30) := Lies.new w6 _ _
  have HN6 : Hid (Nts .i32 a1 [97, 233] (w6.alloc (.cells #[.int .i64 0, .int .i64 0] 30))) := (HN5.out.below b6).below B6
  have HU6 : Hid (Nts .i32 a6 [9731] (w6.alloc (.cells #[.int .i64 0, .int .i64 0] 30))) := n6.below B6
  clear h4 b6 B6 o6 n6 HB5 HE5 HF5 HN5 HT5
  go_wp2_with fail
  have HK : Hid (WkS w (w6.alloc (.cells #[.int .i64 0, .int .i64 0] 30)) g1 g3 w6.heap.size (w6.heap.size + 1) a1 a6) := by
    have z1 := HE6.out.lt
    have z3 := HF6.out.lt
    have zb := HB6.out.size
    rw [World.size_alloc] at z1 z3 zb
    refine ⟨HB6.out, HE6.out, HF6.out, HG6.out, HN6.out, HU6.out, by omega, fun ad e => ?_, fun ad e => ?_⟩
    · rcases HN6.out with h | ⟨g, o, e', hg, _⟩
      · cases h
      · rw [e] at e'
        injection e' with e'
        subst e'
        rw [World.size_alloc] at hg
        exact hg
    · rcases HU6.out with h | ⟨g, o, e', hg, _⟩
      · cases h
      · rw [e] at e'
        injection e' with e'
        subst e'
        rw [World.size_alloc] at hg
        exact hg
  have h5 := new_any (w6.alloc (.cells #[.int .i64 0, .int .i64 0] 30))
  rw [World.size_alloc] at h5
  have HSZ : Hid ((w6.alloc (.cells #[.int .i64 0, .int .i64 0] 30)).heap.size = w6.heap.size + 1) := World.size_alloc _ _
  clear HB6 HE6 HF6 HG6 HN6 HU6
  generalize w6.alloc (.cells #[.int .i64 0, .int .i64 0] 30) = w7 at *
  generalize w6.heap.size = g6 at *
  generalize hgc : g6 + 1 = gc at *
  refine h5.mono ?_
  rintro e w8 ⟨rfl, b8, k8, _⟩
  have HK8 : Hid (WkS w w8 g1 g3 g6 gc a1 a6) := HK.out.step ⟨b8.os, b8.tape, b8.output, b8.size, fun k hk hne => b8.block k (by rw [← HSZ.out]; exact hk)⟩
  have HC8 : Hid (CkAt w8 gc (some q0)) := k8
  clear b8 k8 h5 HK HSZ
  go_wp2_with fail
  have HX8 : Hid (WkS w (w8.alloc (.cells #[.int .u8 226] 5)) g1 g3 g6 gc a1 a6) := HK8.out.alloc _
  have h8 := feed_any gc (some q0) (some ⟨w8.heap.size, 0, none⟩) [226] 1 (w8.alloc (.cells #[.int .u8 226] 5)) (HC8.out.alloc _) (HT.out.below HX8.out.bel (Nat.le_refl _)).fst (const_bts w8 [226] (0, 0)) (fun ad e => by
    injection e with e
    subst e
    have := HC8.out.lt
    simp
    omega) (by decide)
  rw [show runM (some q0) [226] = (some (2, 128, 191)) from by decide] at h8
  refine h8.mono ?_
  rintro e w9 ⟨rfl, bw9, cw9⟩
  have HK8a : Hid (WkS w w9 g1 g3 g6 gc a1 a6) := HX8.out.step bw9
  have HC8a : Hid (CkAt w9 gc (some (2, 128, 191))) := cw9
  clear h8 bw9 cw9 HX8 HK8 HC8
  simp only [show okM (some (2, 128, 191)) = true from rfl]
  go_wp2_with fail
  have hh8 := whole_any gc (some (2, 128, 191)) w9 HC8a.out
  rw [show wholeM (some (2, 128, 191)) = false from rfl] at hh8
  refine hh8.mono ?_
  rintro e w' ⟨rfl, rfl⟩
  have HK10 : Hid (WkS w w' g1 g3 g6 gc a1 a6) := HK8a.out
  have HC10 : Hid (CkAt w' gc (some (2, 128, 191))) := HC8a.out
  clear hh8 HK8a HC8a
  go_wp2_with fail
  have HX10 : Hid (WkS w (w'.alloc (.cells #[.int .u8 130, .int .u8 172] 5)) g1 g3 g6 gc a1 a6) := HK10.out.alloc _
  have h10 := feed_any gc (some (2, 128, 191)) (some ⟨w'.heap.size, 0, none⟩) [130, 172] 2 (w'.alloc (.cells #[.int .u8 130, .int .u8 172] 5)) (HC10.out.alloc _) (HT.out.below HX10.out.bel (Nat.le_refl _)).fst (const_bts w' [130, 172] (0, 0)) (fun ad e => by
    injection e with e
    subst e
    have := HC10.out.lt
    simp
    omega) (by decide)
  rw [show runM (some (2, 128, 191)) [130, 172] = (some (0, 0, 0)) from by decide] at h10
  refine h10.mono ?_
  rintro e w11 ⟨rfl, bw11, cw11⟩
  have HK10a : Hid (WkS w w11 g1 g3 g6 gc a1 a6) := HX10.out.step bw11
  have HC10a : Hid (CkAt w11 gc (some (0, 0, 0))) := cw11
  clear h10 bw11 cw11 HX10 HK10 HC10
  simp only [show okM (some (0, 0, 0)) = true from rfl]
  go_wp2_with fail
  have hh10 := whole_any gc (some (0, 0, 0)) w11 HC10a.out
  rw [show wholeM (some (0, 0, 0)) = true from rfl] at hh10
  refine hh10.mono ?_
  rintro e w12 ⟨rfl, rfl⟩
  have HK12 : Hid (WkS w w12 g1 g3 g6 gc a1 a6) := HK10a.out
  have HC12 : Hid (CkAt w12 gc (some (0, 0, 0))) := HC10a.out
  clear hh10 HK10a HC10a
  go_wp2_with fail
  have HX12 : Hid (WkS w (w12.alloc (.cells #[.int .u8 128] 5)) g1 g3 g6 gc a1 a6) := HK12.out.alloc _
  have h12 := feed_any gc (some (0, 0, 0)) (some ⟨w12.heap.size, 0, none⟩) [128] 1 (w12.alloc (.cells #[.int .u8 128] 5)) (HC12.out.alloc _) (HT.out.below HX12.out.bel (Nat.le_refl _)).fst (const_bts w12 [128] (0, 0)) (fun ad e => by
    injection e with e
    subst e
    have := HC12.out.lt
    simp
    omega) (by decide)
  rw [show runM (some (0, 0, 0)) [128] = none from by decide] at h12
  refine h12.mono ?_
  rintro e w13 ⟨rfl, bw13, cw13⟩
  have HK12a : Hid (WkS w w13 g1 g3 g6 gc a1 a6) := HX12.out.step bw13
  have HC12a : Hid (CkAt w13 gc none) := cw13
  clear h12 bw13 cw13 HX12 HK12 HC12
  simp only [show okM none = false from rfl]
  go_wp2_with fail
  have hh12 := whole_any gc none w13 HC12a.out
  rw [show wholeM none = false from rfl] at hh12
  refine hh12.mono ?_
  rintro e w14 ⟨rfl, rfl⟩
  have HK14 : Hid (WkS w w14 g1 g3 g6 gc a1 a6) := HK12a.out
  have HC14 : Hid (CkAt w14 gc none) := HC12a.out
  clear hh12 HK12a HC12a
  have z0 := HK14.out.e.cell 0
  have z1 := HK14.out.e.cell 1
  have z2 := HK14.out.f.cell 0
  have z3 := HK14.out.f.cell 1
  have z4 := HK14.out.g.cell 0
  have z5 := HK14.out.g.cell 1
  simp at z0 z1 z2 z3 z4 z5
  go_wp2_with fail
  have he1 := eqr_any a1 (some ⟨w14.heap.size, 0, none⟩) [97, 233] [97, 233] k1 2 (w14.alloc (.cells #[.int .i32 97, .int .i32 233] 21)) (HK14.out.alloc _).n (new_nts w14 21 .i32 [97, 233]) (by decide)
  rw [show decide (([97, 233] : List Int) = [97, 233]) = true from by decide] at he1
  refine he1.mono ?_
  rintro e w15 ⟨rfl, q15, rfl⟩
  have HK15 : Hid (WkS w ((w14.alloc (.cells #[.int .i32 97, .int .i32 233] 21)).drewN q15) g1 g3 g6 gc a1 a6) := (HK14.out.alloc _).step ⟨rfl, rfl, rfl, Nat.le_refl _, fun _ _ _ => rfl⟩
  clear he1 z0 z1 z2 z3 z4 z5
  generalize (w14.alloc (.cells #[.int .i32 97, .int .i32 233] 21)).drewN q15 = w16 at HK15 ⊢
  go_wp2_with fail
  have he2 := eqr_any a6 (some ⟨w16.heap.size, 0, none⟩) [9731] [9731] k6 1 (w16.alloc (.cells #[.int .i32 9731] 21)) (HK15.out.alloc _).u (new_nts w16 21 .i32 [9731]) (by decide)
  rw [show decide (([9731] : List Int) = [9731]) = true from by decide] at he2
  refine he2.mono ?_
  rintro e w17 ⟨rfl, q17, rfl⟩
  have HB17 : Hid (Below w.heap.size w ((w16.alloc (.cells #[.int .i32 9731] 21)).drewN q17)) := ((HK15.out.alloc _).step (wY := (w16.alloc (.cells #[.int .i32 9731] 21)).drewN q17) ⟨rfl, rfl, rfl, Nat.le_refl _, fun _ _ _ => rfl⟩).bel
  clear he2
  go_wp2
  go_ret
  exact ⟨rfl, HB17.out⟩
end Go.Proofs.YtedgimkffkflbabGreatDoor
