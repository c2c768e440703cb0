/-
  P7.4: a ring is gone through as it stood when the ranging began, whatever is done to it meanwhile; once more, and one within the other; proved for every input.
-/
import Derived.Test.YtgbbjhhggjocmaaEvS
import Derived.Test.YtgbbjhhggjocmaaRf7
import Derived.Test.YtgbbjhhggjocmaaLate8
import Derived.Test.YtgbbjhhggjocmaaOpen7
import Derived.Test.YtgbbjhhggjocmaaRows
import Derived.ProofKit
import Derived.ChangeMaps5
import Derived.OpenShut
import Derived.ShutString
import Derived.ChangeOld
import Derived.SizedLaws
namespace Go.Proofs.Ytgbbjhhggjocmaa.queueEach
open Go.ChangeShapes Go.WideShapes Go.ChangeAt Go.RowKit

attribute [local go_sem] Oper.semAt_some

set_option maxRecDepth 100000 in
set_option maxHeartbeats 4000000 in
theorem bad (a1 : Option Addr) (l : List Int) (c1 : Nat) (drops leave : Int) (w : World) (hl : l.length ≤ 17592186043904) (hbig : 1048576 < l.length + 3) :
    Calls Try.prog 7 #[.slice a1 l.length c1, .int .i64 drops, .int .i64 leave] w fun e w' => e = .returned (.bool true) ∧ Below w.heap.size w w' := by
  have hbi : (1048576 : Int) < (l.length : Int) + 3 := by omega
  have hli : (l.length : Int) ≤ 17592186043904 := by omega
  have HNW : Hid (∀ wx, Calls Try.prog 9 #[.int .i64 ((l.length : Int) + 3)] wx fun e w' => e = .returned (.tuple #[.pointer none, .int .i64 2]) ∧ w' = wx) := fun wx => newI_bad _ (.inr hbi) wx
  have HWK : Hid (∀ wx, Calls Try.prog 39 #[] wx fun e w' => e = .returned (.bool true) ∧ Below wx.heap.size wx w') := fun wx => wakes_any wx
  obtain ⟨W0, hW0⟩ : ∃ W0, W0 = (((w.alloc (.cells #[.slice a1 l.length c1] 55)).alloc (.cells #[.int .i64 drops] 3)).alloc (.cells #[.int .i64 leave] 3)).alloc (.cells #[.bool false] 4) := ⟨_, rfl⟩
  have HB : Hid (Bx w (fun _ => False) W0 (fun _ => False) [(w.heap.size + 3, .bool false, 4), (w.heap.size + 2, .int .i64 leave, 3), (w.heap.size + 1, .int .i64 drops, 3), (w.heap.size, .slice a1 l.length c1, 55)] []) := by
    rw [hW0]
    have := ((((Bx.start w (fun _ => False) (fun _ h => h.elim)).box (.slice a1 l.length c1) 55).box (.int .i64 drops) 3).box (.int .i64 leave) 3).box (.bool false) 4
    simp only [World.size_alloc] at this
    exact this
  have HW0 : Hid ((((w.alloc (.cells #[.slice a1 l.length c1] 55)).alloc (.cells #[.int .i64 drops] 3)).alloc (.cells #[.int .i64 leave] 3)).alloc (.cells #[.bool false] 4) = W0) := hW0.symm
  clear hW0
  have hw3 : IntKind.i64.wrap ((l.length : Int) + 3) = (l.length : Int) + 3 := by rw [IntKind.wrap_i64]; omega
  clear hl hbig
  go_enter Try.func7, Try.ntmps7
  go_wp2_with (first
    | (go_at_call 39; rw [HW0.out]; refine (HWK.out _).mono ?_; clear HWK; rintro e w1 ⟨rfl, hb⟩; have HB1 := HB.out.later hb; have k3 := HB1.cell 3 rfl; have HB2 : Hid _ := HB1; clear HB1 hb)
    | (go_at_call 9; refine (HNW.out _).mono ?_; clear HNW; rintro e w2 ⟨rfl, rfl⟩; have HB3 := HB2.out.box (.pointer none) 23; have k3 := HB3.cell 4 rfl; have k6 := HB3.cell 1 rfl; have z6 := HB3.frozen 1 rfl; have HB4 : Hid _ := HB3; clear HB3))
  have HB5 := HB4.out.set 1 rfl (.bool true)
  have hc5 := HB5.cell 1 rfl
  refine bodyPost_ret (v := .bool true) ?_ rfl ⟨rfl, HB5.chg.to_below (Nat.le_refl _) (fun _ hk => hk.elim)⟩
  simp [results, Try.results7, go_sem, hc5]
def bs0 (w : World) (b B7 : Nat) (a1 : Option Addr) (l : List Int) (c1 : Nat) (drops leave : Int) (rv : Bool) : List (Nat × Value × Nat) := [(B7, .pointer (some ⟨b, 0, none⟩), 23), (w.heap.size + 3, .bool rv, 4), (w.heap.size + 2, .int .i64 leave, 3), (w.heap.size + 1, .int .i64 drops, 3), (w.heap.size, .slice a1 l.length c1, 55)]
def bs1 (w : World) (b B7 : Nat) (a1 : Option Addr) (l : List Int) (c1 : Nat) (drops leave : Int) (rv : Bool) (G : Nat) (nv : Int) : List (Nat × Value × Nat) := (G + 2, .int .i64 nv, 3) :: (G + 1, .func (.func 59) #[] #[.pointer (some ⟨G, 0, none⟩)], 67) :: (G, .pointer (some ⟨b, 0, none⟩), 23) :: bs0 w b B7 a1 l c1 drops leave rv
def bs2 (w : World) (b B7 : Nat) (a1 : Option Addr) (l : List Int) (c1 : Nat) (drops leave : Int) (rv : Bool) (G : Nat) (nv : Int) (M : Nat) (mv : Int) : List (Nat × Value × Nat) := (M, .int .i64 mv, 3) :: bs1 w b B7 a1 l c1 drops leave rv G nv
set_option maxRecDepth 100000 in
set_option maxHeartbeats 8000000 in
theorem good (a1 : Option Addr) (l : List Int) (c1 : Nat) (drops leave : Int) (w : World) (h1 : Sg celI a1 l w) (hs : l.length + 3 ≤ 1048576) :
    Calls Try.prog 7 #[.slice a1 l.length c1, .int .i64 drops, .int .i64 leave] w fun e w' => e = .returned (.bool true) ∧ Below w.heap.size w w' := by
  have hli : (l.length : Int) + 3 ≤ 1048576 := by omega
  have HNW : Hid (∀ wx, Calls Try.prog 9 #[.int .i64 ((l.length : Int) + 3)] wx fun e w' => e = .returned (.tuple #[.pointer (some ⟨wx.heap.size, 0, none⟩), .int .i64 0]) ∧ RgI w' (some wx.heap.size) none (l.length + 3) [] ∧ Below wx.heap.size wx w') := fun wx => newI_good (l.length + 3) (by omega) hs wx
  have HWK : Hid (∀ wx, Calls Try.prog 39 #[] wx fun e w' => e = .returned (.bool true) ∧ Below wx.heap.size wx w') := fun wx => wakes_any wx
  have HPU : Hid (∀ wx b q most L x bs Ds, Ev w wx b q most L bs Ds → Calls Try.prog 20 #[.pointer (some ⟨b, 0, none⟩), .int .i64 x] wx fun e w' => e = .returned (.int .i64 (pushE most L.length)) ∧ ∃ q', Ev w w' b q' most (pushLI most L x) bs Ds ∧ Chg (Fq (some b) q) wx w' ∧ (∀ k, q' = some k → q = some k ∨ wx.heap.size ≤ k)) := fun wx b q most L x bs Ds h => (pushI_any (some b) q most L x wx h.rg).mono (fun e w' hh => by obtain ⟨r1, q', r2, r3, r4⟩ := hh; exact ⟨r1, q', h.step r2 r3 r4, r3, r4⟩)
  have HDR : Hid (∀ wx b q most L bs Ds, Ev w wx b q most L bs Ds → Calls Try.prog 34 #[.pointer (some ⟨b, 0, none⟩), .int .i64 drops] wx fun e w' => e = .returned (.int .i64 (dropN L.length drops : Int)) ∧ Ev w w' b q most (L.drop (dropN L.length drops)) bs Ds ∧ Chg (Fq (some b) q) wx w') := fun wx b q most L bs Ds h => (dropI_any (some b) q most L drops wx h.rg _ rfl).mono (fun e w' hh => ⟨hh.1, h.step hh.2.1 hh.2.2 (fun k hk => .inl hk), hh.2.2⟩)
  have HEA : Hid (∀ wx (b : Nat), Calls Try.prog 40 #[.pointer (some ⟨b, 0, none⟩)] wx fun e w' => e = .returned (.func (.func 59) #[] #[.pointer (some ⟨wx.heap.size, 0, none⟩)]) ∧ w' = wx.alloc (.cells #[.pointer (some ⟨b, 0, none⟩)] 23)) := fun wx b => eachI_any _ wx rfl
  obtain ⟨W0, hW0⟩ : ∃ W0, W0 = (((w.alloc (.cells #[.slice a1 l.length c1] 55)).alloc (.cells #[.int .i64 drops] 3)).alloc (.cells #[.int .i64 leave] 3)).alloc (.cells #[.bool false] 4) := ⟨_, rfl⟩
  have HB : Hid (Bx w (fun _ => False) W0 (fun _ => False) [(w.heap.size + 3, .bool false, 4), (w.heap.size + 2, .int .i64 leave, 3), (w.heap.size + 1, .int .i64 drops, 3), (w.heap.size, .slice a1 l.length c1, 55)] []) := by
    rw [hW0]
    have := ((((Bx.start w (fun _ => False) (fun _ h => h.elim)).box (.slice a1 l.length c1) 55).box (.int .i64 drops) 3).box (.int .i64 leave) 3).box (.bool false) 4
    simp only [World.size_alloc] at this
    exact this
  have HW0 : Hid ((((w.alloc (.cells #[.slice a1 l.length c1] 55)).alloc (.cells #[.int .i64 drops] 3)).alloc (.cells #[.int .i64 leave] 3)).alloc (.cells #[.bool false] 4) = W0) := hW0.symm
  clear hW0
  have hw3 : IntKind.i64.wrap ((l.length : Int) + 3) = (l.length : Int) + 3 := by rw [IntKind.wrap_i64]; omega
  have H1 : Hid (Sg celI a1 l w) := h1
  have HLS : Hid (l.length + 3 ≤ 1048576) := hs
  have hdg : decide ((1048576 : Int) < (l.length : Int) + 3) = false := decide_eq_false (by omega)
  clear h1 hs hli
  refine (callsIn_wide (n := 9)).1 ?_
  refine callsIn_of_wp_marks Try.func7 rfl trivial ?_ rfl
  simp only [Try.ntmps7, List.size_toArray, List.length_cons, List.length_nil, Nat.reduceAdd, Nat.reduceSub, Array.replicate_succ, Array.replicate_zero, List.push_toArray, List.append_toArray, List.nil_append, List.cons_append]
  refine wpIn_wide.2 ?_
  go_wp2_with (first
    | (go_at_call 39; rw [HW0.out]; refine (HWK.out _).mono ?_; clear HWK; rintro e w1 ⟨rfl, hb⟩; have HB1 := HB.out.later hb; have k3 := HB1.cell 3 rfl; have HB2 : Hid _ := HB1; clear HB1 hb)
    | (go_at_call 9; refine (HNW.out _).mono ?_; clear HNW; rintro e w2 ⟨rfl, hr, hb⟩; have HE : Ev w w2 w1.heap.size none (l.length + 3) [] _ [] := ⟨HB2.out.step (Chg.of_below hb) (fun k hk => by rcases hk with e | e; exact .inr (by have := Option.some.inj e; omega); cases e) hr.isCells, hr⟩; have HE2 := HE.box (.pointer (some ⟨w1.heap.size, 0, none⟩)) 23; have j3 := HE2.bx.cell 4 rfl; have j7 := HE2.bx.cell 0 rfl; have HS0 : Hid _ := HE2; clear HE HE2 hr hb k3 HB2))
  obtain ⟨b, hb⟩ : ∃ b, b = w1.heap.size := ⟨_, rfl⟩
  obtain ⟨B7, hB7⟩ : ∃ B7, B7 = w2.heap.size := ⟨_, rfl⟩
  obtain ⟨W1, hW1⟩ : ∃ W1, W1 = w2.alloc (.cells #[.pointer (some ⟨w1.heap.size, 0, none⟩)] 23) := ⟨_, rfl⟩
  rw [← hW1] at HS0 j3 j7
  rw [← hW1]
  rw [← hB7] at HS0 j7
  rw [← hB7]
  rw [← hb] at HS0 j7
  rw [← hb]
  clear hW1 hB7 hb HB HW0 hdg hw3
  go_loopw [38] (fun iv wr => ∃ (k : Nat) (q : Option Nat), iv = .int .i64 (k : Int) ∧ k ≤ l.length ∧ Hid (Ev w wr b q (l.length + 3) (l.take k) (bs0 w b B7 a1 l c1 drops leave false) [])) (fun iv _ => l.length - (intOf iv).toNat)
  case atStart => exact ⟨0, none, rfl, Nat.zero_le _, HS0.out⟩
  case round =>
    obtain ⟨k, q, rfl, hk, HS⟩ := hrel
    clear HS0 j3 j7
    have j7 := HS.out.bx.cell 0 rfl
    by_cases hlt : k < l.length
    · obtain ⟨g, o, rfl, _, hc⟩ := (H1.out.below HS.out.bel).cell k hlt
      have hki : (k : Int) < (l.length : Int) := by omega
      obtain ⟨x, hx⟩ : ∃ x, x = l[k] := ⟨_, rfl⟩
      rw [← hx] at hc
      have HX : Hid (x = l[k]) := hx
      have hwk : IntKind.i64.wrap ((k : Int) + 1) = (k : Int) + 1 := by have := HLS.out; rw [IntKind.wrap_i64]; omega
      clear hx
      go_wp2_with (go_at_call 20; refine (HPU.out _ b q _ _ x _ _ HS.out).mono ?_; rintro e w3 ⟨rfl, q3, hE, _, _⟩; have HE3 : Hid _ := hE; clear hE)
      go_roundw
      case rel =>
        have hL : pushLI (l.length + 3) (l.take k) x = l.take (k + 1) := by
          rw [push_cap x (by simp; omega), HX.out, List.take_append_getElem]
        exact ⟨k + 1, q3, by go_num, by omega, by rw [← hL]; exact HE3.out⟩
      case measure => simp [intOf]; omega
    · obtain rfl : k = l.length := by omega
      have HS1 : Hid (Ev w wr b q (l.length + 3) l (bs0 w b B7 a1 l c1 drops leave false) []) := by have := HS.out; rw [List.take_length] at this; exact this
      clear hlt hk HS
      go_wp2_with (go_at_call 40; refine (HEA.out _ b).mono ?_; clear HEA; rintro e w3 ⟨rfl, hw3⟩)
      obtain ⟨Wl, hWl⟩ : ∃ Wl, Wl = ((wr.alloc (.cells #[.pointer (some ⟨b, 0, none⟩)] 23)).alloc (.cells #[.func (.func 59) #[] #[.pointer (some ⟨wr.heap.size, 0, none⟩)]] 67)).alloc (.cells #[.int .i64 0] 3) := ⟨_, rfl⟩
      have HSL : Hid (Ev w Wl b q (l.length + 3) l (bs1 w b B7 a1 l c1 drops leave false wr.heap.size 0) []) := by
        rw [hWl]
        have := ((HS1.out.box (.pointer (some ⟨b, 0, none⟩)) 23).box (.func (.func 59) #[] #[.pointer (some ⟨wr.heap.size, 0, none⟩)]) 67).box (.int .i64 0) 3
        simp only [World.size_alloc] at this
        exact this
      rw [← hWl]
      obtain ⟨G, hG⟩ : ∃ G, G = wr.heap.size := ⟨_, rfl⟩
      rw [← hG] at HSL
      rw [← hG]
      clear hWl hG HS1 j7 hw3
      have hz1 := HSL.out.bx.chg.size
      obtain ⟨vl, hvl⟩ : ∃ vl : Nat → Int, vl = fun x => l.getD x 0 := ⟨_, rfl⟩
      have HVL : Hid (∀ k (h : k < l.length), vl k = l[k]) := fun k h => by rw [hvl]; show l.getD k 0 = _; rw [List.getD_eq_getElem?_getD, List.getElem?_eq_getElem h]; rfl
      have HSQ : Hid (SeqStopsK Fence.wide 8 Try.prog 59 #[.pointer (some ⟨G, 0, none⟩)] (fun x : Nat => #[.int .i64 (x : Int), .int .i64 (vl x)]) (Kr Wl.heap.size) (fun xs => xs = List.range l.length) (fun pre => ∃ k, k ≤ l.length ∧ pre = List.range k) l.length Wl) := by rw [hvl]; exact eachI_seq (some b) q (l.length + 3) l G 8 (by decide) Wl HSL.out.rg (HSL.out.bx.cell 2 rfl)
      clear hvl
      refine (wpIn_wide (n := 9)).1 ?_
      refine' rf_out (by decide) (gf := 59) (lb := #[.pointer (some ⟨G, 0, none⟩)]) rfl (Go.Proofs.enters_of Try.func59 (by kernel_rfl) rfl) HSQ.out (fun _ => rfl)
        (fun pre W => Hid (pre = List.range pre.length ∧ ∃ q' L', Ev w W b q' (l.length + 3) L' (bs1 w b B7 a1 l c1 drops leave false G (pre.length : Int)) [] ∧ (pre = [] → q' = q ∧ L' = l)))
        (fun c pre _ => c = .ret ∧ ∀ k, pre ≠ List.range k) ?hI ?hIx ?h0 _ ?assign ?body ?done ?stop
      case hI => exact fun s W W' row hs hg hr => by obtain ⟨e1, q', L', hE, e2⟩ := hs.out; exact ⟨e1, q', L', hE.turn hz1 (fun D hD => by cases hD) hg hr, e2⟩
      case hIx => exact fun c s W W' row hs _ _ => hs
      case h0 => exact ⟨rfl, q, l, HSL.out, fun _ => ⟨rfl, rfl⟩⟩
      case assign =>
        intro lp x W K hK
        gi_wp2
        exact hK
      case stop =>
        rintro D c pre W _ ⟨k, _, rfl⟩ ⟨_, h⟩ _
        exact absurd rfl (h k)
      case body =>
        intro lp pre x W hlp hrec hi hlt
        obtain ⟨hpre, q', L', hE, h00⟩ := hi.out
        have HE : Hid (Ev w W b q' (l.length + 3) L' (bs1 w b B7 a1 l c1 drops leave false G (pre.length : Int)) []) := hE
        have c12 := hE.bx.cell 0 rfl
        have z12 := hE.bx.frozen 0 rfl
        have c6 := hE.bx.cell 4 rfl
        have z6 := hE.bx.frozen 4 rfl
        have c3 := hE.bx.cell 7 rfl
        have c7 := hE.bx.cell 3 rfl
        have n7 := hE.bx.ne 0 3 (by decide) rfl rfl
        have n7' := Ne.symm n7
        have HPRE : Hid (pre = List.range pre.length) := hpre
        have H00 : Hid (pre = [] → q' = q ∧ L' = l) := h00
        have HLT : Hid (pre.length < l.length) := hlt
        have HLB : ∀ k, k ∈ (bs1 w b B7 a1 l c1 drops leave false G 0).map (·.1) → k < Wl.heap.size := fun k hk => by
          obtain ⟨y, hy, rfl⟩ := List.mem_map.1 hk
          exact (HSL.out.bx.bx y hy).lt
        have lt12 : G + 2 < Wl.heap.size := HLB _ (by simp [bs1])
        have lt6 : w.heap.size + 3 < Wl.heap.size := HLB _ (by simp [bs1, bs0])
        clear hpre h00 hi hE HLB hlt
        by_cases hx : x = pre.length
        · obtain ⟨g, o, ha, _, hc⟩ := (H1.out.below HE.out.bel).cell pre.length HLT.out
          subst ha
          have hv : vl x = l[pre.length]'HLT.out := by rw [hx]; exact HVL.out _ HLT.out
          rw [hv]
          have hxi : (x : Int) = (pre.length : Int) := by rw [hx]
          rw [hxi]
          have hni : (pre.length : Int) < (l.length : Int) := by have := HLT.out; omega
          have hwk : IntKind.i64.wrap ((pre.length : Int) + 1) = (pre.length : Int) + 1 := by have := HLS.out; have := HLT.out; rw [IntKind.wrap_i64]; omega
          have HXL : Hid (x = pre.length) := hx
          have HE1 : Hid (Ev w (W.setCell ⟨G + 2, 0, none⟩ (.int .i64 ((pre.length : Int) + 1))) b q' (l.length + 3) L' (bs1 w b B7 (some ⟨g, o, none⟩) l c1 drops leave false G ((pre.length : Int) + 1)) []) := HE.out.set 0 rfl _
          have HC1 : Hid (Chg (· < Wl.heap.size) W (W.setCell ⟨G + 2, 0, none⟩ (.int .i64 ((pre.length : Int) + 1)))) := (Chg.refl _ _).set (p := ⟨G + 2, 0, none⟩) (.inl lt12) _
          have HRN : Hid (∀ W', (∃ q' L', Ev w W' b q' (l.length + 3) L' (bs1 w b B7 (some ⟨g, o, none⟩) l c1 drops leave false G ((pre.length : Int) + 1)) []) → Chg (· < Wl.heap.size) W W' → KeepsFrom Wl.heap.size W W' ∧ Kr Wl.heap.size W W' ∧ Hid (pre ++ [x] = List.range (pre ++ [x]).length ∧ ∃ q' L', Ev w W' b q' (l.length + 3) L' (bs1 w b B7 (some ⟨g, o, none⟩) l c1 drops leave false G ((pre ++ [x]).length : Int)) [] ∧ (pre ++ [x] = [] → q' = q ∧ L' = l))) := fun W' ⟨q2, L2, h2⟩ hc2 => ⟨keeps_of_chg hc2 (fun _ h => h), Kr.of_chg hc2 (fun _ h => h), by rw [List.length_append, List.length_singleton, List.range_succ, ← HPRE.out, HXL.out], q2, L2, by rw [List.length_append, List.length_singleton]; exact h2, fun e => absurd e (by simp)⟩
          generalize l[pre.length]'HLT.out = y at *
          clear hx hv hxi
          by_cases h0 : pre = []
          · obtain ⟨hq0, hL0⟩ := H00.out h0
            have hl0 : (pre.length : Int) = 0 := by rw [h0]; rfl
            have hln : pre.length = 0 := by rw [h0]; rfl
            rw [hl0] at hwk c12 HE1 HC1 HRN hni
            rw [hl0]
            rw [hln, Nat.add_zero] at hc
            rw [Int.zero_add] at HE1 HC1 HRN
            have HQ0 : Hid (∀ i, Fq (some b) q' i → i < Wl.heap.size) := by rw [hq0]; exact fun i hi => HSL.out.lt i hi
            have hlne : ¬ l = [] := fun e => by have := HLT.out; rw [e] at this; exact absurd this (Nat.not_lt_zero _)
            clear hq0 hL0 hl0 h0 hln
            gi_wp2_with (first
              | (refine ⟨trivial, ?_⟩; gi_at_call 20; refine (CallsIn.inRound lp (callsIn_wide.2 (HPU.out _ b q' _ _ 77 _ _ HE1.out))).mono ?_; clear HE1; rintro e w4 ⟨rfl, q4, hE4, hc4, hq4⟩; have HE4 : Hid _ := hE4; have HC4 : Hid _ := hc4; have HQ4 : Hid _ := hq4; have k7 := hE4.bx.cell 3 rfl; have k4 := hE4.bx.cell 6 rfl; clear hE4 hc4 hq4)
              | (refine ⟨trivial, ?_⟩; gi_at_call 34; refine (CallsIn.inRound lp (callsIn_wide.2 (HDR.out _ b q4 _ _ _ _ HE4.out))).mono ?_; clear HE4; rintro e w5 ⟨rfl, hE5, hc5⟩; have HE5 : Hid _ := hE5; have HC5 : Hid _ := hc5; have m7 := hE5.bx.cell 3 rfl; clear hE5 hc5)
              | (refine ⟨trivial, ?_⟩; gi_at_call 20; refine (CallsIn.inRound lp (callsIn_wide.2 (HPU.out _ b q4 _ _ 78 _ _ HE5.out))).mono ?_; clear HE5; rintro e w6 ⟨rfl, q6, hE6, hc6, hq6⟩; have HE6 : Hid _ := hE6; have HC6 : Hid _ := hc6; clear hE6 hc6 hq6))
            have hF4 : ∀ i, Fq (some b) q4 i → i < Wl.heap.size ∨ W.heap.size ≤ i := fun i hi => by
              rcases hi with e | e
              · exact .inl (HQ0.out i (.inl e))
              · rcases HQ4.out i e with e2 | e2
                · exact .inl (HQ0.out i (.inr e2))
                · rw [World.size_setCell] at e2; exact .inr e2
            exact HRN.out _ ⟨_, _, HE6.out⟩ (((HC1.out.then HC4.out (fun i hi => .inl (HQ0.out i hi))).then HC5.out hF4).then HC6.out hF4)
          · have h0i : ¬ (pre.length : Int) = 0 := by have := List.length_pos_iff.2 h0; omega
            have h0d : ((pre.length : Int) == 0) = false := by simpa using h0i
            gi_wp2
            exact HRN.out _ ⟨_, _, HE1.out⟩ HC1.out
        · have hxi : ¬ (x : Int) = (pre.length : Int) := by omega
          have HC1 : Hid (Chg (· < Wl.heap.size) W (W.setCell ⟨w.heap.size + 3, 0, none⟩ (.bool false))) := (Chg.refl _ _).set (p := ⟨w.heap.size + 3, 0, none⟩) (.inl lt6) _
          have HNR : Hid (∀ k, pre ++ [x] ≠ List.range k) := fun k e => by
            have hk : k = pre.length + 1 := by have := congrArg List.length e; simp at this; omega
            rw [hk, List.range_succ, ← HPRE.out] at e
            exact hx (by simpa using e)
          clear hx
          gi_wp2
          exact ⟨keeps_of_chg HC1.out (fun _ h => h), rfl, HNR.out⟩
      case done =>
        rintro D xs W hD rfl hi hk
        obtain ⟨-, q2, L2, hE, -⟩ := hi.out
        rw [List.length_range] at hE
        have HSD : Hid (Ev w W b q2 (l.length + 3) L2 (bs1 w b B7 a1 l c1 drops leave false G (l.length : Int)) [D]) := hE.mark D (by omega) hk (fun h => by cases h)
        have c12 := hE.bx.cell 0 rfl
        have c11 := hE.bx.cell 1 rfl
        have c3 := hE.bx.cell 7 rfl
        have l11 := (hE.bx.at 1 rfl).lt
        clear hi hE hk hD HSL HSQ HVL hz1 H1
        go_wp2_with fail
        obtain ⟨Wm, hWm⟩ : ∃ Wm, Wm = W.alloc (.cells #[.int .i64 0] 3) := ⟨_, rfl⟩
        have HSM : Hid (Ev w Wm b q2 (l.length + 3) L2 ((W.heap.size, .int .i64 0, 3) :: bs1 w b B7 a1 l c1 drops leave false G (l.length : Int)) [D]) := by rw [hWm]; exact HSD.out.box _ _
        rw [← hWm]
        obtain ⟨M, hM⟩ : ∃ M, M = W.heap.size := ⟨_, rfl⟩
        rw [← hM] at HSM
        rw [← hM]
        clear hWm hM HSD c12 c11 c3 l11
        have hz2 := HSM.out.bx.chg.size
        have hDm := HSM.out.bx.dlt D (List.mem_cons_self ..)
        have hL2 : L2.length ≤ 1048576 := by have := HSM.out.rg.len; omega
        have HL2 : Hid (L2.length ≤ 1048576) := hL2
        clear hL2
        obtain ⟨vl, hvl⟩ : ∃ vl : Nat → Int, vl = fun x => L2.getD x 0 := ⟨_, rfl⟩
        have HAV : Hid (∀ k, k < L2.length → atXI L2 (k : Int) = vl k) := fun k h => by rw [hvl]; unfold atXI; rw [if_pos (by omega), Int.toNat_natCast]
        have HSQ : Hid (SeqStopsK Fence.wide 8 Try.prog 59 #[.pointer (some ⟨G, 0, none⟩)] (fun x : Nat => #[.int .i64 (x : Int), .int .i64 (vl x)]) (Kr Wm.heap.size) (fun xs => xs = List.range L2.length) (fun pre => ∃ k, k ≤ L2.length ∧ pre = List.range k) L2.length Wm) := by rw [hvl]; exact eachI_seq (some b) q2 (l.length + 3) L2 G 8 (by decide) Wm HSM.out.rg (HSM.out.bx.cell 3 rfl)
        have HSI : Hid (∀ wx bs, Ev w wx b q2 (l.length + 3) L2 bs [D] → wx.cell? ⟨G, 0, none⟩ = some (.pointer (some ⟨b, 0, none⟩)) → SeqStopsK Fence.wide 6 Try.prog 59 #[.pointer (some ⟨G, 0, none⟩)] (fun x : Nat => #[.int .i64 (x : Int), .int .i64 (vl x)]) (Kr wx.heap.size) (fun xs => xs = List.range L2.length) (fun pre => ∃ k, k ≤ L2.length ∧ pre = List.range k) L2.length wx) := fun wx bs h hc => by rw [hvl]; exact eachI_seq (some b) q2 (l.length + 3) L2 G 6 (by decide) wx h.rg hc
        clear hvl
        refine (wpIn_wide (n := 9)).1 ?_
        refine' rf_out (by decide) (gf := 59) (lb := #[.pointer (some ⟨G, 0, none⟩)]) rfl (Go.Proofs.enters_of Try.func59 (by kernel_rfl) rfl) HSQ.out (fun _ => rfl)
          (fun pre W => Hid (pre = List.range pre.length ∧ Ev w W b q2 (l.length + 3) L2 (bs2 w b B7 a1 l c1 drops leave false G (l.length : Int) M (pre.length : Int)) [D]))
          (fun c pre W => Hid ((c = .ret ∧ ∀ k, pre ≠ List.range k) ∨ (∃ (rv : Bool) (m : Int), Ev w W b q2 (l.length + 3) L2 (bs2 w b B7 a1 l c1 drops leave rv G (l.length : Int) M m) [D] ∧ ((c = .ret ∧ rv = true) ∨ (c = .exit 4 ∧ 40 < m ∧ rv = false))))) ?hI ?hIx ?h0 _ ?assign ?body ?done ?stop
        case hI => exact fun s W W' row hs hg hr => by obtain ⟨e1, hE⟩ := hs.out; exact ⟨e1, hE.turn hz2 (fun D' hD' => by rw [List.mem_singleton.1 hD']; exact hDm) hg hr⟩
        case hIx =>
          intro c s W W' row hs hg hr
          rcases hs.out with h | ⟨rv, m, hE, h⟩
          · exact .inl h
          · exact .inr ⟨rv, m, hE.turn hz2 (fun D' hD' => by rw [List.mem_singleton.1 hD']; exact hDm) hg hr, h⟩
        case h0 => exact ⟨rfl, HSM.out⟩
        case assign =>
          intro lp x W K hK
          gi_wp2
          exact hK
        case body =>
          intro lp pre x W hlp hrec hi hlt
          obtain ⟨hpre, hE⟩ := hi.out
          have HE : Hid (Ev w W b q2 (l.length + 3) L2 (bs2 w b B7 a1 l c1 drops leave false G (l.length : Int) M (pre.length : Int)) [D]) := hE
          have c15 := hE.bx.cell 0 rfl
          have z15 := hE.bx.frozen 0 rfl
          have c7 := hE.bx.cell 4 rfl
          have HPRE : Hid (pre = List.range pre.length) := hpre
          have HLT : Hid (pre.length < L2.length) := hlt
          have HLB : ∀ k, k ∈ ((M, Value.int .i64 0, 3) :: bs1 w b B7 a1 l c1 drops leave false G (l.length : Int)).map (·.1) → k < Wm.heap.size := fun k hk => by
            obtain ⟨y, hy, rfl⟩ := List.mem_map.1 hk
            exact (HSM.out.bx.bx y hy).lt
          have lt15 : M < Wm.heap.size := HLB _ (by simp)
          have lt6 : w.heap.size + 3 < Wm.heap.size := HLB _ (by simp [bs1, bs0])
          have HNE : Hid (∀ wx bs, Ev w wx b q2 (l.length + 3) L2 bs [D] → Calls Try.prog 41 #[.pointer (some ⟨b, 0, none⟩), .int .i64 (x : Int)] wx fun e w' => e = .returned (.tuple #[.int .i64 (atXI L2 (x : Int)), .bool (atB L2.length (x : Int))]) ∧ Below wx.heap.size wx w') := fun wx bs h => atI_any (some b) q2 _ L2 (x : Int) wx h.rg
          clear hpre hi hE HLB hlt
          by_cases hx : x = pre.length
          · have hxl : x < L2.length := by rw [hx]; exact HLT.out
            have hA1 : atXI L2 (x : Int) = vl x := HAV.out x hxl
            have hA2 : atB L2.length (x : Int) = true := decide_eq_true (by omega)
            rw [hA1, hA2] at HNE
            have hxi : (x : Int) = (pre.length : Int) := by rw [hx]
            rw [hxi] at HNE
            rw [hxi]
            have HXL : Hid (x = pre.length) := hx
            generalize vl x = y at *
            clear hA1 hA2 hxi hx hxl
            gi_wp2_with (refine ⟨trivial, ?_⟩; gi_at_call 41; refine (CallsIn.inRound lp (callsIn_wide.2 (HNE.out _ _ HE.out))).mono ?_; clear HNE; rintro e wA ⟨rfl, hbA⟩; have hEA := HE.out.later hbA; have d15 := hEA.bx.cell 0 rfl; have y15 := hEA.bx.frozen 0 rfl; have d11 := hEA.bx.cell 2 rfl; have l11 := (hEA.bx.at 2 rfl).lt; have HEA : Hid _ := hEA; have HBA : Hid (Below W.heap.size W wA) := hbA; clear hEA hbA)
            obtain ⟨WK, hWK⟩ : ∃ WK, WK = wA.alloc (.cells #[.int .i64 0] 3) := ⟨_, rfl⟩
            obtain ⟨C, hC⟩ : ∃ C, C = wA.heap.size := ⟨_, rfl⟩
            have HEK : Hid (Ev w WK b q2 (l.length + 3) L2 ((C, .int .i64 0, 3) :: bs2 w b B7 a1 l c1 drops leave false G (l.length : Int) M (pre.length : Int)) [D]) := by rw [hWK, hC]; exact HEA.out.box _ _
            have HCK : Hid (Chg (· < Wm.heap.size) W WK) := by rw [hWK]; exact (Chg.of_below HBA.out).alloc _
            have hCW : W.heap.size ≤ C := by rw [hC]; exact HBA.out.size
            have hCK : C < WK.heap.size := (HEK.out.bx.at 0 rfl).lt
            obtain ⟨r, hr⟩ := hrec
            have hr2 : WK.heap[lp]? = some (.loop r) := (HCK.out.block lp (Array.getElem?_eq_some_iff.1 hr).1 (fun h => absurd h (by omega))).trans hr
            rw [← hWK, ← hC]
            have hz3 := HEK.out.bx.chg.size
            have hDk := HEK.out.bx.dlt D (List.mem_cons_self ..)
            have hWz := HCK.out.size
            clear hWK hC HEA HBA d15 y15 d11 l11 c15 z15 c7 hr
            refine' rf_in hr2 (by decide) (gf := 59) (lb := #[.pointer (some ⟨G, 0, none⟩)]) rfl (Go.Proofs.enters_of Try.func59 (by kernel_rfl) rfl) (HSI.out WK _ HEK.out (HEK.out.bx.cell 4 rfl)) (fun _ => rfl)
              (fun pre' W' => Hid (Ev w W' b q2 (l.length + 3) L2 ((C, .int .i64 (pre'.length : Int), 3) :: bs2 w b B7 a1 l c1 drops leave false G (l.length : Int) M (pre.length : Int)) [D] ∧ Chg (· < Wm.heap.size) W W'))
              (fun _ _ _ => False) ?hI3 ?hIx3 ?h03 _ ?assign3 ?body3 ?done3 ?stop3
            case hI3 => exact fun s W1 W1' row hs hg hr => ⟨hs.out.1.turn hz3 (fun D' hD' => by rw [List.mem_singleton.1 hD']; exact hDk) hg hr, chg_turn hs.out.2 hWz hg hr⟩
            case hIx3 => exact fun c s W W' row hs _ _ => hs
            case h03 => exact ⟨HEK.out, HCK.out⟩
            case stop3 => exact fun c pre W _ h => h.elim
            case assign3 =>
              intro lp2 x' W' K hK
              gi_wp2
              exact hK
            case body3 =>
              intro lp2 pre' x' W' _ _ hi hlt'
              have c20 := hi.out.1.bx.cell 0 rfl
              have z20 := hi.out.1.bx.frozen 0 rfl
              have hwk : IntKind.i64.wrap ((pre'.length : Int) + 1) = (pre'.length : Int) + 1 := by have := HL2.out; rw [IntKind.wrap_i64]; omega
              have HH : Hid (KeepsFrom WK.heap.size W' (W'.setCell ⟨C, 0, none⟩ (.int .i64 ((pre'.length : Int) + 1))) ∧ Kr WK.heap.size W' (W'.setCell ⟨C, 0, none⟩ (.int .i64 ((pre'.length : Int) + 1))) ∧ Hid (Ev w (W'.setCell ⟨C, 0, none⟩ (.int .i64 ((pre'.length : Int) + 1))) b q2 (l.length + 3) L2 ((C, .int .i64 ((pre' ++ [x']).length : Int), 3) :: bs2 w b B7 a1 l c1 drops leave false G (l.length : Int) M (pre.length : Int)) [D] ∧ Chg (· < Wm.heap.size) W (W'.setCell ⟨C, 0, none⟩ (.int .i64 ((pre'.length : Int) + 1))))) := by
                have hc := (Chg.refl (· < WK.heap.size) W').set (p := ⟨C, 0, none⟩) (.inl hCK) (.int .i64 ((pre'.length : Int) + 1))
                refine ⟨keeps_of_chg hc (fun _ h => h), Kr.of_chg hc (fun _ h => h), ?_, hi.out.2.set (p := ⟨C, 0, none⟩) (.inr hCW) _⟩
                rw [List.length_append, List.length_singleton]
                exact hi.out.1.set 0 rfl _
              clear hi hlt'
              gi_wp2
              exact HH.out
            case done3 =>
              rintro xs W' rfl hi
              obtain ⟨hE, hC'⟩ := hi.out
              rw [List.length_range] at hE
              have e15 := hE.bx.cell 1 rfl
              have z15 := hE.bx.frozen 1 rfl
              have hwk : IntKind.i64.wrap ((pre.length : Int) + 1) = (pre.length : Int) + 1 := by have := HL2.out; have := HLT.out; rw [IntKind.wrap_i64]; omega
              obtain ⟨Ws, hWs⟩ : ∃ Ws, Ws = W'.setCell ⟨M, 0, none⟩ (.int .i64 ((pre.length : Int) + 1)) := ⟨_, rfl⟩
              have HES0 : Ev w Ws b q2 (l.length + 3) L2 ((C, .int .i64 (L2.length : Int), 3) :: bs2 w b B7 a1 l c1 drops leave false G (l.length : Int) M ((pre.length : Int) + 1)) [D] := by rw [hWs]; exact hE.set 1 rfl _
              have HCS : Hid (Chg (· < Wm.heap.size) W Ws) := by rw [hWs]; exact hC'.set (p := ⟨M, 0, none⟩) (.inl lt15) _
              have HWS : Hid (W'.setCell ⟨M, 0, none⟩ (.int .i64 ((pre.length : Int) + 1)) = Ws) := hWs.symm
              have HES : Hid _ := HES0
              have HLN : Hid (Calls Try.prog 14 #[.pointer (some ⟨b, 0, none⟩)] Ws.drew fun e w' => e = .returned (.int .i64 (L2.length : Int)) ∧ w' = Ws.drew) := lenI_any (some b) q2 _ L2 Ws.drew (HES0.rg.drewN 1)
              clear hE hC' hi hWs HES0 hr2
              gi_wp2
              rw [HWS.out]
              have f20 := HES.out.bx.cell 0 rfl
              have f7 := HES.out.bx.cell 5 rfl
              have f5 := HES.out.bx.cell 7 rfl
              have f6 := HES.out.bx.cell 6 rfl
              have y6 := HES.out.bx.frozen 6 rfl
              clear e15 z15
              have mixed : Try.prog.follows .mixedOrders = true := by kernel_rfl
              have HDW : Hid (Ev w Ws.drew b q2 (l.length + 3) L2 (bs2 w b B7 a1 l c1 drops leave false G (l.length : Int) M ((pre.length : Int) + 1)) [D]) := (HES.out.sub (List.sublist_cons_self ..)).later (below_drewN Ws 1)
              have HRT : Hid (Ev w (Ws.drew.setCell ⟨w.heap.size + 3, 0, none⟩ (.bool true)) b q2 (l.length + 3) L2 (bs2 w b B7 a1 l c1 drops leave true G (l.length : Int) M ((pre.length : Int) + 1)) [D]) := HDW.out.set 5 rfl _
              have HCD : Hid (Chg (· < Wm.heap.size) W Ws.drew) := HCS.out.drew
              have HCR : Hid (Chg (· < Wm.heap.size) W (Ws.drew.setCell ⟨w.heap.size + 3, 0, none⟩ (.bool true))) := HCD.out.set (p := ⟨w.heap.size + 3, 0, none⟩) (.inl lt6) _
              have HRG : Hid (pre ++ [x] = List.range (pre ++ [x]).length) := by unfold Hid; rw [List.length_append, List.length_singleton, List.range_succ, ← HPRE.out, HXL.out]
              have HIN : Hid (Hid (pre ++ [x] = List.range (pre ++ [x]).length ∧ Ev w Ws.drew b q2 (l.length + 3) L2 (bs2 w b B7 a1 l c1 drops leave false G (l.length : Int) M ((pre ++ [x]).length : Int)) [D])) := ⟨HRG.out, by rw [List.length_append, List.length_singleton]; exact HDW.out⟩
              gi_region_with_o (refine ⟨trivial, ?_⟩; gi_at_call 14; refine (CallsIn.inRound lp (callsIn_wide.2 HLN.out)).mono ?_; rintro e wz ⟨rfl, hwz⟩; subst hwz)
              all_goals clear mixed
              all_goals by_cases hlv : (pre.length : Int) = leave
              all_goals first
                | (have hlv' : ((pre.length : Int) == leave) = true := by simpa using hlv
                   gi_wp2
                   exact ⟨keeps_of_chg HCR.out (fun _ h => h), .inr ⟨true, _, HRT.out, .inl ⟨rfl, rfl⟩⟩⟩)
                | (have hlv' : ((pre.length : Int) == leave) = false := by simpa using hlv
                   by_cases h40 : (40 : Int) < (pre.length : Int)
                   · gi_wp2
                     exact ⟨keeps_of_chg HCD.out (fun _ h => h), .inr ⟨false, _, HDW.out, .inr ⟨rfl, by omega, rfl⟩⟩⟩
                   · gi_wp2
                     exact ⟨keeps_of_chg HCD.out (fun _ h => h), Kr.of_chg HCD.out (fun _ h => h), HIN.out⟩)
          · have hxi : ¬ (x : Int) = (pre.length : Int) := by omega
            have HNR : Hid (∀ k, pre ++ [x] ≠ List.range k) := fun k e => by
              have hk : k = pre.length + 1 := by have := congrArg List.length e; simp at this; omega
              rw [hk, List.range_succ, ← HPRE.out] at e
              exact hx (by simpa using e)
            generalize atXI L2 (x : Int) = y1 at *
            generalize atB L2.length (x : Int) = y2 at *
            clear hx
            gi_wp2_with (refine ⟨trivial, ?_⟩; gi_at_call 41; refine (CallsIn.inRound lp (callsIn_wide.2 (HNE.out _ _ HE.out))).mono ?_; clear HNE; rintro e wA ⟨rfl, hbA⟩; have hEA := HE.out.later hbA; have d15 := hEA.bx.cell 0 rfl; have d6 := hEA.bx.cell 5 rfl; have y6 := hEA.bx.frozen 5 rfl; have HBA : Hid (Below W.heap.size W wA) := hbA; clear hEA hbA)
            exact ⟨keeps_of_chg ((Chg.of_below HBA.out).set (p := ⟨w.heap.size + 3, 0, none⟩) (.inl lt6) _) (fun _ h => h), .inl ⟨rfl, HNR.out⟩⟩
        case stop =>
          rintro D2 c pre W hD2 ⟨k, -, rfl⟩ hx hkD
          rcases hx.out with ⟨_, h⟩ | ⟨rv, m, hE, ⟨rfl, rfl⟩ | ⟨rfl, h40, rfl⟩⟩
          · exact absurd rfl (h k)
          · have HF : Hid (Ev w W b q2 (l.length + 3) L2 (bs2 w b B7 a1 l c1 drops leave true G (l.length : Int) M m) [D2, D]) := hE.mark D2 (by omega) hkD (fun h => by have := List.mem_singleton.1 h; omega)
            clear hE hx hkD
            refine wpIn_wide.2 ?_
            go_wp2
            obtain ⟨k2, hB2⟩ := HF.out.bx.take
            obtain ⟨k1, hB1⟩ := hB2.take
            have hc5 := hB1.cell 5 rfl
            refine ⟨by simp, .inl ⟨_, _, rfl, run_takeDeferred k2, ?_⟩⟩
            refine ⟨by simp, .inl ⟨_, _, rfl, run_takeDeferred k1, ?_⟩⟩
            refine ⟨.bool true, ?_, rfl, hB1.chg.to_below (Nat.le_refl _) (fun _ hk => hk.elim)⟩
            refine (?_ : ∀ wx : World, wx.cell? ⟨w.heap.size + 3, 0, none⟩ = some (.bool true) → (results Try.f7 _).run Try.prog wx = .ok (.bool true) wx) _ hc5
            intro wx h
            simp [results, Try.results7, go_sem, h]
          · have HE : Hid (Ev w W b q2 (l.length + 3) L2 (bs2 w b B7 a1 l c1 drops leave false G (l.length : Int) M m) [D2, D]) := hE.mark D2 (by omega) hkD (fun h => by have := List.mem_singleton.1 h; omega)
            clear hE hx hkD
            refine wpIn_wide.2 ?_
            go_wp2_with fail
            by_cases hml : m = (L2.length : Int)
            · subst hml
              have d15 := HE.out.bx.cell 0 rfl
              have d7 := HE.out.bx.cell 4 rfl
              have d6 := HE.out.bx.cell 5 rfl
              have y6 := HE.out.bx.frozen 5 rfl
              have HLN : Hid (Calls Try.prog 14 #[.pointer (some ⟨b, 0, none⟩)] W.drew fun e w' => e = .returned (.int .i64 (L2.length : Int)) ∧ w' = W.drew) := lenI_any (some b) q2 _ L2 W.drew (HE.out.rg.drewN 1)
              have HF : Hid (Ev w (W.drew.setCell ⟨w.heap.size + 3, 0, none⟩ (.bool true)) b q2 (l.length + 3) L2 (bs2 w b B7 a1 l c1 drops leave true G (l.length : Int) M (L2.length : Int)) [D2, D]) := (HE.out.later (below_drewN W 1)).set 5 rfl _
              have mixed : Try.prog.follows .mixedOrders = true := by kernel_rfl
              refine wp_region_late (fun _ => True) 9 (by kernel_rfl) trivial (fun _ => ?_)
              refine wpAnyE_two (i := 0) (j := 1) (by kernel_rfl) rfl rfl rfl rfl ?_ ?_
              · go_simp
                refine wpAnyE_on (i := 1) (by kernel_rfl) rfl rfl ?_
                go_simp
                refine wpAnyE_on (i := 2) (by kernel_rfl) rfl rfl ?_
                go_simp
                refine Calls.mono HLN.out ?_
                rintro e wz ⟨rfl, hwz⟩
                subst hwz
                (try refine ⟨trivial, ?_⟩)
                refine wpAnyE_on (i := 3) (by kernel_rfl) rfl rfl ?_
                go_simp
                refine wpAnyE_on (i := 4) (by kernel_rfl) rfl rfl ?_
                go_simp
                refine wpAnyE_off (i := 5) (d := some 125) (by kernel_rfl) rfl rfl rfl trivial ?_
                simp only [Act.put, List.setIfInBounds_toArray, List.set_cons_zero, List.set_cons_succ]
                refine wpAnyE_off (i := 6) (d := some 126) (by kernel_rfl) rfl rfl rfl trivial ?_
                simp only [Act.put, List.setIfInBounds_toArray, List.set_cons_zero, List.set_cons_succ]
                refine wpAnyE_on (i := 7) (by kernel_rfl) rfl rfl ?_
                go_simp
                refine wpAnyE_on (i := 8) (by kernel_rfl) rfl rfl ?_
                go_simp
                refine wpAnyE_done (by kernel_rfl) ?_ _
                go_wp2
                obtain ⟨k2, hB2⟩ := HF.out.bx.take
                obtain ⟨k1, hB1⟩ := hB2.take
                have hc5 := hB1.cell 5 rfl
                refine ⟨by simp, .inl ⟨_, _, rfl, run_takeDeferred k2, ?_⟩⟩
                refine ⟨by simp, .inl ⟨_, _, rfl, run_takeDeferred k1, ?_⟩⟩
                refine ⟨.bool true, ?_, rfl, hB1.chg.to_below (Nat.le_refl _) (fun _ hk => hk.elim)⟩
                refine (?_ : ∀ wx : World, wx.cell? ⟨w.heap.size + 3, 0, none⟩ = some (.bool true) → (results Try.f7 _).run Try.prog wx = .ok (.bool true) wx) _ hc5
                intro wx h
                simp [results, Try.results7, go_sem, h]
              · go_simp
                refine wpAnyE_two (i := 0) (j := 2) (by kernel_rfl) rfl rfl rfl rfl ?_ ?_
                · go_simp
                  refine wpAnyE_on (i := 2) (by kernel_rfl) rfl rfl ?_
                  go_simp
                  refine Calls.mono HLN.out ?_
                  rintro e wz ⟨rfl, hwz⟩
                  subst hwz
                  (try refine ⟨trivial, ?_⟩)
                  refine wpAnyE_on (i := 3) (by kernel_rfl) rfl rfl ?_
                  go_simp
                  refine wpAnyE_on (i := 4) (by kernel_rfl) rfl rfl ?_
                  go_simp
                  refine wpAnyE_off (i := 5) (d := some 125) (by kernel_rfl) rfl rfl rfl trivial ?_
                  simp only [Act.put, List.setIfInBounds_toArray, List.set_cons_zero, List.set_cons_succ]
                  refine wpAnyE_off (i := 6) (d := some 126) (by kernel_rfl) rfl rfl rfl trivial ?_
                  simp only [Act.put, List.setIfInBounds_toArray, List.set_cons_zero, List.set_cons_succ]
                  refine wpAnyE_on (i := 7) (by kernel_rfl) rfl rfl ?_
                  go_simp
                  refine wpAnyE_on (i := 8) (by kernel_rfl) rfl rfl ?_
                  go_simp
                  refine wpAnyE_done (by kernel_rfl) ?_ _
                  go_wp2
                  obtain ⟨k2, hB2⟩ := HF.out.bx.take
                  obtain ⟨k1, hB1⟩ := hB2.take
                  have hc5 := hB1.cell 5 rfl
                  refine ⟨by simp, .inl ⟨_, _, rfl, run_takeDeferred k2, ?_⟩⟩
                  refine ⟨by simp, .inl ⟨_, _, rfl, run_takeDeferred k1, ?_⟩⟩
                  refine ⟨.bool true, ?_, rfl, hB1.chg.to_below (Nat.le_refl _) (fun _ hk => hk.elim)⟩
                  refine (?_ : ∀ wx : World, wx.cell? ⟨w.heap.size + 3, 0, none⟩ = some (.bool true) → (results Try.f7 _).run Try.prog wx = .ok (.bool true) wx) _ hc5
                  intro wx h
                  simp [results, Try.results7, go_sem, h]
                · go_simp
                  refine Calls.mono HLN.out ?_
                  rintro e wz ⟨rfl, hwz⟩
                  subst hwz
                  (try refine ⟨trivial, ?_⟩)
                  refine wpAnyE_on (i := 0) (by kernel_rfl) rfl rfl ?_
                  go_simp
                  refine wpAnyE_on (i := 3) (by kernel_rfl) rfl rfl ?_
                  go_simp
                  refine wpAnyE_on (i := 4) (by kernel_rfl) rfl rfl ?_
                  go_simp
                  refine wpAnyE_off (i := 5) (d := some 125) (by kernel_rfl) rfl rfl rfl trivial ?_
                  simp only [Act.put, List.setIfInBounds_toArray, List.set_cons_zero, List.set_cons_succ]
                  refine wpAnyE_off (i := 6) (d := some 126) (by kernel_rfl) rfl rfl rfl trivial ?_
                  simp only [Act.put, List.setIfInBounds_toArray, List.set_cons_zero, List.set_cons_succ]
                  refine wpAnyE_on (i := 7) (by kernel_rfl) rfl rfl ?_
                  go_simp
                  refine wpAnyE_on (i := 8) (by kernel_rfl) rfl rfl ?_
                  go_simp
                  refine wpAnyE_done (by kernel_rfl) ?_ _
                  go_wp2
                  obtain ⟨k2, hB2⟩ := HF.out.bx.take
                  obtain ⟨k1, hB1⟩ := hB2.take
                  have hc5 := hB1.cell 5 rfl
                  refine ⟨by simp, .inl ⟨_, _, rfl, run_takeDeferred k2, ?_⟩⟩
                  refine ⟨by simp, .inl ⟨_, _, rfl, run_takeDeferred k1, ?_⟩⟩
                  refine ⟨.bool true, ?_, rfl, hB1.chg.to_below (Nat.le_refl _) (fun _ hk => hk.elim)⟩
                  refine (?_ : ∀ wx : World, wx.cell? ⟨w.heap.size + 3, 0, none⟩ = some (.bool true) → (results Try.f7 _).run Try.prog wx = .ok (.bool true) wx) _ hc5
                  intro wx h
                  simp [results, Try.results7, go_sem, h]
            · have hml' : (m == (L2.length : Int)) = false := by simpa using hml
              have d15 := HE.out.bx.cell 0 rfl
              have d7 := HE.out.bx.cell 4 rfl
              have d6 := HE.out.bx.cell 5 rfl
              have y6 := HE.out.bx.frozen 5 rfl
              have HLN : Hid (Calls Try.prog 14 #[.pointer (some ⟨b, 0, none⟩)] W.drew fun e w' => e = .returned (.int .i64 (L2.length : Int)) ∧ w' = W.drew) := lenI_any (some b) q2 _ L2 W.drew (HE.out.rg.drewN 1)
              have HF : Hid (Ev w (W.drew.setCell ⟨w.heap.size + 3, 0, none⟩ (.bool true)) b q2 (l.length + 3) L2 (bs2 w b B7 a1 l c1 drops leave true G (l.length : Int) M m) [D2, D]) := (HE.out.later (below_drewN W 1)).set 5 rfl _
              have mixed : Try.prog.follows .mixedOrders = true := by kernel_rfl
              refine wp_region_late (fun _ => True) 9 (by kernel_rfl) trivial (fun _ => ?_)
              refine wpAnyE_two (i := 0) (j := 1) (by kernel_rfl) rfl rfl rfl rfl ?_ ?_
              · go_simp
                refine wpAnyE_on (i := 1) (by kernel_rfl) rfl rfl ?_
                go_simp
                refine wpAnyE_on (i := 2) (by kernel_rfl) rfl rfl ?_
                go_simp
                refine Calls.mono HLN.out ?_
                rintro e wz ⟨rfl, hwz⟩
                subst hwz
                (try refine ⟨trivial, ?_⟩)
                refine wpAnyE_on (i := 3) (by kernel_rfl) rfl rfl ?_
                go_simp
                refine wpAnyE_on (i := 4) (by kernel_rfl) rfl rfl ?_
                go_simp
                refine wpAnyE_on (i := 5) (by kernel_rfl) rfl rfl ?_
                go_simp
                refine wpAnyE_on (i := 6) (by kernel_rfl) rfl rfl ?_
                go_simp
                refine wpAnyE_on (i := 7) (by kernel_rfl) rfl rfl ?_
                go_simp
                refine wpAnyE_on (i := 8) (by kernel_rfl) rfl rfl ?_
                go_simp
                refine wpAnyE_done (by kernel_rfl) ?_ _
                go_wp2
                obtain ⟨k2, hB2⟩ := HF.out.bx.take
                obtain ⟨k1, hB1⟩ := hB2.take
                have hc5 := hB1.cell 5 rfl
                refine ⟨by simp, .inl ⟨_, _, rfl, run_takeDeferred k2, ?_⟩⟩
                refine ⟨by simp, .inl ⟨_, _, rfl, run_takeDeferred k1, ?_⟩⟩
                refine ⟨.bool true, ?_, rfl, hB1.chg.to_below (Nat.le_refl _) (fun _ hk => hk.elim)⟩
                refine (?_ : ∀ wx : World, wx.cell? ⟨w.heap.size + 3, 0, none⟩ = some (.bool true) → (results Try.f7 _).run Try.prog wx = .ok (.bool true) wx) _ hc5
                intro wx h
                simp [results, Try.results7, go_sem, h]
              · go_simp
                refine wpAnyE_two (i := 0) (j := 2) (by kernel_rfl) rfl rfl rfl rfl ?_ ?_
                · go_simp
                  refine wpAnyE_on (i := 2) (by kernel_rfl) rfl rfl ?_
                  go_simp
                  refine Calls.mono HLN.out ?_
                  rintro e wz ⟨rfl, hwz⟩
                  subst hwz
                  (try refine ⟨trivial, ?_⟩)
                  refine wpAnyE_on (i := 3) (by kernel_rfl) rfl rfl ?_
                  go_simp
                  refine wpAnyE_on (i := 4) (by kernel_rfl) rfl rfl ?_
                  go_simp
                  refine wpAnyE_on (i := 5) (by kernel_rfl) rfl rfl ?_
                  go_simp
                  refine wpAnyE_on (i := 6) (by kernel_rfl) rfl rfl ?_
                  go_simp
                  refine wpAnyE_on (i := 7) (by kernel_rfl) rfl rfl ?_
                  go_simp
                  refine wpAnyE_on (i := 8) (by kernel_rfl) rfl rfl ?_
                  go_simp
                  refine wpAnyE_done (by kernel_rfl) ?_ _
                  go_wp2
                  obtain ⟨k2, hB2⟩ := HF.out.bx.take
                  obtain ⟨k1, hB1⟩ := hB2.take
                  have hc5 := hB1.cell 5 rfl
                  refine ⟨by simp, .inl ⟨_, _, rfl, run_takeDeferred k2, ?_⟩⟩
                  refine ⟨by simp, .inl ⟨_, _, rfl, run_takeDeferred k1, ?_⟩⟩
                  refine ⟨.bool true, ?_, rfl, hB1.chg.to_below (Nat.le_refl _) (fun _ hk => hk.elim)⟩
                  refine (?_ : ∀ wx : World, wx.cell? ⟨w.heap.size + 3, 0, none⟩ = some (.bool true) → (results Try.f7 _).run Try.prog wx = .ok (.bool true) wx) _ hc5
                  intro wx h
                  simp [results, Try.results7, go_sem, h]
                · go_simp
                  refine Calls.mono HLN.out ?_
                  rintro e wz ⟨rfl, hwz⟩
                  subst hwz
                  (try refine ⟨trivial, ?_⟩)
                  refine wpAnyE_on (i := 0) (by kernel_rfl) rfl rfl ?_
                  go_simp
                  refine wpAnyE_on (i := 3) (by kernel_rfl) rfl rfl ?_
                  go_simp
                  refine wpAnyE_on (i := 4) (by kernel_rfl) rfl rfl ?_
                  go_simp
                  refine wpAnyE_on (i := 5) (by kernel_rfl) rfl rfl ?_
                  go_simp
                  refine wpAnyE_on (i := 6) (by kernel_rfl) rfl rfl ?_
                  go_simp
                  refine wpAnyE_on (i := 7) (by kernel_rfl) rfl rfl ?_
                  go_simp
                  refine wpAnyE_on (i := 8) (by kernel_rfl) rfl rfl ?_
                  go_simp
                  refine wpAnyE_done (by kernel_rfl) ?_ _
                  go_wp2
                  obtain ⟨k2, hB2⟩ := HF.out.bx.take
                  obtain ⟨k1, hB1⟩ := hB2.take
                  have hc5 := hB1.cell 5 rfl
                  refine ⟨by simp, .inl ⟨_, _, rfl, run_takeDeferred k2, ?_⟩⟩
                  refine ⟨by simp, .inl ⟨_, _, rfl, run_takeDeferred k1, ?_⟩⟩
                  refine ⟨.bool true, ?_, rfl, hB1.chg.to_below (Nat.le_refl _) (fun _ hk => hk.elim)⟩
                  refine (?_ : ∀ wx : World, wx.cell? ⟨w.heap.size + 3, 0, none⟩ = some (.bool true) → (results Try.f7 _).run Try.prog wx = .ok (.bool true) wx) _ hc5
                  intro wx h
                  simp [results, Try.results7, go_sem, h]
        case done =>
          rintro D2 xs W hD2 rfl hi hkD
          obtain ⟨-, hE⟩ := hi.out
          rw [List.length_range] at hE
          have HE : Hid (Ev w W b q2 (l.length + 3) L2 (bs2 w b B7 a1 l c1 drops leave false G (l.length : Int) M (L2.length : Int)) [D2, D]) := hE.mark D2 (by omega) hkD (fun h => by have := List.mem_singleton.1 h; omega)
          clear hE hi hkD
          go_wp2_with fail
          have d15 := HE.out.bx.cell 0 rfl
          have d7 := HE.out.bx.cell 4 rfl
          have d6 := HE.out.bx.cell 5 rfl
          have y6 := HE.out.bx.frozen 5 rfl
          have HLN : Hid (Calls Try.prog 14 #[.pointer (some ⟨b, 0, none⟩)] W.drew fun e w' => e = .returned (.int .i64 (L2.length : Int)) ∧ w' = W.drew) := lenI_any (some b) q2 _ L2 W.drew (HE.out.rg.drewN 1)
          have HF : Hid (Ev w (W.drew.setCell ⟨w.heap.size + 3, 0, none⟩ (.bool true)) b q2 (l.length + 3) L2 (bs2 w b B7 a1 l c1 drops leave true G (l.length : Int) M (L2.length : Int)) [D2, D]) := (HE.out.later (below_drewN W 1)).set 5 rfl _
          have mixed : Try.prog.follows .mixedOrders = true := by kernel_rfl
          refine wp_region_late (fun _ => True) 9 (by kernel_rfl) trivial (fun _ => ?_)
          refine wpAnyE_two (i := 0) (j := 1) (by kernel_rfl) rfl rfl rfl rfl ?_ ?_
          · go_simp
            refine wpAnyE_on (i := 1) (by kernel_rfl) rfl rfl ?_
            go_simp
            refine wpAnyE_on (i := 2) (by kernel_rfl) rfl rfl ?_
            go_simp
            refine Calls.mono HLN.out ?_
            rintro e wz ⟨rfl, hwz⟩
            subst hwz
            (try refine ⟨trivial, ?_⟩)
            refine wpAnyE_on (i := 3) (by kernel_rfl) rfl rfl ?_
            go_simp
            refine wpAnyE_on (i := 4) (by kernel_rfl) rfl rfl ?_
            go_simp
            refine wpAnyE_off (i := 5) (d := some 125) (by kernel_rfl) rfl rfl rfl trivial ?_
            simp only [Act.put, List.setIfInBounds_toArray, List.set_cons_zero, List.set_cons_succ]
            refine wpAnyE_off (i := 6) (d := some 126) (by kernel_rfl) rfl rfl rfl trivial ?_
            simp only [Act.put, List.setIfInBounds_toArray, List.set_cons_zero, List.set_cons_succ]
            refine wpAnyE_on (i := 7) (by kernel_rfl) rfl rfl ?_
            go_simp
            refine wpAnyE_on (i := 8) (by kernel_rfl) rfl rfl ?_
            go_simp
            refine wpAnyE_done (by kernel_rfl) ?_ _
            go_wp2
            obtain ⟨k2, hB2⟩ := HF.out.bx.take
            obtain ⟨k1, hB1⟩ := hB2.take
            have hc5 := hB1.cell 5 rfl
            refine ⟨by simp, .inl ⟨_, _, rfl, run_takeDeferred k2, ?_⟩⟩
            refine ⟨by simp, .inl ⟨_, _, rfl, run_takeDeferred k1, ?_⟩⟩
            refine ⟨.bool true, ?_, rfl, hB1.chg.to_below (Nat.le_refl _) (fun _ hk => hk.elim)⟩
            refine (?_ : ∀ wx : World, wx.cell? ⟨w.heap.size + 3, 0, none⟩ = some (.bool true) → (results Try.f7 _).run Try.prog wx = .ok (.bool true) wx) _ hc5
            intro wx h
            simp [results, Try.results7, go_sem, h]
          · go_simp
            refine wpAnyE_two (i := 0) (j := 2) (by kernel_rfl) rfl rfl rfl rfl ?_ ?_
            · go_simp
              refine wpAnyE_on (i := 2) (by kernel_rfl) rfl rfl ?_
              go_simp
              refine Calls.mono HLN.out ?_
              rintro e wz ⟨rfl, hwz⟩
              subst hwz
              (try refine ⟨trivial, ?_⟩)
              refine wpAnyE_on (i := 3) (by kernel_rfl) rfl rfl ?_
              go_simp
              refine wpAnyE_on (i := 4) (by kernel_rfl) rfl rfl ?_
              go_simp
              refine wpAnyE_off (i := 5) (d := some 125) (by kernel_rfl) rfl rfl rfl trivial ?_
              simp only [Act.put, List.setIfInBounds_toArray, List.set_cons_zero, List.set_cons_succ]
              refine wpAnyE_off (i := 6) (d := some 126) (by kernel_rfl) rfl rfl rfl trivial ?_
              simp only [Act.put, List.setIfInBounds_toArray, List.set_cons_zero, List.set_cons_succ]
              refine wpAnyE_on (i := 7) (by kernel_rfl) rfl rfl ?_
              go_simp
              refine wpAnyE_on (i := 8) (by kernel_rfl) rfl rfl ?_
              go_simp
              refine wpAnyE_done (by kernel_rfl) ?_ _
              go_wp2
              obtain ⟨k2, hB2⟩ := HF.out.bx.take
              obtain ⟨k1, hB1⟩ := hB2.take
              have hc5 := hB1.cell 5 rfl
              refine ⟨by simp, .inl ⟨_, _, rfl, run_takeDeferred k2, ?_⟩⟩
              refine ⟨by simp, .inl ⟨_, _, rfl, run_takeDeferred k1, ?_⟩⟩
              refine ⟨.bool true, ?_, rfl, hB1.chg.to_below (Nat.le_refl _) (fun _ hk => hk.elim)⟩
              refine (?_ : ∀ wx : World, wx.cell? ⟨w.heap.size + 3, 0, none⟩ = some (.bool true) → (results Try.f7 _).run Try.prog wx = .ok (.bool true) wx) _ hc5
              intro wx h
              simp [results, Try.results7, go_sem, h]
            · go_simp
              refine Calls.mono HLN.out ?_
              rintro e wz ⟨rfl, hwz⟩
              subst hwz
              (try refine ⟨trivial, ?_⟩)
              refine wpAnyE_on (i := 0) (by kernel_rfl) rfl rfl ?_
              go_simp
              refine wpAnyE_on (i := 3) (by kernel_rfl) rfl rfl ?_
              go_simp
              refine wpAnyE_on (i := 4) (by kernel_rfl) rfl rfl ?_
              go_simp
              refine wpAnyE_off (i := 5) (d := some 125) (by kernel_rfl) rfl rfl rfl trivial ?_
              simp only [Act.put, List.setIfInBounds_toArray, List.set_cons_zero, List.set_cons_succ]
              refine wpAnyE_off (i := 6) (d := some 126) (by kernel_rfl) rfl rfl rfl trivial ?_
              simp only [Act.put, List.setIfInBounds_toArray, List.set_cons_zero, List.set_cons_succ]
              refine wpAnyE_on (i := 7) (by kernel_rfl) rfl rfl ?_
              go_simp
              refine wpAnyE_on (i := 8) (by kernel_rfl) rfl rfl ?_
              go_simp
              refine wpAnyE_done (by kernel_rfl) ?_ _
              go_wp2
              obtain ⟨k2, hB2⟩ := HF.out.bx.take
              obtain ⟨k1, hB1⟩ := hB2.take
              have hc5 := hB1.cell 5 rfl
              refine ⟨by simp, .inl ⟨_, _, rfl, run_takeDeferred k2, ?_⟩⟩
              refine ⟨by simp, .inl ⟨_, _, rfl, run_takeDeferred k1, ?_⟩⟩
              refine ⟨.bool true, ?_, rfl, hB1.chg.to_below (Nat.le_refl _) (fun _ hk => hk.elim)⟩
              refine (?_ : ∀ wx : World, wx.cell? ⟨w.heap.size + 3, 0, none⟩ = some (.bool true) → (results Try.f7 _).run Try.prog wx = .ok (.bool true) wx) _ hc5
              intro wx h
              simp [results, Try.results7, go_sem, h]
theorem walk {w : World} (a1 : Option Addr) (l : List Int) (c1 : Nat) (h1 : Sg cel1 a1 l w ∧ ∀ z ∈ l, In64 z) (hl : l.length ≤ 17592186043904) (drops : Int) (_hb : -9223372036854775808 ≤ drops ∧ drops ≤ 9223372036854775807) (leave : Int) (_hc : -9223372036854775808 ≤ leave ∧ leave ≤ 9223372036854775807) :
    Calls Try.prog 7 #[.slice a1 l.length c1, .int .i64 drops, .int .i64 leave] w fun e w' => e = .returned (.bool true) ∧ Below w.heap.size w w' := by
  by_cases hbig : 1048576 < l.length + 3
  · exact bad a1 l c1 drops leave w hl hbig
  · exact good a1 l c1 drops leave w h1.1 (by omega)

theorem own : ownKnob Try.prog.godebug = none := by kernel_rfl
theorem laidOut : laidOutB Try.prog = true := by kernel_rfl
set_option maxRecDepth 100000 in
theorem contract (H : Type) (enc : TypeId × Value → H) (W : World) (base : Nat) (args : Array Value) (ds gs : List (DataW H)) (before : List MemPlace)
    (hval : ∀ (j : Nat) t v, Try.f7.params[j]? = some t → args[j]? = some v → Value.okWide Try.prog W .any base t v)
    (hW : DataW.Whole enc Try.prog Try.f7.params.toList Rows.queueEachSpec.vars false W args.toList ds gs before)
    (hsz : (DataW.weightsEach Try.prog (Try.f7.params.toList ++ Rows.queueEachSpec.plain.varTypes Try.prog) (ds ++ gs)).all (· ≤ reachBytes) = true)
    :
    Calls Try.prog 7 args W fun e W' => ∃ v, e = .returned v ∧ Rows.queueEachSpec.post enc Try.prog Try.f7 false true false false W args v W' := by
  have hW' := hW
  obtain ⟨p, q, hA0, hV, rfl, hfz, hnd⟩ := hW
  have hA : DataW.TrodAll enc Try.prog W 0 (fun _ => true) true Try.f7.params.toList args.toList ds p := hA0
  rw [Try.params7] at hA hval hsz
  obtain ⟨v0, vs0, d0, ds0, p0, q0, hargs, rfl, rfl, h0, r0⟩ := trodAll_cons hA
  obtain ⟨v1, vs1, d1, ds1, p1, q1, rfl, rfl, rfl, h1, r1⟩ := trodAll_cons r0
  obtain ⟨v2, vs2, d2, ds2, p2, q2, rfl, rfl, rfl, h2, r2⟩ := trodAll_cons r1
  obtain ⟨rfl, rfl, rfl⟩ := trodAll_nil r2
  obtain rfl : args = #[v0, v1, v2] := by cases args; simp_all
  obtain ⟨rfl, rfl⟩ := trodVars_none hV
  have k0 := h0
  have lt0 : ∀ x ∈ p0, x.block < W.heap.size := by obtain ⟨m, hm⟩ := k0; exact DataW.trod_lt m _ _ _ hm
  obtain ⟨a0, len0, cap0, rfl⟩ := okWide_slice Try.underlying55 (hval 0 55 v0 rfl rfl)
  obtain ⟨l0, e0, row0, bd0⟩ := open_nums h0
  obtain ⟨a1, rfl, rfl, rfl, w1⟩ := open_int Try.underlying3 (hval 1 3 v1 rfl rfl) h1
  have b1 := bounds_i64 w1
  obtain ⟨a2, rfl, rfl, rfl, w2⟩ := open_int Try.underlying3 (hval 2 3 v2 rfl rfl) h2
  have b2 := bounds_i64 w2
  clear hA0
  have s0 : l0.length ≤ 17592186043904 := by
    rcases bd0 with ⟨el, sp, rfl, hl⟩ | ⟨rfl, hl⟩
    · have := sized_slice hsz (j := 0) (t := 55) (e := 3) rfl rfl Try.underlying55
      rw [bytes3] at this
      simp only [reachBytes] at this
      omega
    · omega
  subst e0
  refine (walk a0 l0 cap0 row0 s0 a1 b1 a2 b2).mono fun e W' ⟨he, bel⟩ => ?_
  subst he
  exact ⟨_, rfl, _, _, _, [], _, [], hW', trodAll_mk1 (shut_bool Try.underlying4 _), trodAll_cons_mk (Below.trod laidOut (by kernel_rfl) (of_decide_eq_true (by kernel_rfl)) k0 bel lt0) (trodAll_cons_mk (shut_int Try.underlying3 w1) (trodAll_cons_mk (shut_int Try.underlying3 w2) trodAll_mk0)), rfl, bel.frame _, fun h => by cases h⟩

set_option maxRecDepth 100000 in
theorem lifted (os : Os) (started : os.Started) (H : Type) (enc : TypeId × Value → H) :
    ReturnsInHanded {} Try.checked os 7 .any (Rows.queueEachSpec.pre6 enc Try.prog Try.f7 Rows.queueEachRow.domain false) (Rows.queueEachSpec.post enc Try.prog Try.f7 false true false false) := by
  refine returnsInHanded_of_change_sized (C := Try.checked) own started (by kernel_rfl) Try.func7
    (ChangeSpec.witness6 (enc := enc) (C := Try.checked) false ⟨#[], #[.slice none 0 0, .int .i64 0, .int .i64 0], []⟩ 8 (by kernel_rfl) (by kernel_rfl) (by kernel_rfl) (by kernel_rfl)) ?_
  intro W base args ds gs before hval0 hW hcnd hsz0 _
  exact contract H enc W base args ds gs before hval0 hW hsz0

theorem over : Rows.queueEachRow.holds Try.pinned (OpenSpec.ofChange Rows.queueEachSpec) :=
  OpenClaim.holds_of_wide 7 Try.f7 rfl rfl rfl rfl rfl rfl rfl ⟨rfl, rfl, rfl, rfl, rfl⟩ rfl rfl rfl rfl rfl (by kernel_rfl) Try.func7 (by kernel_rfl)
    (of_decide_eq_true (by kernel_rfl)) (by unfold Func.isWrapper; first | (rw [if_pos (by decide +kernel)]; kernel_rfl) | (rw [if_neg (by decide +kernel)]; exact ⟨rfl, rfl⟩))
    (fun os started H enc _ => lifted os started H enc)
end Go.Proofs.Ytgbbjhhggjocmaa.queueEach
namespace Go.Proofs.Ytgbbjhhggjocmaa
theorem queueEach_said : Rows.QueueEachSaid := queueEach.over
#print axioms queueEach_said
end Go.Proofs.Ytgbbjhhggjocmaa
