/-
  Of; one answer that the document fixes.
-/
import Derived.Test.YtbfgefgadplcjaaDoorPp12
import Derived.Test.YtbfgefgadplcjaaDoorFe12
import Derived.Lib.SlBytesConst
namespace Go.Proofs.YtbfgefgadplcjaaDoor
open Go.RowKit

set_option maxHeartbeats 1000000 in
theorem of_any (c : Int) (s : Stt) (l : List UInt8) (w : World) : Calls Tryd.prog 27 #[.int .i64 c, stV s, .string (tx l)] w fun e w' => ∃ g, e = .returned (rxV ⟨c, s, some ⟨g, 0, none⟩, 1, 1⟩) ∧ Lies w' g (cellsT [l]) 9 ∧ w.heap.size ≤ g ∧ Below w.heap.size w w' := by
  unfold stV
  go_enter Tryd.func27, Tryd.ntmps27
  go_wp2_with fail
  have z1 : ∀ (w : World) (o : Obj), (w.alloc o).heap.size = w.heap.size + 1 := fun w o => by simp
  have h1 : ∀ (w0 : World) (o1 : Obj) (o2 : Obj) (cs : Array Value) (t : TypeId), Lies (((w0.alloc o1).alloc o2).alloc (.cells cs t)) (w0.heap.size + 1 + 1) cs t := fun w0 o1 o2 cs t => by
    have := Lies.new ((w0.alloc o1).alloc o2) cs t
    rwa [z1, z1] at this
  have h2 : ∀ (w0 : World) (o1 : Obj) (o3 : Obj) (cs : Array Value) (t : TypeId), Lies (((w0.alloc o1).alloc (.cells cs t)).alloc o3) (w0.heap.size + 1) cs t := fun w0 o1 o3 cs t => by
    have := Lies.new (w0.alloc o1) cs t
    rw [z1] at this
    exact this.alloc _
  refine ret_row rfl (w.heap.size + 1) 50 (rxC ⟨c, s, some ⟨w.heap.size + 1 + 1, 0, none⟩, 1, 1⟩) _ rfl (h2 _ _ _ _ _) Tryd.underlying50 rfl infoRY ⟨w.heap.size + 1 + 1, rfl, h1 _ _ _ _ _, by omega, ?_⟩
  exact (((Below.refl _ _).alloc (Nat.le_refl _) _).alloc (by rw [z1]; omega) _).alloc (by rw [z1, z1]; omega) _
theorem hd_may : mayR ⟨250, (2, 1, 0), [[115, 101, 110, 100, 101, 114, 32, 111, 107]]⟩ = true := by decide +kernel
theorem hd_pr : prL ⟨250, (2, 1, 0), [[115, 101, 110, 100, 101, 114, 32, 111, 107]]⟩ = [50, 53, 48, 32, 50, 46, 49, 46, 48, 32, 115, 101, 110, 100, 101, 114, 32, 111, 107, 13, 10] := by decide +kernel
def hdB : List UInt8 := [50, 50, 48, 32, 120, 13, 10]
theorem hd_run : (Sr.nil.run hdB).b = false ∧ (Sr.nil.run hdB).o.length = 1 := by decide +kernel
theorem hd_rep : (Sr.nil.run hdB).o = [repOf hdB] := by rfl
theorem hd_one : (repOf hdB).code = 220 ∧ (repOf hdB).ls = [[120]] := by decide +kernel
set_option maxHeartbeats 2000000 in
set_option maxRecDepth 20000 in
theorem lhead_any (w : World) (ht : Tb w) : Calls Tryd.prog 9 #[] w fun e w' => e = .returned (.bool true) ∧ Below w.heap.size w w' := by
  have HT : Hid (Tb w) := ht
  have HOF := of_any 250 (2, 1, 0) [115, 101, 110, 100, 101, 114, 32, 111, 107] w
  clear ht
  unfold stV at HOF
  go_enter Tryd.func9, Tryd.ntmps9
  go_wp2_with fail
  refine HOF.mono ?_
  rintro e w1 ⟨g1, rfl, hL1, hg1, hB1⟩
  have HB1 : Hid (Below w.heap.size w w1) := hB1
  have HPR := print_ok ⟨250, (2, 1, 0), some ⟨g1, 0, none⟩, 1, 1⟩ [[115, 101, 110, 100, 101, 114, 32, 111, 107]] (show (-9223372036854775808 : Int) ≤ 250 by decide) (show (250 : Int) ≤ 9223372036854775807 by decide) w1 (HT.out.on hB1) rfl (.inr ⟨g1, 0, rfl, hL1.lt, fun j hj => by
    rw [Nat.zero_add, hL1.cell]
    exact cellsT_at _ _ _ (List.getElem?_eq_getElem hj)⟩) (by decide) (by decide) hd_may
  rw [hd_pr] at HPR
  clear hL1 hg1 hB1 HOF
  go_wp2_with fail
  refine HPR.mono ?_
  rintro e w2 ⟨v2, rfl, hO2, hB2⟩
  have hcv := own_conv hO2
  have HB2 : Hid (Below w.heap.size w w2) := HB1.out.trans (hB2.mono HB1.out.size)
  have HO2 : Hid (w2.ownsRow w1.heap.size 5 1 v2 _ (cellsB [50, 53, 48, 32, 50, 46, 49, 46, 48, 32, 115, 101, 110, 100, 101, 114, 32, 111, 107, 13, 10])) := hO2
  clear hO2 hB2 HPR HB1 hcv
  go_wp2_with fail
  refine (rnew_any w2).mono ?_
  rintro e w3 ⟨b, rfl, hR3, hB3⟩
  have HR3 : Hid (Rd w3 (fun k => w2.heap.size ≤ k) b Sr.nil) := hR3
  have HB3 : Hid (Below w.heap.size w w3) := HB2.out.trans (hB3.mono HB2.out.size)
  have hcv := own_conv (own_below HO2.out hB3)
  have HS23 : Hid (w2.heap.size ≤ w3.heap.size) := hB3.size
  clear hR3 hB3
  obtain ⟨W4, hW4⟩ : ∃ W4, W4 = w3.alloc (.cells #[.int .u8 50, .int .u8 50, .int .u8 48, .int .u8 32, .int .u8 120, .int .u8 13, .int .u8 10] 5 (7, 8)) := ⟨_, rfl⟩
  have hcc : (convert 31 31 (.slice (some ⟨w3.heap.size, 0, none⟩) 7 7)).run Tryd.prog (w3.alloc (.cells #[.int .u8 50, .int .u8 50, .int .u8 48, .int .u8 32, .int .u8 120, .int .u8 13, .int .u8 10] 5)) = .ok (.slice (some ⟨w3.heap.size, 0, none⟩) 7 7) W4 := by subst hW4; exact Lib.run_convert_bytes_const w3 31 5 _ 7 7 Tryd.underlying31 Tryd.underlying5
  have hB4 : Below w3.heap.size w3 W4 := by subst hW4; exact (Below.refl _ _).alloc (Nat.le_refl _) _
  have hL4 : ∀ j, W4.cell? ⟨w3.heap.size, j, none⟩ = (cellsB hdB)[j]? := fun j => by subst hW4; rw [cell_of_row _ w3.heap.size j #[.int .u8 50, .int .u8 50, .int .u8 48, .int .u8 32, .int .u8 120, .int .u8 13, .int .u8 10] 5 (7, 8) (heap_alloc_new w3 _), show (#[.int .u8 50, .int .u8 50, .int .u8 48, .int .u8 32, .int .u8 120, .int .u8 13, .int .u8 10] : Array Value) = (cellsB hdB).toArray from rfl, List.getElem?_toArray]
  have hlt4 : w3.heap.size < W4.heap.size := by subst hW4; simp
  have HB4 : Hid (Below w.heap.size w W4) := HB3.out.trans (hB4.mono HB3.out.size)
  have HFE := feed_any (fun k => w2.heap.size ≤ k ∧ k < w3.heap.size) b Sr.nil (some ⟨w3.heap.size, 0, none⟩) hdB 7 7 rfl (by decide) W4 ((HR3.out.mono (fun k h1 h2 => ⟨h1, h2⟩)).below hB4) (fun k hk => ⟨Nat.lt_of_lt_of_le hk.2 hB4.size, Nat.le_trans HT.out.big (Nat.le_trans HB2.out.size hk.1)⟩) rfl (by rw [hd_run.2]; decide) (.inr ⟨w3.heap.size, 0, rfl, hlt4, fun j hj => by rw [Nat.zero_add, hL4]; exact cellsB_at _ _ hj⟩) (fun ad e => by cases e; exact fun h => absurd h.2 (Nat.lt_irrefl _)) (HT.out.on HB4.out)
  rw [hd_run.1] at HFE
  have HF8 : Hid (∀ k, w2.heap.size ≤ k → w.heap.size ≤ k) := fun k hk => Nat.le_trans HB2.out.size hk
  clear hB4 hL4 hlt4
  have HS34 : Hid (w3.heap.size ≤ W4.heap.size) := by subst hW4; show _ ≤ _; simp
  clear hW4
  unfold errS at HFE
  simp only [Bool.false_eq_true, if_false] at HFE
  go_wp2_with fail
  refine HFE.mono ?_
  rintro e w5 ⟨rfl, hR5, hC5⟩
  have HB5 : Hid (Below w.heap.size w w5) := HB4.out.trans (hC5.to_below HB4.out.size (fun k hk => HF8.out k hk.1))
  have HNX := rnext_any (fun k => w2.heap.size ≤ k ∧ k < w5.heap.size) b _ w5 (hR5.mono (fun k h1 h2 => ⟨by rcases h1 with h1 | h1; exact h1.1; exact Nat.le_trans HS23.out (Nat.le_trans HS34.out h1), h2⟩)) (fun k hk => hk.2)
  have HF9 : Hid (∀ k, w2.heap.size ≤ k ∧ k < w5.heap.size → w.heap.size ≤ k) := fun k hk => HF8.out k hk.1
  clear hR5 hC5 HFE
  go_wp2_with fail
  refine HNX.mono ?_
  rintro e w6 ⟨x6, rfl, hN6, hR6, hC6, -⟩
  obtain ⟨hy, -⟩ := hN6.yes _ [] hd_rep
  obtain ⟨y1, y2, y3, g6, y4, hL6⟩ := hy
  rw [hd_one.1] at y1
  rw [hd_one.2] at y3 hL6
  have HB6 : Hid (Below w.heap.size w w6) := HB5.out.trans (hC6.to_below HB5.out.size HF9.out)
  have z6 : w6.cell? ⟨g6, 0, none⟩ = some (.string ⟨#[120]⟩) := hL6.cell 0
  rw [hd_rep]
  obtain ⟨xc, xs, xa, xn, xk⟩ := x6
  dsimp only at y1 y3 y4
  subst y1 y4
  have y5 : xn = 1 := y3
  subst y5
  have hne6 : g6 ≠ w6.heap.size := Nat.ne_of_lt hL6.lt
  have hne7 : w6.heap.size ≠ g6 := Ne.symm hne6
  have z7 : (w6.alloc (.cells #[.int .i64 220, .int .i64 xs.1, .int .i64 xs.2.1, .int .i64 xs.2.2, .slice (some ⟨g6, 0, none⟩) 1 xk] 50)).cell? ⟨g6, 0, none⟩ = some (.string ⟨#[120]⟩) := (hL6.alloc _).cell 0
  clear hN6 hR6 hC6 y2 y3 HNX hL6
  unfold rxV
  dsimp only
  go_wp2_with fail
  go_ret
  exact ⟨rfl, HB6.out.alloc HB6.out.size _⟩
end Go.Proofs.YtbfgefgadplcjaaDoor
