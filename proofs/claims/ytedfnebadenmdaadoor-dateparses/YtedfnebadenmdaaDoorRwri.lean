/-
  The contract of the document's written.
-/
import Derived.Test.YtedfnebadenmdaaDoorRdn
import Derived.Test.YtedfnebadenmdaaDoorUpper
import Derived.Laws.IdiomStrings
namespace Go.Proofs.YtedfnebadenmdaaDoor
open Go.RowKit

theorem three_back (W : World) (B cap : Nat) (a b c : UInt8) (h0 : W.cell? ⟨B, 0, none⟩ = some (.int .u8 (a.toNat : Int))) (h1 : W.cell? ⟨B, 1, none⟩ = some (.int .u8 (b.toNat : Int))) (h2 : W.cell? ⟨B, 2, none⟩ = some (.int .u8 (c.toNat : Int))) :
    (convert 82 9 (.slice (some ⟨B, 0, none⟩) 3 cap)).run Tryd.prog W = .ok (.string ⟨#[a, b, c]⟩) W := by
  refine run_convert_bytes_back (P := Tryd.prog) W 82 9 5 ⟨B, 0, none⟩ cap [a, b, c] Tryd.underlying82 Tryd.underlying5 Tryd.underlying9 (fun j hj => ?_)
  have hc : j = 0 ∨ j = 1 ∨ j = 2 := by simp at hj; omega
  rcases hc with rfl | rfl | rfl
  · exact h0
  · exact h1
  · exact h2
set_option maxRecDepth 100000 in
set_option maxHeartbeats 2000000 in
theorem writ_any (all : ByteArray) (n : Nat) (a b c b' c' : UInt8) (w : World) (hs : all.size ≤ 100) (hn : 3 * n + 3 ≤ all.size) (he : all.extract (3 * n) (3 * n + 3) = ⟨#[a, b, c]⟩) (hb : b'.toNat = b.toNat + 32) (hc : c'.toNat = c.toNat + 32) :
    Calls Tryd.prog 34 #[.string all, .int .i64 (n : Int)] w fun e w' => e = .returned (.string ⟨#[a, b', c']⟩) ∧ Below w.heap.size w w' := by
  have h1 : (3 : Int) * (n : Int) ≤ 3 * (n : Int) + 3 := by omega
  have h2 : (3 : Int) * (n : Int) + 3 ≤ (all.size : Int) := by omega
  have hx : all.extract (3 * (n : Int)).toNat (3 * (n : Int) + 3).toNat = ⟨#[a, b, c]⟩ := by rw [← he]; congr 1
  have hconv := run_bytes_of_string (P := Tryd.prog) w 9 82 5 ⟨#[a, b, c]⟩ Tryd.underlying9 Tryd.underlying82 Tryd.underlying5
  have e3 : (⟨#[a, b, c]⟩ : ByteArray).size = 3 := rfl
  rw [e3] at hconv
  obtain ⟨cap, hcap⟩ : ∃ k, k = grownCap w 3 0 5 := ⟨_, rfl⟩
  rw [← hcap] at hconv
  obtain ⟨N, hN⟩ : ∃ N, N = (bytesRow ⟨#[a, b, c]⟩ cap).size := ⟨_, rfl⟩
  rw [← hN] at hconv
  have hr := UpRel.start ⟨#[a, b, c]⟩ w cap N hN
  have HB : Hid (Below w.heap.size w (w.alloc (.cells (bytesRow ⟨#[a, b, c]⟩ cap) 5 (N, N + 1))).drew) := hr.below
  have c0 : (w.alloc (.cells (bytesRow ⟨#[a, b, c]⟩ cap) 5 (N, N + 1))).drew.cell? ⟨w.heap.size, 0, none⟩ = some (.int .u8 (a.toNat : Int)) := hr.cell 0 (by rw [e3]; omega)
  have c1 : (w.alloc (.cells (bytesRow ⟨#[a, b, c]⟩ cap) 5 (N, N + 1))).drew.cell? ⟨w.heap.size, 1, none⟩ = some (.int .u8 (b.toNat : Int)) := hr.cell 1 (by rw [e3]; omega)
  have c2 : (w.alloc (.cells (bytesRow ⟨#[a, b, c]⟩ cap) 5 (N, N + 1))).drew.cell? ⟨w.heap.size, 2, none⟩ = some (.int .u8 (c.toNat : Int)) := hr.cell 2 (by rw [e3]; omega)
  have f1 := hr.free 1 (by rw [e3]; omega)
  have f2 := hr.free 2 (by rw [e3]; omega)
  clear hr hN hcap e3 he
  have HLW : Hid (w.heap.size ≤ w.heap.size) := Nat.le_refl _
  have HBZ : Hid (Below w.heap.size w (((w.alloc (.cells (bytesRow ⟨#[a, b, c]⟩ cap) 5 (N, N + 1))).drew.setCell ⟨w.heap.size, 1, none⟩ (.int .u8 ((b.toNat : Int) + 32))).setCell ⟨w.heap.size, 2, none⟩ (.int .u8 ((c.toNat : Int) + 32)))) := (HB.out.setCell (p := ⟨w.heap.size, 1, none⟩) HLW.out _).setCell (p := ⟨w.heap.size, 2, none⟩) HLW.out _
  have b1 := b'.toNat_lt
  have b2 := c'.toNat_lt
  have hback := three_back (((w.alloc (.cells (bytesRow ⟨#[a, b, c]⟩ cap) 5 (N, N + 1))).drew.setCell ⟨w.heap.size, 1, none⟩ (.int .u8 ((b.toNat : Int) + 32))).setCell ⟨w.heap.size, 2, none⟩ (.int .u8 ((c.toNat : Int) + 32))) w.heap.size cap a b' c'
    (by rw [World.cell?_setCell_other _ _ _ _ (by intro h'; injection h' with _ h'; omega), World.cell?_setCell_other _ _ _ _ (by intro h'; injection h' with _ h'; omega)]; exact c0)
    (by rw [World.cell?_setCell_other _ _ _ _ (by intro h'; injection h' with _ h'; omega), World.cell?_setCell_same _ _ _ c1, hb]; rfl)
    (by rw [World.cell?_setCell_same _ _ _ ((World.cell?_setCell_other _ _ _ _ (by intro h'; injection h' with _ h'; omega)).trans c2), hc]; rfl)
  have i1 : (b.toNat : Int) + 32 ≤ 255 := by omega
  have i2 : (c.toNat : Int) + 32 ≤ 255 := by omega
  have hback' : (convert 82 9 (.slice (some ⟨w.heap.size, 0, none⟩) 3 cap)).run Tryd.prog (((w.alloc (.cells (bytesRow ⟨#[a, b, c]⟩ cap) 5 (N, N + 1))).setCell ⟨w.heap.size, 1, none⟩ (.int .u8 ((b.toNat : Int) + 32))).setCell ⟨w.heap.size, 2, none⟩ (.int .u8 ((c.toNat : Int) + 32))).drew = .ok (.string ⟨#[a, b', c']⟩) (((w.alloc (.cells (bytesRow ⟨#[a, b, c]⟩ cap) 5 (N, N + 1))).setCell ⟨w.heap.size, 1, none⟩ (.int .u8 ((b.toNat : Int) + 32))).setCell ⟨w.heap.size, 2, none⟩ (.int .u8 ((c.toNat : Int) + 32))).drew := hback
  have g2 : ((w.alloc (.cells (bytesRow ⟨#[a, b, c]⟩ cap) 5 (N, N + 1))).setCell ⟨w.heap.size, 1, none⟩ (.int .u8 ((b.toNat : Int) + 32))).drew.cell? ⟨w.heap.size, 2, none⟩ = some (.int .u8 (c.toNat : Int)) := (World.cell?_setCell_other (w.alloc (.cells (bytesRow ⟨#[a, b, c]⟩ cap) 5 (N, N + 1))).drew _ _ _ (by intro h'; injection h' with _ h'; omega)).trans c2
  have g3 : ((w.alloc (.cells (bytesRow ⟨#[a, b, c]⟩ cap) 5 (N, N + 1))).setCell ⟨w.heap.size, 1, none⟩ (.int .u8 ((b.toNat : Int) + 32))).drew.frozen? ⟨w.heap.size, 2, none⟩ = false := (World.frozen?_setCell (w.alloc (.cells (bytesRow ⟨#[a, b, c]⟩ cap) 5 (N, N + 1))).drew _ _ _).trans f2
  clear b1 b2 hb hc hback
  go_enter Tryd.func34, Tryd.ntmps34
  go_wp2
  go_ret
  exact ⟨rfl, HBZ.out⟩
/-- The row of names in capitals. -/
def wdU : ByteArray := ⟨#[83, 85, 78, 77, 79, 78, 84, 85, 69, 87, 69, 68, 84, 72, 85, 70, 82, 73, 83, 65, 84]⟩
theorem writ_wd (n : Nat) (hn : n < 7) (w : World) : Calls Tryd.prog 34 #[.string wdU, .int .i64 (n : Int)] w fun e w' => e = .returned (.string (nmS wdS n)) ∧ Below w.heap.size w w' := by
  match n, hn with
  | 0, _ =>
    have e : nmS wdS 0 = ⟨#[83, 117, 110]⟩ := by decide +kernel
    rw [e]
    exact writ_any wdU 0 83 85 78 117 110 w (by decide) (by decide) (by decide +kernel) (by decide) (by decide)
  | 1, _ =>
    have e : nmS wdS 1 = ⟨#[77, 111, 110]⟩ := by decide +kernel
    rw [e]
    exact writ_any wdU 1 77 79 78 111 110 w (by decide) (by decide) (by decide +kernel) (by decide) (by decide)
  | 2, _ =>
    have e : nmS wdS 2 = ⟨#[84, 117, 101]⟩ := by decide +kernel
    rw [e]
    exact writ_any wdU 2 84 85 69 117 101 w (by decide) (by decide) (by decide +kernel) (by decide) (by decide)
  | 3, _ =>
    have e : nmS wdS 3 = ⟨#[87, 101, 100]⟩ := by decide +kernel
    rw [e]
    exact writ_any wdU 3 87 69 68 101 100 w (by decide) (by decide) (by decide +kernel) (by decide) (by decide)
  | 4, _ =>
    have e : nmS wdS 4 = ⟨#[84, 104, 117]⟩ := by decide +kernel
    rw [e]
    exact writ_any wdU 4 84 72 85 104 117 w (by decide) (by decide) (by decide +kernel) (by decide) (by decide)
  | 5, _ =>
    have e : nmS wdS 5 = ⟨#[70, 114, 105]⟩ := by decide +kernel
    rw [e]
    exact writ_any wdU 5 70 82 73 114 105 w (by decide) (by decide) (by decide +kernel) (by decide) (by decide)
  | 6, _ =>
    have e : nmS wdS 6 = ⟨#[83, 97, 116]⟩ := by decide +kernel
    rw [e]
    exact writ_any wdU 6 83 65 84 97 116 w (by decide) (by decide) (by decide +kernel) (by decide) (by decide)
  | k + 7, h => omega
/-- The row of names in capitals. -/
def moU : ByteArray := ⟨#[74, 65, 78, 70, 69, 66, 77, 65, 82, 65, 80, 82, 77, 65, 89, 74, 85, 78, 74, 85, 76, 65, 85, 71, 83, 69, 80, 79, 67, 84, 78, 79, 86, 68, 69, 67]⟩
theorem writ_mo (n : Nat) (hn : n < 12) (w : World) : Calls Tryd.prog 34 #[.string moU, .int .i64 (n : Int)] w fun e w' => e = .returned (.string (nmS moS n)) ∧ Below w.heap.size w w' := by
  match n, hn with
  | 0, _ =>
    have e : nmS moS 0 = ⟨#[74, 97, 110]⟩ := by decide +kernel
    rw [e]
    exact writ_any moU 0 74 65 78 97 110 w (by decide) (by decide) (by decide +kernel) (by decide) (by decide)
  | 1, _ =>
    have e : nmS moS 1 = ⟨#[70, 101, 98]⟩ := by decide +kernel
    rw [e]
    exact writ_any moU 1 70 69 66 101 98 w (by decide) (by decide) (by decide +kernel) (by decide) (by decide)
  | 2, _ =>
    have e : nmS moS 2 = ⟨#[77, 97, 114]⟩ := by decide +kernel
    rw [e]
    exact writ_any moU 2 77 65 82 97 114 w (by decide) (by decide) (by decide +kernel) (by decide) (by decide)
  | 3, _ =>
    have e : nmS moS 3 = ⟨#[65, 112, 114]⟩ := by decide +kernel
    rw [e]
    exact writ_any moU 3 65 80 82 112 114 w (by decide) (by decide) (by decide +kernel) (by decide) (by decide)
  | 4, _ =>
    have e : nmS moS 4 = ⟨#[77, 97, 121]⟩ := by decide +kernel
    rw [e]
    exact writ_any moU 4 77 65 89 97 121 w (by decide) (by decide) (by decide +kernel) (by decide) (by decide)
  | 5, _ =>
    have e : nmS moS 5 = ⟨#[74, 117, 110]⟩ := by decide +kernel
    rw [e]
    exact writ_any moU 5 74 85 78 117 110 w (by decide) (by decide) (by decide +kernel) (by decide) (by decide)
  | 6, _ =>
    have e : nmS moS 6 = ⟨#[74, 117, 108]⟩ := by decide +kernel
    rw [e]
    exact writ_any moU 6 74 85 76 117 108 w (by decide) (by decide) (by decide +kernel) (by decide) (by decide)
  | 7, _ =>
    have e : nmS moS 7 = ⟨#[65, 117, 103]⟩ := by decide +kernel
    rw [e]
    exact writ_any moU 7 65 85 71 117 103 w (by decide) (by decide) (by decide +kernel) (by decide) (by decide)
  | 8, _ =>
    have e : nmS moS 8 = ⟨#[83, 101, 112]⟩ := by decide +kernel
    rw [e]
    exact writ_any moU 8 83 69 80 101 112 w (by decide) (by decide) (by decide +kernel) (by decide) (by decide)
  | 9, _ =>
    have e : nmS moS 9 = ⟨#[79, 99, 116]⟩ := by decide +kernel
    rw [e]
    exact writ_any moU 9 79 67 84 99 116 w (by decide) (by decide) (by decide +kernel) (by decide) (by decide)
  | 10, _ =>
    have e : nmS moS 10 = ⟨#[78, 111, 118]⟩ := by decide +kernel
    rw [e]
    exact writ_any moU 10 78 79 86 111 118 w (by decide) (by decide) (by decide +kernel) (by decide) (by decide)
  | 11, _ =>
    have e : nmS moS 11 = ⟨#[68, 101, 99]⟩ := by decide +kernel
    rw [e]
    exact writ_any moU 11 68 69 67 101 99 w (by decide) (by decide) (by decide +kernel) (by decide) (by decide)
  | k + 12, h => omega
end Go.Proofs.YtedfnebadenmdaaDoor
