/-
  Statuses: written, read, the one that texts have in common.
-/
import Derived.Test.YtbfgefgadplcjaaDoorGrown
import Derived.Test.YtbfgefgadplcjaaDoorDecm8
import Derived.Test.YtbfgefgadplcjaaDoorShi
import Derived.Laws.StructEq
import Derived.Deep.RegionHeld3
namespace Go.Proofs.YtbfgefgadplcjaaDoor
open Go.RowKit

/-- The variables that are laid. -/
structure Tb (w : World) : Prop where
  dig : DigT w
  cls : Table w
  pow : PowTab w
  mx : ∃ m, w.cell? ⟨2, 0, none⟩ = some (.int .i64 m)
  big : 8 ≤ w.heap.size
theorem cell_keep {w w' : World} {g : Nat} (h : w'.heap[g]? = w.heap[g]?) (j : Nat) : w'.cell? ⟨g, j, none⟩ = w.cell? ⟨g, j, none⟩ := by
  unfold World.cell?
  rw [h]
theorem Tb.keep {w w' : World} (h : Tb w) (hs : w.heap.size ≤ w'.heap.size) (hk : ∀ k, k < 8 → w'.heap[k]? = w.heap[k]?) : Tb w' := by
  obtain ⟨d0, d1, d2, d3, d4, d5⟩ := h.dig
  obtain ⟨m, hm⟩ := h.mx
  have k0 := cell_keep (hk 0 (by decide))
  refine ⟨⟨(k0 _).trans d0, (k0 _).trans d1, (k0 _).trans d2, (k0 _).trans d3, (k0 _).trans d4, (k0 _).trans d5⟩, fun c hc => (cell_keep (hk 1 (by decide)) c).trans (h.cls c hc), ?_, ⟨m, (cell_keep (hk 2 (by decide)) 0).trans hm⟩, Nat.le_trans h.big hs⟩
  have hp := h.pow
  unfold PowTab Lib.TabIs World.var? at hp ⊢
  rw [show Tryd.prog.globalNamed "internal/strconv.uint64pow10" = some 3 by kernel_rfl] at hp ⊢
  rw [Option.bind_some] at hp ⊢
  rw [hk 3 (by decide)]
  exact hp
theorem Tb.below {w w' : World} {B : Nat} (h : Tb w) (hB : 8 ≤ B) (hb : Below B w w') : Tb w' := h.keep hb.size (fun k hk => hb.block k (by omega))
theorem Tb.on {w w' : World} (h : Tb w) (hb : Below w.heap.size w w') : Tb w' := h.below h.big hb
theorem Tb.drewN {w : World} (h : Tb w) (n : Nat) : Tb (w.drewN n) := h.keep (Nat.le_refl _) (fun _ _ => rfl)

theorem dc_any (n : Int) (h0 : 0 ≤ n) (h1 : n ≤ 9223372036854775807) (w : World) (ht : Tb w) : Calls Tryd.prog 48 #[.int .u64 n] w fun e w' => e = .returned (.string (tx (dcI n))) ∧ Below w.heap.size w w' := by
  obtain ⟨k, rfl⟩ : ∃ k : Nat, n = (k : Int) := ⟨n.toNat, by omega⟩
  exact decm_any k (by omega) w ht.pow
theorem wrap_u64 (n : Int) (h0 : 0 ≤ n) (h1 : n ≤ 9223372036854775807) : IntKind.u64.wrap n = n := by
  simp [IntKind.wrap, IntKind.bits, IntKind.signed]
  omega
theorem sadd (X Y : ByteArray) (h : X.size + Y.size ≤ 8388608) : ∀ W, (Op.stringOp .add X Y).run Tryd.prog W = .ok (.string (X ++ Y)) W := fun W => run_string_add _ _ _ (by omega) (by omega)
theorem d_fin : ∀ u : Fin 1000, (Lib.decDigits u.val).length ≤ 3 := by decide +kernel
theorem dc_len (n : Int) (h : n ≤ 999) : (dcI n).length ≤ 3 := d_fin ⟨n.toNat, by omega⟩
theorem wrSt_tx (a b c : List UInt8) : tx a ++ ⟨#[46]⟩ ++ tx b ++ ⟨#[46]⟩ ++ tx c = tx (a ++ [46] ++ b ++ [46] ++ c) := by
  rw [show (⟨#[46]⟩ : ByteArray) = tx [46] from rfl, tx_cat, tx_cat, tx_cat, tx_cat]
set_option maxHeartbeats 1000000 in
set_option maxRecDepth 20000 in
theorem writ_any (s : Stt) (h : isSt s = true) (w : World) (ht : Tb w) : Calls Tryd.prog 55 #[stV s] w fun e w' => e = .returned (.string (tx (wrSt s))) ∧ Below w.heap.size w w' := by
  have hb : (s.1 = 2 ∨ s.1 = 4 ∨ s.1 = 5) ∧ (0 ≤ s.2.1 ∧ s.2.1 ≤ 999) ∧ (0 ≤ s.2.2 ∧ s.2.2 ≤ 999) := by
    unfold isSt at h
    simp at h
    omega
  obtain ⟨h1, ⟨h2, h3⟩, h4, h5⟩ := hb
  have h6 : 0 ≤ s.1 := by omega
  have h7 : s.1 ≤ 999 := by omega
  unfold wrSt stV
  obtain ⟨W, hW⟩ : ∃ W, W = w.alloc (.cells #[.int .i64 s.1, .int .i64 s.2.1, .int .i64 s.2.2] 48) := ⟨_, rfl⟩
  have hB1 : Below w.heap.size w W := by subst hW; exact (Below.refl _ _).alloc (Nat.le_refl _) _
  have hL : Lies W w.heap.size #[.int .i64 s.1, .int .i64 s.2.1, .int .i64 s.2.2] 48 := by subst hW; exact Lies.new w _ _
  have HD : Hid (∀ n : Int, 0 ≤ n → n ≤ 999 → ∀ w', Below W.heap.size W w' → Calls Tryd.prog 48 #[.int .u64 (IntKind.u64.wrap n)] w' fun e w2 => e = .returned (.string (tx (dcI n))) ∧ Below W.heap.size W w2) := fun n a b w' hb => by
    rw [wrap_u64 n a (by omega)]
    exact (dc_any n a (by omega) w' ((ht.on hB1).on hb)).mono (fun e w2 k => ⟨k.1, hb.trans (k.2.mono hb.size)⟩)
  have HSS : Hid (∀ wx, Below W.heap.size W wx → wx.cell? ⟨w.heap.size, 0, none⟩ = some (.int .i64 s.1) ∧ wx.cell? ⟨w.heap.size, 1, none⟩ = some (.int .i64 s.2.1) ∧ wx.cell? ⟨w.heap.size, 2, none⟩ = some (.int .i64 s.2.2)) := fun wx hb => by
    have := hL.below hb hL.lt
    exact ⟨this.cell 0, this.cell 1, this.cell 2⟩
  have HFB : Hid (∀ wx, Below W.heap.size W wx → Below w.heap.size w wx) := fun wx hb => hB1.trans (hb.mono hB1.size)
  have HWW : Hid (w.alloc (.cells #[.int .i64 s.1, .int .i64 s.2.1, .int .i64 s.2.2] 48) = W) := hW.symm
  obtain ⟨x0, x1, x2⟩ := HSS.out W (Below.refl _ _)
  have HB0 : Hid (Below W.heap.size W W) := Below.refl _ _
  clear h h1 ht hL hB1 hW
  have HE : Hid (tx (dcI s.1 ++ [46] ++ dcI s.2.1 ++ [46] ++ dcI s.2.2) = tx (dcI s.1) ++ ⟨#[46]⟩ ++ tx (dcI s.2.1) ++ ⟨#[46]⟩ ++ tx (dcI s.2.2)) := (wrSt_tx _ _ _).symm
  have l1 := dc_len s.1 h7
  have l2 := dc_len s.2.1 h3
  have l3 := dc_len s.2.2 h5
  rw [← tx_size] at l1 l2 l3
  have HD1 : Hid (∀ w', Below W.heap.size W w' → Calls Tryd.prog 48 #[.int .u64 (IntKind.u64.wrap s.1)] w' fun e w2 => e = .returned (.string (tx (dcI s.1))) ∧ Below W.heap.size W w2) := HD.out _ h6 h7
  have HD2 : Hid (∀ w', Below W.heap.size W w' → Calls Tryd.prog 48 #[.int .u64 (IntKind.u64.wrap s.2.1)] w' fun e w2 => e = .returned (.string (tx (dcI s.2.1))) ∧ Below W.heap.size W w2) := HD.out _ h2 h3
  have HD3 : Hid (∀ w', Below W.heap.size W w' → Calls Tryd.prog 48 #[.int .u64 (IntKind.u64.wrap s.2.2)] w' fun e w2 => e = .returned (.string (tx (dcI s.2.2))) ∧ Below W.heap.size W w2) := HD.out _ h4 h5
  clear HD
  generalize tx (dcI s.1) = A at *
  generalize tx (dcI s.2.1) = B at *
  generalize tx (dcI s.2.2) = C at *
  have sz : (⟨#[46]⟩ : ByteArray).size = 1 := rfl
  have a1 := sadd A ⟨#[46]⟩ (by omega)
  have a2 := sadd (A ++ ⟨#[46]⟩) B (by simp only [ByteArray.size_append]; omega)
  have a3 := sadd (A ++ ⟨#[46]⟩ ++ B) ⟨#[46]⟩ (by simp only [ByteArray.size_append]; omega)
  have a4 := sadd (A ++ ⟨#[46]⟩ ++ B ++ ⟨#[46]⟩) C (by simp only [ByteArray.size_append]; omega)
  clear sz l1 l2 l3
  generalize s.1 = a at *
  generalize s.2.1 = b at *
  generalize s.2.2 = c at *
  go_enter Tryd.func55, Tryd.ntmps55
  go_wp2_with fail
  rw [HWW.out]
  go_region_held3 (fun wx => wx.cell? ⟨w.heap.size, 0, none⟩ = some (.int .i64 a) ∧ wx.cell? ⟨w.heap.size, 1, none⟩ = some (.int .i64 b) ∧ wx.cell? ⟨w.heap.size, 2, none⟩ = some (.int .i64 c)) (first | exact ⟨x0, x1, x2⟩ | exact HSS.out _ HB3 | exact HSS.out _ HB2 | exact HSS.out _ HB1)
    (first
      | (go_at_call 48; have _t := HB0; refine (HD1.out _ HB0.out.drew).mono ?_; clear HB0 _t; rintro e w1 ⟨rfl, HB1⟩)
      | (go_at_call 48; refine (HD2.out _ HB1).mono ?_; rintro e w2 ⟨rfl, HB2⟩)
      | (go_at_call 48; refine (HD3.out _ HB2).mono ?_; rintro e w3 ⟨rfl, HB3⟩))
  all_goals
    go_wp2
    go_ret
    exact ⟨by rw [HE.out]; rfl, HFB.out _ HB3⟩
end Go.Proofs.YtbfgefgadplcjaaDoor
