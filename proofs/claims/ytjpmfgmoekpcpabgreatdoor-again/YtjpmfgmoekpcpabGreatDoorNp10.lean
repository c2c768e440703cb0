/-
  The program's notifyOf where wakes asks it, walked.
-/
import Derived.Test.YtjpmfgmoekpcpabGreatDoorNo10
namespace Go.Proofs.YtjpmfgmoekpcpabGreatDoor
open Go.RowKit Go.Maps Go.WideMaps

theorem look_all {w : World} {b : Nat} (h : w.ownsMap Tryz.prog 9 (plainElem Tryz.prog 3) b 4 ntD4) : (Instr.lookup 113 (.map (some b)) (.string ⟨#[68, 69, 76, 65, 89]⟩) true).run Tryz.prog w = .ok (.tuple #[.int .i64 8, .bool true]) w := by
  obtain ⟨v, ps, hr, hv⟩ := h.look_ok (key := .string ⟨#[68, 69, 76, 65, 89]⟩) (kl := dlL) ntK Tryz.underlying113 (zero3 w) (plainElem_int (a := 0) Tryz.underlying3 (by decide)) (keyOf_string_mk Tryz.underlying9 (by decide))
  rw [dl_at] at hv
  obtain ⟨c, rfl, hc, _⟩ := plainElem_int_inv Tryz.underlying3 hv
  have h8 : c = 8 := by
    simp only [Prod.mk.injEq, DataW.lit.injEq, Lit.int.injEq, true_and] at hc
    exact hc.1.symm
  rw [hr, dl_has, h8]
theorem look_none {w : World} {b : Nat} (h : w.ownsMap Tryz.prog 9 (plainElem Tryz.prog 3) b 0 ntD0) : (Instr.lookup 113 (.map (some b)) (.string ⟨#[68, 69, 76, 65, 89]⟩) true).run Tryz.prog w = .ok (.tuple #[.int .i64 0, .bool false]) w := by
  obtain ⟨v, ps, hr, hv⟩ := h.look_ok (key := .string ⟨#[68, 69, 76, 65, 89]⟩) (kl := dlL) ntK Tryz.underlying113 (zero3 w) (plainElem_int (a := 0) Tryz.underlying3 (by decide)) (keyOf_string_mk Tryz.underlying9 (by decide))
  obtain ⟨c, rfl, hc, _⟩ := plainElem_int_inv Tryz.underlying3 hv
  have h8 : c = 0 := by
    have e : ntD0.atKey dlL (.lit (.int .i64 0)) = (.lit (.int .i64 0) : DataW Unit) := rfl
    rw [e] at hc
    simp only [Prod.mk.injEq, DataW.lit.injEq, Lit.int.injEq, true_and] at hc
    exact hc.1.symm
  rw [hr, dl_not, h8]
theorem dl_any (kl : Lit) (h : Maps.has dlD kl = true) (z : DataW Unit) : dlD.atKey kl z = .lit (.int .i64 8) := by
  have e : dlD = .map [(dlL, .lit (.int .i64 8))] := rfl
  rw [e] at h ⊢
  rw [Maps.has_eq] at h
  simp at h
  simp [DataW.atKey, h]
theorem range_dl {w : World} {b n : Nat} (h : w.ownsMap Tryz.prog 9 (plainElem Tryz.prog 3) b n dlD) : ∃ w1 w2 key, (Instr.range 113 (.map (some b))).run Tryz.prog w = .ok (.pointer (some ⟨w.heap.size, 0, none⟩)) w1 ∧
    (Instr.next (.pointer (some ⟨w.heap.size, 0, none⟩)) false 0).run Tryz.prog w1 = .ok (.tuple #[.bool true, key, .int .i64 8]) w2 ∧ (Instr.entry (.pointer (some ⟨w.heap.size, 0, none⟩))).run Tryz.prog w2 = .ok (.tuple #[key, .int .i64 8]) w2 ∧
    (Instr.next (.pointer (some ⟨w.heap.size, 0, none⟩)) false 0).run Tryz.prog w2 = .ok (.tuple #[.bool false]) w2 ∧ w.grownBy w1 none ∧ w1.grownBy w2 (some w.heap.size) := by
  obtain ⟨w1, hr, hg, hg1, _⟩ := h.range ntK Tryz.underlying113
  rcases hg.next ntK 0 with ⟨h0, _⟩ | ⟨key, v, kl, y, w2, c2, hk, hl, hv, hat, hn, hrg, hlt, hg2, _, hen⟩
  · rw [dl_size] at h0; omega
  · obtain ⟨c, rfl, hc, _⟩ := plainElem_int_inv Tryz.underlying3 hv
    have h8 : c = 8 := by
      have := hat (.lit (.int .i64 0))
      rw [dl_any kl hl, hc] at this
      simp only [DataW.lit.injEq, Lit.int.injEq, true_and] at this
      exact this.symm
    subst h8
    rcases hrg.next ntK 0 with ⟨_, _, hn2⟩ | ⟨_, _, _, _, _, c3, _, _, _, _, _, _, hlt3, _⟩
    · exact ⟨w1, w2, key, hr, hn, hen, hn2, hg1, hg2⟩
    · rw [dl_size] at hlt; omega

set_option maxHeartbeats 8000000 in
set_option maxRecDepth 100000 in
theorem notify_delay (w : World) (hml : ∃ m, w.cell? ⟨1, 0, none⟩ = some (.int .i64 m)) :
    Calls Tryz.prog 107 #[.string ⟨#[68, 69, 76, 65, 89]⟩] w fun e w' => e = .returned (.tuple #[.int .i64 8, .bool true]) ∧ Below w.heap.size w w' := by
  have hmm := @run_makeMap Tryz.prog
  have HML : Hid (∀ wx, Below w.heap.size w wx → ∃ m, wx.cell? ⟨1, 0, none⟩ = some (.int .i64 m)) := fun wx hx => by
    obtain ⟨m, hm⟩ := hml
    exact ⟨m, (hx.cell (p := ⟨1, 0, none⟩) (World.block_lt_of_cell? w _ hm)).trans hm⟩
  clear hml
  go_enter Tryz.func107, Tryz.ntmps107
  go_wp2_with fail
  refine (notices_any w).mono ?_
  rintro e w1 ⟨rfl, hm1, hb1⟩
  have HM1 : Hid (w1.ownsMap Tryz.prog 9 (plainElem Tryz.prog 3) w.heap.size 4 ntD4) := hm1
  have HB1 : Hid (Below w.heap.size w w1) := hb1
  clear hm1 hb1
  go_wp2_with fail
  refine (upper_delay _).mono ?_
  rintro e w2 ⟨rfl, hb2⟩
  have HM2 : Hid (w2.ownsMap Tryz.prog 9 (plainElem Tryz.prog 3) w.heap.size 4 ntD4) := (HM1.out.alloc _).kept (grown_below (World.grownBy.refl _ none) hb2) (by simp)
  have HN2 : Hid (w2.ownsMap Tryz.prog 9 (plainElem Tryz.prog 3) w1.heap.size 0 ntD0) := (World.ownsMap_made w1 _ _ _).kept (grown_below (World.grownBy.refl _ none) hb2) (by simp)
  have HB2 : Hid (Below w.heap.size w w2) := (HB1.out.alloc HB1.out.size _).trans (hb2.mono (by simp; have := HB1.out.size; omega))
  have HS1 : Hid (w.heap.size ≤ w1.heap.size) := HB1.out.size
  clear hb2 HM1 HB1
  go_wp2_with fail
  refine (split_delay w2 (HML.out w2 HB2.out)).mono ?_
  rintro e w3 ⟨rfl, hw3⟩
  have HM3 : Hid (w3.ownsMap Tryz.prog 9 (plainElem Tryz.prog 3) w.heap.size 4 ntD4) := by rw [hw3]; exact HM2.out.alloc _
  have HN3 : Hid (w3.ownsMap Tryz.prog 9 (plainElem Tryz.prog 3) w1.heap.size 0 ntD0) := by rw [hw3]; exact HN2.out.alloc _
  have HB3 : Hid (Below w.heap.size w w3) := by rw [hw3]; exact HB2.out.alloc HB2.out.size _
  have c0 : w3.cell? ⟨w2.heap.size, 0, none⟩ = some (.string ⟨#[68, 69, 76, 65, 89]⟩) := by rw [hw3]; exact (Lies.new w2 _ _).cell 0
  clear hw3 HM2 HN2 HB2
  have e1 := look_all HM3.out
  have e2 := look_none HN3.out
  obtain ⟨w4, e3, hn4, hg4⟩ := HN3.out.update (key := .string ⟨#[68, 69, 76, 65, 89]⟩) (val := .int .i64 8) ntK Tryz.underlying113 (by decide) (keyOf_string_mk Tryz.underlying9 (by decide)) (plainElem_int Tryz.underlying3 (by decide))
  have hd : ntD0.put (.string [68, 69, 76, 65, 89]) (.lit (.int .i64 8)) = dlD := rfl
  rw [show (⟨#[68, 69, 76, 65, 89]⟩ : ByteArray).data.toList = [68, 69, 76, 65, 89] from rfl, hd] at hn4
  obtain ⟨w5, w6, key, e4, e5, e6, e7, hg5, hg6⟩ := range_dl hn4
  have HB4 : Hid (Below w.heap.size w w4) := HB3.out.grown hg4 HB3.out.size (fun k hk => by injection hk with hk; have := HS1.out; omega)
  have HB5 : Hid (Below w.heap.size w w5) := HB4.out.grown hg5 HB4.out.size (fun k hk => by cases hk)
  have HB6 : Hid (Below w.heap.size w w6) := HB5.out.grown hg6 HB5.out.size (fun k hk => by injection hk with hk; have := HB4.out.size; omega)
  clear hd hn4 hg4 hg5 hg6 HB5 HB3 HM3 HN3
  go_wp2_with fail
  refine wp_loop_rounds 2 ?_
  rw [rounds_succ]
  go_wp2_with fail
  rw [rounds_succ]
  go_wp2_with fail
  refine wp_loop_rounds 2 ?_
  rw [rounds_succ]
  go_wp2_with fail
  rw [rounds_succ]
  go_wp2_with fail
  refine (mayn_8 _).mono ?_
  rintro e w7 ⟨rfl, rfl⟩
  go_wp2_with fail
  go_ret2
  exact ⟨rfl, HB6.out⟩
end Go.Proofs.YtjpmfgmoekpcpabGreatDoor
