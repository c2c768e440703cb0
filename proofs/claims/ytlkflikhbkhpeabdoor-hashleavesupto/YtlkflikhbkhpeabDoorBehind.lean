/-
  The register behind a row, the program's.
-/
import Derived.Test.YtlkflikhbkhpeabDoorTabl
import Derived.Test.YtlkflikhbkhpeabDoorLate
namespace Go.Proofs.YtlkflikhbkhpeabDoor
open Go.RowKit

/-- The program's two tables. -/
structure Tabs (w : World) : Prop where
  sin : ∀ i, i < 64 → w.cell? ⟨0, i, none⟩ = some (.int .u32 ((kk i).toNat : Int))
  trn : ∀ i, i < 16 → w.cell? ⟨1, i, none⟩ = some (.int .u8 ((sL.getD i 0 : Nat) : Int))
theorem lt_of_cell {w : World} {g k : Nat} {v : Value} (h : w.cell? ⟨g, k, none⟩ = some v) : g < w.heap.size := by
  rcases Nat.lt_or_ge g w.heap.size with h' | h'
  · exact h'
  · simp [World.cell?, Array.getElem?_eq_none h'] at h
theorem Tabs.size {w : World} (h : Tabs w) : 2 ≤ w.heap.size := by
  have h1 := lt_of_cell (h.sin 0 (by omega))
  have h2 := lt_of_cell (h.trn 0 (by omega))
  omega
theorem Tabs.belowB {w w' : World} {B : Nat} (h : Tabs w) (hb : Below B w w') (hB : 2 ≤ B) : Tabs w' :=
  ⟨fun i hi => (hb.cell (p := ⟨0, i, none⟩) (by show 0 < B; omega)).trans (h.sin i hi), fun i hi => (hb.cell (p := ⟨1, i, none⟩) (by show 1 < B; omega)).trans (h.trn i hi)⟩
theorem Tabs.below {w w' : World} (h : Tabs w) (hb : Below w.heap.size w w') : Tabs w' := h.belowB hb h.size
theorem ss_eq (i : Nat) : sL.getD (i / 16 * 4 + i % 4) 0 = ss i := rfl
theorem ss_pos (i : Nat) (h : i < 64) : 0 < ss i := by
  have : ∀ j : Fin 64, 0 < ss j.val := by decide
  exact this ⟨i, h⟩

theorem three_wrap (x y z : BitVec 32) : IntKind.u32.wrap (IntKind.u32.wrap ((x.toNat : Int) + (y.toNat : Int)) + (z.toNat : Int)) = ((x + y + z).toNat : Int) := by
  rw [IntKind.wrap_u32, IntKind.wrap_u32, add_spelt, add_spelt]
theorem run_storeCells_rg {w : World} {g : Nat} {old : Array Value} {t : TypeId} (h : Lies w g old t) (hs : old.size = 4) (r : Rg) :
    (storeCells ⟨g, 0, none⟩ (rgv r).toList).run Tryd.prog w = .ok () (w.setRow g (rgv r)) := by
  have := run_storeVar_row (P := Tryd.prog) w g t 43 old (rgv r) h (infoRg r) hs (rgv_one r)
  have hi := infoRg r
  cases hq : Tryd.prog.info? 43 with
  | none => simp [hq] at hi
  | some i =>
    have hs : (rgv r).size = i.size := by simp [hq] at hi; omega
    simpa [storeVar, sizeOf, typeInfo, hq, Value.cells, hs] using this

theorem wp_store_none {P : Program} {o : Oper} {a : Act} {w : World} {K : Act → World → Prop} {Q : Exit → Act → World → Prop} (ty : TypeId) (x y : Operand) (ho : o.op = .store ty x y)
    (g : Nat) (cells : Array Value) (hx : a.eval x = .pointer (some ⟨g, 0, none⟩)) (hy : a.eval y = .agg cells)
    (t : TypeId) (old : Array Value) (hg : Lies w g old t) (hi : (P.info? ty).map (·.size) = some cells.size)
    (hold : old.size = cells.size) (h1 : cells.all (·.oneCell') = true) (hd : o.dst = none) (h : K a (w.setRow g cells)) : o.wp P a w K Q :=
  wp_store_row ty x y ho g cells hx hy t old hg hi hold h1 (by rw [hd]; exact h)

theorem rgv_at (r : Rg) (k : Nat) (h : k < 4) : (rgv r)[k]? = some (.int .u32 ((r.at k).toNat : Int)) := by
  match k, h with
  | 0, _ => rfl
  | 1, _ => rfl
  | 2, _ => rfl
  | 3, _ => rfl
theorem addR_at (r x : Rg) (k : Nat) (h : k < 4) : (addR r x).at k = r.at k + x.at k := by
  match k, h with
  | 0, _ => rfl
  | 1, _ => rfl
  | 2, _ => rfl
  | 3, _ => rfl
/-- The first k words have been added. -/
structure Added (k : Nat) (c : Array Value) (r x : Rg) : Prop where
  upto : Upto k c (rgv (addR r x))
  rest : ∀ j, k ≤ j → c[j]? = (rgv r)[j]?
theorem Added.zero (r x : Rg) : Added 0 (rgv r) r x := ⟨⟨rfl, fun j h => by omega⟩, fun _ _ => rfl⟩
theorem Added.next {k : Nat} {c : Array Value} {r x : Rg} (h : Added k c r x) (hk : k < 4) : Added (k + 1) (c.setIfInBounds k (.int .u32 (((r.at k) + (x.at k)).toNat : Int))) r x :=
  ⟨h.upto.next (by rw [rgv_at _ k hk, addR_at r x k hk]), fun j hj => by rw [Array.getElem?_setIfInBounds_ne (by omega)]; exact h.rest j (by omega)⟩

set_option maxRecDepth 100000 in
theorem behind_any (r : Rg) (l : List UInt8) (hl : l.length = 64) (w : World) (ht : Tabs w) : Calls Tryd.prog 34 #[.agg (rgv r), .agg (rowV l)] w fun e w' => e = .returned (.agg (rgv (blk r (fun j => wd l (4 * j))))) ∧ Below w.heap.size w w' := by
  have HL : Hid (l.length = 64) := hl
  have HT : Hid (Tabs w) := ht
  clear hl ht
  go_enter Tryd.func34, Tryd.ntmps34
  go_wp2_with (refine wpList_load_row rfl 38 _ rfl _ rfl (rowV l) 38 _ ((new_one w _ _ _).alloc _) Tryd.underlying38 rfl (by rw [rowV_size, HL.out]; kernel_rfl) ?_)
  refine (words_any l HL.out _).mono ?_
  rintro e w1 ⟨rfl, hb1⟩
  have hs : w.heap.size + 3 ≤ w1.heap.size := by have := hb1.size; simp at this; omega
  have HR1 : Hid (Lies w1 w.heap.size (rgv r) 43) := (((Lies.new w (rgv r) 43).alloc _).alloc _).below hb1 (by simp; omega)
  have HZ1 : Hid (Lies w1 (w.heap.size + 2) zero4 43) := (new_two w _ _ zero4 43).below hb1 (by simp)
  have HB1 : Hid (Below w.heap.size w w1) := ((((Below.refl _ _).alloc (Nat.le_refl _) _).alloc (by simp) _).alloc (by simp; omega) _).trans (hb1.mono (by simp; omega))
  clear hb1
  go_wp2_with (first | (refine wpList_store_row rfl 62 _ _ rfl w1.heap.size rfl zero16 (wdsV l) rfl 62 (Lies.new w1 _ 62) (infoW _) (by rw [wdsV_size]; rfl) (wdsV_one _) rfl ?_; refine wpList_gen (fun w2 => Hid (Lies w2 w.heap.size (rgv r) 43) ∧ Hid (Lies w2 (w.heap.size + 2) zero4 43) ∧ Hid (Lies w2 w1.heap.size (wdsV l) 62) ∧ Hid (Below w.heap.size w w2) ∧ w2.heap.size = w1.heap.size + 1) ⟨(HR1.out.alloc _).row_other (by omega) _, (HZ1.out.alloc _).row_other (by omega) _, (Lies.new w1 _ 62).row _, below_row (HB1.out.alloc (by omega) _) (by omega) _, by simp [World.setRow]⟩ ?_; rintro w2 ⟨HR2, HZ2, HM2, HB2, hs2⟩; clear HR1 HZ1 HB1) | (refine wpList_load_row rfl 43 _ rfl _ rfl (rgv r) 43 _ HR2.out Tryd.underlying43 rfl (infoRg _) ?_) | (refine wpList_store_row rfl 43 _ _ rfl (w1.heap.size + 1) rfl zero4 (rgv r) rfl 43 (by rw [← hs2]; exact Lies.new w2 _ 43) (infoRg _) rfl (rgv_one _) rfl ?_; refine wpList_gen (fun w3 => Hid (Lies w3 w.heap.size (rgv r) 43) ∧ Hid (Lies w3 (w.heap.size + 2) zero4 43) ∧ Hid (Lies w3 w1.heap.size (wdsV l) 62) ∧ Hid (Lies w3 (w1.heap.size + 1) (rgv r) 43) ∧ Hid (Below w.heap.size w w3)) ⟨(HR2.out.alloc _).row_other (by omega) _, (HZ2.out.alloc _).row_other (by omega) _, (HM2.out.alloc _).row_other (by omega) _, by rw [← hs2]; exact (Lies.new w2 _ 43).row _, below_row (HB2.out.alloc (by omega) _) (by omega) _⟩ ?_; rintro w3 ⟨HR3, HZ3, HM3, HX3, HB3⟩; clear HR2 HZ2 HM2 HB2 hs2))
  obtain ⟨m, hm⟩ : ∃ m : Nat → BitVec 32, m = fun j => wd l (4 * j) := ⟨_, rfl⟩
  have HMM : Hid (m = fun j => wd l (4 * j)) := hm
  clear hm
  go_loopw [14] (fun i wr => ∃ (k : Nat) (x : Rg), k ≤ 64 ∧ i = .int .i64 k ∧ Hid (Lies wr w.heap.size (rgv r) 43) ∧ Hid (Lies wr (w.heap.size + 2) zero4 43) ∧ Hid (Lies wr w1.heap.size (wdsV l) 62) ∧ Hid (Lies wr (w1.heap.size + 1) (rgv x) 43) ∧ Hid (Below w.heap.size w wr) ∧ Hid (x = stps m k r)) (fun i _ => 64 - (intOf i).toNat)
  case atStart => exact ⟨0, r, by omega, rfl, HR3, HZ3, HM3, HX3, HB3, rfl⟩
  case round =>
    obtain ⟨k, x, hk, rfl, HR, HZ, HM, HX, HB, HS⟩ := hrel
    by_cases hlt : k < 64
    · go_wp2_with (refine wpList_load_row rfl 43 _ rfl _ rfl (rgv x) 43 _ HX.out Tryd.underlying43 rfl (infoRg _) ?_)
      refine (mixed_any x k hlt wr).mono ?_
      rintro e w4 ⟨rfl, hb4⟩
      have HB4 : Hid (Below wr.heap.size wr w4) := hb4
      clear hb4
      obtain ⟨f, hf⟩ : ∃ f, f = ff k x.b x.c x.d := ⟨_, rfl⟩
      rw [← hf]
      have HFF : Hid (f = ff k x.b x.c x.d) := hf
      clear hf
      obtain ⟨p, hp⟩ : ∃ p, p = gg k := ⟨_, rfl⟩
      rw [← hp]
      have HG : Hid (p = gg k) := hp
      have hp16 : p < 16 := by rw [hp]; exact gg_lt k
      clear hp
      go_wp2_with fail
      obtain ⟨K, hK⟩ : ∃ K, K = kk k := ⟨_, rfl⟩
      have HK : Hid (K = kk k) := hK
      obtain ⟨V, hV⟩ : ∃ V, V = m p := ⟨_, rfl⟩
      have HV : Hid (V = m p) := hV
      obtain ⟨s, hss⟩ : ∃ s, s = ss k := ⟨_, rfl⟩
      have HSS : Hid (s = ss k) := hss
      have s24 : s < 24 := by rw [hss]; exact ss_lt k hlt
      have s0 : 0 < s := by rw [hss]; exact ss_pos k hlt
      have q16 : (k : Int) / 16 * 4 + (k : Int) % 4 = ((k / 16 * 4 + k % 4 : Nat) : Int) := by omega
      have q17 : k / 16 * 4 + k % 4 < 16 := by omega
      have H4 : Hid (∀ w', Below w4.heap.size w4 w' → w'.cell? ⟨w1.heap.size + 1, 0, none⟩ = some (.int .u32 (x.a.toNat : Int)) ∧ w'.cell? ⟨w1.heap.size + 1, 1, none⟩ = some (.int .u32 (x.b.toNat : Int)) ∧ w'.cell? ⟨w1.heap.size + 1, 2, none⟩ = some (.int .u32 (x.c.toNat : Int)) ∧ w'.cell? ⟨w1.heap.size + 1, 3, none⟩ = some (.int .u32 (x.d.toNat : Int)) ∧ w'.cell? ⟨0, k, none⟩ = some (.int .u32 (K.toNat : Int)) ∧ w'.cell? ⟨w1.heap.size, p, none⟩ = some (.int .u32 (V.toNat : Int)) ∧ w'.cell? ⟨1, k / 16 * 4 + k % 4, none⟩ = some (.int .u8 (s : Int))) := fun w' hb => by
        have hT : Tabs w' := ((HT.out.below HB.out).belowB HB4.out (by have := HB.out.size; have := HT.out.size; omega)).below hb
        have hlX : Lies w4 (w1.heap.size + 1) (rgv x) 43 := HX.out.below HB4.out HX.out.lt
        have hlM : Lies w4 w1.heap.size (wdsV l) 62 := HM.out.below HB4.out HM.out.lt
        have hl5 := hlX.below hb hlX.lt
        refine ⟨hl5.cell 0, hl5.cell 1, hl5.cell 2, hl5.cell 3, ?_, ?_, ?_⟩
        · rw [hK]; exact hT.sin k hlt
        · rw [hV, (hlM.below hb hlM.lt).cell p, wdsV_at l p hp16, HMM.out]
        · rw [hss]; exact hT.trn _ q17
      clear hK hV hss
      generalize hj : k / 16 * 4 + k % 4 = j at q16 q17 H4
      clear hj
      have p16 : (p : Int) < 16 := by omega
      have j16 : (j : Int) < 16 := by omega
      have e1 : (k : Int).tdiv 16 = (k : Int) / 16 := Int.tdiv_eq_ediv_of_nonneg (by omega)
      have e2 : (k : Int).tmod 4 = (k : Int) % 4 := Int.tmod_eq_emod_of_nonneg (by omega)
      have e3 : IntKind.i64.wrap ((k : Int) / 16) = (k : Int) / 16 := by rw [IntKind.wrap_i64]; omega
      have e4 : IntKind.i64.wrap ((k : Int) / 16 * 4) = (k : Int) / 16 * 4 := by rw [IntKind.wrap_i64]; omega
      have e5 : IntKind.i64.wrap ((k : Int) / 16 * 4 + (k : Int) % 4) = (j : Int) := by rw [IntKind.wrap_i64]; omega
      have e6 : IntKind.i64.wrap (s : Int) = (s : Int) := by rw [IntKind.wrap_i64]; omega
      obtain ⟨F, hF⟩ : ∃ F, F = f + K + V := ⟨_, rfl⟩
      have HF : Hid (F = f + K + V) := hF
      have e7 := three_wrap f K V
      rw [← hF] at e7
      clear hF
      have e8 : IntKind.i64.wrap (j : Int) = (j : Int) := by rw [IntKind.wrap_i64]; omega
      refine wp_region_late (fun w' => w'.cell? ⟨w1.heap.size + 1, 0, none⟩ = some (.int .u32 (x.a.toNat : Int)) ∧ w'.cell? ⟨w1.heap.size + 1, 1, none⟩ = some (.int .u32 (x.b.toNat : Int)) ∧ w'.cell? ⟨w1.heap.size + 1, 2, none⟩ = some (.int .u32 (x.c.toNat : Int)) ∧ w'.cell? ⟨w1.heap.size + 1, 3, none⟩ = some (.int .u32 (x.d.toNat : Int)) ∧ w'.cell? ⟨0, k, none⟩ = some (.int .u32 (K.toNat : Int)) ∧ w'.cell? ⟨w1.heap.size, p, none⟩ = some (.int .u32 (V.toNat : Int)) ∧ w'.cell? ⟨1, j, none⟩ = some (.int .u8 (s : Int))) 20 (by kernel_rfl) (H4.out _ (Below.refl _ w4).drew) (fun hHeld => ?_)
      refine wpAnyE_take (i := 0) (d := some 23) (v := ?_) rfl (by kernel_rfl) (by kernel_rfl) (by kernel_rfl) (by kernel_rfl) (fun _ _ _ h => h) rfl rfl ?hy (by assumption) ?_
      case hy => (intro w' hSw; (try dsimp only at hSw); go_simp <;> (try with_reducible rfl))
      simp only [Act.put, List.setIfInBounds_toArray, List.set_cons_zero, List.set_cons_succ]
      refine wpAnyE_take (i := 1) (d := some 24) (v := ?_) rfl (by kernel_rfl) (by kernel_rfl) (by kernel_rfl) (by kernel_rfl) (fun _ _ _ h => h) rfl rfl ?hy (by assumption) ?_
      case hy => (intro w' hSw; (try dsimp only at hSw); go_simp <;> (try with_reducible rfl))
      simp only [Act.put, List.setIfInBounds_toArray, List.set_cons_zero, List.set_cons_succ]
      refine wpAnyE_take (i := 2) (d := some 25) (v := ?_) rfl (by kernel_rfl) (by kernel_rfl) (by kernel_rfl) (by kernel_rfl) (fun _ _ _ h => h) rfl rfl ?hy (by assumption) ?_
      case hy => (intro w' hSw; (try dsimp only at hSw); go_simp <;> (try with_reducible rfl))
      simp only [Act.put, List.setIfInBounds_toArray, List.set_cons_zero, List.set_cons_succ]
      refine wpAnyE_take (i := 3) (d := some 26) (v := ?_) rfl (by kernel_rfl) (by kernel_rfl) (by kernel_rfl) (by kernel_rfl) (fun _ _ _ h => h) rfl rfl ?hy (by assumption) ?_
      case hy => (intro w' hSw; (try dsimp only at hSw); go_simp <;> (try with_reducible rfl))
      simp only [Act.put, List.setIfInBounds_toArray, List.set_cons_zero, List.set_cons_succ]
      refine wpAnyE_take (i := 4) (d := some 27) (v := ?_) rfl (by kernel_rfl) (by kernel_rfl) (by kernel_rfl) (by kernel_rfl) (fun _ _ _ h => h) rfl rfl ?hy (by assumption) ?_
      case hy => (intro w' hSw; (try dsimp only at hSw); go_simp <;> (try with_reducible rfl))
      simp only [Act.put, List.setIfInBounds_toArray, List.set_cons_zero, List.set_cons_succ]
      refine wpAnyE_take (i := 5) (d := some 28) (v := ?_) rfl (by kernel_rfl) (by kernel_rfl) (by kernel_rfl) (by kernel_rfl) (fun _ _ _ h => h) rfl rfl ?hy (by assumption) ?_
      case hy => (intro w' hSw; (try dsimp only at hSw); go_simp <;> (try with_reducible rfl))
      simp only [Act.put, List.setIfInBounds_toArray, List.set_cons_zero, List.set_cons_succ]
      refine wpAnyE_take (i := 6) (d := some 29) (v := ?_) rfl (by kernel_rfl) (by kernel_rfl) (by kernel_rfl) (by kernel_rfl) (fun _ _ _ h => h) rfl rfl ?hy (by assumption) ?_
      case hy => (intro w' hSw; (try dsimp only at hSw); go_simp <;> (try with_reducible rfl))
      simp only [Act.put, List.setIfInBounds_toArray, List.set_cons_zero, List.set_cons_succ]
      refine wpAnyE_take (i := 7) (d := some 30) (v := ?_) rfl (by kernel_rfl) (by kernel_rfl) (by kernel_rfl) (by kernel_rfl) (fun _ _ _ h => h) rfl rfl ?hy (by assumption) ?_
      case hy => (intro w' hSw; (try dsimp only at hSw); go_simp <;> (try with_reducible rfl))
      simp only [Act.put, List.setIfInBounds_toArray, List.set_cons_zero, List.set_cons_succ]
      refine wpAnyE_take (i := 8) (d := some 31) (v := ?_) rfl (by kernel_rfl) (by kernel_rfl) (by kernel_rfl) (by kernel_rfl) (fun _ _ _ h => h) rfl rfl ?hy (by assumption) ?_
      case hy => (intro w' hSw; (try dsimp only at hSw); go_simp <;> (try with_reducible rfl))
      simp only [Act.put, List.setIfInBounds_toArray, List.set_cons_zero, List.set_cons_succ]
      refine wpAnyE_take (i := 9) (d := some 32) (v := ?_) rfl (by kernel_rfl) (by kernel_rfl) (by kernel_rfl) (by kernel_rfl) (fun _ _ _ h => h) rfl rfl ?hy (by assumption) ?_
      case hy => (intro w' hSw; (try dsimp only at hSw); go_simp <;> (try with_reducible rfl))
      simp only [Act.put, List.setIfInBounds_toArray, List.set_cons_zero, List.set_cons_succ]
      refine wpAnyE_take (i := 10) (d := some 33) (v := ?_) rfl (by kernel_rfl) (by kernel_rfl) (by kernel_rfl) (by kernel_rfl) (fun _ _ _ h => h) rfl rfl ?hy (by assumption) ?_
      case hy => (intro w' hSw; (try dsimp only at hSw); go_simp <;> (try with_reducible rfl))
      simp only [Act.put, List.setIfInBounds_toArray, List.set_cons_zero, List.set_cons_succ]
      refine wpAnyE_take (i := 11) (d := some 34) (v := ?_) rfl (by kernel_rfl) (by kernel_rfl) (by kernel_rfl) (by kernel_rfl) (fun _ _ _ h => h) rfl rfl ?hy (by assumption) ?_
      case hy => (intro w' hSw; (try dsimp only at hSw); go_simp <;> (try with_reducible rfl))
      simp only [Act.put, List.setIfInBounds_toArray, List.set_cons_zero, List.set_cons_succ]
      refine wpAnyE_take (i := 12) (d := some 35) (v := ?_) rfl (by kernel_rfl) (by kernel_rfl) (by kernel_rfl) (by kernel_rfl) (fun _ _ _ h => h) rfl rfl ?hy (by assumption) ?_
      case hy => (intro w' hSw; (try dsimp only at hSw); go_simp <;> (try with_reducible rfl))
      simp only [Act.put, List.setIfInBounds_toArray, List.set_cons_zero, List.set_cons_succ]
      refine wpAnyE_take (i := 13) (d := some 36) (v := ?_) rfl (by kernel_rfl) (by kernel_rfl) (by kernel_rfl) (by kernel_rfl) (fun _ _ _ h => h) rfl rfl ?hy (by assumption) ?_
      case hy => (intro w' hSw; (try dsimp only at hSw); go_simp <;> (try with_reducible rfl))
      simp only [Act.put, List.setIfInBounds_toArray, List.set_cons_zero, List.set_cons_succ]
      refine wpAnyE_take (i := 14) (d := some 37) (v := ?_) rfl (by kernel_rfl) (by kernel_rfl) (by kernel_rfl) (by kernel_rfl) (fun _ _ _ h => h) rfl rfl ?hy (by assumption) ?_
      case hy => (intro w' hSw; (try dsimp only at hSw); go_simp <;> (try with_reducible rfl))
      simp only [Act.put, List.setIfInBounds_toArray, List.set_cons_zero, List.set_cons_succ]
      refine wpAnyE_take (i := 15) (d := some 38) (v := ?_) rfl (by kernel_rfl) (by kernel_rfl) (by kernel_rfl) (by kernel_rfl) (fun _ _ _ h => h) rfl rfl ?hy (by assumption) ?_
      case hy => (intro w' hSw; (try dsimp only at hSw); go_simp <;> (try with_reducible rfl))
      simp only [Act.put, List.setIfInBounds_toArray, List.set_cons_zero, List.set_cons_succ]
      refine wpAnyE_take (i := 16) (d := some 39) (v := ?_) rfl (by kernel_rfl) (by kernel_rfl) (by kernel_rfl) (by kernel_rfl) (fun _ _ _ h => h) rfl rfl ?hy (by assumption) ?_
      case hy => (intro w' hSw; (try dsimp only at hSw); go_simp <;> (try with_reducible rfl))
      simp only [Act.put, List.setIfInBounds_toArray, List.set_cons_zero, List.set_cons_succ]
      refine wpAnyE_take (i := 17) (d := some 40) (v := ?_) rfl (by kernel_rfl) (by kernel_rfl) (by kernel_rfl) (by kernel_rfl) (fun _ _ _ h => h) rfl rfl ?hy (by assumption) ?_
      case hy => (intro w' hSw; (try dsimp only at hSw); go_simp <;> (try with_reducible rfl))
      simp only [Act.put, List.setIfInBounds_toArray, List.set_cons_zero, List.set_cons_succ]
      refine wpAnyE_take (i := 18) (d := some 41) (v := ?_) rfl (by kernel_rfl) (by kernel_rfl) (by kernel_rfl) (by kernel_rfl) (fun _ _ _ h => h) rfl rfl ?hy (by assumption) ?_
      case hy => (intro w' hSw; (try dsimp only at hSw); go_simp <;> (try with_reducible rfl))
      simp only [Act.put, List.setIfInBounds_toArray, List.set_cons_zero, List.set_cons_succ]
      refine wpAnyE_one (i := 19) (by kernel_rfl) rfl rfl ?_
      go_simp
      refine (turned_any x _ s s24 s0 _).mono ?_
      rintro e w5 ⟨rfl, hb0⟩
      have hb5 : Below w4.heap.size w4 w5 := ⟨hb0.os, hb0.tape, hb0.output, hb0.size, hb0.block⟩
      clear hb0
      refine ⟨H4.out _ hb5, ?_⟩
      clear H4 hHeld
      obtain ⟨y, hy⟩ : ∃ y : Rg, y = ⟨x.d, x.b + (x.a + F).rotateLeft s, x.b, x.c⟩ := ⟨_, rfl⟩
      rw [← hy]
      have HY : Hid (y = ⟨x.d, x.b + (x.a + F).rotateLeft s, x.b, x.c⟩) := hy
      clear hy
      have HX5 : Hid (Lies w5 (w1.heap.size + 1) (rgv x) 43) := (HX.out.below HB4.out HX.out.lt).below hb5 (Nat.lt_of_lt_of_le HX.out.lt HB4.out.size)
      have HB5 : Hid (Below wr.heap.size wr w5) := HB4.out.trans (hb5.mono HB4.out.size)
      refine wpAnyE_one (i := 20) (by kernel_rfl) rfl rfl ?_
      refine wp_store_none 43 _ _ rfl (w1.heap.size + 1) (rgv y) rfl rfl 43 (rgv x) HX5.out (infoRg _) rfl (rgv_one _) rfl ?_
      refine ⟨.inl rfl, wpAnyE_done (by kernel_rfl) ?_ _⟩
      clear hb5 e1 e2 e3 e4 e5 e6 e7 e8
      go_wp2
      go_roundw
      case rel =>
        refine ⟨k + 1, y, by omega, by go_num, (HR.out.below HB5.out HR.out.lt).row_other (by omega) _, (HZ.out.below HB5.out HZ.out.lt).row_other (by omega) _, (HM.out.below HB5.out HM.out.lt).row_other (by omega) _, HX5.out.row _, below_row (HB.out.trans (HB5.out.mono HB.out.size)) (by omega) _, ?_⟩
        show y = stp m k (stps m k r)
        rw [← HS.out, HY.out, HF.out, HFF.out, HK.out, HV.out, HG.out, HSS.out]
        rfl
      case measure => simp [intOf]; omega
    · have hI : (k : Int) = 64 := by omega
      rw [hI]
      have HS' : Hid (x = stps m 64 r) := by
        have := HS.out
        rw [show k = 64 by omega] at this
        exact this
      clear HS hI
      go_wp2_with fail
      go_loopw [44] (fun i wr => ∃ (j : Nat) (c : Array Value), j ≤ 4 ∧ i = .int .i64 j ∧ Hid (Lies wr w.heap.size c 43) ∧ Hid (Lies wr (w.heap.size + 2) zero4 43) ∧ Hid (Lies wr (w1.heap.size + 1) (rgv x) 43) ∧ Hid (Below w.heap.size w wr) ∧ Hid (Added j c r x)) (fun i _ => 4 - (intOf i).toNat)
      case atStart => exact ⟨0, rgv r, by omega, rfl, HR, HZ, HX, HB, Added.zero r x⟩
      case round =>
        obtain ⟨j, c, hj, rfl, HR', HZ', HX', HB', HA⟩ := hrel
        by_cases hj4 : j < 4
        · have hc1 : wr.cell? ⟨w.heap.size, j, none⟩ = some (.int .u32 ((r.at j).toNat : Int)) := (HR'.out.cell j).trans ((HA.out.rest j (Nat.le_refl _)).trans (rgv_at r j hj4))
          have hc2 : wr.cell? ⟨w1.heap.size + 1, j, none⟩ = some (.int .u32 ((x.at j).toNat : Int)) := (HX'.out.cell j).trans (rgv_at x j hj4)
          have hfr := HR'.out.frozen j
          have jI : (j : Int) < 4 := by omega
          obtain ⟨u, hu⟩ : ∃ u, u = r.at j := ⟨_, rfl⟩
          obtain ⟨v, hv⟩ : ∃ v, v = x.at j := ⟨_, rfl⟩
          have HUV : Hid (u = r.at j ∧ v = x.at j) := ⟨hu, hv⟩
          rw [← hu] at hc1
          rw [← hv] at hc2
          have e1 : IntKind.u32.wrap ((u.toNat : Int) + (v.toNat : Int)) = ((u + v).toNat : Int) := by rw [IntKind.wrap_u32, add_spelt]
          obtain ⟨z, hz⟩ : ∃ z, z = u + v := ⟨_, rfl⟩
          rw [← hz] at e1
          have HZZ : Hid (z = u + v) := hz
          clear hz
          clear hu hv
          go_wp2_with fail
          refine wp_region_late (fun w' => w'.cell? ⟨w.heap.size, j, none⟩ = some (.int .u32 (u.toNat : Int)) ∧ w'.cell? ⟨w1.heap.size + 1, j, none⟩ = some (.int .u32 (v.toNat : Int))) 8 (by kernel_rfl) ⟨hc1, hc2⟩ (fun hHeld => ?_)
          refine wpAnyE_take (i := 0) (d := some 47) (v := ?_) rfl (by kernel_rfl) (by kernel_rfl) (by kernel_rfl) (by kernel_rfl) (fun _ _ _ h => h) rfl rfl ?hy (by assumption) ?_
          case hy => (intro w' hSw; (try dsimp only at hSw); go_simp <;> (try with_reducible rfl))
          simp only [Act.put, List.setIfInBounds_toArray, List.set_cons_zero, List.set_cons_succ]
          refine wpAnyE_take (i := 1) (d := some 48) (v := ?_) rfl (by kernel_rfl) (by kernel_rfl) (by kernel_rfl) (by kernel_rfl) (fun _ _ _ h => h) rfl rfl ?hy (by assumption) ?_
          case hy => (intro w' hSw; (try dsimp only at hSw); go_simp <;> (try with_reducible rfl))
          simp only [Act.put, List.setIfInBounds_toArray, List.set_cons_zero, List.set_cons_succ]
          refine wpAnyE_take (i := 2) (d := some 49) (v := ?_) rfl (by kernel_rfl) (by kernel_rfl) (by kernel_rfl) (by kernel_rfl) (fun _ _ _ h => h) rfl rfl ?hy (by assumption) ?_
          case hy => (intro w' hSw; (try dsimp only at hSw); go_simp <;> (try with_reducible rfl))
          simp only [Act.put, List.setIfInBounds_toArray, List.set_cons_zero, List.set_cons_succ]
          refine wpAnyE_take (i := 3) (d := some 50) (v := ?_) rfl (by kernel_rfl) (by kernel_rfl) (by kernel_rfl) (by kernel_rfl) (fun _ _ _ h => h) rfl rfl ?hy (by assumption) ?_
          case hy => (intro w' hSw; (try dsimp only at hSw); go_simp <;> (try with_reducible rfl))
          simp only [Act.put, List.setIfInBounds_toArray, List.set_cons_zero, List.set_cons_succ]
          refine wpAnyE_take (i := 4) (d := some 51) (v := ?_) rfl (by kernel_rfl) (by kernel_rfl) (by kernel_rfl) (by kernel_rfl) (fun _ _ _ h => h) rfl rfl ?hy (by assumption) ?_
          case hy => (intro w' hSw; (try dsimp only at hSw); go_simp <;> (try with_reducible rfl))
          simp only [Act.put, List.setIfInBounds_toArray, List.set_cons_zero, List.set_cons_succ]
          refine wpAnyE_take (i := 5) (d := some 52) (v := ?_) rfl (by kernel_rfl) (by kernel_rfl) (by kernel_rfl) (by kernel_rfl) (fun _ _ _ h => h) rfl rfl ?hy (by assumption) ?_
          case hy => (intro w' hSw; (try dsimp only at hSw); go_simp <;> (try with_reducible rfl))
          simp only [Act.put, List.setIfInBounds_toArray, List.set_cons_zero, List.set_cons_succ]
          refine wpAnyE_take (i := 6) (d := some 53) (v := ?_) rfl (by kernel_rfl) (by kernel_rfl) (by kernel_rfl) (by kernel_rfl) (fun _ _ _ h => h) rfl rfl ?hy (by assumption) ?_
          case hy => (intro w' hSw; (try dsimp only at hSw); go_simp <;> (try with_reducible rfl))
          simp only [Act.put, List.setIfInBounds_toArray, List.set_cons_zero, List.set_cons_succ]
          refine wpAnyE_take (i := 7) (d := some 54) (v := ?_) rfl (by kernel_rfl) (by kernel_rfl) (by kernel_rfl) (by kernel_rfl) (fun _ _ _ h => h) rfl rfl ?hy (by assumption) ?_
          case hy => (intro w' hSw; (try dsimp only at hSw); go_simp <;> (try with_reducible rfl))
          simp only [Act.put, List.setIfInBounds_toArray, List.set_cons_zero, List.set_cons_succ]
          refine wpAnyE_one (i := 8) (by kernel_rfl) rfl rfl ?_
          go_simp
          refine wpAnyE_done (by kernel_rfl) ?_ _
          clear hc1 hc2 hfr hHeld e1
          go_wp2
          go_roundw
          case rel =>
            refine ⟨j + 1, c.setIfInBounds j (.int .u32 (z.toNat : Int)), by omega, by go_num, (HR'.out.set j _).drew, (HZ'.out.set_other (by simp) _).drew, (HX'.out.set_other (by simp; omega) _).drew, (HB'.out.setCell (by simp) _).drew, ?_⟩
            rw [HZZ.out, HUV.out.1, HUV.out.2]
            exact HA.out.next hj4
          case measure => simp [intOf]; omega
        · obtain rfl : j = 4 := by omega
          obtain rfl := HA.out.upto.all (rgv_size _)
          go_wp2_with (first | (refine wpList_load_row rfl 43 _ rfl _ rfl (rgv (addR r x)) 43 _ HR'.out Tryd.underlying43 rfl (infoRg _) ?_) | (refine wpList_store_row rfl 43 _ _ rfl (w.heap.size + 2) rfl zero4 (rgv (addR r x)) rfl 43 HZ'.out (infoRg _) rfl (rgv_one _) rfl ?_))
          have e : addR r x = blk r (fun j => wd l (4 * j)) := by
            unfold blk
            rw [HS'.out, HMM.out]
          rw [← e]
          refine bodyPost_ret (v := .agg (rgv (addR r x))) ?_ rfl ⟨rfl, below_row HB'.out (by omega) _⟩
          exact results_cell_row rfl _ _ _ 43 _ (0, 0) _ rfl (HZ'.out.row _) Tryd.underlying43 rfl (infoRg _)
end Go.Proofs.YtlkflikhbkhpeabDoor
