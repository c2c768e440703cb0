/-
  Statuses: the one that texts have in common; what stands behind it.
-/
import Derived.Test.YtbfgefgadplcjaaDoorSq12
namespace Go.Proofs.YtbfgefgadplcjaaDoor
open Go.RowKit

/-- Texts in memory. -/
def Txs (a : Option Addr) (L : List (List UInt8)) (w : World) : Prop := L = [] ∨ ∃ g o, a = some ⟨g, o, none⟩ ∧ g < w.heap.size ∧ ∀ j (h : j < L.length), w.cell? ⟨g, o + j, none⟩ = some (.string (tx L[j]))
theorem Txs.keep {a : Option Addr} {L : List (List UInt8)} {w w' : World} (h : Txs a L w) (hs : w.heap.size ≤ w'.heap.size) (hk : ∀ ad, a = some ad → w'.heap[ad.block]? = w.heap[ad.block]?) : Txs a L w' := by
  rcases h with h | ⟨g, o, rfl, hg, hc⟩
  · exact .inl h
  · exact .inr ⟨g, o, rfl, Nat.lt_of_lt_of_le hg hs, fun j hj => (cell_keep (hk _ rfl) _).trans (hc j hj)⟩
theorem Txs.below {a : Option Addr} {L : List (List UInt8)} {w w' : World} (h : Txs a L w) (hb : Below w.heap.size w w') : Txs a L w' := by
  rcases h with h | ⟨g, o, rfl, hg, hc⟩
  · exact .inl h
  · exact .inr ⟨g, o, rfl, Nat.lt_of_lt_of_le hg hb.size, fun j hj => (cell_keep (hb.block g hg) _).trans (hc j hj)⟩
theorem Txs.cell {a : Option Addr} {L : List (List UInt8)} {w : World} (h : Txs a L w) (k : Nat) (hk : k < L.length) : ∃ g o, a = some ⟨g, o, none⟩ ∧ g < w.heap.size ∧ w.cell? ⟨g, o + k, none⟩ = some (.string (tx L[k])) := by
  rcases h with h | ⟨g, o, rfl, hg, hc⟩
  · subst h; cases hk
  · exact ⟨g, o, rfl, hg, hc k hk⟩
set_option maxHeartbeats 400000 in
theorem beh_any (l : List UInt8) (hl : l.length ≤ 1000000) (w : World) (ht : Tb w) : Calls Tryd.prog 64 #[.string (tx l)] w fun e w' => e = .returned (.string (tx (cutB l 32))) ∧ ∃ n, w' = w.drewN n := by
  have HC := cut_any (tx l) 32 (by rw [tx_size]; exact hl) w ht
  rw [tx_list] at HC
  clear ht
  generalize tx (cutB l 32) = A at *
  generalize tx (cutF l 32) = B at *
  generalize tx l = C at *
  go_enter Tryd.func64, Tryd.ntmps64
  go_wp2_with fail
  refine HC.mono ?_
  rintro e w1 ⟨⟨b1, rfl⟩, n1, rfl⟩
  go_wp2
  go_ret
  exact ⟨rfl, _, rfl⟩
/-- A status's cells. -/
def stC (s : Stt) : Array Value := #[.int .i64 s.1, .int .i64 s.2.1, .int .i64 s.2.2]
theorem stC_cells {w : World} {g : Nat} {s : Stt} {t : TypeId} (h : Lies w g (stC s) t) : w.cell? ⟨g, 0, none⟩ = some (.int .i64 s.1) ∧ w.cell? ⟨g, 1, none⟩ = some (.int .i64 s.2.1) ∧ w.cell? ⟨g, 2, none⟩ = some (.int .i64 s.2.2) ∧ w.frozen? ⟨g, 0, none⟩ = false ∧ w.frozen? ⟨g, 1, none⟩ = false ∧ w.frozen? ⟨g, 2, none⟩ = false :=
  ⟨h.cell 0, h.cell 1, h.cell 2, h.frozen 0, h.frozen 1, h.frozen 2⟩
/-- A status laid over another one. -/
def stSet (w : World) (g : Nat) (s : Stt) : World := ((w.setCell ⟨g, 0, none⟩ (.int .i64 s.1)).setCell ⟨g, 1, none⟩ (.int .i64 s.2.1)).setCell ⟨g, 2, none⟩ (.int .i64 s.2.2)
theorem stSet_lies {w : World} {g : Nat} {s : Stt} {t : TypeId} (h : Lies w g (stC s) t) (r : Stt) : Lies (stSet w g r) g (stC r) t := ((h.set 0 _).set 1 _).set 2 _
theorem stSet_other {w : World} {g q : Nat} {cs : Array Value} {t : TypeId} (h : Lies w q cs t) (hne : q ≠ g) (r : Stt) : Lies (stSet w g r) q cs t := ((h.set_other hne _).set_other hne _).set_other hne _
theorem stSet_below {w w0 : World} {B g : Nat} (h : Below B w0 w) (hg : B ≤ g) (r : Stt) : Below B w0 (stSet w g r) := ((h.setCell (p := ⟨g, 0, none⟩) hg _).setCell (p := ⟨g, 1, none⟩) hg _).setCell (p := ⟨g, 2, none⟩) hg _
theorem part_st (s : Stt) (k : Nat) (v : Int) (h : (stC s)[k]? = some (.int .i64 v)) (w : World) : (part 3 (stC s) k).run Tryd.prog w = .ok (.int .i64 v) w := by
  simp [part, isAgg, run_underlying Tryd.underlying3, h]
set_option maxRecDepth 100000 in
theorem eqStt (d : Nat) (x y : Stt) (w : World) : (Op.equalIn (d + 2) 48 (.agg (stC x)) (.agg (stC y))).run Tryd.prog w = .ok (decide (x = y)) w := by
  have hf : Tryd.prog.underlying 48 = some (.struct (Tryd.prog.fieldsOf 48)) := by simp [Program.fieldsOf, Tryd.underlying48]
  have hq : decide (x = y) = (decide (x.1 = y.1) && decide (x.2.1 = y.2.1) && decide (x.2.2 = y.2.2)) := by
    rw [Bool.eq_iff_iff]
    simp only [Bool.and_eq_true, decide_eq_true_eq]
    constructor
    · rintro rfl; simp
    · rintro ⟨⟨h1, h2⟩, h3⟩
      exact Prod.ext h1 (Prod.ext h2 h3)
  have e3 : ∀ a b : Int, (a == b) = decide (a = b) := fun a b => by rw [Bool.eq_iff_iff, beq_iff_eq, decide_eq_true_eq]
  rw [run_equalIn_struct w (d + 1) 48 _ _ hf (by kernel_rfl), hq]
  simp only [Program.fieldsOf, Tryd.underlying48]
  simp only [Op.eqFields, Sem.run_bind, Sem.run_ite, part_st x 0 x.1 rfl, part_st x 1 x.2.1 rfl, part_st x 2 x.2.2 rfl, part_st y 0 y.1 rfl, part_st y 1 y.2.1 rfl, part_st y 2 y.2.2 rfl, Result.andThen_ok, run_equalIn_int (P := Tryd.prog) w d 3 .i64 .i64 _ _ Tryd.underlying3, e3]
  by_cases h1 : x.1 = y.1 <;> by_cases h2 : x.2.1 = y.2.1 <;> by_cases h3 : x.2.2 = y.2.2 <;> simp [h1, h2, h3]
theorem grdStt : Tryd.prog.eqGuardType Tryd.prog.depth 48 = false := by kernel_rfl
theorem eqStt' (x y : Stt) : ∀ w, (Op.equalIn 10000 48 (.agg #[.int .i64 x.1, .int .i64 x.2.1, .int .i64 x.2.2]) (.agg #[.int .i64 y.1, .int .i64 y.2.1, .int .i64 y.2.2])).run Tryd.prog w = .ok (decide (x = y)) w := fun w => eqStt 9998 x y w
theorem comGo_at (k : Int) (i : Nat) (c : Stt) (L : List (List UInt8)) (hi : i < L.length) : comGo k i c (L.drop i) = if (stOf (cutF L[i] 32)).1 ≠ k ∨ (0 < i ∧ stOf (cutF L[i] 32) ≠ c) then (0, 0, 0) else comGo k (i + 1) (stOf (cutF L[i] 32)) (L.drop (i + 1)) := by
  rw [List.drop_eq_getElem_cons hi, comGo]
set_option maxHeartbeats 2000000 in
set_option maxRecDepth 20000 in
theorem com_any (code : Int) (h0 : 0 ≤ code) (h1 : code ≤ 999) (a : Option Addr) (L : List (List UInt8)) (n cap : Nat) (hn : n = L.length) (hl : L.length ≤ 1000000) (hll : ∀ l ∈ L, l.length ≤ 1000000) (w : World) (hL : Txs a L w) (ht : Tb w) :
    Calls Tryd.prog 38 #[.int .i64 code, .slice a n cap] w fun e w' => e = .returned (stV (comSt code L)) ∧ Below w.heap.size w w' := by
  subst hn
  have HT : Hid (Tb w) := ht
  have HL : Hid (Txs a L w) := hL
  have HLL : Hid (∀ l ∈ L, l.length ≤ 1000000) := hll
  have HX0 : Hid (comSt code L = comGo (code / 100) 0 (0, 0, 0) (L.drop 0)) := rfl
  clear ht hL hll
  obtain ⟨W, hW⟩ : ∃ W, W = w.alloc (.cells #[.int .i64 0, .int .i64 0, .int .i64 0] 48) := ⟨_, rfl⟩
  have hB0 : Below w.heap.size w W := by subst hW; exact (Below.refl _ _).alloc (Nat.le_refl _) _
  have hL0 : Lies W w.heap.size (stC (0, 0, 0)) 48 := by subst hW; exact Lies.new w _ _
  go_enter Tryd.func38, Tryd.ntmps38
  go_wp2_with fail
  rw [← hW]
  refine (none_any W).mono ?_
  rintro e w1 ⟨rfl, hB1⟩
  have HB1 : Hid (Below w.heap.size w w1) := hB0.trans (hB1.mono hB0.size)
  have HR1 : Hid (Lies w1 w.heap.size (stC (0, 0, 0)) 48) := hL0.below hB1 hL0.lt
  clear hB0 hL0 hB1 hW
  unfold stV
  go_wp2_with fail
  have HB2 : Hid (Below w.heap.size w (w1.alloc (.cells #[.int .i64 0, .int .i64 0, .int .i64 0] 48))) := HB1.out.alloc HB1.out.size _
  have HR2 : Hid (Lies (w1.alloc (.cells #[.int .i64 0, .int .i64 0, .int .i64 0] 48)) w.heap.size (stC (0, 0, 0)) 48) := HR1.out.alloc _
  have HC2 : Hid (Lies (w1.alloc (.cells #[.int .i64 0, .int .i64 0, .int .i64 0] 48)) w1.heap.size (stC (0, 0, 0)) 48) := Lies.new w1 _ _
  have HNE : Hid (w.heap.size ≠ w1.heap.size) := by have := HR1.out.lt; show _ ≠ _; omega
  have HGE : Hid (w.heap.size ≤ w1.heap.size) := HB1.out.size
  generalize w1.alloc (.cells #[.int .i64 0, .int .i64 0, .int .i64 0] 48) = V at *
  generalize w1.heap.size = Q at *
  clear HB1 HR1
  have HST : Hid (∀ l : List UInt8, l.length ≤ 1000000 → ∀ w', Below w.heap.size w w' → Calls Tryd.prog 54 #[.string (tx l)] w' fun e w2 => e = .returned (stV (stOf l)) ∧ Below w'.heap.size w' w2) := fun l hl w' hb => by
    have := stof_any (tx l) (by rw [tx_size]; exact hl) w' (HT.out.on hb)
    rwa [tx_list] at this
  have HCU : Hid (∀ l : List UInt8, l.length ≤ 1000000 → ∀ w', Below w.heap.size w w' → Calls Tryd.prog 53 #[.string (tx l), .string ⟨#[32]⟩] w' fun e w2 => (∃ A b, e = .returned (.tuple #[.string (tx (cutF l 32)), .string A, .bool b])) ∧ ∃ n, w2 = w'.drewN n) := fun l hl w' hb => by
    have := cut_any (tx l) 32 (by rw [tx_size]; exact hl) w' (HT.out.on hb)
    rw [tx_list] at this
    refine this.mono ?_
    rintro e w2 ⟨⟨b, rfl⟩, hh⟩
    exact ⟨⟨_, _, rfl⟩, hh⟩
  have HCL : Hid (∀ w', Calls Tryd.prog 51 #[.int .i64 code] w' fun e w2 => e = .returned (.int .i64 (code / 100)) ∧ w2 = w') := fun w' => class_any code h0 (by omega) w'
  go_loopw [6, 7, 8, 9, 10, 11, 15] (fun _ _ _ _ _ _ iv wr => ∃ (i : Nat) (c : Stt), i ≤ L.length ∧ iv = .int .i64 i ∧ Hid (Below w.heap.size w wr) ∧ Hid (Lies wr w.heap.size (stC (0, 0, 0)) 48) ∧ Hid (Lies wr Q (stC c) 48) ∧ Hid (comSt code L = comGo (code / 100) i c (L.drop i))) (fun _ _ _ _ _ _ iv _ => L.length - (intOf iv).toNat)
  case atStart => exact ⟨0, (0, 0, 0), Nat.zero_le _, rfl, HB2.out, HR2.out, HC2.out, HX0.out⟩
  case round =>
    obtain ⟨i, c, hi, rfl, HB, HR, HC, HX⟩ := hrel
    clear HB2 HR2 HC2 HX0
    by_cases hlt : i < L.length
    · have hlt' : (i : Int) < (L.length : Int) := by omega
      obtain ⟨g, o, rfl, hgs, hce⟩ := (HL.out.below HB.out).cell i hlt
      rw [comGo_at _ _ _ _ hlt] at HX
      have hli : L[i].length ≤ 1000000 := HLL.out _ (List.getElem_mem hlt)
      have HCU1 := HCU.out _ hli _ HB.out
      have hlc := (cut_len L[i] 32).1
      have HST1 : Hid (∀ w', Below w.heap.size w w' → Calls Tryd.prog 54 #[.string (tx (cutF L[i] 32))] w' fun e w2 => e = .returned (stV (stOf (cutF L[i] 32))) ∧ Below w'.heap.size w' w2) := HST.out _ (by omega)
      generalize stOf (cutF L[i] 32) = S at *
      generalize tx (cutF L[i] 32) = X at *
      generalize tx L[i] = Y at *
      clear hli hlc HCU HST
      go_wp2_with fail
      refine HCU1.mono ?_
      rintro e w2 ⟨⟨A, b, rfl⟩, n, rfl⟩
      go_wp2_with fail
      refine (HST1.out _ (below_dN HB.out n)).mono ?_
      rintro e w3 ⟨rfl, hB3⟩
      have HB3 : Hid (Below w.heap.size w w3) := (below_dN HB.out n).trans (hB3.mono HB.out.size)
      have HR3 : Hid (Lies w3 w.heap.size (stC (0, 0, 0)) 48) := (HR.out.drewN n).below hB3 HR.out.lt
      have HC3 : Hid (Lies w3 Q (stC c) 48) := (HC.out.drewN n).below hB3 HC.out.lt
      clear hB3 HB HR HC hce
      unfold stV
      go_wp2_with fail
      have HB4 : Hid (Below w.heap.size w (w3.alloc (.cells #[.int .i64 S.1, .int .i64 S.2.1, .int .i64 S.2.2] 48))) := HB3.out.alloc HB3.out.size _
      have HR4 : Hid (Lies (w3.alloc (.cells #[.int .i64 S.1, .int .i64 S.2.1, .int .i64 S.2.2] 48)) w.heap.size (stC (0, 0, 0)) 48) := HR3.out.alloc _
      have HC4 : Hid (Lies (w3.alloc (.cells #[.int .i64 S.1, .int .i64 S.2.1, .int .i64 S.2.2] 48)) Q (stC c) 48) := HC3.out.alloc _
      have HS4 : Hid (Lies (w3.alloc (.cells #[.int .i64 S.1, .int .i64 S.2.1, .int .i64 S.2.2] 48)) w3.heap.size (stC S) 48) := Lies.new w3 _ _
      have HN3 : Hid (w3.heap.size ≠ w.heap.size ∧ w3.heap.size ≠ Q) := by have h1 := HR3.out.lt; have h2 := HC3.out.lt; show _ ∧ _; omega
      generalize w3.alloc (.cells #[.int .i64 S.1, .int .i64 S.2.1, .int .i64 S.2.2] 48) = U at *
      generalize w3.heap.size = T at *
      clear HB3 HR3 HC3
      have HQL : Hid (∀ m, Calls Tryd.prog 51 #[.int .i64 code] (U.drewN m) fun e w' => e = .returned (.int .i64 (code / 100)) ∧ ∃ k, w' = (U.drewN m).drewN k) := fun m => (HCL.out _).mono (fun e w' h => ⟨h.1, 0, h.2⟩)
      obtain ⟨s0, s1, s2, -, -, -⟩ := stC_cells HS4.out
      obtain ⟨c0, c1, c2, -, -, -⟩ := stC_cells HC4.out
      have hgq := grdStt
      have heq := eqStt' S c
      by_cases hk : S.1 = code / 100
      · have hk1 : (S.1 == code / 100) = true := beq_iff_eq.2 hk
        have hk2 : (S.1 != code / 100) = false := by rw [bne, hk1]; rfl
        by_cases hi0 : i = 0
        · have HXX : Hid (comSt code L = comGo (code / 100) (i + 1) S (L.drop (i + 1))) := by rw [if_neg (by omega)] at HX; exact HX
          have hi1 : decide ((0 : Int) < (i : Int)) = false := decide_eq_false (by omega)
          clear HX hk
          refine wp_region_late (fun wx => wx.cell? ⟨T, 0, none⟩ = some (.int .i64 S.1) ∧ wx.cell? ⟨T, 1, none⟩ = some (.int .i64 S.2.1) ∧ wx.cell? ⟨T, 2, none⟩ = some (.int .i64 S.2.2) ∧ wx.cell? ⟨Q, 0, none⟩ = some (.int .i64 c.1) ∧ wx.cell? ⟨Q, 1, none⟩ = some (.int .i64 c.2.1) ∧ wx.cell? ⟨Q, 2, none⟩ = some (.int .i64 c.2.2)) 14 (by kernel_rfl) ⟨s0, s1, s2, c0, c1, c2⟩ (fun hHeld => ?_)
          refine wpAnyE_tk (i := 0) (d := some 28) (v := ?_) rfl (by kernel_rfl) (by kernel_rfl) (by kernel_rfl) rfl (fun _ _ _ h => h) rfl rfl ?hy (by first | assumption | go_simp) ?_
          case hy => (intro w' hSw; (try dsimp only at hSw); go_simp <;> (first | with_reducible rfl | omega | skip))
          simp only [Act.put, List.setIfInBounds_toArray, List.set_cons_zero, List.set_cons_succ]
          refine wpAnyE_tk (i := 1) (d := some 29) (v := ?_) rfl (by kernel_rfl) (by kernel_rfl) (by kernel_rfl) rfl (fun _ _ _ h => h) rfl rfl ?hy (by first | assumption | go_simp) ?_
          case hy => (intro w' hSw; (try dsimp only at hSw); go_simp <;> (first | with_reducible rfl | omega | skip))
          simp only [Act.put, List.setIfInBounds_toArray, List.set_cons_zero, List.set_cons_succ]
          refine wpAnyE_tk (i := 2) (d := some 30) (v := ?_) rfl (by kernel_rfl) (by kernel_rfl) (by kernel_rfl) rfl (fun _ _ _ h => h) rfl rfl ?hy (by first | assumption | go_simp) ?_
          case hy => (intro w' hSw; (try dsimp only at hSw); go_simp <;> (first | with_reducible rfl | omega | skip))
          simp only [Act.put, List.setIfInBounds_toArray, List.set_cons_zero, List.set_cons_succ]
          refine wpAnyE_on (i := 3) (by kernel_rfl) rfl rfl ?_
          go_simp
          refine Calls.mono (HCL.out _) ?_
          rintro e w5 ⟨rfl, rfl⟩
          refine ⟨⟨s0, s1, s2, c0, c1, c2⟩, ?_⟩
          refine wpAnyE_tk (i := 4) (d := some 32) (v := .bool false) rfl (by kernel_rfl) (by kernel_rfl) (by kernel_rfl) rfl (fun _ _ _ h => h) rfl rfl ?hy (by first | assumption | go_simp) ?_
          case hy => (intro w' hSw; (try dsimp only at hSw); go_simp <;> (first | with_reducible rfl | omega | skip))
          simp only [Act.put, List.setIfInBounds_toArray, List.set_cons_zero, List.set_cons_succ]
          refine wpAnyE_tk (i := 5) (d := some 33) (v := .bool false) rfl (by kernel_rfl) (by kernel_rfl) (by kernel_rfl) rfl (fun _ _ _ h => h) rfl rfl ?hy (by first | assumption | go_simp) ?_
          case hy => (intro w' hSw; (try dsimp only at hSw); go_simp <;> (first | with_reducible rfl | omega | skip))
          simp only [Act.put, List.setIfInBounds_toArray, List.set_cons_zero, List.set_cons_succ]
          refine wpAnyE_tk (i := 6) (d := some 34) (v := ?_) rfl (by kernel_rfl) (by kernel_rfl) (by kernel_rfl) rfl (fun _ _ _ h => h) rfl rfl ?hy (by first | assumption | go_simp) ?_
          case hy => (intro w' hSw; (try dsimp only at hSw); go_simp <;> (first | with_reducible rfl | omega | skip))
          simp only [Act.put, List.setIfInBounds_toArray, List.set_cons_zero, List.set_cons_succ]
          refine wpAnyE_tk (i := 7) (d := some 35) (v := .bool false) rfl (by kernel_rfl) (by kernel_rfl) (by kernel_rfl) rfl (fun _ _ _ h => h) rfl rfl ?hy (by first | assumption | go_simp) ?_
          case hy => (intro w' hSw; (try dsimp only at hSw); go_simp <;> (first | with_reducible rfl | omega | skip))
          simp only [Act.put, List.setIfInBounds_toArray, List.set_cons_zero, List.set_cons_succ]
          refine wpAnyE_tk (i := 8) (d := some 36) (v := .bool false) rfl (by kernel_rfl) (by kernel_rfl) (by kernel_rfl) rfl (fun _ _ _ h => h) rfl rfl ?hy (by first | assumption | go_simp) ?_
          case hy => (intro w' hSw; (try dsimp only at hSw); go_simp <;> (first | with_reducible rfl | omega | skip))
          simp only [Act.put, List.setIfInBounds_toArray, List.set_cons_zero, List.set_cons_succ]
          refine wpAnyE_sk (i := 9) (d := some 37) rfl (by kernel_rfl) (by kernel_rfl) (by kernel_rfl) rfl (fun _ _ _ h => h) rfl rfl (by first | assumption | go_simp) ?_
          simp only [Act.put, List.setIfInBounds_toArray, List.set_cons_zero, List.set_cons_succ]
          refine wpAnyE_sk (i := 10) (d := some 38) rfl (by kernel_rfl) (by kernel_rfl) (by kernel_rfl) rfl (fun _ _ _ h => h) rfl rfl (by first | assumption | go_simp) ?_
          simp only [Act.put, List.setIfInBounds_toArray, List.set_cons_zero, List.set_cons_succ]
          refine wpAnyE_sk (i := 11) (d := some 39) rfl (by kernel_rfl) (by kernel_rfl) (by kernel_rfl) rfl (fun _ _ _ h => h) rfl rfl (by first | assumption | go_simp) ?_
          simp only [Act.put, List.setIfInBounds_toArray, List.set_cons_zero, List.set_cons_succ]
          refine wpAnyE_tk (i := 12) (d := some 40) (v := .bool false) rfl (by kernel_rfl) (by kernel_rfl) (by kernel_rfl) rfl (fun _ _ _ h => h) rfl rfl ?hy (by first | assumption | go_simp) ?_
          case hy => (intro w' hSw; (try dsimp only at hSw); go_simp <;> (first | with_reducible rfl | omega | skip))
          simp only [Act.put, List.setIfInBounds_toArray, List.set_cons_zero, List.set_cons_succ]
          refine wpAnyE_tk (i := 13) (d := some 41) (v := .bool false) rfl (by kernel_rfl) (by kernel_rfl) (by kernel_rfl) rfl (fun _ _ _ h => h) rfl rfl ?hy (by first | assumption | go_simp) ?_
          case hy => (intro w' hSw; (try dsimp only at hSw); go_simp <;> (first | with_reducible rfl | omega | skip))
          simp only [Act.put, List.setIfInBounds_toArray, List.set_cons_zero, List.set_cons_succ]
          refine wpAnyE_done (by kernel_rfl) ?_ _
          clear hHeld
          obtain ⟨-, -, -, f0, f1, f2⟩ := stC_cells HC4.out
          go_wp2
          go_round
          case rel => exact ⟨i + 1, S, hlt, by go_num, stSet_below (below_dN HB4.out 1) HGE.out S, stSet_other (HR4.out.drewN 1) HNE.out S, stSet_lies (HC4.out.drewN 1) S, HXX.out⟩
          case measure => simp [intOf]; omega
        · by_cases hsc : S = c
          · have HXX : Hid (comSt code L = comGo (code / 100) (i + 1) S (L.drop (i + 1))) := by rw [if_neg (fun h => by rcases h with h | h; exact h hk; exact h.2 hsc)] at HX; exact HX
            have hi1 : (0 : Int) < (i : Int) := by omega
            have heq2 : decide (S = c) = true := decide_eq_true hsc
            rw [heq2] at heq
            clear HX hsc heq2 hk
            refine wp_region_late (fun wx => wx.cell? ⟨T, 0, none⟩ = some (.int .i64 S.1) ∧ wx.cell? ⟨T, 1, none⟩ = some (.int .i64 S.2.1) ∧ wx.cell? ⟨T, 2, none⟩ = some (.int .i64 S.2.2) ∧ wx.cell? ⟨Q, 0, none⟩ = some (.int .i64 c.1) ∧ wx.cell? ⟨Q, 1, none⟩ = some (.int .i64 c.2.1) ∧ wx.cell? ⟨Q, 2, none⟩ = some (.int .i64 c.2.2)) 14 (by kernel_rfl) ⟨s0, s1, s2, c0, c1, c2⟩ (fun hHeld => ?_)
            refine wpAnyE_tk (i := 0) (d := some 28) (v := ?_) rfl (by kernel_rfl) (by kernel_rfl) (by kernel_rfl) rfl (fun _ _ _ h => h) rfl rfl ?hy (by first | assumption | go_simp) ?_
            case hy => (intro w' hSw; (try dsimp only at hSw); go_simp <;> (first | with_reducible rfl | omega | skip))
            simp only [Act.put, List.setIfInBounds_toArray, List.set_cons_zero, List.set_cons_succ]
            refine wpAnyE_tk (i := 1) (d := some 29) (v := ?_) rfl (by kernel_rfl) (by kernel_rfl) (by kernel_rfl) rfl (fun _ _ _ h => h) rfl rfl ?hy (by first | assumption | go_simp) ?_
            case hy => (intro w' hSw; (try dsimp only at hSw); go_simp <;> (first | with_reducible rfl | omega | skip))
            simp only [Act.put, List.setIfInBounds_toArray, List.set_cons_zero, List.set_cons_succ]
            refine wpAnyE_tk (i := 2) (d := some 30) (v := ?_) rfl (by kernel_rfl) (by kernel_rfl) (by kernel_rfl) rfl (fun _ _ _ h => h) rfl rfl ?hy (by first | assumption | go_simp) ?_
            case hy => (intro w' hSw; (try dsimp only at hSw); go_simp <;> (first | with_reducible rfl | omega | skip))
            simp only [Act.put, List.setIfInBounds_toArray, List.set_cons_zero, List.set_cons_succ]
            refine wpAnyE_on (i := 3) (by kernel_rfl) rfl rfl ?_
            go_simp
            refine Calls.mono (HCL.out _) ?_
            rintro e w5 ⟨rfl, rfl⟩
            refine ⟨⟨s0, s1, s2, c0, c1, c2⟩, ?_⟩
            refine wpAnyE_tk (i := 4) (d := some 32) (v := .bool false) rfl (by kernel_rfl) (by kernel_rfl) (by kernel_rfl) rfl (fun _ _ _ h => h) rfl rfl ?hy (by first | assumption | go_simp) ?_
            case hy => (intro w' hSw; (try dsimp only at hSw); go_simp <;> (first | with_reducible rfl | omega | skip))
            simp only [Act.put, List.setIfInBounds_toArray, List.set_cons_zero, List.set_cons_succ]
            refine wpAnyE_tk (i := 5) (d := some 33) (v := .bool false) rfl (by kernel_rfl) (by kernel_rfl) (by kernel_rfl) rfl (fun _ _ _ h => h) rfl rfl ?hy (by first | assumption | go_simp) ?_
            case hy => (intro w' hSw; (try dsimp only at hSw); go_simp <;> (first | with_reducible rfl | omega | skip))
            simp only [Act.put, List.setIfInBounds_toArray, List.set_cons_zero, List.set_cons_succ]
            refine wpAnyE_tk (i := 6) (d := some 34) (v := ?_) rfl (by kernel_rfl) (by kernel_rfl) (by kernel_rfl) rfl (fun _ _ _ h => h) rfl rfl ?hy (by first | assumption | go_simp) ?_
            case hy => (intro w' hSw; (try dsimp only at hSw); go_simp <;> (first | with_reducible rfl | omega | skip))
            simp only [Act.put, List.setIfInBounds_toArray, List.set_cons_zero, List.set_cons_succ]
            refine wpAnyE_tk (i := 7) (d := some 35) (v := .bool true) rfl (by kernel_rfl) (by kernel_rfl) (by kernel_rfl) rfl (fun _ _ _ h => h) rfl rfl ?hy (by first | assumption | go_simp) ?_
            case hy => (intro w' hSw; (try dsimp only at hSw); go_simp <;> (first | with_reducible rfl | omega | skip))
            simp only [Act.put, List.setIfInBounds_toArray, List.set_cons_zero, List.set_cons_succ]
            refine wpAnyE_tk (i := 8) (d := some 36) (v := .bool true) rfl (by kernel_rfl) (by kernel_rfl) (by kernel_rfl) rfl (fun _ _ _ h => h) rfl rfl ?hy (by first | assumption | go_simp) ?_
            case hy => (intro w' hSw; (try dsimp only at hSw); go_simp <;> (first | with_reducible rfl | omega | skip))
            simp only [Act.put, List.setIfInBounds_toArray, List.set_cons_zero, List.set_cons_succ]
            refine wpAnyE_tk (i := 9) (d := some 37) (v := ?_) rfl (by kernel_rfl) (by kernel_rfl) (by kernel_rfl) rfl (fun _ _ _ h => h) rfl rfl ?hy (by first | assumption | go_simp) ?_
            case hy => (intro w' hSw; (try dsimp only at hSw); go_simp <;> (first | with_reducible rfl | omega | skip))
            simp only [Act.put, List.setIfInBounds_toArray, List.set_cons_zero, List.set_cons_succ]
            refine wpAnyE_tk (i := 10) (d := some 38) (v := ?_) rfl (by kernel_rfl) (by kernel_rfl) (by kernel_rfl) rfl (fun _ _ _ h => h) rfl rfl ?hy (by first | assumption | go_simp) ?_
            case hy => (intro w' hSw; (try dsimp only at hSw); go_simp <;> (first | with_reducible rfl | omega | skip))
            simp only [Act.put, List.setIfInBounds_toArray, List.set_cons_zero, List.set_cons_succ]
            refine wpAnyE_tk (i := 11) (d := some 39) (v := .bool false) rfl (by kernel_rfl) (by kernel_rfl) (by kernel_rfl) rfl (fun _ _ _ h => h) rfl rfl ?hy (by first | assumption | go_simp) ?_
            case hy => (intro w' hSw; (try dsimp only at hSw); go_simp <;> (first | with_reducible rfl | omega | skip))
            simp only [Act.put, List.setIfInBounds_toArray, List.set_cons_zero, List.set_cons_succ]
            refine wpAnyE_tk (i := 12) (d := some 40) (v := .bool false) rfl (by kernel_rfl) (by kernel_rfl) (by kernel_rfl) rfl (fun _ _ _ h => h) rfl rfl ?hy (by first | assumption | go_simp) ?_
            case hy => (intro w' hSw; (try dsimp only at hSw); go_simp <;> (first | with_reducible rfl | omega | skip))
            simp only [Act.put, List.setIfInBounds_toArray, List.set_cons_zero, List.set_cons_succ]
            refine wpAnyE_tk (i := 13) (d := some 41) (v := .bool false) rfl (by kernel_rfl) (by kernel_rfl) (by kernel_rfl) rfl (fun _ _ _ h => h) rfl rfl ?hy (by first | assumption | go_simp) ?_
            case hy => (intro w' hSw; (try dsimp only at hSw); go_simp <;> (first | with_reducible rfl | omega | skip))
            simp only [Act.put, List.setIfInBounds_toArray, List.set_cons_zero, List.set_cons_succ]
            refine wpAnyE_done (by kernel_rfl) ?_ _
            clear hHeld
            obtain ⟨-, -, -, f0, f1, f2⟩ := stC_cells HC4.out
            go_wp2
            go_round
            case rel => exact ⟨i + 1, S, hlt, by go_num, stSet_below (below_dN HB4.out 1) HGE.out S, stSet_other (HR4.out.drewN 1) HNE.out S, stSet_lies (HC4.out.drewN 1) S, HXX.out⟩
            case measure => simp [intOf]; omega
          · have HXX : Hid (comSt code L = (0, 0, 0)) := by rw [if_pos (.inr ⟨by omega, hsc⟩)] at HX; exact HX
            have hi1 : (0 : Int) < (i : Int) := by omega
            have heq2 : decide (S = c) = false := decide_eq_false hsc
            rw [heq2] at heq
            clear HX hsc heq2 hk
            refine wp_region_late (fun wx => wx.cell? ⟨T, 0, none⟩ = some (.int .i64 S.1) ∧ wx.cell? ⟨T, 1, none⟩ = some (.int .i64 S.2.1) ∧ wx.cell? ⟨T, 2, none⟩ = some (.int .i64 S.2.2) ∧ wx.cell? ⟨Q, 0, none⟩ = some (.int .i64 c.1) ∧ wx.cell? ⟨Q, 1, none⟩ = some (.int .i64 c.2.1) ∧ wx.cell? ⟨Q, 2, none⟩ = some (.int .i64 c.2.2)) 14 (by kernel_rfl) ⟨s0, s1, s2, c0, c1, c2⟩ (fun hHeld => ?_)
            refine wpAnyE_tk (i := 0) (d := some 28) (v := ?_) rfl (by kernel_rfl) (by kernel_rfl) (by kernel_rfl) rfl (fun _ _ _ h => h) rfl rfl ?hy (by first | assumption | go_simp) ?_
            case hy => (intro w' hSw; (try dsimp only at hSw); go_simp <;> (first | with_reducible rfl | omega | skip))
            simp only [Act.put, List.setIfInBounds_toArray, List.set_cons_zero, List.set_cons_succ]
            refine wpAnyE_tk (i := 1) (d := some 29) (v := ?_) rfl (by kernel_rfl) (by kernel_rfl) (by kernel_rfl) rfl (fun _ _ _ h => h) rfl rfl ?hy (by first | assumption | go_simp) ?_
            case hy => (intro w' hSw; (try dsimp only at hSw); go_simp <;> (first | with_reducible rfl | omega | skip))
            simp only [Act.put, List.setIfInBounds_toArray, List.set_cons_zero, List.set_cons_succ]
            refine wpAnyE_tk (i := 2) (d := some 30) (v := ?_) rfl (by kernel_rfl) (by kernel_rfl) (by kernel_rfl) rfl (fun _ _ _ h => h) rfl rfl ?hy (by first | assumption | go_simp) ?_
            case hy => (intro w' hSw; (try dsimp only at hSw); go_simp <;> (first | with_reducible rfl | omega | skip))
            simp only [Act.put, List.setIfInBounds_toArray, List.set_cons_zero, List.set_cons_succ]
            refine wpAnyE_on (i := 3) (by kernel_rfl) rfl rfl ?_
            go_simp
            refine Calls.mono (HCL.out _) ?_
            rintro e w5 ⟨rfl, rfl⟩
            refine ⟨⟨s0, s1, s2, c0, c1, c2⟩, ?_⟩
            refine wpAnyE_tk (i := 4) (d := some 32) (v := .bool false) rfl (by kernel_rfl) (by kernel_rfl) (by kernel_rfl) rfl (fun _ _ _ h => h) rfl rfl ?hy (by first | assumption | go_simp) ?_
            case hy => (intro w' hSw; (try dsimp only at hSw); go_simp <;> (first | with_reducible rfl | omega | skip))
            simp only [Act.put, List.setIfInBounds_toArray, List.set_cons_zero, List.set_cons_succ]
            refine wpAnyE_tk (i := 5) (d := some 33) (v := .bool false) rfl (by kernel_rfl) (by kernel_rfl) (by kernel_rfl) rfl (fun _ _ _ h => h) rfl rfl ?hy (by first | assumption | go_simp) ?_
            case hy => (intro w' hSw; (try dsimp only at hSw); go_simp <;> (first | with_reducible rfl | omega | skip))
            simp only [Act.put, List.setIfInBounds_toArray, List.set_cons_zero, List.set_cons_succ]
            refine wpAnyE_tk (i := 6) (d := some 34) (v := ?_) rfl (by kernel_rfl) (by kernel_rfl) (by kernel_rfl) rfl (fun _ _ _ h => h) rfl rfl ?hy (by first | assumption | go_simp) ?_
            case hy => (intro w' hSw; (try dsimp only at hSw); go_simp <;> (first | with_reducible rfl | omega | skip))
            simp only [Act.put, List.setIfInBounds_toArray, List.set_cons_zero, List.set_cons_succ]
            refine wpAnyE_tk (i := 7) (d := some 35) (v := .bool true) rfl (by kernel_rfl) (by kernel_rfl) (by kernel_rfl) rfl (fun _ _ _ h => h) rfl rfl ?hy (by first | assumption | go_simp) ?_
            case hy => (intro w' hSw; (try dsimp only at hSw); go_simp <;> (first | with_reducible rfl | omega | skip))
            simp only [Act.put, List.setIfInBounds_toArray, List.set_cons_zero, List.set_cons_succ]
            refine wpAnyE_tk (i := 8) (d := some 36) (v := .bool true) rfl (by kernel_rfl) (by kernel_rfl) (by kernel_rfl) rfl (fun _ _ _ h => h) rfl rfl ?hy (by first | assumption | go_simp) ?_
            case hy => (intro w' hSw; (try dsimp only at hSw); go_simp <;> (first | with_reducible rfl | omega | skip))
            simp only [Act.put, List.setIfInBounds_toArray, List.set_cons_zero, List.set_cons_succ]
            refine wpAnyE_tk (i := 9) (d := some 37) (v := ?_) rfl (by kernel_rfl) (by kernel_rfl) (by kernel_rfl) rfl (fun _ _ _ h => h) rfl rfl ?hy (by first | assumption | go_simp) ?_
            case hy => (intro w' hSw; (try dsimp only at hSw); go_simp <;> (first | with_reducible rfl | omega | skip))
            simp only [Act.put, List.setIfInBounds_toArray, List.set_cons_zero, List.set_cons_succ]
            refine wpAnyE_tk (i := 10) (d := some 38) (v := ?_) rfl (by kernel_rfl) (by kernel_rfl) (by kernel_rfl) rfl (fun _ _ _ h => h) rfl rfl ?hy (by first | assumption | go_simp) ?_
            case hy => (intro w' hSw; (try dsimp only at hSw); go_simp <;> (first | with_reducible rfl | omega | skip))
            simp only [Act.put, List.setIfInBounds_toArray, List.set_cons_zero, List.set_cons_succ]
            refine wpAnyE_tk (i := 11) (d := some 39) (v := .bool true) rfl (by kernel_rfl) (by kernel_rfl) (by kernel_rfl) rfl (fun _ _ _ h => h) rfl rfl ?hy (by first | assumption | go_simp) ?_
            case hy => (intro w' hSw; (try dsimp only at hSw); go_simp <;> (first | with_reducible rfl | omega | skip))
            simp only [Act.put, List.setIfInBounds_toArray, List.set_cons_zero, List.set_cons_succ]
            refine wpAnyE_tk (i := 12) (d := some 40) (v := .bool true) rfl (by kernel_rfl) (by kernel_rfl) (by kernel_rfl) rfl (fun _ _ _ h => h) rfl rfl ?hy (by first | assumption | go_simp) ?_
            case hy => (intro w' hSw; (try dsimp only at hSw); go_simp <;> (first | with_reducible rfl | omega | skip))
            simp only [Act.put, List.setIfInBounds_toArray, List.set_cons_zero, List.set_cons_succ]
            refine wpAnyE_tk (i := 13) (d := some 41) (v := .bool true) rfl (by kernel_rfl) (by kernel_rfl) (by kernel_rfl) rfl (fun _ _ _ h => h) rfl rfl ?hy (by first | assumption | go_simp) ?_
            case hy => (intro w' hSw; (try dsimp only at hSw); go_simp <;> (first | with_reducible rfl | omega | skip))
            simp only [Act.put, List.setIfInBounds_toArray, List.set_cons_zero, List.set_cons_succ]
            refine wpAnyE_done (by kernel_rfl) ?_ _
            clear hHeld
            go_wp2_with fail
            refine (none_any U.drew).mono ?_
            rintro e w6 ⟨rfl, hB6⟩
            have HB6 : Hid (Below w.heap.size w w6) := (below_dN HB4.out 1).trans (hB6.mono HB4.out.size)
            have HR6 : Hid (Lies w6 w.heap.size (stC (0, 0, 0)) 48) := (HR4.out.drewN 1).below hB6 HR4.out.lt
            obtain ⟨d0, d1, d2, f0, f1, f2⟩ := stC_cells HR6.out
            clear hB6 s0 s1 s2 c0 c1 c2
            unfold stV
            go_wp2
            exact ret_row rfl w.heap.size 48 (stC (0, 0, 0)) _ rfl (stSet_lies HR6.out (0, 0, 0)) Tryd.underlying48 rfl infoST ⟨by rw [HXX.out]; rfl, stSet_below HB6.out (Nat.le_refl _) (0, 0, 0)⟩
      · have HXX : Hid (comSt code L = (0, 0, 0)) := by rw [if_pos (.inl hk)] at HX; exact HX
        have hk1 : (S.1 == code / 100) = false := beq_eq_false_iff_ne.2 hk
        have hk2 : (S.1 != code / 100) = true := by rw [bne, hk1]; rfl
        clear HX hk
        refine wp_region_late (fun wx => wx.cell? ⟨T, 0, none⟩ = some (.int .i64 S.1) ∧ wx.cell? ⟨T, 1, none⟩ = some (.int .i64 S.2.1) ∧ wx.cell? ⟨T, 2, none⟩ = some (.int .i64 S.2.2) ∧ wx.cell? ⟨Q, 0, none⟩ = some (.int .i64 c.1) ∧ wx.cell? ⟨Q, 1, none⟩ = some (.int .i64 c.2.1) ∧ wx.cell? ⟨Q, 2, none⟩ = some (.int .i64 c.2.2)) 14 (by kernel_rfl) ⟨s0, s1, s2, c0, c1, c2⟩ (fun hHeld => ?_)
        refine wpAnyE_tk (i := 0) (d := some 28) (v := ?_) rfl (by kernel_rfl) (by kernel_rfl) (by kernel_rfl) rfl (fun _ _ _ h => h) rfl rfl ?hy (by first | assumption | go_simp) ?_
        case hy => (intro w' hSw; (try dsimp only at hSw); go_simp <;> (first | with_reducible rfl | omega | skip))
        simp only [Act.put, List.setIfInBounds_toArray, List.set_cons_zero, List.set_cons_succ]
        refine wpAnyE_tk (i := 1) (d := some 29) (v := ?_) rfl (by kernel_rfl) (by kernel_rfl) (by kernel_rfl) rfl (fun _ _ _ h => h) rfl rfl ?hy (by first | assumption | go_simp) ?_
        case hy => (intro w' hSw; (try dsimp only at hSw); go_simp <;> (first | with_reducible rfl | omega | skip))
        simp only [Act.put, List.setIfInBounds_toArray, List.set_cons_zero, List.set_cons_succ]
        refine wpAnyE_tk (i := 2) (d := some 30) (v := ?_) rfl (by kernel_rfl) (by kernel_rfl) (by kernel_rfl) rfl (fun _ _ _ h => h) rfl rfl ?hy (by first | assumption | go_simp) ?_
        case hy => (intro w' hSw; (try dsimp only at hSw); go_simp <;> (first | with_reducible rfl | omega | skip))
        simp only [Act.put, List.setIfInBounds_toArray, List.set_cons_zero, List.set_cons_succ]
        refine wpAnyE_on (i := 3) (by kernel_rfl) rfl rfl ?_
        go_simp
        refine Calls.mono (HCL.out _) ?_
        rintro e w5 ⟨rfl, rfl⟩
        refine ⟨⟨s0, s1, s2, c0, c1, c2⟩, ?_⟩
        refine wpAnyE_tk (i := 4) (d := some 32) (v := .bool true) rfl (by kernel_rfl) (by kernel_rfl) (by kernel_rfl) rfl (fun _ _ _ h => h) rfl rfl ?hy (by first | assumption | go_simp) ?_
        case hy => (intro w' hSw; (try dsimp only at hSw); go_simp <;> (first | with_reducible rfl | omega | skip))
        simp only [Act.put, List.setIfInBounds_toArray, List.set_cons_zero, List.set_cons_succ]
        refine wpAnyE_tk (i := 5) (d := some 33) (v := .bool true) rfl (by kernel_rfl) (by kernel_rfl) (by kernel_rfl) rfl (fun _ _ _ h => h) rfl rfl ?hy (by first | assumption | go_simp) ?_
        case hy => (intro w' hSw; (try dsimp only at hSw); go_simp <;> (first | with_reducible rfl | omega | skip))
        simp only [Act.put, List.setIfInBounds_toArray, List.set_cons_zero, List.set_cons_succ]
        refine wpAnyE_sk (i := 6) (d := some 34) rfl (by kernel_rfl) (by kernel_rfl) (by kernel_rfl) rfl (fun _ _ _ h => h) rfl rfl (by first | assumption | go_simp) ?_
        simp only [Act.put, List.setIfInBounds_toArray, List.set_cons_zero, List.set_cons_succ]
        refine wpAnyE_sk (i := 7) (d := some 35) rfl (by kernel_rfl) (by kernel_rfl) (by kernel_rfl) rfl (fun _ _ _ h => h) rfl rfl (by first | assumption | go_simp) ?_
        simp only [Act.put, List.setIfInBounds_toArray, List.set_cons_zero, List.set_cons_succ]
        refine wpAnyE_sk (i := 8) (d := some 36) rfl (by kernel_rfl) (by kernel_rfl) (by kernel_rfl) rfl (fun _ _ _ h => h) rfl rfl (by first | assumption | go_simp) ?_
        simp only [Act.put, List.setIfInBounds_toArray, List.set_cons_zero, List.set_cons_succ]
        refine wpAnyE_sk (i := 9) (d := some 37) rfl (by kernel_rfl) (by kernel_rfl) (by kernel_rfl) rfl (fun _ _ _ h => h) rfl rfl (by first | assumption | go_simp) ?_
        simp only [Act.put, List.setIfInBounds_toArray, List.set_cons_zero, List.set_cons_succ]
        refine wpAnyE_sk (i := 10) (d := some 38) rfl (by kernel_rfl) (by kernel_rfl) (by kernel_rfl) rfl (fun _ _ _ h => h) rfl rfl (by first | assumption | go_simp) ?_
        simp only [Act.put, List.setIfInBounds_toArray, List.set_cons_zero, List.set_cons_succ]
        refine wpAnyE_sk (i := 11) (d := some 39) rfl (by kernel_rfl) (by kernel_rfl) (by kernel_rfl) rfl (fun _ _ _ h => h) rfl rfl (by first | assumption | go_simp) ?_
        simp only [Act.put, List.setIfInBounds_toArray, List.set_cons_zero, List.set_cons_succ]
        refine wpAnyE_sk (i := 12) (d := some 40) rfl (by kernel_rfl) (by kernel_rfl) (by kernel_rfl) rfl (fun _ _ _ h => h) rfl rfl (by first | assumption | go_simp) ?_
        simp only [Act.put, List.setIfInBounds_toArray, List.set_cons_zero, List.set_cons_succ]
        refine wpAnyE_tk (i := 13) (d := some 41) (v := .bool true) rfl (by kernel_rfl) (by kernel_rfl) (by kernel_rfl) rfl (fun _ _ _ h => h) rfl rfl ?hy (by first | assumption | go_simp) ?_
        case hy => (intro w' hSw; (try dsimp only at hSw); go_simp <;> (first | with_reducible rfl | omega | skip))
        simp only [Act.put, List.setIfInBounds_toArray, List.set_cons_zero, List.set_cons_succ]
        refine wpAnyE_done (by kernel_rfl) ?_ _
        clear hHeld
        go_wp2_with fail
        refine (none_any U.drew).mono ?_
        rintro e w6 ⟨rfl, hB6⟩
        have HB6 : Hid (Below w.heap.size w w6) := (below_dN HB4.out 1).trans (hB6.mono HB4.out.size)
        have HR6 : Hid (Lies w6 w.heap.size (stC (0, 0, 0)) 48) := (HR4.out.drewN 1).below hB6 HR4.out.lt
        obtain ⟨d0, d1, d2, f0, f1, f2⟩ := stC_cells HR6.out
        clear hB6 s0 s1 s2 c0 c1 c2
        unfold stV
        go_wp2
        exact ret_row rfl w.heap.size 48 (stC (0, 0, 0)) _ rfl (stSet_lies HR6.out (0, 0, 0)) Tryd.underlying48 rfl infoST ⟨by rw [HXX.out]; rfl, stSet_below HB6.out (Nat.le_refl _) (0, 0, 0)⟩
    · have HXX : Hid (comSt code L = c) := by have := HX.out; rw [List.drop_eq_nil_of_le (by omega)] at this; exact this
      have hlt' : ¬ (i : Int) < (L.length : Int) := by omega
      obtain ⟨c0, c1, c2, -, -, -⟩ := stC_cells HC.out
      obtain ⟨d0, d1, d2, f0, f1, f2⟩ := stC_cells HR.out
      clear HX
      have hne := HNE.out
      go_wp2
      exact ret_row rfl w.heap.size 48 (stC c) _ rfl (stSet_lies HR.out c) Tryd.underlying48 rfl infoST ⟨by rw [HXX.out]; rfl, stSet_below HB.out (Nat.le_refl _) c⟩
end Go.Proofs.YtbfgefgadplcjaaDoor
