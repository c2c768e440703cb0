/-
  The program's reading of a step, and the place of the last mark.
-/
import Derived.Test.YtnlgbopdbihnjaaGreatDoorCtr
import Derived.Test.YtnlgbopdbihnjaaGreatDoorBase2
import Derived.Test.YtnlgbopdbihnjaaGreatDoorREnc
import Derived.Lib.SlBytesConst
import Derived.RangeFuncNested
import Derived.RangeFuncBound
import Derived.RangeFuncCalls
import Derived.RangeFuncLeaves
import Derived.Shelf.Abstract
import Derived.Shelf.RegionOpen
import Derived.WalkKit
import Derived.OwnWalkIn
import Derived.TacticsInMore
import Derived.LoopNIn
import Derived.LoopIn
import Derived.Test.YtnlgbopdbihnjaaGreatDoorNum
namespace Go.Proofs.YtnlgbopdbihnjaaGreatDoor
open Go.RowKit

theorem dig_is (c : UInt8) : isB 2 (c.toNat : Int) = decide (48 ≤ c.toNat ∧ c.toNat ≤ 57) := by
  have h : ∀ b : Fin 256, isB 2 (b.val : Int) = decide (48 ≤ b.val ∧ b.val ≤ 57) := by decide +kernel
  exact h ⟨c.toNat, c.toNat_lt⟩
def wthV (b : UInt8) : Nat := (wth b).getD 0
/-- What readStep tells. -/
def rdV (r : (Nat × Nat) ⊕ (Nat × Nat)) : Value := match r with
  | .inl (c, at') => .tuple #[.int .i64 0, .int .i64 0, .agg #[.int .i64 (c : Nat), .int .i64 (at' : Nat)]]
  | .inr (s, b) => .tuple #[.int .i64 (s : Nat), .int .i64 (b : Nat), .agg #[.int .i64 0, .int .i64 0]]
theorem rdS_drop (bias : Nat) (l : List UInt8) (i at' sum wt : Nat) (h : at' < l.length) :
    rdS bias (l.drop at') i at' sum wt = match wth l[at'] with
      | none => .inl (51, at')
      | some v => if 2147483647 < sum + v * wt then .inl (52, at') else if v < bnd i bias then .inr (sum + v * wt, at' + 1) else rdS bias (l.drop (at' + 1)) (i + 1) (at' + 1) (sum + v * wt) (wt * (36 - bnd i bias)) := by
  rw [List.drop_eq_getElem_cons h]
  rfl

end Go.Proofs.YtnlgbopdbihnjaaGreatDoor
/-
  The document's bound, Bias, worth and step.
-/
namespace Go.Proofs.YtnlgbopdbihnjaaGreatDoor
open Go.RowKit

set_option maxHeartbeats 1000000 in
set_option maxRecDepth 100000 in
theorem dbound_any (i bias : Nat) (hi : i ≤ 4294967296) (hb : bias ≤ 8589934592) (w : World) :
    Calls Tryz.prog 126 #[.int .i64 i, .int .i64 bias] w fun e w' => e = .returned (.int .i64 (bnd i bias)) ∧ w' = w := by
  have HB : Hid ((bnd i bias : Int) = min (max (36 * ((i : Int) + 1) - bias) 1) 26) := by
    show _ = _
    unfold bnd
    omega
  have hw : IntKind.i64.wrap (36 * ((i : Int) + 1) - bias) = 36 * ((i : Int) + 1) - bias := by rw [IntKind.wrap_i64]; omega
  by_cases h1 : 36 * ((i : Int) + 1) - bias < 1
  · go_enter Tryz.func126, Tryz.ntmps126
    go_wp2
    go_ret
    refine ⟨ret_i64 ?_, rfl⟩
    rw [HB.out]
    omega
  by_cases h2 : 26 < 36 * ((i : Int) + 1) - bias
  · go_enter Tryz.func126, Tryz.ntmps126
    go_wp2
    go_ret
    refine ⟨ret_i64 ?_, rfl⟩
    rw [HB.out]
    omega
  · go_enter Tryz.func126, Tryz.ntmps126
    go_wp2
    go_ret
    refine ⟨ret_i64 ?_, rfl⟩
    rw [HB.out]
    omega

set_option maxHeartbeats 1000000 in
set_option maxRecDepth 100000 in
theorem dbias_any (s h : Nat) (first : Bool) (hs : s ≤ 2147483647) (h0 : 0 < h) (hh : h ≤ 4294967296) (w : World) :
    Calls Tryz.prog 102 #[.int .i64 s, .int .i64 h, .bool first] w fun e w' => e = .returned (.int .i64 (biasB s h first)) ∧ w' = w := by
  have q2 : (s : Int).tdiv 2 = ((s / 2 : Nat) : Int) := by rw [Int.tdiv_eq_ediv_of_nonneg (by omega)]; omega
  have q7 : (s : Int).tdiv 700 = ((s / 700 : Nat) : Int) := by rw [Int.tdiv_eq_ediv_of_nonneg (by omega)]; omega
  have HB : Hid (biasB s h first = biasL ((if first then s / 700 else s / 2) + (if first then s / 700 else s / 2) / h) 0) := rfl
  generalize hB : biasB s h first = B at HB ⊢
  clear hB
  cases first
  · simp only [Bool.false_eq_true, if_false] at HB
    have hd2 : s / 2 ≤ 2147483647 := by omega
    generalize s / 2 = d at HB q2 hd2
    have qh : (d : Int).tdiv h = ((d / h : Nat) : Int) := by rw [Int.tdiv_eq_ediv_of_nonneg (by omega), Int.natCast_ediv]
    have hdh := Nat.div_le_self d h
    generalize d / h = dh at HB qh hdh
    go_enter Tryz.func102, Tryz.ntmps102
    go_wp2
    go_loop [7, 8] (fun dv kv => ∃ x k : Nat, dv = .int .i64 x ∧ kv = .int .i64 k ∧ x ≤ 4294967296 ∧ k + 36 * x ≤ 154618822656 ∧ Hid (B = biasL x k)) (fun dv _ => (intOf dv).toNat)
    case atStart => exact ⟨d + dh, 0, by go_num, rfl, by omega, by omega, HB⟩
    case round =>
      obtain ⟨x, k, rfl, rfl, hx, hk, HX⟩ := hrel
      by_cases hl : 455 < x
      · have q35 : (x : Int).tdiv 35 = ((x / 35 : Nat) : Int) := by rw [Int.tdiv_eq_ediv_of_nonneg (by omega)]; omega
        have HX2 : Hid (B = biasL (x / 35) (k + 36)) := by show _ = _; rw [HX.out, biasL_go hl]
        have hx35 : x / 35 < x := by omega
        have hk35 : k + 36 + 36 * (x / 35) ≤ 154618822656 := by omega
        generalize x / 35 = y at q35 HX2 hx35 hk35
        go_wp2
        go_round
        case rel => exact ⟨y, k + 36, by first | rfl | go_num, by go_num, by omega, hk35, HX2⟩
        case measure => simp [intOf]; omega
      · have qe : (36 * (x : Int)).tdiv ((x : Int) + 38) = ((36 * x / (x + 38) : Nat) : Int) := by rw [Int.tdiv_eq_ediv_of_nonneg (by omega), Int.natCast_ediv]; push_cast; rfl
        have HX2 : Hid (B = k + 36 * x / (x + 38)) := by show _ = _; rw [HX.out, biasL_end hl]
        have hle : 36 * x / (x + 38) ≤ 36 * x := Nat.div_le_self _ _
        generalize 36 * x / (x + 38) = y at qe HX2 hle
        go_wp2
        go_ret
        exact ⟨ret_i64 (by rw [HX2.out]; push_cast; rfl), rfl⟩
  · simp only [if_true] at HB
    have hd2 : s / 700 ≤ 2147483647 := by omega
    generalize s / 700 = d at HB q7 hd2
    have qh : (d : Int).tdiv h = ((d / h : Nat) : Int) := by rw [Int.tdiv_eq_ediv_of_nonneg (by omega), Int.natCast_ediv]
    have hdh := Nat.div_le_self d h
    generalize d / h = dh at HB qh hdh
    have hs2 : s / 2 ≤ 2147483647 := by omega
    generalize s / 2 = d2 at q2 hs2
    go_enter Tryz.func102, Tryz.ntmps102
    go_wp2
    go_loop [7, 8] (fun dv kv => ∃ x k : Nat, dv = .int .i64 x ∧ kv = .int .i64 k ∧ x ≤ 4294967296 ∧ k + 36 * x ≤ 154618822656 ∧ Hid (B = biasL x k)) (fun dv _ => (intOf dv).toNat)
    case atStart => exact ⟨d + dh, 0, by go_num, rfl, by omega, by omega, HB⟩
    case round =>
      obtain ⟨x, k, rfl, rfl, hx, hk, HX⟩ := hrel
      by_cases hl : 455 < x
      · have q35 : (x : Int).tdiv 35 = ((x / 35 : Nat) : Int) := by rw [Int.tdiv_eq_ediv_of_nonneg (by omega)]; omega
        have HX2 : Hid (B = biasL (x / 35) (k + 36)) := by show _ = _; rw [HX.out, biasL_go hl]
        have hx35 : x / 35 < x := by omega
        have hk35 : k + 36 + 36 * (x / 35) ≤ 154618822656 := by omega
        generalize x / 35 = y at q35 HX2 hx35 hk35
        go_wp2
        go_round
        case rel => exact ⟨y, k + 36, by first | rfl | go_num, by go_num, by omega, hk35, HX2⟩
        case measure => simp [intOf]; omega
      · have qe : (36 * (x : Int)).tdiv ((x : Int) + 38) = ((36 * x / (x + 38) : Nat) : Int) := by rw [Int.tdiv_eq_ediv_of_nonneg (by omega), Int.natCast_ediv]; push_cast; rfl
        have HX2 : Hid (B = k + 36 * x / (x + 38)) := by show _ = _; rw [HX.out, biasL_end hl]
        have hle : 36 * x / (x + 38) ≤ 36 * x := Nat.div_le_self _ _
        generalize 36 * x / (x + 38) = y at qe HX2 hle
        go_wp2
        go_ret
        exact ⟨ret_i64 (by rw [HX2.out]; push_cast; rfl), rfl⟩

/-- The digits' letters. -/
def dgL : List UInt8 := [97, 98, 99, 100, 101, 102, 103, 104, 105, 106, 107, 108, 109, 110, 111, 112, 113, 114, 115, 116, 117, 118, 119, 120, 121, 122, 48, 49, 50, 51, 52, 53, 54, 55, 56, 57]
/-- Does a byte stand for a letter of them? -/
def mtB (b c : UInt8) : Bool := b == c || (b + 32 == c && (decide (97 ≤ c.toNat) && decide (65 ≤ b.toNat)))
theorem mt_some : ∀ (b : Fin 256) (k : Fin 36), mtB (UInt8.ofNat b.val) (dgL[k.val]'k.isLt) = true → wth (UInt8.ofNat b.val) = some k.val := by decide +kernel
theorem mt_none : ∀ b : Fin 256, (dgL.all fun c => !mtB (UInt8.ofNat b.val) c) = true → wth (UInt8.ofNat b.val) = none := by decide +kernel
theorem wth_at (b : UInt8) (k : Nat) (hk : k < dgL.length) (h : mtB b dgL[k] = true) : wth b = some k := by
  have := mt_some ⟨b.toNat, b.toNat_lt⟩ ⟨k, hk⟩
  simp only [UInt8.ofNat_toNat] at this
  exact this h
theorem wth_no (b : UInt8) (h : ∀ k (hk : k < dgL.length), mtB b dgL[k] = false) : wth b = none := by
  have := mt_none ⟨b.toNat, b.toNat_lt⟩
  simp only [UInt8.ofNat_toNat] at this
  refine this (List.all_eq_true.2 fun c hc => ?_)
  obtain ⟨k, hk, rfl⟩ := List.getElem_of_mem hc
  rw [h k hk]
  rfl
def worN (b : UInt8) : Int := match wth b with | none => -1 | some v => (v : Int)

end Go.Proofs.YtnlgbopdbihnjaaGreatDoor
/-
  The document's step.
-/
namespace Go.Proofs.YtnlgbopdbihnjaaGreatDoor
open Go.RowKit

end Go.Proofs.YtnlgbopdbihnjaaGreatDoor
/-
  A range over a function whose rounds are known by their number: the body is asked of the number that is due alone.
-/
namespace Go.Proofs.YtnlgbopdbihnjaaGreatDoor
open Go.RowKit

/-- How a round ends that goes on. -/
def goesOn (B : Nat) (I : Nat → World → Prop) (t : Nat) (W : World) : Exit → Act → World → Prop
  | .normal, _, W' => KeepsFrom B W W' ∧ I (t + 1) W'
  | _, _, _ => False

theorem range_rounds {F : Fence} {n : Nat} {P : Program} {g : Operand} {ps : Array Tmp} {assign body : Code} {Q : Exit → Act → World → Prop} {a : Act} {w : World}
    (hro : F.round = none) (h1 : 1 ≤ n) {gf : Nat} {lb : Array Value} (hg : a.eval g = .func (.func gf) #[] lb) (hFg : F.fn gf) (eg : ∀ args w, (callFunc gf args).run P w = .ok (.enter gf args) w)
    (m : Nat) (encs : Nat → Array Value) (hps : ∀ t, (encs t).size = ps.size) (I : Nat → World → Prop) (hI : OwnFrom w.heap.size I) (h0 : I 0 w)
    (hseq : ∀ (l : Nat) (J : Nat → World → Prop), (∀ t W, J t W → I t W) → (∀ t W, J t W → t < m → YieldAt F (n - 1 - 1) P l (encs t) W fun e W' => e = .returned (.bool true) ∧ J (t + 1) W') →
      ∀ W, J 0 W → CallsIn F (n - 1) P gf (#[.func (.yield l) #[] #[]] ++ lb) W fun e W' => (∃ v, e = .returned v) ∧ J m W')
    (Ax : Nat → Act → World → Prop) (hAx : ∀ t a', OwnFrom w.heap.size (fun (_ : Unit) W => Ax t a' W))
    (hassign : ∀ (l t : Nat) (W : World) (K : Act → World → Prop), I t W → t < m → (∀ a' W', KeepsFrom w.heap.size W W' → I t W' → Ax t a' W' → K a' W') →
      assign.wpIn (F.inRound l) (n - 1 - 1) P (Exit.then K (fun _ _ _ => False)) { tmps := (ps.zip (encs t)).foldl (fun t (p, v) => t.setIfInBounds p v) a.tmps, defers := [] } W)
    (hbody : ∀ (l t : Nat) (a' : Act) (W : World), I t W → Ax t a' W → t < m → body.wpIn (F.inRound l) (n - 1 - 1) P (goesOn w.heap.size I t W) a' W)
    (hdone : ∀ (D : Nat) (W : World), w.heap.size ≤ D → I m W → W.heap[D]? = some (.deferred (some [])) → Q .normal { a with defers := { target := .collected D, args := #[] } :: a.defers } W) :
    (Code.rangeFunc g ps assign body).wpIn F n P Q a w := by
  refine wpIn_rangeFunc fun fn hfn => ?_
  rw [hro]
  let rec' : LoopState → Option Code → Loop := fun st pe => { state := st, pending := pe, fn, tmps := a.tmps, params := ps, assign, body, defers := w.heap.size }
  let L := w.heap.size + 1
  let W1 := (w.alloc (.deferred (some []))).alloc (.loop (rec' .ready none))
  -- what the book-keeping says beside the caller's own word
  let J : Nat → World → Prop := fun t W => I t W ∧ W.heap[L]? = some (.loop (rec' .ready none)) ∧ W.heap[w.heap.size]? = some (.deferred (some []))
  have hJ0 : J 0 W1 := by
    refine ⟨hI.alloc _ (hI.alloc _ h0), ?_, ?_⟩
    · have := World.alloc_heap_new (w.alloc (.deferred (some []))) (.loop (rec' .ready none))
      rw [World.size_alloc] at this
      exact this
    · exact (Below.heap_alloc _ _ _ (by simp)).trans (World.alloc_heap_new w _)
  refine ⟨L, [{ target := .collected w.heap.size, args := #[] }], W1, { target := .fn (.func gf) lb, args := #[.func (.yield L) #[] #[]] }, W1, gf, #[.func (.yield L) #[] #[]] ++ lb, W1, ?_, ?_, ?_, ?_, fun _ => h1, ?_⟩
  · exact run_enterLoop_outer _ _ _ _ _
  · simp only [resolve, hg]
    simp [go_sem]
  · intro f' hf'
    simp [Target.leads] at hf'
    subst hf'
    exact hFg
  · simp [invoke, go_sem, eg]
  refine (hseq L J (fun t W h => h.1) ?_ W1 hJ0).mono ?_
  · -- one round
    rintro t W ⟨hi, hl, hk⟩ ht
    refine ⟨fn, _, assign, body, run_yield (P := P) (args := encs t) hl (hps t), roundIn_of_wpIn hfn (hassign L t W _ hi ht ?_)⟩
    intro a' Wa hkf hia hax
    have hla := hkf.same L _ (Nat.le_succ _) hl rfl
    have hka := hkf.same w.heap.size _ (Nat.le_refl _) hk rfl
    have hlt : L < Wa.heap.size := (Array.getElem?_eq_some_iff.1 hla).1
    refine ⟨_, run_beginRound hla rfl, ?_⟩
    let Wb := Wa.putObj L (.loop { rec' .ready none with state := .busy })
    have hlb : Wb.heap[L]? = some (.loop { rec' .ready none with state := .busy }) := World.putObj_heap_same hlt
    have hkb : Wb.heap[w.heap.size]? = some (.deferred (some [])) := (World.putObj_heap_other (by omega)).trans hka
    refine wpIn_mono (hbody L t a' Wb (hI.putObj _ hia (Nat.le_succ _) hla rfl) ((hAx t a').putObj (s := ()) _ hax (Nat.le_succ _) hla rfl) ht) ?_
    intro e a3 W3 hp
    cases e with
    | normal =>
      obtain ⟨hk3, hi3⟩ := hp
      have hl3 := hk3.same L _ (Nat.le_succ _) hlb rfl
      have hd3 := hk3.same w.heap.size _ (Nat.le_refl _) hkb rfl
      refine ⟨_, _, run_endRound (P := P) none hl3, rfl, hI.putObj _ hi3 (Nat.le_succ _) hl3 rfl, ?_, ?_⟩
      · exact World.putObj_heap_same (Array.getElem?_eq_some_iff.1 hl3).1
      · exact (World.putObj_heap_other (by omega)).trans hd3
    | _ => exact hp.elim
  · rintro e W2 ⟨⟨v, rfl⟩, hi, hl, hk⟩
    refine ⟨none, _, run_endLoop (P := P) hl (by intro h; cases h), ?_⟩
    exact hdone _ _ (Nat.le_refl _) (hI.putObj _ hi (Nat.le_succ _) hl rfl) ((World.putObj_heap_other (by omega)).trans hk)

/-- Two loop variables, the second of which the assignment puts into a box of its own. -/
theorem range_box {F : Fence} {n : Nat} {P : Program} {g : Operand} {p0 p1 slot : Nat} {assign body : Code} {Q : Exit → Act → World → Prop} {a : Act} {w : World}
    (hro : F.round = none) (h1 : 1 ≤ n) {gf : Nat} {lb : Array Value} (hg : a.eval g = .func (.func gf) #[] lb) (hFg : F.fn gf) (eg : ∀ args w, (callFunc gf args).run P w = .ok (.enter gf args) w)
    (m : Nat) (e0 e1 : Nat → Value) (I : Nat → World → Prop) (hI : OwnFrom w.heap.size I) (h0 : I 0 w)
    (hseq : ∀ (l : Nat) (J : Nat → World → Prop), (∀ t W, J t W → I t W) → (∀ t W, J t W → t < m → YieldAt F (n - 1 - 1) P l #[e0 t, e1 t] W fun e W' => e = .returned (.bool true) ∧ J (t + 1) W') →
      ∀ W, J 0 W → CallsIn F (n - 1) P gf (#[.func (.yield l) #[] #[]] ++ lb) W fun e W' => (∃ v, e = .returned v) ∧ J m W')
    (R : Nat → Nat → World → Prop) (hR : ∀ t B, OwnFrom w.heap.size (fun (_ : Unit) W => R t B W))
    (hassign : ∀ (l t : Nat) (W : World) (K : Act → World → Prop), I t W → t < m →
      (∀ B W', KeepsFrom w.heap.size W W' → I t W' → R t B W' → K { tmps := ((a.tmps.setIfInBounds p0 (e0 t)).setIfInBounds p1 (e1 t)).setIfInBounds slot (.pointer (some ⟨B, 0, none⟩)), defers := [] } W') →
      assign.wpIn (F.inRound l) (n - 1 - 1) P (Exit.then K (fun _ _ _ => False)) { tmps := (a.tmps.setIfInBounds p0 (e0 t)).setIfInBounds p1 (e1 t), defers := [] } W)
    (hbody : ∀ (l t B : Nat) (W : World), I t W → R t B W → t < m → body.wpIn (F.inRound l) (n - 1 - 1) P (goesOn w.heap.size I t W) { tmps := ((a.tmps.setIfInBounds p0 (e0 t)).setIfInBounds p1 (e1 t)).setIfInBounds slot (.pointer (some ⟨B, 0, none⟩)), defers := [] } W)
    (hdone : ∀ (D : Nat) (W : World), w.heap.size ≤ D → I m W → W.heap[D]? = some (.deferred (some [])) → Q .normal { a with defers := { target := .collected D, args := #[] } :: a.defers } W) :
    (Code.rangeFunc g #[p0, p1] assign body).wpIn F n P Q a w := by
  refine range_rounds hro h1 hg hFg eg m (fun t => #[e0 t, e1 t]) (fun _ => rfl) I hI h0 hseq
    (fun t a' W => ∃ B, R t B W ∧ a' = { tmps := ((a.tmps.setIfInBounds p0 (e0 t)).setIfInBounds p1 (e1 t)).setIfInBounds slot (.pointer (some ⟨B, 0, none⟩)), defers := [] }) ?_ ?_ ?_ hdone
  · rintro t a' s W W' row ⟨B, hb, ha⟩ hg hr
    exact ⟨B, hR t B s W W' row hb hg hr, ha⟩
  · intro l t W K hi ht hk
    have e : (#[p0, p1].zip #[e0 t, e1 t]).foldl (fun t (p, v) => t.setIfInBounds p v) a.tmps = (a.tmps.setIfInBounds p0 (e0 t)).setIfInBounds p1 (e1 t) := by simp
    show assign.wpIn _ _ _ _ { tmps := (#[p0, p1].zip #[e0 t, e1 t]).foldl (fun t (p, v) => t.setIfInBounds p v) a.tmps, defers := [] } _
    rw [e]
    exact hassign l t W K hi ht (fun B W' h1 h2 h3 => hk _ W' h1 h2 ⟨B, h3, rfl⟩)
  · rintro l t a' W hi ⟨B, hb, rfl⟩ ht
    exact hbody l t B W hi hb ht
end Go.Proofs.YtnlgbopdbihnjaaGreatDoor
/-
  The library's Backward over the wide runes that were read.
-/
namespace Go.Proofs.YtnlgbopdbihnjaaGreatDoor
open Go.RowKit
attribute [local go_sem] Oper.semAt_some

/-- Wide runes and their places, in memory. -/
def PsAt (a : Option Addr) (ps : List (Int × Nat)) (w : World) : Prop := ps = [] ∨ ∃ g, a = some ⟨g, 0, none⟩ ∧ g < w.heap.size ∧ ∀ j, (h : j < ps.length) → w.cell? ⟨g, j * 2, none⟩ = some (.int .i32 ps[j].1) ∧ w.cell? ⟨g, j * 2 + 1, none⟩ = some (.int .i64 (ps[j].2 : Int))

/-- What the round number t is handed. -/
def encI (ps : List (Int × Nat)) (t : Nat) : Value := .int .i64 ((ps.length - 1 - t : Nat) : Int)
def encV (ps : List (Int × Nat)) (t : Nat) : Value := .agg #[.int .i32 (ps.getD (ps.length - 1 - t) (0, 0)).1, .int .i64 ((ps.getD (ps.length - 1 - t) (0, 0)).2 : Int)]

end Go.Proofs.YtnlgbopdbihnjaaGreatDoor
