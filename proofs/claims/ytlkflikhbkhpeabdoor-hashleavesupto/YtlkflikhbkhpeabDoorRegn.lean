/-
  A row laid over two bytes in one statement whose order is drawn: two calls, two variables, two stores.
-/
import Derived.Test.YtlkflikhbkhpeabDoorMacReg
namespace Go.Proofs.YtlkflikhbkhpeabDoor
open Go.RowKit

def op1 : Oper := { dst := some 12, op := .call { callee := .value (.func 20), args := #[.tmp 11, .const (.int .u8 54)], argTypes := #[38, 5] }, type := 38, pos := "hash.go:39", after := #[{ on := 0, ground := .data }], guard := none }
def op3 : Oper := { dst := some 14, op := .call { callee := .value (.func 20), args := #[.tmp 13, .const (.int .u8 92)], argTypes := #[38, 5] }, type := 38, pos := "hash.go:39", after := #[{ on := 2, ground := .data }, { on := 1, ground := .chain }], guard := none }
def op4 : Oper := { dst := some 6, op := .alloc 38, type := 0, pos := "hash.go:39", after := #[], guard := none }
def op5 : Oper := { dst := some 7, op := .alloc 38, type := 0, pos := "hash.go:39", after := #[], guard := none }
def op6 : Oper := { dst := none, op := .store 38 (.tmp 6) (.tmp 12), type := 0, pos := "hash.go:39", after := #[{ on := 4, ground := .data }, { on := 1, ground := .data }, { on := 3, ground := .chain }, { on := 0, ground := .phase }, { on := 1, ground := .phase }, { on := 2, ground := .textOnly .lateStores }, { on := 3, ground := .phase }, { on := 4, ground := .phase }, { on := 5, ground := .phase }], guard := none }
def op7 : Oper := { dst := none, op := .store 38 (.tmp 7) (.tmp 14), type := 0, pos := "hash.go:39", after := #[{ on := 5, ground := .data }, { on := 3, ground := .data }, { on := 6, ground := .chain }, { on := 0, ground := .phase }, { on := 1, ground := .phase }, { on := 2, ground := .phase }, { on := 3, ground := .phase }, { on := 4, ground := .phase }, { on := 5, ground := .phase }, { on := 6, ground := .phase }], guard := none }
def macOps : Array Oper := #[{ dst := some 11, op := .load 38 (.tmp 5), type := 38, pos := "hash.go:39", after := #[], guard := none }, op1, { dst := some 13, op := .load 38 (.tmp 5), type := 38, pos := "hash.go:39", after := #[], guard := none }, op3, op4, op5, op6, op7]

/-- The frame's slots that the statement writes. -/
structure Slots (fr : Value → Value → Value → Value → Act) (k : List UInt8) : Prop where
  p6 : ∀ a b c d v, (fr a b c d).put (some 6) v = fr v b c d
  p7 : ∀ a b c d v, (fr a b c d).put (some 7) v = fr a v c d
  p12 : ∀ a b c d v, (fr a b c d).put (some 12) v = fr a b v d
  p14 : ∀ a b c d v, (fr a b c d).put (some 14) v = fr a b c v
  e6 : ∀ a b c d, (fr a b c d).eval (.tmp 6) = a
  e7 : ∀ a b c d, (fr a b c d).eval (.tmp 7) = b
  e12 : ∀ a b c d, (fr a b c d).eval (.tmp 12) = c
  e14 : ∀ a b c d, (fr a b c d).eval (.tmp 14) = d
  e11 : ∀ a b c d, (fr a b c d).tmps[11]?.getD undef = .agg (rowV k)
  e13 : ∀ a b c d, (fr a b c d).tmps[13]?.getD undef = .agg (rowV k)
/-- A variable of the statement's own, with what it holds. -/
def Vr (w : World) (B : Nat) (x : Value) (cs : Array Value) : Prop := ∃ g, x = .pointer (some ⟨g, 0, none⟩) ∧ Lies w g cs 38 ∧ B ≤ g
theorem Vr.below {w w' : World} {B : Nat} {x : Value} {cs : Array Value} (h : Vr w B x cs) (hb : Below w.heap.size w w') : Vr w' B x cs := by
  obtain ⟨g, e, hl, hB⟩ := h
  exact ⟨g, e, hl.below hb hl.lt, hB⟩
/-- What stands between the statement's operations. -/
structure MI (w0 : World) (B : Nat) (k : List UInt8) (b1 b3 b4 b5 : Bool) (x6 x7 x12 x14 : Value) (w : World) : Prop where
  bel : Below B w0 w
  sz : B ≤ w.heap.size
  v12 : b1 = true → x12 = .agg (rowV (laid 54 k))
  v14 : b3 = true → x14 = .agg (rowV (laid 92 k))
  v6 : b4 = true → Vr w B x6 zeroRw
  v7 : b5 = true → Vr w B x7 zeroRw
  ne : b4 = true → b5 = true → x6 ≠ x7
theorem MI.go {w0 w w' : World} {B : Nat} {k : List UInt8} {b1 b3 b4 b5 : Bool} {x6 x7 x12 x14 : Value} (h : MI w0 B k b1 b3 b4 b5 x6 x7 x12 x14 w) (hb : Below w.heap.size w w') : MI w0 B k b1 b3 b4 b5 x6 x7 x12 x14 w' :=
  ⟨h.bel.trans (hb.mono h.sz), Nat.le_trans h.sz hb.size, h.v12, h.v14, fun e => (h.v6 e).below hb, fun e => (h.v7 e).below hb, h.ne⟩
theorem vr_new (w : World) (B : Nat) (hB : B ≤ w.heap.size) : Vr (w.alloc (.cells zeroRw 38)) B (.pointer (some ⟨w.heap.size, 0, none⟩)) zeroRw := ⟨w.heap.size, rfl, Lies.new w _ _, hB⟩
theorem vr_ne {w : World} {B : Nat} {x : Value} {cs : Array Value} (h : Vr w B x cs) : x ≠ .pointer (some ⟨w.heap.size, 0, none⟩) := by
  obtain ⟨g, rfl, hl, _⟩ := h
  intro e
  injection e with e
  injection e with e
  injection e with e
  have := hl.lt
  omega

theorem at1 {fr : Value → Value → Value → Value → Act} {k : List UInt8} (F : Slots fr k) (hk : k.length = 64) {Q : Exit → Act → World → Prop} {K : Act → World → Prop} {w0 w : World} {B : Nat} {b3 b4 b5 : Bool} {x6 x7 x12 x14 : Value} (h : MI w0 B k false b3 b4 b5 x6 x7 x12 x14 w)
    (hK : ∀ y w', MI w0 B k true b3 b4 b5 x6 x7 y x14 w' → K (fr x6 x7 y x14) w') : wpOp Tryd.prog macOps Q 1 K (fr x6 x7 x12 x14) w := by
  unfold wpOp
  simp only [show macOps[1]? = some op1 from rfl, show Region.wanted op1 (yielded macOps (fr x6 x7 x12 x14).tmps) = true from rfl, if_true]
  refine .inl ?_
  have e11 := F.e11 x6 x7 x12 x14
  have hr : (execOp (fr x6 x7 x12 x14).eval op1).run Tryd.prog w = .ok (.enter 20 #[.agg (rowV k), .int .u8 54]) w := by
    unfold op1
    go_simp
  unfold Oper.wp
  rw [hr]
  simp only [Oper.upon]
  refine (laidOver_any k hk 54 w).mono ?_
  rintro e w' ⟨rfl, hb⟩
  show K ((fr x6 x7 x12 x14).put (some 12) _) w'
  rw [F.p12]
  have h2 := h.go hb
  exact hK _ w' ⟨h2.bel, h2.sz, fun _ => rfl, h2.v14, h2.v6, h2.v7, h2.ne⟩

theorem at3 {fr : Value → Value → Value → Value → Act} {k : List UInt8} (F : Slots fr k) (hk : k.length = 64) {Q : Exit → Act → World → Prop} {K : Act → World → Prop} {w0 w : World} {B : Nat} {b1 b4 b5 : Bool} {x6 x7 x12 x14 : Value} (h : MI w0 B k b1 false b4 b5 x6 x7 x12 x14 w)
    (hK : ∀ y w', MI w0 B k b1 true b4 b5 x6 x7 x12 y w' → K (fr x6 x7 x12 y) w') : wpOp Tryd.prog macOps Q 3 K (fr x6 x7 x12 x14) w := by
  unfold wpOp
  simp only [show macOps[3]? = some op3 from rfl, show Region.wanted op3 (yielded macOps (fr x6 x7 x12 x14).tmps) = true from rfl, if_true]
  refine .inl ?_
  have e13 := F.e13 x6 x7 x12 x14
  have hr : (execOp (fr x6 x7 x12 x14).eval op3).run Tryd.prog w = .ok (.enter 20 #[.agg (rowV k), .int .u8 92]) w := by
    unfold op3
    go_simp
  unfold Oper.wp
  rw [hr]
  simp only [Oper.upon]
  refine (laidOver_any k hk 92 w).mono ?_
  rintro e w' ⟨rfl, hb⟩
  show K ((fr x6 x7 x12 x14).put (some 14) _) w'
  rw [F.p14]
  have h2 := h.go hb
  exact hK _ w' ⟨h2.bel, h2.sz, h2.v12, fun _ => rfl, h2.v6, h2.v7, h2.ne⟩

theorem at4 {fr : Value → Value → Value → Value → Act} {k : List UInt8} (F : Slots fr k) {Q : Exit → Act → World → Prop} {K : Act → World → Prop} {w0 w : World} {B : Nat} {b1 b3 b5 : Bool} {x6 x7 x12 x14 : Value} (h : MI w0 B k b1 b3 false b5 x6 x7 x12 x14 w)
    (hK : ∀ y w', MI w0 B k b1 b3 true b5 y x7 x12 x14 w' → K (fr y x7 x12 x14) w') : wpOp Tryd.prog macOps Q 4 K (fr x6 x7 x12 x14) w := by
  unfold wpOp
  simp only [show macOps[4]? = some op4 from rfl, show Region.wanted op4 (yielded macOps (fr x6 x7 x12 x14).tmps) = true from rfl, if_true]
  refine .inl ?_
  have hz := zero_row
  have hr : (execOp (fr x6 x7 x12 x14).eval op4).run Tryd.prog w = .ok (.value (.pointer (some ⟨w.heap.size, 0, none⟩))) (w.alloc (.cells zeroRw 38)) := by
    unfold op4
    go_simp
  unfold Oper.wp
  rw [hr]
  simp only [Oper.upon]
  show K ((fr x6 x7 x12 x14).put (some 6) _) _
  rw [F.p6]
  have h2 := h.go ((Below.refl _ _).alloc (Nat.le_refl _) (.cells zeroRw 38))
  exact hK _ _ ⟨h2.bel, h2.sz, h2.v12, h2.v14, fun _ => vr_new w B h.sz, h2.v7, fun _ e => (vr_ne (h.v7 e)).symm⟩

theorem at5 {fr : Value → Value → Value → Value → Act} {k : List UInt8} (F : Slots fr k) {Q : Exit → Act → World → Prop} {K : Act → World → Prop} {w0 w : World} {B : Nat} {b1 b3 b4 : Bool} {x6 x7 x12 x14 : Value} (h : MI w0 B k b1 b3 b4 false x6 x7 x12 x14 w)
    (hK : ∀ y w', MI w0 B k b1 b3 b4 true x6 y x12 x14 w' → K (fr x6 y x12 x14) w') : wpOp Tryd.prog macOps Q 5 K (fr x6 x7 x12 x14) w := by
  unfold wpOp
  simp only [show macOps[5]? = some op5 from rfl, show Region.wanted op5 (yielded macOps (fr x6 x7 x12 x14).tmps) = true from rfl, if_true]
  refine .inl ?_
  have hz := zero_row
  have hr : (execOp (fr x6 x7 x12 x14).eval op5).run Tryd.prog w = .ok (.value (.pointer (some ⟨w.heap.size, 0, none⟩))) (w.alloc (.cells zeroRw 38)) := by
    unfold op5
    go_simp
  unfold Oper.wp
  rw [hr]
  simp only [Oper.upon]
  show K ((fr x6 x7 x12 x14).put (some 7) _) _
  rw [F.p7]
  have h2 := h.go ((Below.refl _ _).alloc (Nat.le_refl _) (.cells zeroRw 38))
  exact hK _ _ ⟨h2.bel, h2.sz, h2.v12, h2.v14, h2.v6, fun _ => vr_new w B h.sz, fun e _ => vr_ne (h.v6 e)⟩

/-- Which operations have come up. -/
def lst (b1 b3 b4 b5 b6 b7 : Bool) : Array Bool := #[true, b1, true, b3, b4, b5, b6, b7]

theorem wpAnyE_all {P : Program} {ops : Array Oper} {Q : Exit → Act → World → Prop} {md : Region.Mode} {S : World → Prop} {L : Nat} {rs : List Nat} {fuel : Nat} {listed : Array Bool} {a : Act} {w : World} (hr : Region.ready md ops listed = rs) (hne : rs ≠ [])
    (h : ∀ i ∈ rs, wpOp P ops Q i (fun a' w' => (i = L ∨ S w') ∧ wpAnyE P md ops Q S L fuel (listed.setIfInBounds i true) a' w') a w) : wpAnyE P md ops Q S L (fuel + 1) listed a w :=
  ⟨fun h0 => absurd (hr ▸ h0) hne, hr ▸ h⟩

/-- What is shown of the statement's end. -/
def EndsQ (fr : Value → Value → Value → Value → Act) (k : List UInt8) (Q : Exit → Act → World → Prop) (w0 : World) (B : Nat) : Prop :=
  ∀ g6 g7 x12 x14 w', g6 ≠ g7 → B ≤ g6 → B ≤ g7 → Lies w' g6 (rowV (laid 54 k)) 38 → Lies w' g7 (rowV (laid 92 k)) 38 → Below B w0 w' → Q .normal (fr (.pointer (some ⟨g6, 0, none⟩)) (.pointer (some ⟨g7, 0, none⟩)) x12 x14) w'

/-- All but the stores have come up. -/
theorem reg_stores {fr : Value → Value → Value → Value → Act} {k : List UInt8} (F : Slots fr k) (hk : k.length = 64) {Q : Exit → Act → World → Prop} {w0 : World} {B : Nat} (hQ : EndsQ fr k Q w0 B) {S : World → Prop} (hS : ∀ w', Below B w0 w' → S w')
    {x6 x7 x12 x14 : Value} {w : World} (h : MI w0 B k true true true true x6 x7 x12 x14 w) : wpAnyE Tryd.prog .any macOps Q S 7 2 (lst true true true true false false) (fr x6 x7 x12 x14) w := by
  obtain ⟨g6, rfl, hl6, hB6⟩ := h.v6 rfl
  obtain ⟨g7, rfl, hl7, hB7⟩ := h.v7 rfl
  obtain rfl := h.v12 rfl
  obtain rfl := h.v14 rfl
  have hne : g6 ≠ g7 := fun e => h.ne rfl rfl (by rw [e])
  have s54 : (laid 54 k).length = 64 := by rw [laid_length, hk]
  have s92 : (laid 92 k).length = 64 := by rw [laid_length, hk]
  refine wpAnyE_all (rs := [6]) (by kernel_rfl) (by simp) ?_
  intro i hi
  obtain rfl : i = 6 := by simpa using hi
  unfold wpOp
  simp only [show macOps[6]? = some op6 from rfl, show Region.wanted op6 (yielded macOps (fr _ _ _ _).tmps) = true from rfl, if_true]
  refine .inl (wp_store_row 38 (.tmp 6) (.tmp 12) rfl g6 (rowV (laid 54 k)) (F.e6 _ _ _ _) (F.e12 _ _ _ _) 38 zeroRw hl6 (infoRw _ s54) (by rw [rowV_size, s54]; rfl) (rowV_one _) ?_)
  refine ⟨.inr (hS _ (below_row h.bel hB6 _)), ?_⟩
  show wpAnyE _ _ _ _ _ _ 1 (lst true true true true true false) (fr _ _ _ _) _
  refine wpAnyE_all (rs := [7]) (by kernel_rfl) (by simp) ?_
  intro i hi
  obtain rfl : i = 7 := by simpa using hi
  unfold wpOp
  simp only [show macOps[7]? = some op7 from rfl, show Region.wanted op7 (yielded macOps (fr _ _ _ _).tmps) = true from rfl, if_true]
  refine .inl (wp_store_row 38 (.tmp 7) (.tmp 14) rfl g7 (rowV (laid 92 k)) (F.e7 _ _ _ _) (F.e14 _ _ _ _) 38 zeroRw (Lies.row_other hl7 (Ne.symm hne) _) (infoRw _ s92) (by rw [rowV_size, s92]; rfl) (rowV_one _) ?_)
  refine ⟨.inl trivial, ?_⟩
  show wpAnyE _ _ _ _ _ _ 0 (lst true true true true true true) (fr _ _ _ _) _
  refine wpAnyE_done (by kernel_rfl) ?_ _
  exact hQ g6 g7 _ _ _ hne hB6 hB7 (Lies.row_other (hl6.row _) hne _) ((Lies.row_other hl7 (Ne.symm hne) _).row _) (below_row (below_row h.bel hB6 _) hB7 _)
theorem reg_1111 {fr : Value → Value → Value → Value → Act} {k : List UInt8} (F : Slots fr k) (hk : k.length = 64) {Q : Exit → Act → World → Prop} {w0 : World} {B : Nat} (hQ : EndsQ fr k Q w0 B) {S : World → Prop} (hS : ∀ w', Below B w0 w' → S w') {x6 x7 x12 x14 : Value} {w : World} (h : MI w0 B k true true true true x6 x7 x12 x14 w) :
    wpAnyE Tryd.prog .any macOps Q S 7 2 (lst true true true true false false) (fr x6 x7 x12 x14) w := reg_stores F hk hQ hS h
theorem reg_1011 {fr : Value → Value → Value → Value → Act} {k : List UInt8} (F : Slots fr k) (hk : k.length = 64) {Q : Exit → Act → World → Prop} {w0 : World} {B : Nat} (hQ : EndsQ fr k Q w0 B) {S : World → Prop} (hS : ∀ w', Below B w0 w' → S w') {x6 x7 x12 x14 : Value} {w : World} (h : MI w0 B k true false true true x6 x7 x12 x14 w) :
    wpAnyE Tryd.prog .any macOps Q S 7 3 (lst true false true true false false) (fr x6 x7 x12 x14) w := by
  refine wpAnyE_all (rs := [3]) (by kernel_rfl) (by simp) ?_
  intro i hi
  have hi' : i = 3 := by simpa using hi
  subst hi'
  exact at3 F hk h (fun _ _ h' => ⟨.inr (hS _ h'.bel), reg_1111 F hk hQ hS h'⟩)
theorem reg_1101 {fr : Value → Value → Value → Value → Act} {k : List UInt8} (F : Slots fr k) (hk : k.length = 64) {Q : Exit → Act → World → Prop} {w0 : World} {B : Nat} (hQ : EndsQ fr k Q w0 B) {S : World → Prop} (hS : ∀ w', Below B w0 w' → S w') {x6 x7 x12 x14 : Value} {w : World} (h : MI w0 B k true true false true x6 x7 x12 x14 w) :
    wpAnyE Tryd.prog .any macOps Q S 7 3 (lst true true false true false false) (fr x6 x7 x12 x14) w := by
  refine wpAnyE_all (rs := [4]) (by kernel_rfl) (by simp) ?_
  intro i hi
  have hi' : i = 4 := by simpa using hi
  subst hi'
  exact at4 F h (fun _ _ h' => ⟨.inr (hS _ h'.bel), reg_1111 F hk hQ hS h'⟩)
theorem reg_1110 {fr : Value → Value → Value → Value → Act} {k : List UInt8} (F : Slots fr k) (hk : k.length = 64) {Q : Exit → Act → World → Prop} {w0 : World} {B : Nat} (hQ : EndsQ fr k Q w0 B) {S : World → Prop} (hS : ∀ w', Below B w0 w' → S w') {x6 x7 x12 x14 : Value} {w : World} (h : MI w0 B k true true true false x6 x7 x12 x14 w) :
    wpAnyE Tryd.prog .any macOps Q S 7 3 (lst true true true false false false) (fr x6 x7 x12 x14) w := by
  refine wpAnyE_all (rs := [5]) (by kernel_rfl) (by simp) ?_
  intro i hi
  have hi' : i = 5 := by simpa using hi
  subst hi'
  exact at5 F h (fun _ _ h' => ⟨.inr (hS _ h'.bel), reg_1111 F hk hQ hS h'⟩)
theorem reg_0011 {fr : Value → Value → Value → Value → Act} {k : List UInt8} (F : Slots fr k) (hk : k.length = 64) {Q : Exit → Act → World → Prop} {w0 : World} {B : Nat} (hQ : EndsQ fr k Q w0 B) {S : World → Prop} (hS : ∀ w', Below B w0 w' → S w') {x6 x7 x12 x14 : Value} {w : World} (h : MI w0 B k false false true true x6 x7 x12 x14 w) :
    wpAnyE Tryd.prog .any macOps Q S 7 4 (lst false false true true false false) (fr x6 x7 x12 x14) w := by
  refine wpAnyE_all (rs := [1]) (by kernel_rfl) (by simp) ?_
  intro i hi
  have hi' : i = 1 := by simpa using hi
  subst hi'
  exact at1 F hk h (fun _ _ h' => ⟨.inr (hS _ h'.bel), reg_1011 F hk hQ hS h'⟩)
theorem reg_1001 {fr : Value → Value → Value → Value → Act} {k : List UInt8} (F : Slots fr k) (hk : k.length = 64) {Q : Exit → Act → World → Prop} {w0 : World} {B : Nat} (hQ : EndsQ fr k Q w0 B) {S : World → Prop} (hS : ∀ w', Below B w0 w' → S w') {x6 x7 x12 x14 : Value} {w : World} (h : MI w0 B k true false false true x6 x7 x12 x14 w) :
    wpAnyE Tryd.prog .any macOps Q S 7 4 (lst true false false true false false) (fr x6 x7 x12 x14) w := by
  refine wpAnyE_all (rs := [3, 4]) (by kernel_rfl) (by simp) ?_
  intro i hi
  have hi' : i = 3 ∨ i = 4 := by simpa using hi
  rcases hi' with rfl | rfl
  · exact at3 F hk h (fun _ _ h' => ⟨.inr (hS _ h'.bel), reg_1101 F hk hQ hS h'⟩)
  · exact at4 F h (fun _ _ h' => ⟨.inr (hS _ h'.bel), reg_1011 F hk hQ hS h'⟩)
theorem reg_1010 {fr : Value → Value → Value → Value → Act} {k : List UInt8} (F : Slots fr k) (hk : k.length = 64) {Q : Exit → Act → World → Prop} {w0 : World} {B : Nat} (hQ : EndsQ fr k Q w0 B) {S : World → Prop} (hS : ∀ w', Below B w0 w' → S w') {x6 x7 x12 x14 : Value} {w : World} (h : MI w0 B k true false true false x6 x7 x12 x14 w) :
    wpAnyE Tryd.prog .any macOps Q S 7 4 (lst true false true false false false) (fr x6 x7 x12 x14) w := by
  refine wpAnyE_all (rs := [3, 5]) (by kernel_rfl) (by simp) ?_
  intro i hi
  have hi' : i = 3 ∨ i = 5 := by simpa using hi
  rcases hi' with rfl | rfl
  · exact at3 F hk h (fun _ _ h' => ⟨.inr (hS _ h'.bel), reg_1110 F hk hQ hS h'⟩)
  · exact at5 F h (fun _ _ h' => ⟨.inr (hS _ h'.bel), reg_1011 F hk hQ hS h'⟩)
theorem reg_1100 {fr : Value → Value → Value → Value → Act} {k : List UInt8} (F : Slots fr k) (hk : k.length = 64) {Q : Exit → Act → World → Prop} {w0 : World} {B : Nat} (hQ : EndsQ fr k Q w0 B) {S : World → Prop} (hS : ∀ w', Below B w0 w' → S w') {x6 x7 x12 x14 : Value} {w : World} (h : MI w0 B k true true false false x6 x7 x12 x14 w) :
    wpAnyE Tryd.prog .any macOps Q S 7 4 (lst true true false false false false) (fr x6 x7 x12 x14) w := by
  refine wpAnyE_all (rs := [4, 5]) (by kernel_rfl) (by simp) ?_
  intro i hi
  have hi' : i = 4 ∨ i = 5 := by simpa using hi
  rcases hi' with rfl | rfl
  · exact at4 F h (fun _ _ h' => ⟨.inr (hS _ h'.bel), reg_1110 F hk hQ hS h'⟩)
  · exact at5 F h (fun _ _ h' => ⟨.inr (hS _ h'.bel), reg_1101 F hk hQ hS h'⟩)
theorem reg_0001 {fr : Value → Value → Value → Value → Act} {k : List UInt8} (F : Slots fr k) (hk : k.length = 64) {Q : Exit → Act → World → Prop} {w0 : World} {B : Nat} (hQ : EndsQ fr k Q w0 B) {S : World → Prop} (hS : ∀ w', Below B w0 w' → S w') {x6 x7 x12 x14 : Value} {w : World} (h : MI w0 B k false false false true x6 x7 x12 x14 w) :
    wpAnyE Tryd.prog .any macOps Q S 7 5 (lst false false false true false false) (fr x6 x7 x12 x14) w := by
  refine wpAnyE_all (rs := [1, 4]) (by kernel_rfl) (by simp) ?_
  intro i hi
  have hi' : i = 1 ∨ i = 4 := by simpa using hi
  rcases hi' with rfl | rfl
  · exact at1 F hk h (fun _ _ h' => ⟨.inr (hS _ h'.bel), reg_1001 F hk hQ hS h'⟩)
  · exact at4 F h (fun _ _ h' => ⟨.inr (hS _ h'.bel), reg_0011 F hk hQ hS h'⟩)
theorem reg_0010 {fr : Value → Value → Value → Value → Act} {k : List UInt8} (F : Slots fr k) (hk : k.length = 64) {Q : Exit → Act → World → Prop} {w0 : World} {B : Nat} (hQ : EndsQ fr k Q w0 B) {S : World → Prop} (hS : ∀ w', Below B w0 w' → S w') {x6 x7 x12 x14 : Value} {w : World} (h : MI w0 B k false false true false x6 x7 x12 x14 w) :
    wpAnyE Tryd.prog .any macOps Q S 7 5 (lst false false true false false false) (fr x6 x7 x12 x14) w := by
  refine wpAnyE_all (rs := [1, 5]) (by kernel_rfl) (by simp) ?_
  intro i hi
  have hi' : i = 1 ∨ i = 5 := by simpa using hi
  rcases hi' with rfl | rfl
  · exact at1 F hk h (fun _ _ h' => ⟨.inr (hS _ h'.bel), reg_1010 F hk hQ hS h'⟩)
  · exact at5 F h (fun _ _ h' => ⟨.inr (hS _ h'.bel), reg_0011 F hk hQ hS h'⟩)
theorem reg_1000 {fr : Value → Value → Value → Value → Act} {k : List UInt8} (F : Slots fr k) (hk : k.length = 64) {Q : Exit → Act → World → Prop} {w0 : World} {B : Nat} (hQ : EndsQ fr k Q w0 B) {S : World → Prop} (hS : ∀ w', Below B w0 w' → S w') {x6 x7 x12 x14 : Value} {w : World} (h : MI w0 B k true false false false x6 x7 x12 x14 w) :
    wpAnyE Tryd.prog .any macOps Q S 7 5 (lst true false false false false false) (fr x6 x7 x12 x14) w := by
  refine wpAnyE_all (rs := [3, 4, 5]) (by kernel_rfl) (by simp) ?_
  intro i hi
  have hi' : i = 3 ∨ i = 4 ∨ i = 5 := by simpa using hi
  rcases hi' with rfl | rfl | rfl
  · exact at3 F hk h (fun _ _ h' => ⟨.inr (hS _ h'.bel), reg_1100 F hk hQ hS h'⟩)
  · exact at4 F h (fun _ _ h' => ⟨.inr (hS _ h'.bel), reg_1010 F hk hQ hS h'⟩)
  · exact at5 F h (fun _ _ h' => ⟨.inr (hS _ h'.bel), reg_1001 F hk hQ hS h'⟩)
theorem reg_0000 {fr : Value → Value → Value → Value → Act} {k : List UInt8} (F : Slots fr k) (hk : k.length = 64) {Q : Exit → Act → World → Prop} {w0 : World} {B : Nat} (hQ : EndsQ fr k Q w0 B) {S : World → Prop} (hS : ∀ w', Below B w0 w' → S w') {x6 x7 x12 x14 : Value} {w : World} (h : MI w0 B k false false false false x6 x7 x12 x14 w) :
    wpAnyE Tryd.prog .any macOps Q S 7 6 (lst false false false false false false) (fr x6 x7 x12 x14) w := by
  refine wpAnyE_all (rs := [1, 4, 5]) (by kernel_rfl) (by simp) ?_
  intro i hi
  have hi' : i = 1 ∨ i = 4 ∨ i = 5 := by simpa using hi
  rcases hi' with rfl | rfl | rfl
  · exact at1 F hk h (fun _ _ h' => ⟨.inr (hS _ h'.bel), reg_1000 F hk hQ hS h'⟩)
  · exact at4 F h (fun _ _ h' => ⟨.inr (hS _ h'.bel), reg_0010 F hk hQ hS h'⟩)
  · exact at5 F h (fun _ _ h' => ⟨.inr (hS _ h'.bel), reg_0001 F hk hQ hS h'⟩)
end Go.Proofs.YtlkflikhbkhpeabDoor
