/-
  The rows into which a text is cut.
-/
import Derived.Test.YtpepjiocjcjeeabDoorFp16
import Derived.Test.YtpepjiocjcjeeabDoorRx16
import Derived.Test.YtpepjiocjcjeeabDoorFc16
namespace Go.Proofs.YtpepjiocjcjeeabDoor
open Go.RowKit Go.Shelf

attribute [local go_sem] Oper.semAt_some

/-- Cells from block B on that are no bytes lie as they lay. -/
structure Kt (B : Nat) (W W' : World) : Prop where
  size : W.heap.size ≤ W'.heap.size
  same : ∀ (k : Nat) (cs : Array Value) (t : TypeId), B ≤ k → t ≠ 5 → Lies W k cs t → Lies W' k cs t
theorem Kt.refl (B : Nat) (W : World) : Kt B W W := ⟨Nat.le_refl _, fun _ _ _ _ _ h => h⟩
theorem Kt.trans {B : Nat} {X Y Z : World} (h : Kt B X Y) (k : Kt B Y Z) : Kt B X Z := ⟨Nat.le_trans h.size k.size, fun i cs t hi ht hl => k.same i cs t hi ht (h.same i cs t hi ht hl)⟩
theorem Kt.book (B : Nat) (W : World) (l : Nat) (o o' : Obj) (hl : W.heap[l]? = some o) (ho : o.isCells = false) : Kt B W (W.putObj l o') :=
  ⟨(grownBy_putObj' W l o').size, fun k cs t _ _ hk => (World.putObj_heap_other (fun e => by
    subst e
    rw [show W.heap[k]? = _ from hk] at hl
    cases hl
    cases ho)).trans hk⟩
theorem Kt.of_chg {B : Nat} {F : Nat → Prop} {W W' : World} (h : Chg F W W') (hF : ∀ k, F k → k < B ∨ ∃ cur, W.heap[k]? = some (.cells cur 5 (0, 0))) : Kt B W W' :=
  ⟨h.size, fun k cs t hk ht hl => (h.block k hl.lt (fun f => by
    rcases hF k f with h1 | ⟨cur, h1⟩
    · omega
    · exact ht (lies_kind hl h1))).trans hl⟩
/-- What the loop over the rows of the cut is handed. -/
def vsP (l : List UInt8) (a most : Nat) : List (Array Value) := (cuts l a most).map fun p => #[Value.int .i64 (p.1 : Int), Value.int .i64 (p.2 : Int)]
theorem vsP_len (l : List UInt8) (a most : Nat) : (vsP l a most).length = (cuts l a most).length := List.length_map ..
theorem vsP_at (l : List UInt8) (a most k : Nat) (h : k < (vsP l a most).length) : (vsP l a most)[k] = #[.int .i64 ((ctK l a most k).1 : Int), .int .i64 ((ctK l a most k).2 : Int)] := by
  have hk : k < (cuts l a most).length := by rw [← vsP_len]; exact h
  have h5 : (vsP l a most)[k]? = some #[.int .i64 ((ctK l a most k).1 : Int), .int .i64 ((ctK l a most k).2 : Int)] := by
    unfold vsP
    rw [List.getElem?_map, List.getElem?_eq_getElem hk, ctK_eq l a most k hk]
    rfl
  rw [List.getElem?_eq_getElem h] at h5
  exact Option.some.inj h5
theorem vsP_size (l : List UInt8) (a most : Nat) : ∀ v ∈ vsP l a most, v.size = 2 := fun v hv => by
  obtain ⟨p, _, rfl⟩ := List.mem_map.1 hv
  rfl
theorem pieces_any (s : ByteArray) (a m : Int) (w : World) : Calls Tryd.prog 33 #[.string s, .int .i64 a, .int .i64 m] w fun e w' => e = .returned (.func (.func 47) #[] #[.pointer (some ⟨w.heap.size + 2, 0, none⟩), .pointer (some ⟨w.heap.size + 1, 0, none⟩), .pointer (some ⟨w.heap.size, 0, none⟩)]) ∧
    w' = ((w.alloc (.cells #[.string s] 9)).alloc (.cells #[.int .i64 a] 3)).alloc (.cells #[.int .i64 m] 3) := by
  go_enter Tryd.func33, Tryd.ntmps33
  go_wp2
  go_ret
  exact ⟨rfl, rfl⟩
/-- One of two, one of three may come up. -/
theorem wpAnyE_2of {P : Program} {ops : Array Oper} {Q : Exit → Act → World → Prop} {md : Region.Mode} {S : World → Prop} {L : Nat} {fuel : Nat} {listed : Array Bool} {a : Act} {w : World} (i j : Nat) {o p : Oper} (hr : Region.ready md ops listed = [i, j]) (hi : ops[i]? = some o) (hj : ops[j]? = some p)
    (hw : Region.wanted o (yielded ops a.tmps) = true) (hv : Region.wanted p (yielded ops a.tmps) = true)
    (h : o.wp P a w (fun a' w' => (i = L ∨ S w') ∧ wpAnyE P md ops Q S L fuel (listed.setIfInBounds i true) a' w') Q)
    (k : p.wp P a w (fun a' w' => (j = L ∨ S w') ∧ wpAnyE P md ops Q S L fuel (listed.setIfInBounds j true) a' w') Q) : wpAnyE P md ops Q S L (fuel + 1) listed a w :=
  ⟨fun h0 => (by rw [h0] at hr; cases hr), fun x hx => by
    rw [hr] at hx
    simp only [List.mem_cons, List.not_mem_nil, or_false] at hx
    rcases hx with rfl | rfl
    · unfold wpOp
      simp only [hi, hw, if_true]
      exact .inl h
    · unfold wpOp
      simp only [hj, hv, if_true]
      exact .inl k⟩
theorem wpAnyE_3of {P : Program} {ops : Array Oper} {Q : Exit → Act → World → Prop} {md : Region.Mode} {S : World → Prop} {L : Nat} {fuel : Nat} {listed : Array Bool} {a : Act} {w : World} (i j l : Nat) {o p q : Oper} (hr : Region.ready md ops listed = [i, j, l]) (hi : ops[i]? = some o) (hj : ops[j]? = some p) (hl : ops[l]? = some q)
    (hw : Region.wanted o (yielded ops a.tmps) = true) (hv : Region.wanted p (yielded ops a.tmps) = true) (hu : Region.wanted q (yielded ops a.tmps) = true)
    (h : o.wp P a w (fun a' w' => (i = L ∨ S w') ∧ wpAnyE P md ops Q S L fuel (listed.setIfInBounds i true) a' w') Q)
    (k : p.wp P a w (fun a' w' => (j = L ∨ S w') ∧ wpAnyE P md ops Q S L fuel (listed.setIfInBounds j true) a' w') Q)
    (m : q.wp P a w (fun a' w' => (l = L ∨ S w') ∧ wpAnyE P md ops Q S L fuel (listed.setIfInBounds l true) a' w') Q) : wpAnyE P md ops Q S L (fuel + 1) listed a w :=
  ⟨fun h0 => (by rw [h0] at hr; cases hr), fun x hx => by
    rw [hr] at hx
    simp only [List.mem_cons, List.not_mem_nil, or_false] at hx
    rcases hx with rfl | rfl | rfl
    · unfold wpOp
      simp only [hi, hw, if_true]
      exact .inl h
    · unfold wpOp
      simp only [hj, hv, if_true]
      exact .inl k
    · unfold wpOp
      simp only [hl, hu, if_true]
      exact .inl m⟩
/-- A statement by itself. -/
theorem region_join16 {P : Program} {id : Nat} {ops : Array Oper} {b : Bool} {Q : Exit → Act → World → Prop} {a : Act} {w : World} (S : Act → World → Prop) (h1 : (Code.region id ops b).wp P (OnlyN S) a w)
    (h2 : ∀ a' w', S a' w' → Q .normal a' w') : (Code.region id ops b).wp P Q a w :=
  Code.wp_mono (fun e a' w' h => by cases e <;> first | exact h2 a' w' h | exact (h : False).elim) h1
/-- Three variables, just made. -/
structure Ins (V : World) (x y z : Nat) (p q r : Int) (W : World) : Prop where
  bel : Below V.heap.size V W
  xl : Lies W x #[.int .i64 p] 3
  yl : Lies W y #[.int .i64 q] 3
  zl : Lies W z #[.int .i64 r] 3
  xy : x ≠ y
  xz : x ≠ z
  yz : y ≠ z
  xb : V.heap.size ≤ x
  yb : V.heap.size ≤ y
  zb : V.heap.size ≤ z
theorem Ins.mk1 (V : World) (x y z : Nat) (p q r a b c : Int) (hx : (x = V.heap.size ∧ p = a) ∨ (x = V.heap.size + 1 ∧ p = b) ∨ (x = V.heap.size + 1 + 1 ∧ p = c)) (hy : (y = V.heap.size ∧ q = a) ∨ (y = V.heap.size + 1 ∧ q = b) ∨ (y = V.heap.size + 1 + 1 ∧ q = c))
    (hz : (z = V.heap.size ∧ r = a) ∨ (z = V.heap.size + 1 ∧ r = b) ∨ (z = V.heap.size + 1 + 1 ∧ r = c)) (h : x ≠ y ∧ x ≠ z ∧ y ≠ z) :
    Ins V x y z p q r (((V.alloc (.cells #[.int .i64 a] 3)).alloc (.cells #[.int .i64 b] 3)).alloc (.cells #[.int .i64 c] 3)).drew := by
  have key : ∀ (k : Nat) (u : Int), ((k = V.heap.size ∧ u = a) ∨ (k = V.heap.size + 1 ∧ u = b) ∨ (k = V.heap.size + 1 + 1 ∧ u = c)) → V.heap.size ≤ k ∧ Lies (((V.alloc (.cells #[.int .i64 a] 3)).alloc (.cells #[.int .i64 b] 3)).alloc (.cells #[.int .i64 c] 3)).drew k #[.int .i64 u] 3 := fun k u hk => by
    rcases hk with ⟨rfl, rfl⟩ | ⟨rfl, rfl⟩ | ⟨rfl, rfl⟩
    · exact ⟨Nat.le_refl _, (((Lies.new V _ _).alloc _).alloc _).drew⟩
    · exact ⟨by omega, ((new_one V _ _ _).alloc _).drew⟩
    · exact ⟨by omega, (new_two V _ _ _ _).drew⟩
  exact ⟨((((Below.refl _ V).alloc (Nat.le_refl _) _).alloc (by simp) _).alloc (by simp; omega) _).drew, (key x p hx).2, (key y q hy).2, (key z r hz).2, h.1, h.2.1, h.2.2, (key x p hx).1, (key y q hy).1, (key z r hz).1⟩
/-- What pieces has in memory while it goes through the stops. -/
structure Pz (W : World) (b x y z gm gs g2 lp : Nat) (s : ByteArray) (most f la a : Nat) (W' : World) : Prop where
  sz : W.heap.size ≤ W'.heap.size
  yd : Lies W' b #[.func (.yield lp) #[] #[]] 65
  xl : Lies W' x #[.int .i64 (f : Int)] 3
  yl : Lies W' y #[.int .i64 (la : Int)] 3
  zl : Lies W' z #[.int .i64 ((most : Int) - (a : Int))] 3
  ml : Lies W' gm #[.int .i64 (most : Int)] 3
  sl : Lies W' gs #[.string s] 9
  tl : Lies W' g2 #[.string s] 9
theorem Pz.drew {W : World} {b x y z gm gs g2 lp : Nat} {s : ByteArray} {most f la a : Nat} {W1 : World} (h : Pz W b x y z gm gs g2 lp s most f la a W1) : Pz W b x y z gm gs g2 lp s most f la a W1.drew :=
  ⟨h.sz, h.yd.drew, h.xl.drew, h.yl.drew, h.zl.drew, h.ml.drew, h.sl.drew, h.tl.drew⟩
theorem Pz.turn {W : World} {b x y z gm gs g2 lp : Nat} {s : ByteArray} {most f la a : Nat} {W1 W2 : World} (h : Pz W b x y z gm gs g2 lp s most f la a W1) {row : Option Nat} (hg : W1.grownBy W2 row) (hr : ∀ r, row = some r → ∃ o : Obj, W1.heap[r]? = some o ∧ o.isCells = false) : Pz W b x y z gm gs g2 lp s most f la a W2 :=
  ⟨Nat.le_trans h.sz hg.size, lies_turn h.yd hg hr, lies_turn h.xl hg hr, lies_turn h.yl hg hr, lies_turn h.zl hg hr, lies_turn h.ml hg hr, lies_turn h.sl hg hr, lies_turn h.tl hg hr⟩
/-- Where they lie. -/
structure Pp (W : World) (b x y z gm gs g2 : Nat) : Prop where
  wx : W.heap.size ≤ x
  wy : W.heap.size ≤ y
  wz : W.heap.size ≤ z
  hb : gs ≤ b
  hx : gs ≤ x
  hy : gs ≤ y
  hz : gs ≤ z
  hm : gs ≤ gm
  h2 : gs ≤ g2
  n1 : b ≠ x ∧ b ≠ y ∧ b ≠ z
  n2 : x ≠ y ∧ x ≠ z ∧ y ≠ z
  n3 : gm ≠ x ∧ gm ≠ y ∧ gm ≠ z
  n4 : gs ≠ x ∧ gs ≠ y ∧ gs ≠ z
  n5 : g2 ≠ x ∧ g2 ≠ y ∧ g2 ≠ z
theorem Pz.kt {W : World} {b x y z gm gs g2 lp : Nat} {s : ByteArray} {most f la a : Nat} {W1 W2 : World} (h : Pz W b x y z gm gs g2 lp s most f la a W1) (p : Pp W b x y z gm gs g2) (k : Kt gs W1 W2) : Pz W b x y z gm gs g2 lp s most f la a W2 :=
  ⟨Nat.le_trans h.sz k.size, k.same _ _ _ p.hb (by decide) h.yd, k.same _ _ _ p.hx (by decide) h.xl, k.same _ _ _ p.hy (by decide) h.yl, k.same _ _ _ p.hz (by decide) h.zl, k.same _ _ _ p.hm (by decide) h.ml, k.same _ _ _ (Nat.le_refl _) (by decide) h.sl, k.same _ _ _ p.h2 (by decide) h.tl⟩
theorem size_set (W : World) (a : Addr) (v : Value) : (W.setCell a v).heap.size = W.heap.size := by
  show (W.heap.modify _ _).size = _
  rw [Array.size_modify]
theorem Pz.setX {W : World} {b x y z gm gs g2 lp : Nat} {s : ByteArray} {most f la a : Nat} {W1 : World} (h : Pz W b x y z gm gs g2 lp s most f la a W1) (p : Pp W b x y z gm gs g2) (n : Nat) : Pz W b x y z gm gs g2 lp s most n la a (W1.setCell ⟨x, 0, none⟩ (.int .i64 (n : Int))) :=
  ⟨by rw [size_set]; exact h.sz, h.yd.set_other (a := ⟨x, 0, none⟩) p.n1.1 _, h.xl.set 0 _, h.yl.set_other (a := ⟨x, 0, none⟩) (fun e => p.n2.1 e.symm) _, h.zl.set_other (a := ⟨x, 0, none⟩) (fun e => p.n2.2.1 e.symm) _, h.ml.set_other (a := ⟨x, 0, none⟩) p.n3.1 _, h.sl.set_other (a := ⟨x, 0, none⟩) p.n4.1 _, h.tl.set_other (a := ⟨x, 0, none⟩) p.n5.1 _⟩
theorem Pz.setY {W : World} {b x y z gm gs g2 lp : Nat} {s : ByteArray} {most f la a : Nat} {W1 : World} (h : Pz W b x y z gm gs g2 lp s most f la a W1) (p : Pp W b x y z gm gs g2) (n : Nat) : Pz W b x y z gm gs g2 lp s most f n a (W1.setCell ⟨y, 0, none⟩ (.int .i64 (n : Int))) :=
  ⟨by rw [size_set]; exact h.sz, h.yd.set_other (a := ⟨y, 0, none⟩) p.n1.2.1 _, h.xl.set_other (a := ⟨y, 0, none⟩) p.n2.1 _, h.yl.set 0 _, h.zl.set_other (a := ⟨y, 0, none⟩) (fun e => p.n2.2.2 e.symm) _, h.ml.set_other (a := ⟨y, 0, none⟩) p.n3.2.1 _, h.sl.set_other (a := ⟨y, 0, none⟩) p.n4.2.1 _, h.tl.set_other (a := ⟨y, 0, none⟩) p.n5.2.1 _⟩
theorem Pz.setZ {W : World} {b x y z gm gs g2 lp : Nat} {s : ByteArray} {most f la a : Nat} {W1 : World} (h : Pz W b x y z gm gs g2 lp s most f la a W1) (p : Pp W b x y z gm gs g2) : Pz W b x y z gm gs g2 lp s most f la 0 (W1.setCell ⟨z, 0, none⟩ (.int .i64 (most : Int))) :=
  ⟨by rw [size_set]; exact h.sz, h.yd.set_other (a := ⟨z, 0, none⟩) p.n1.2.2 _, h.xl.set_other (a := ⟨z, 0, none⟩) p.n2.2.1 _, h.yl.set_other (a := ⟨z, 0, none⟩) p.n2.2.2 _, by have := h.zl.set 0 (.int .i64 (most : Int)); simpa using this, h.ml.set_other (a := ⟨z, 0, none⟩) p.n3.2.2 _, h.sl.set_other (a := ⟨z, 0, none⟩) p.n4.2.2 _, h.tl.set_other (a := ⟨z, 0, none⟩) p.n5.2.2 _⟩
theorem kg_lies {W W' : World} {g t : Nat} {cs : Array Value} (hs : W.heap.size ≤ W'.heap.size) (h : Lies W g cs t) (h' : Lies W' g cs t) : Kg (· = g) W W' := ⟨hs, fun k o e hk _ => by
  subst e
  rw [show W.heap[k]? = _ from h] at hk
  cases hk
  exact h'⟩
theorem kf_mono {A B : Nat} {W W' : World} (h : KeepsFrom A W W') (hAB : A ≤ B) : KeepsFrom B W W' := ⟨h.size, fun i o hi ho hc => h.same i o (by omega) ho hc⟩
theorem kf_set (B : Nat) (W : World) (a : Addr) (v : Value) : KeepsFrom B W (W.setCell a v) := (KeepsOthers.setCell W a v).from B
set_option maxRecDepth 100000 in
set_option maxHeartbeats 4000000 in
theorem pieces_in (s : ByteArray) (hs : s.size ≤ 140737488355328) (ah most : Nat) (hah : ah ≤ 281474976710656) (hmost : most ≤ 998) (lp gm ga gs n : Nat) (J Jx : Nat → World → Prop) (W : World) (hJ : ∀ k, OwnV W.heap.size (J k)) (hJx : ∀ k, OwnV W.heap.size (Jx k))
    (hY : ∀ (k : Nat) (hk : k < (vsP s.data.toList ah most).length) (W1 : World), J k W1 → YieldAt Fence.wide (n - 1) Tryd.prog lp (vsP s.data.toList ah most)[k] W1 fun e W' =>
      (e = .returned (.bool true) ∧ J (k + 1) W' ∧ Kt gs W1 W' ∧ KeepsFrom W.heap.size W1 W') ∨ (e = .returned (.bool false) ∧ Jx (k + 1) W' ∧ KeepsFrom W.heap.size W1 W'))
    (hm : Lies W gm #[.int .i64 (most : Int)] 3) (ha : Lies W ga #[.int .i64 (ah : Int)] 3) (hb : Lies W gs #[.string s] 9) (hgm : gs ≤ gm) (h0 : J 0 W) :
    Calls Tryd.prog 47 #[.func (.yield lp) #[] #[], .pointer (some ⟨gm, 0, none⟩), .pointer (some ⟨ga, 0, none⟩), .pointer (some ⟨gs, 0, none⟩)] W fun e W' => (∃ v, e = .returned v) ∧ (J (vsP s.data.toList ah most).length W' ∨ ∃ k, k ≤ (vsP s.data.toList ah most).length ∧ Jx k W') := by
  have hsI : (s.size : Int) ≤ 140737488355328 := by omega
  have hahI : (ah : Int) ≤ 281474976710656 := by omega
  have hmoI : (most : Int) ≤ 998 := by omega
  have HJV : Hid (∀ k, OwnV W.heap.size (J k)) := hJ
  have HJ : Hid (∀ k, OwnFrom W.heap.size (fun (_ : Unit) W' => J k W')) := fun k => (hJ k).own
  have HJX : Hid (∀ k, OwnFrom W.heap.size (fun (_ : Unit) W' => Jx k W')) := fun k => (hJx k).own
  have HY : Hid (∀ (l k : Nat) (hk : k < (vsP s.data.toList ah most).length) (W1 : World), J k W1 → YieldAt Fence.wide l Tryd.prog lp (vsP s.data.toList ah most)[k] W1 fun e W' =>
      (e = .returned (.bool true) ∧ J (k + 1) W' ∧ Kt gs W1 W' ∧ KeepsFrom W.heap.size W1 W') ∨ (e = .returned (.bool false) ∧ Jx (k + 1) W' ∧ KeepsFrom W.heap.size W1 W')) := fun l k hk W1 h => yield_any (hY k hk W1 h)
  have HST : Hid (∀ wx, Calls Tryd.prog 48 #[.string s] wx fun e w' => e = .returned (.func (.func 55) #[] #[.pointer (some ⟨wx.heap.size, 0, none⟩)]) ∧ w' = wx.alloc (.cells #[.string s] 9)) := fun wx => stops_any s wx
  have c0 := hm.cell 0
  have c1 := ha.cell 0
  have c2 := hb.cell 0
  simp only [List.getElem?_toArray, List.getElem?_cons_zero] at c0 c1 c2
  have e1 : IntKind.i64.wrap ((most : Int) - (ah : Int)) = (most : Int) - (ah : Int) := by rw [IntKind.wrap_i64]; omega
  have HM : Hid (Lies W gm #[.int .i64 (most : Int)] 3) := hm
  have HB : Hid (Lies W gs #[.string s] 9) := hb
  have H0 : Hid (J 0 W) := h0
  have HA0 : Hid (Lies W ga #[.int .i64 (ah : Int)] 3) := ha
  clear hJ hJx hY hm ha hb h0
  refine (callsIn_wide (n := 9)).1 ?_
  refine callsIn_of_wp_marks Tryd.func47 rfl trivial ?_ rfl
  simp only [Tryd.ntmps47, List.size_toArray, List.length_cons, List.length_nil, Nat.reduceAdd, Nat.reduceSub, Array.replicate_succ, Array.replicate_zero, List.push_toArray, List.append_toArray, List.nil_append, List.cons_append]
  refine wpIn_wide.2 ?_
  go_wp2_with fail
  obtain ⟨V, hV⟩ : ∃ V, V = W.alloc (.cells #[.func (.yield lp) #[] #[]] 65) := ⟨_, rfl⟩
  rw [← hV]
  have HA : Hid (Lies W ga #[.int .i64 (ah : Int)] 3) := HA0
  have c3 : V.cell? ⟨gm, 0, none⟩ = some (.int .i64 (most : Int)) := by rw [hV]; exact (HM.out.alloc _).cell 0
  have c4 : V.cell? ⟨ga, 0, none⟩ = some (.int .i64 (ah : Int)) := by rw [hV]; exact (HA.out.alloc _).cell 0
  have hgm0 : gm < V.heap.size := by rw [hV]; have := HM.out.lt; simp; omega
  have hga0 : ga < V.heap.size := by rw [hV]; have := HA.out.lt; simp; omega
  have HWV : Hid (Below W.heap.size W V ∧ V.heap.size = W.heap.size + 1 ∧ Lies V W.heap.size #[.func (.yield lp) #[] #[]] 65) := by
    rw [hV]
    exact ⟨(Below.refl _ _).alloc (Nat.le_refl _) _, by simp, Lies.new _ _ _⟩
  clear c0 c1 c2 hV
  refine region_join16 (fun a' w' => ∃ x y z : Nat, a' = { tmps := #[.func (.yield lp) #[] #[], .pointer (some ⟨gm, 0, none⟩), .pointer (some ⟨ga, 0, none⟩), .pointer (some ⟨gs, 0, none⟩), .pointer (some ⟨W.heap.size, 0, none⟩), .pointer (some ⟨x, 0, none⟩), .pointer (some ⟨y, 0, none⟩), .pointer (some ⟨z, 0, none⟩), undef, .int .i64 (most : Int), .int .i64 (ah : Int), .int .i64 ((most : Int) - (ah : Int)),
    undef, undef, undef, undef, undef, undef, undef, undef, undef, undef, undef, undef, undef, undef, undef, undef, undef, undef, undef, undef, undef, undef, undef, undef, undef], defers := [] } ∧ Ins V x y z 0 0 ((most : Int) - (ah : Int)) w') ?reg ?_
  case reg =>
    refine wp_onlyN ?_
    refine wp_region_late (fun wx => Below V.heap.size V wx) 8 (by kernel_rfl) (Below.refl _ _).drew (fun hHeld => ?_)
    refine wpAnyE_take (i := 0) (d := some 9) (v := .int .i64 (most : Int)) rfl (by kernel_rfl) (by kernel_rfl) (by kernel_rfl) (by kernel_rfl) (fun _ _ _ h => h) rfl rfl ?hy (by first | assumption | exact hHeld) ?_
    case hy => (intro w' hSw; have q1 := (hSw.cell (p := ⟨gm, 0, none⟩) hgm0).trans c3; have q2 := (hSw.cell (p := ⟨ga, 0, none⟩) hga0).trans c4; go_simp <;> (first | with_reducible rfl | omega | skip))
    simp only [Act.put, List.setIfInBounds_toArray, List.set_cons_zero, List.set_cons_succ]
    refine wpAnyE_take (i := 1) (d := some 10) (v := .int .i64 (ah : Int)) rfl (by kernel_rfl) (by kernel_rfl) (by kernel_rfl) (by kernel_rfl) (fun _ _ _ h => h) rfl rfl ?hy (by first | assumption | exact hHeld) ?_
    case hy => (intro w' hSw; have q1 := (hSw.cell (p := ⟨gm, 0, none⟩) hgm0).trans c3; have q2 := (hSw.cell (p := ⟨ga, 0, none⟩) hga0).trans c4; go_simp <;> (first | with_reducible rfl | omega | skip))
    simp only [Act.put, List.setIfInBounds_toArray, List.set_cons_zero, List.set_cons_succ]
    refine wpAnyE_take (i := 2) (d := some 11) (v := .int .i64 ((most : Int) - (ah : Int))) rfl (by kernel_rfl) (by kernel_rfl) (by kernel_rfl) (by kernel_rfl) (fun _ _ _ h => h) rfl rfl ?hy (by first | assumption | exact hHeld) ?_
    case hy => (intro w' hSw; have q1 := (hSw.cell (p := ⟨gm, 0, none⟩) hgm0).trans c3; have q2 := (hSw.cell (p := ⟨ga, 0, none⟩) hga0).trans c4; go_simp <;> (first | with_reducible rfl | omega | skip))
    simp only [Act.put, List.setIfInBounds_toArray, List.set_cons_zero, List.set_cons_succ]
    refine wpAnyE_3of 3 4 5 (by kernel_rfl) rfl rfl rfl rfl rfl rfl ?_ ?_ ?_
    · go_simp
      refine ⟨((Below.refl _ V).alloc (Nat.le_refl _) _).drew, ?_⟩
      refine wpAnyE_2of 4 5 (by kernel_rfl) rfl rfl rfl rfl ?_ ?_
      · go_simp
        refine ⟨(((Below.refl _ V).alloc (Nat.le_refl _) _).alloc (by simp) _).drew, ?_⟩
        refine wpAnyE_one (i := 5) (by kernel_rfl) rfl rfl ?_
        go_simp
        refine ⟨((((Below.refl _ V).alloc (Nat.le_refl _) _).alloc (by simp) _).alloc (by simp; omega) _).drew, ?_⟩
        refine wpAnyE_one (i := 6) (by kernel_rfl) rfl rfl ?_
        go_simp
        refine ⟨((((Below.refl _ V).alloc (Nat.le_refl _) _).alloc (by simp) _).alloc (by simp; omega) _).drew, ?_⟩
        refine wpAnyE_one (i := 7) (by kernel_rfl) rfl rfl ?_
        go_simp
        refine ⟨((((Below.refl _ V).alloc (Nat.le_refl _) _).alloc (by simp) _).alloc (by simp; omega) _).drew, ?_⟩
        refine wpAnyE_one (i := 8) (by kernel_rfl) rfl rfl ?_
        go_simp
        refine wpAnyE_done (by kernel_rfl) ?_ _
        exact ⟨V.heap.size, V.heap.size + 1, V.heap.size + 1 + 1, rfl, Ins.mk1 V _ _ _ _ _ _ _ _ _ (.inl ⟨rfl, rfl⟩) (.inr (.inl ⟨rfl, rfl⟩)) (.inr (.inr ⟨rfl, rfl⟩)) (by omega)⟩
      · go_simp
        refine ⟨(((Below.refl _ V).alloc (Nat.le_refl _) _).alloc (by simp) _).drew, ?_⟩
        refine wpAnyE_one (i := 4) (by kernel_rfl) rfl rfl ?_
        go_simp
        refine ⟨((((Below.refl _ V).alloc (Nat.le_refl _) _).alloc (by simp) _).alloc (by simp; omega) _).drew, ?_⟩
        refine wpAnyE_one (i := 6) (by kernel_rfl) rfl rfl ?_
        go_simp
        refine ⟨((((Below.refl _ V).alloc (Nat.le_refl _) _).alloc (by simp) _).alloc (by simp; omega) _).drew, ?_⟩
        refine wpAnyE_one (i := 7) (by kernel_rfl) rfl rfl ?_
        go_simp
        refine ⟨((((Below.refl _ V).alloc (Nat.le_refl _) _).alloc (by simp) _).alloc (by simp; omega) _).drew, ?_⟩
        refine wpAnyE_one (i := 8) (by kernel_rfl) rfl rfl ?_
        go_simp
        refine wpAnyE_done (by kernel_rfl) ?_ _
        exact ⟨V.heap.size, V.heap.size + 1 + 1, V.heap.size + 1, rfl, Ins.mk1 V _ _ _ _ _ _ _ _ _ (.inl ⟨rfl, rfl⟩) (.inr (.inr ⟨rfl, rfl⟩)) (.inr (.inl ⟨rfl, rfl⟩)) (by omega)⟩
    · go_simp
      refine ⟨((Below.refl _ V).alloc (Nat.le_refl _) _).drew, ?_⟩
      refine wpAnyE_2of 3 5 (by kernel_rfl) rfl rfl rfl rfl ?_ ?_
      · go_simp
        refine ⟨(((Below.refl _ V).alloc (Nat.le_refl _) _).alloc (by simp) _).drew, ?_⟩
        refine wpAnyE_one (i := 5) (by kernel_rfl) rfl rfl ?_
        go_simp
        refine ⟨((((Below.refl _ V).alloc (Nat.le_refl _) _).alloc (by simp) _).alloc (by simp; omega) _).drew, ?_⟩
        refine wpAnyE_one (i := 6) (by kernel_rfl) rfl rfl ?_
        go_simp
        refine ⟨((((Below.refl _ V).alloc (Nat.le_refl _) _).alloc (by simp) _).alloc (by simp; omega) _).drew, ?_⟩
        refine wpAnyE_one (i := 7) (by kernel_rfl) rfl rfl ?_
        go_simp
        refine ⟨((((Below.refl _ V).alloc (Nat.le_refl _) _).alloc (by simp) _).alloc (by simp; omega) _).drew, ?_⟩
        refine wpAnyE_one (i := 8) (by kernel_rfl) rfl rfl ?_
        go_simp
        refine wpAnyE_done (by kernel_rfl) ?_ _
        exact ⟨V.heap.size + 1, V.heap.size, V.heap.size + 1 + 1, rfl, Ins.mk1 V _ _ _ _ _ _ _ _ _ (.inr (.inl ⟨rfl, rfl⟩)) (.inl ⟨rfl, rfl⟩) (.inr (.inr ⟨rfl, rfl⟩)) (by omega)⟩
      · go_simp
        refine ⟨(((Below.refl _ V).alloc (Nat.le_refl _) _).alloc (by simp) _).drew, ?_⟩
        refine wpAnyE_one (i := 3) (by kernel_rfl) rfl rfl ?_
        go_simp
        refine ⟨((((Below.refl _ V).alloc (Nat.le_refl _) _).alloc (by simp) _).alloc (by simp; omega) _).drew, ?_⟩
        refine wpAnyE_one (i := 6) (by kernel_rfl) rfl rfl ?_
        go_simp
        refine ⟨((((Below.refl _ V).alloc (Nat.le_refl _) _).alloc (by simp) _).alloc (by simp; omega) _).drew, ?_⟩
        refine wpAnyE_one (i := 7) (by kernel_rfl) rfl rfl ?_
        go_simp
        refine ⟨((((Below.refl _ V).alloc (Nat.le_refl _) _).alloc (by simp) _).alloc (by simp; omega) _).drew, ?_⟩
        refine wpAnyE_one (i := 8) (by kernel_rfl) rfl rfl ?_
        go_simp
        refine wpAnyE_done (by kernel_rfl) ?_ _
        exact ⟨V.heap.size + 1 + 1, V.heap.size, V.heap.size + 1, rfl, Ins.mk1 V _ _ _ _ _ _ _ _ _ (.inr (.inr ⟨rfl, rfl⟩)) (.inl ⟨rfl, rfl⟩) (.inr (.inl ⟨rfl, rfl⟩)) (by omega)⟩
    · go_simp
      refine ⟨((Below.refl _ V).alloc (Nat.le_refl _) _).drew, ?_⟩
      refine wpAnyE_2of 3 4 (by kernel_rfl) rfl rfl rfl rfl ?_ ?_
      · go_simp
        refine ⟨(((Below.refl _ V).alloc (Nat.le_refl _) _).alloc (by simp) _).drew, ?_⟩
        refine wpAnyE_one (i := 4) (by kernel_rfl) rfl rfl ?_
        go_simp
        refine ⟨((((Below.refl _ V).alloc (Nat.le_refl _) _).alloc (by simp) _).alloc (by simp; omega) _).drew, ?_⟩
        refine wpAnyE_one (i := 6) (by kernel_rfl) rfl rfl ?_
        go_simp
        refine ⟨((((Below.refl _ V).alloc (Nat.le_refl _) _).alloc (by simp) _).alloc (by simp; omega) _).drew, ?_⟩
        refine wpAnyE_one (i := 7) (by kernel_rfl) rfl rfl ?_
        go_simp
        refine ⟨((((Below.refl _ V).alloc (Nat.le_refl _) _).alloc (by simp) _).alloc (by simp; omega) _).drew, ?_⟩
        refine wpAnyE_one (i := 8) (by kernel_rfl) rfl rfl ?_
        go_simp
        refine wpAnyE_done (by kernel_rfl) ?_ _
        exact ⟨V.heap.size + 1, V.heap.size + 1 + 1, V.heap.size, rfl, Ins.mk1 V _ _ _ _ _ _ _ _ _ (.inr (.inl ⟨rfl, rfl⟩)) (.inr (.inr ⟨rfl, rfl⟩)) (.inl ⟨rfl, rfl⟩) (by omega)⟩
      · go_simp
        refine ⟨(((Below.refl _ V).alloc (Nat.le_refl _) _).alloc (by simp) _).drew, ?_⟩
        refine wpAnyE_one (i := 3) (by kernel_rfl) rfl rfl ?_
        go_simp
        refine ⟨((((Below.refl _ V).alloc (Nat.le_refl _) _).alloc (by simp) _).alloc (by simp; omega) _).drew, ?_⟩
        refine wpAnyE_one (i := 6) (by kernel_rfl) rfl rfl ?_
        go_simp
        refine ⟨((((Below.refl _ V).alloc (Nat.le_refl _) _).alloc (by simp) _).alloc (by simp; omega) _).drew, ?_⟩
        refine wpAnyE_one (i := 7) (by kernel_rfl) rfl rfl ?_
        go_simp
        refine ⟨((((Below.refl _ V).alloc (Nat.le_refl _) _).alloc (by simp) _).alloc (by simp; omega) _).drew, ?_⟩
        refine wpAnyE_one (i := 8) (by kernel_rfl) rfl rfl ?_
        go_simp
        refine wpAnyE_done (by kernel_rfl) ?_ _
        exact ⟨V.heap.size + 1 + 1, V.heap.size + 1, V.heap.size, rfl, Ins.mk1 V _ _ _ _ _ _ _ _ _ (.inr (.inr ⟨rfl, rfl⟩)) (.inr (.inl ⟨rfl, rfl⟩)) (.inl ⟨rfl, rfl⟩) (by omega)⟩
  -- behind the three variables
  rintro a' w1 ⟨x, y, z, rfl, hI⟩
  have HI : Hid (Ins V x y z 0 0 ((most : Int) - (ah : Int)) w1) := hI
  have HW1 : Hid (Below W.heap.size W w1) := HWV.out.1.trans (hI.bel.mono (by have := HWV.out.2.1; omega))
  have d0 := (HB.out.below HW1.out HB.out.lt).cell 0
  simp only [List.getElem?_toArray, List.getElem?_cons_zero] at d0
  clear hI c3 c4
  go_wp2_with fail
  refine (HST.out _).mono ?_
  rintro e w2 ⟨rfl, hw2⟩
  go_wp2_with fail
  obtain ⟨g2, hg2⟩ : ∃ g2, g2 = w1.heap.size := ⟨_, rfl⟩
  have hVw : V.heap.size ≤ w1.heap.size := HI.out.bel.size
  have HPP : Hid (Pp W W.heap.size x y z gm gs g2) := by
    have h1 := HM.out.lt
    have h2 := HB.out.lt
    have h3 := HWV.out.2.1
    have h4 := HI.out.xl.lt
    have h5 := HI.out.yl.lt
    have h6 := HI.out.zl.lt
    have h7 := HI.out.xb
    have h8 := HI.out.yb
    have h9 := HI.out.zb
    exact ⟨by omega, by omega, by omega, by omega, by omega, by omega, by omega, hgm, by omega, ⟨by omega, by omega, by omega⟩, ⟨HI.out.xy, HI.out.xz, HI.out.yz⟩, ⟨by omega, by omega, by omega⟩, ⟨by omega, by omega, by omega⟩, ⟨by omega, by omega, by omega⟩⟩
  have hbw2 : Below W.heap.size W w2 := by
    rw [hw2]
    exact HW1.out.alloc (by have := HW1.out.size; omega) _
  have HP0 : Hid (Pz W W.heap.size x y z gm gs g2 lp s most 0 0 ah w2) := by
    have hb1 := HB.out.below HW1.out HB.out.lt
    have hm1 := HM.out.below HW1.out HM.out.lt
    have hy1 := HWV.out.2.2.below HI.out.bel HWV.out.2.2.lt
    rw [hw2, hg2]
    exact ⟨by have := HW1.out.size; simp; omega, hy1.alloc _, HI.out.xl.alloc _, HI.out.yl.alloc _, HI.out.zl.alloc _, hm1.alloc _, hb1.alloc _, Lies.new _ _ _⟩
  have HJ0 : Hid (J 0 w2) := HJ.out 0 () W w2 none H0.out (grown_of_below hbw2) (fun r e => by cases e)
  have hWw : W.heap.size ≤ w2.heap.size := hbw2.size
  rw [← hw2, ← hg2]
  clear hw2 hg2 hbw2 hVw HI HW1 HWV d0 hgm0 hga0 HM HB HA HA0 H0 HST e1 hgm
  have hps : ∀ v ∈ vsS s.data.toList, v.size = 1 := fun v hv => by
    obtain ⟨p, _, rfl⟩ := List.mem_map.1 hv
    rfl
  refine (wpIn_wide (n := 9)).1 ?_
  refine' rv_out (by decide) (gf := 55) (lb := #[.pointer (some ⟨g2, 0, none⟩)]) rfl (Go.Proofs.enters_of Tryd.func55 (by kernel_rfl) rfl) (stops_seq s hs g2 8 (by decide) w2 HP0.out.tl) hps Kg.trans (fun W l o o' _ h1 h2 => Kg.book _ W l o o' h1 h2)
    (fun k W' => ∃ f la a pre, Hid (Pz W W.heap.size x y z gm gs g2 lp s most f la a W') ∧ Hid (J pre.length W') ∧ Hid (cuts s.data.toList ah most = pre ++ pcs most ((stps s.data.toList).drop k) f la a) ∧ Hid (f ≤ la ∧ (la = 0 ∨ ∃ j, j < k ∧ la = stK s.data.toList j) ∧ la ≤ s.size ∧ a ≤ 281474976710656))
    (fun c _ W' => c = .ret ∧ Hid (∃ k, k ≤ (vsP s.data.toList ah most).length ∧ Jx k W')) ?hI ?hIx ⟨0, 0, ah, [], HP0.out, HJ0.out, rfl, Nat.le_refl _, .inl rfl, Nat.zero_le _, hah⟩ _ ?assign ?body ?done ?stop
  case hI =>
    exact fun k _ W1 W2 row hs hg hr => by
      obtain ⟨f, la, a, pre, h1, h2, h3, h4⟩ := hs
      exact ⟨f, la, a, pre, h1.out.turn hg (fun r e => (hr r e).2), HJ.out _ () W1 W2 row h2.out hg (fun r e => ⟨by have := (hr r e).1; omega, (hr r e).2⟩), h3, h4⟩
  case hIx =>
    exact fun c k _ W1 W2 row hs hg hr => by
      obtain ⟨rfl, h⟩ := hs
      obtain ⟨q, h1, h2⟩ := h.out
      exact ⟨rfl, q, h1, HJX.out _ () W1 W2 row h2 hg (fun r e => ⟨by have := (hr r e).1; omega, (hr r e).2⟩)⟩
  case assign =>
    intro l2 k hk W1 K hK
    rw [vsS_at _ k hk]
    gi_wp2
    exact hK
  case stop =>
    rintro D c k W1 hD _ ⟨rfl, h⟩ hd
    refine wpIn_wide.2 ?_
    go_wp2
    refine ⟨by simp, .inl ⟨_, _, rfl, run_takeDeferred hd, ?_⟩⟩
    obtain ⟨q, h1, h2⟩ := h.out
    have hX := HJX.out q () W1 (W1.putObj D (.deferred none)) (some D) h2 (grownBy_putObj' W1 D _) (fun r e => by cases e; exact ⟨by omega, _, hd, rfl⟩)
    exact ⟨_, results_none rfl _ _ _, ⟨_, rfl⟩, .inr ⟨q, h1, hX⟩⟩
  case body =>
    rintro l2 k hk W1 hl2 hrec ⟨f, la, a, pre, HP, HJ1, HC, HF⟩
    have hk' : k < (stps s.data.toList).length := by unfold vsS at hk; rw [List.length_map] at hk; exact hk
    have htl := stK_le s.data.toList k hk'
    rw [len_list] at htl
    obtain ⟨hfl, hlk, hls, ha48⟩ := HF.out
    have hlt : la ≤ stK s.data.toList k := by
      rcases hlk with rfl | ⟨j, hj, rfl⟩
      · exact Nat.zero_le _
      · exact Nat.le_of_lt (stK_mono _ j k hj hk')
    have HC2 : Hid (cuts s.data.toList ah most = pre ++ pcs most (stK s.data.toList k :: (stps s.data.toList).drop (k + 1)) f la a) := by
      rw [HC.out, stps_drop _ k hk']
      exact rfl
    have HLK : Hid (∀ t, t = stK s.data.toList k → t = 0 ∨ ∃ j, j < k + 1 ∧ t = stK s.data.toList j) := fun t e => .inr ⟨k, by omega, e⟩
    obtain ⟨t, ht⟩ : ∃ t, t = stK s.data.toList k := ⟨_, rfl⟩
    have HLT : Hid (t = 0 ∨ ∃ j, j < k + 1 ∧ t = stK s.data.toList j) := HLK.out t ht
    rw [← ht] at htl hlt HC2
    rw [← ht]
    clear HC HF HLK hlk ht
    have c1 := HP.out.xl.cell 0
    have z1 := HP.out.xl.frozen 0
    have c2 := HP.out.yl.cell 0
    have z2 := HP.out.yl.frozen 0
    have c3 := HP.out.zl.cell 0
    have z3 := HP.out.zl.frozen 0
    have c4 := HP.out.ml.cell 0
    have c5 := HP.out.yd.cell 0
    simp only [List.getElem?_toArray, List.getElem?_cons_zero] at c1 c2 c3 c4 c5
    have e1 : IntKind.i64.wrap ((t : Int) - (f : Int)) = (t : Int) - (f : Int) := by rw [IntKind.wrap_i64]; omega
    by_cases hcut : f < la ∧ most < a + (t - f)
    · have h1 : (f : Int) < (la : Int) := by omega
      have h2 : (most : Int) - (a : Int) < (t : Int) - (f : Int) := by omega
      have HC3 : Hid (cuts s.data.toList ah most = pre ++ (f, la) :: pcs most ((stps s.data.toList).drop (k + 1)) la t 0) := by
        rw [HC2.out, pcs, if_pos hcut]
        exact rfl
      obtain ⟨hpl, hpv⟩ := ctK_of HC3.out
      have hpl2 : pre.length < (vsP s.data.toList ah most).length := by rw [vsP_len]; exact hpl
      have hv := vsP_at s.data.toList ah most _ hpl2
      rw [hpv] at hv
      obtain ⟨fn, tmps, assign, body, hy, hR⟩ := HY.out 6 _ hpl2 W1 HJ1.out
      rw [hv] at hy
      have HPL : Hid (pre.length < (vsP s.data.toList ah most).length) := hpl2
      clear hpl hpv hpl2 hv HC2 hcut
      gi_wp2_with fail
      refine RoundIn.mono (F := Fence.wide.inRound l2) hR ?_
      clear hy hR
      rintro e W3 (⟨rfl, hJ3, hk3, hf3⟩ | ⟨rfl, hJx3, hf3⟩)
      · have HP3 : Hid (Pz W W.heap.size x y z gm gs g2 lp s most f la a W3) := HP.out.kt HPP.out hk3
        have HJ3 : Hid (J (pre.length + 1) W3) := hJ3
        have HK3 : Hid (KeepsFrom w2.heap.size W1 W3) := kf_mono hf3 hWw
        have HG3 : Hid (Kg (· = g2) W1 W3) := kg_lies hf3.size HP.out.tl HP3.out.tl
        clear c1 z1 c2 z2 c3 z3 c4 c5 hJ3 hk3 hf3
        have c2 := HP3.out.yl.cell 0
        have z1 := HP3.out.xl.frozen 0
        have c1 := HP3.out.xl.cell 0
        have c3 := HP3.out.zl.cell 0
        have z3 := HP3.out.zl.frozen 0
        have c4 := HP3.out.ml.cell 0
        simp only [List.getElem?_toArray, List.getElem?_cons_zero] at c1 c2 c3 c4
        gi_wp2_with fail
        refine wpIn_region_late (fun wx => wx.cell? ⟨y, 0, none⟩ = some (.int .i64 (la : Int)) ∧ wx.cell? ⟨gm, 0, none⟩ = some (.int .i64 (most : Int))) 3 (by kernel_rfl) (by kernel_rfl) ?lo ⟨c2, c4⟩ (fun hHeld => ?_)
        case lo => rintro ⟨_, _, h⟩; exact h
        refine wpAnyE_take (i := 0) (d := some 30) (v := .int .i64 (la : Int)) rfl (by kernel_rfl) (by kernel_rfl) (by kernel_rfl) (by kernel_rfl) (fun _ _ _ h => h) rfl rfl ?hy (by first | assumption | exact hHeld) ?_
        case hy => (intro w' hSw; obtain ⟨q1, q2⟩ := hSw; go_simp <;> (first | with_reducible rfl | omega | skip))
        simp only [Act.put, List.setIfInBounds_toArray, List.set_cons_zero, List.set_cons_succ]
        refine wpAnyE_take (i := 1) (d := some 31) (v := .int .i64 (most : Int)) rfl (by kernel_rfl) (by kernel_rfl) (by kernel_rfl) (by kernel_rfl) (fun _ _ _ h => h) rfl rfl ?hy (by first | assumption | exact hHeld) ?_
        case hy => (intro w' hSw; obtain ⟨q1, q2⟩ := hSw; go_simp <;> (first | with_reducible rfl | omega | skip))
        simp only [Act.put, List.setIfInBounds_toArray, List.set_cons_zero, List.set_cons_succ]
        refine wpAnyE_one (i := 2) (by kernel_rfl) rfl rfl ?_
        go_simp
        refine ⟨⟨(HP3.out.setX HPP.out la).yl.cell 0, (HP3.out.setX HPP.out la).ml.cell 0⟩, ?_⟩
        have c6 := (HP3.out.setX HPP.out la).zl.cell 0
        have z6 := (HP3.out.setX HPP.out la).zl.frozen 0
        simp only [List.getElem?_toArray, List.getElem?_cons_zero] at c6
        refine wpAnyE_one (i := 3) (by kernel_rfl) rfl rfl ?_
        go_simp
        refine wpAnyE_done (by kernel_rfl) ?_ _
        obtain ⟨W4, hW4⟩ : ∃ W4, W4 = ((W3.setCell ⟨x, 0, none⟩ (.int .i64 (la : Int))).setCell ⟨z, 0, none⟩ (.int .i64 (most : Int))).drew := ⟨_, rfl⟩
        have HP4 : Hid (Pz W W.heap.size x y z gm gs g2 lp s most la la 0 W4) := by
          rw [hW4]
          exact ((HP3.out.setX HPP.out la).setZ HPP.out).drew
        have HK4 : Hid (KeepsFrom w2.heap.size W1 W4) := by
          rw [hW4]
          exact HK3.out.trans ((kf_set _ _ _ _).trans ((kf_set _ _ _ _).trans (KeepsFrom.of_grownBy (grown_of_below (Below.refl _ _).drew) (fun j e => by cases e))))
        have HJ4 : Hid (J (pre.length + 1) W4) := by
          rw [hW4]
          have h8 := (HJV.out _).set HJ3.out HPP.out.wx HP3.out.xl (.int .i64 (la : Int)) (i := 0)
          have h9 := (HJV.out _).set h8 HPP.out.wz (HP3.out.setX HPP.out la).zl (.int .i64 (most : Int)) (i := 0)
          exact HJ.out _ () _ _ none h9 (grown_of_below (Below.refl _ _).drew) (fun r e => by cases e)
        rw [← hW4]
        clear hW4 c1 c2 c3 z1 z3 c4 c6 z6 hHeld HP3 HK3 HG3 HJ3
        have c2 := HP4.out.yl.cell 0
        have z2 := HP4.out.yl.frozen 0
        simp only [List.getElem?_toArray, List.getElem?_cons_zero] at c2
        gi_wp2_with fail
        exact ⟨HK4.out.trans (kf_set _ _ _ _), kg_lies (Nat.le_trans HK4.out.size (by rw [size_set]; exact Nat.le_refl _)) HP.out.tl (HP4.out.setY HPP.out t).tl, la, t, 0, pre ++ [(f, la)], HP4.out.setY HPP.out t, by rw [List.length_append]; exact (HJV.out _).set HJ4.out HPP.out.wy HP4.out.yl _, by rw [HC3.out, List.append_assoc]; rfl, hlt, HLT.out, htl, Nat.zero_le _⟩
      · have HF3 : Hid (KeepsFrom w2.heap.size W1 W3) := kf_mono hf3 hWw
        have HJX3 : Hid (Jx (pre.length + 1) W3) := hJx3
        clear hf3 hJx3
        gi_wp2_with fail
        exact ⟨HF3.out, rfl, _, HPL.out, HJX3.out⟩
    · have HC3 : Hid (cuts s.data.toList ah most = pre ++ pcs most ((stps s.data.toList).drop (k + 1)) f t a) := by
        rw [HC2.out, pcs, if_neg hcut]
        exact rfl
      clear HC2
      by_cases hfl1 : f < la
      · have h1 : (f : Int) < (la : Int) := by omega
        have h2 : ¬ (most : Int) - (a : Int) < (t : Int) - (f : Int) := by omega
        clear hcut
        gi_wp2_with fail
        exact ⟨kf_set _ _ _ _, kg_lies (by rw [size_set]; exact Nat.le_refl _) HP.out.tl (HP.out.setY HPP.out t).tl, f, t, a, HP.out.setY HPP.out t, pre, (HJV.out _).set HJ1.out HPP.out.wy HP.out.yl _, HC3.out, by omega, HLT.out, htl, ha48⟩
      · have h1 : ¬ (f : Int) < (la : Int) := by omega
        clear hcut
        gi_wp2_with fail
        exact ⟨kf_set _ _ _ _, kg_lies (by rw [size_set]; exact Nat.le_refl _) HP.out.tl (HP.out.setY HPP.out t).tl, f, t, a, HP.out.setY HPP.out t, pre, (HJV.out _).set HJ1.out HPP.out.wy HP.out.yl _, HC3.out, by omega, HLT.out, htl, ha48⟩
  case done =>
    rintro D W1 hD ⟨f, la, a, pre, HP, HJ1, HC, HF⟩ hd
    have HC3 : Hid (cuts s.data.toList ah most = pre ++ (f, la) :: []) := by
      rw [HC.out, List.drop_eq_nil_of_le (by unfold vsS; rw [List.length_map]; exact Nat.le_refl _)]
      exact rfl
    obtain ⟨hpl, hpv⟩ := ctK_of HC3.out
    have hpl2 : pre.length < (vsP s.data.toList ah most).length := by rw [vsP_len]; exact hpl
    have hv := vsP_at s.data.toList ah most _ hpl2
    rw [hpv] at hv
    obtain ⟨fn, tmps, assign, body, hy, hR⟩ := HY.out 8 _ hpl2 W1 HJ1.out
    rw [hv] at hy
    have HPL : Hid (pre.length + 1 = (vsP s.data.toList ah most).length) := by
      show _ = _
      rw [vsP_len, HC3.out]
      simp
    have c1 := HP.out.xl.cell 0
    have c2 := HP.out.yl.cell 0
    have c5 := HP.out.yd.cell 0
    simp only [List.getElem?_toArray, List.getElem?_cons_zero] at c1 c2 c5
    clear hpl hpv hpl2 hv HC HC3
    gi_wp2_with fail
    refine (wpIn_wide (n := 9)).1 ?_
    gi_wp2_with fail
    refine RoundIn.mono hR ?_
    clear hy hR
    rintro e W3 (⟨rfl, hJ3, hk3, hf3⟩ | ⟨rfl, hJx3, hf3⟩)
    · have hd3 := hf3.same D _ (by omega) hd rfl
      rw [HPL.out] at hJ3
      have HJ3 : Hid (J (vsP s.data.toList ah most).length W3) := hJ3
      clear hJ3 hk3 hf3
      gi_wp2_with fail
      refine ⟨by simp, .inl ⟨_, _, rfl, run_takeDeferred hd3, ?_⟩⟩
      exact ⟨_, results_none rfl _ _ _, ⟨_, rfl⟩, .inl (HJ.out _ () W3 _ (some D) HJ3.out (grownBy_putObj' W3 D _) (fun r e => by cases e; exact ⟨by omega, _, hd3, rfl⟩))⟩
    · have hd3 := hf3.same D _ (by omega) hd rfl
      rw [HPL.out] at hJx3
      have HJX3 : Hid (Jx (vsP s.data.toList ah most).length W3) := hJx3
      clear hJx3 hf3
      gi_wp2_with fail
      refine ⟨by simp, .inl ⟨_, _, rfl, run_takeDeferred hd3, ?_⟩⟩
      exact ⟨_, results_none rfl _ _ _, ⟨_, rfl⟩, .inr ⟨_, Nat.le_refl _, HJX.out _ () W3 _ (some D) HJX3.out (grownBy_putObj' W3 D _) (fun r e => by cases e; exact ⟨by omega, _, hd3, rfl⟩)⟩⟩
theorem pieces_seq (s : ByteArray) (hs : s.size ≤ 140737488355328) (ah most : Nat) (hah : ah ≤ 281474976710656) (hmost : most ≤ 998) (g n : Nat) (w : World) (hm : Lies w (g + 2) #[.int .i64 (most : Int)] 3) (ha : Lies w (g + 1) #[.int .i64 (ah : Int)] 3) (hb : Lies w g #[.string s] 9) :
    SeqA n Tryd.prog 47 #[.pointer (some ⟨g + 2, 0, none⟩), .pointer (some ⟨g + 1, 0, none⟩), .pointer (some ⟨g, 0, none⟩)] (vsP s.data.toList ah most) (Kt g) w :=
  fun lp J Jx W hW _ hJ hJx hY h0 => callsIn_wide.2 (pieces_in s hs ah most hah hmost lp (g + 2) (g + 1) g n J Jx W hJ hJx hY (hm.below hW hm.lt) (ha.below hW ha.lt) (hb.below hW hb.lt) (by omega) h0)
end Go.Proofs.YtpepjiocjcjeeabDoor
