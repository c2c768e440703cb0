/-
  Fold.
-/
import Derived.Test.YtpepjiocjcjeeabDoorFq16
import Derived.Test.YtpepjiocjcjeeabDoorRc16
import Derived.Test.YtpepjiocjcjeeabDoorFqP
import Derived.Test.YtpepjiocjcjeeabDoorFe16
import Derived.Deep.RegionHeld3
import Derived.Sort.CutIn
namespace Go.Proofs.YtpepjiocjcjeeabDoor
open Go.RowKit Go.Shelf

attribute [local go_sem] Oper.semAt_some

/-- What Fold tells: an error, or the field. -/
def foldF (nm l : List UInt8) (most : Int) : Nat × Fd :=
  if nmB nm = false ∨ rwE l 0 < l.length then (160, ⟨[], []⟩) else if most < 1 ∨ 998 < most then (2, ⟨[], []⟩) else
  match foldR l (cuts l (nm.length + 1) most.toNat) (nm.length + 1) [] with
  | none => (160, ⟨[], []⟩)
  | some b => (0, ⟨nm, b⟩)
/-- What Fold has in memory while it goes through the rows. -/
structure Fo (w : World) (s : ByteArray) (W : World) (x y : ByteArray) (err : Nat) (a : Nat) (v : Value) (out : List UInt8) : Prop where
  s0 : Lies W w.heap.size #[.string s] 9
  f0 : Lies W (w.heap.size + 1) #[.string x, .string y] 32
  e0 : Lies W (w.heap.size + 1 + 1) #[.int .i64 (err : Int)] 25
  a0 : Lies W (w.heap.size + 3) #[.int .i64 (a : Int)] 3
  o0 : Lies W (w.heap.size + 3 + 1) #[v] 22
  own : W.ownsRow w.heap.size 5 1 v out.length (cellsB out)
  be : Below w.heap.size w W
theorem Fo.turnV {w : World} {s : ByteArray} {W W' : World} {x y : ByteArray} {err a : Nat} {v : Value} {out : List UInt8} {C : Nat} (h : Fo w s W x y err a v out) (hC : w.heap.size + 5 ≤ C) {row : Option Nat} (hg : W.grownBy W' row)
    (hr : ∀ r, row = some r → C ≤ r ∧ ∃ o : Obj, W.heap[r]? = some o ∧ (o.isCells = false ∨ ∃ cur, o = .cells cur 3 (0, 0))) : Fo w s W' x y err a v out := by
  have key : ∀ {g t : Nat} {cs : Array Value}, g < w.heap.size + 5 → Lies W g cs t → Lies W' g cs t := fun {g t cs} hlt hl => (hg.block g hl.lt (fun e => by have := (hr g e.symm).1; omega)).trans hl
  refine ⟨key (by omega) h.s0, key (by omega) h.f0, key (by omega) h.e0, key (by omega) h.a0, key (by omega) h.o0, own_keep h.own (fun i hi => ?_), h.be.grown hg h.be.size (fun q hq => by have := (hr q hq).1; omega)⟩
  rcases h.own.2 with ⟨e, _⟩ | ⟨g, cap, cur, e, hB, hc, _⟩
  · rw [e] at hi; cases hi
  · rw [e] at hi
    cases hi
    refine hg.block _ (Array.getElem?_eq_some_iff.1 hc).1 (fun e2 => ?_)
    obtain ⟨_, o, h1, h2⟩ := hr _ e2.symm
    rw [hc] at h1
    cases h1
    rcases h2 with h2 | ⟨cur, h2⟩
    · cases h2
    · cases h2
theorem Fo.drew {w : World} {s : ByteArray} {W : World} {x y : ByteArray} {err a : Nat} {v : Value} {out : List UInt8} (h : Fo w s W x y err a v out) : Fo w s W.drew x y err a v out :=
  ⟨h.s0.drew, h.f0.drew, h.e0.drew, h.a0.drew, h.o0.drew, own_below h.own (Below.refl _ _).drew, h.be.drew⟩
/-- What a round may change: Fold's own boxes, and rows of bytes. -/
def Fx (w W : World) (k : Nat) : Prop := (w.heap.size ≤ k ∧ k < w.heap.size + 5) ∨ Fb w.heap.size W k
theorem Fo.kept {w : World} {s : ByteArray} {W W' : World} {x y : ByteArray} {err a : Nat} {v : Value} {out : List UInt8} {C : Nat} (h : Fo w s W x y err a v out) (hc : Chg (Fx w W) W W') : KeepsFrom C W W' ∧ Kt (w.heap.size + 3 + 1 + 1) W W' := by
  refine ⟨keeps_cells hc (fun i hi => ?_), Kt.of_chg hc (fun k hk => ?_)⟩
  · rcases hi with ⟨h1, h2⟩ | ⟨_, cur, hi⟩
    · rcases (show i = w.heap.size ∨ i = w.heap.size + 1 ∨ i = w.heap.size + 1 + 1 ∨ i = w.heap.size + 3 ∨ i = w.heap.size + 3 + 1 by omega) with rfl | rfl | rfl | rfl | rfl
      · exact ⟨_, h.s0, rfl⟩
      · exact ⟨_, h.f0, rfl⟩
      · exact ⟨_, h.e0, rfl⟩
      · exact ⟨_, h.a0, rfl⟩
      · exact ⟨_, h.o0, rfl⟩
    · exact ⟨_, hi, rfl⟩
  · rcases hk with ⟨h1, h2⟩ | ⟨_, cur, hk⟩
    · exact .inl (by omega)
    · exact .inr ⟨cur, hk⟩
theorem Fo.setA {w : World} {s : ByteArray} {W : World} {x y : ByteArray} {err a : Nat} {v : Value} {out : List UInt8} (h : Fo w s W x y err a v out) : Fo w s (W.setCell ⟨w.heap.size + 3, 0, none⟩ (.int .i64 0)) x y err 0 v out ∧ Chg (Fx w W) W (W.setCell ⟨w.heap.size + 3, 0, none⟩ (.int .i64 0)) :=
  ⟨⟨h.s0.set_other (a := ⟨w.heap.size + 3, 0, none⟩) (by dsimp only; omega) _, h.f0.set_other (a := ⟨w.heap.size + 3, 0, none⟩) (by dsimp only; omega) _, h.e0.set_other (a := ⟨w.heap.size + 3, 0, none⟩) (by dsimp only; omega) _, h.a0.set 0 _, h.o0.set_other (a := ⟨w.heap.size + 3, 0, none⟩) (by dsimp only; omega) _,
    own_keep h.own (fun i hi => Below.heap_setCell _ _ _ _ (own_apart h.own h.a0 (by decide) i hi)), h.be.setCell (p := ⟨w.heap.size + 3, 0, none⟩) (by dsimp only; omega) _⟩,
   (Chg.refl _ _).set (p := ⟨w.heap.size + 3, 0, none⟩) (.inl (.inl ⟨by dsimp only; omega, by dsimp only; omega⟩)) _⟩
theorem Fx.later {w W U : World} {k : Nat} (h : Fx w U k) (hb : Below W.heap.size W U) : Fx w W k ∨ W.heap.size ≤ k := by
  rcases h with h | h
  · exact .inl (.inl h)
  · rcases h.later hb with h1 | h1
    · exact .inl (.inr h1)
    · exact .inr h1
theorem Fo.laid {w : World} {s : ByteArray} {W : World} {x y : ByteArray} {err a : Nat} {v : Value} {out : List UInt8} (h : Fo w s W x y err a v out) {c : ByteArray} {U w3 : World} {v3 : Value} (hU : Below W.heap.size W U) (hl : Laid U w.heap.size (out ++ catT [c]) w3 v3) :
    (w3.cell? ⟨w.heap.size + 3 + 1, 0, none⟩ = some v ∧ w3.frozen? ⟨w.heap.size + 3 + 1, 0, none⟩ = false ∧ w3.cell? ⟨w.heap.size, 0, none⟩ = some (.string s)) ∧
    Fo w s (w3.setCell ⟨w.heap.size + 3 + 1, 0, none⟩ v3) x y err a v3 (out ++ c.data.toList) ∧ Chg (Fx w W) W (w3.setCell ⟨w.heap.size + 3 + 1, 0, none⟩ v3) := by
  have hc3 : Chg (Fb w.heap.size W) W w3 := (Chg.of_below hU).then hl.chg (fun i hi => hi.later hU)
  have l0 := hc3.lies h.s0 (Fb.no h.s0 (by decide))
  have l1 := hc3.lies h.f0 (Fb.no h.f0 (by decide))
  have l2 := hc3.lies h.e0 (Fb.no h.e0 (by decide))
  have l3 := hc3.lies h.a0 (Fb.no h.a0 (by decide))
  have l4 := hc3.lies h.o0 (Fb.no h.o0 (by decide))
  have hcat : catT [c] = c.data.toList := by simp [catT]
  have ho := hl.own
  rw [hcat] at ho
  have hX : Chg (Fx w W) W (w3.setCell ⟨w.heap.size + 3 + 1, 0, none⟩ v3) := (hc3.mono (fun _ hi => .inr hi)).set (p := ⟨w.heap.size + 3 + 1, 0, none⟩) (.inl (.inl ⟨by dsimp only; omega, by dsimp only; omega⟩)) v3
  refine ⟨⟨l4.cell 0, l4.frozen 0, l0.cell 0⟩, ⟨l0.set_other (a := ⟨w.heap.size + 3 + 1, 0, none⟩) (by dsimp only; omega) _, l1.set_other (a := ⟨w.heap.size + 3 + 1, 0, none⟩) (by dsimp only; omega) _, l2.set_other (a := ⟨w.heap.size + 3 + 1, 0, none⟩) (by dsimp only; omega) _, l3.set_other (a := ⟨w.heap.size + 3 + 1, 0, none⟩) (by dsimp only; omega) _, l4.set 0 v3, ?_, ?_⟩, hX⟩
  · exact own_keep ho (fun i hi => Below.heap_setCell _ _ _ _ (own_apart ho l4 (by decide) i hi))
  · exact h.be.trans (hX.to_below h.be.size (fun i hi => by
      rcases hi with hi | hi
      · exact hi.1
      · exact hi.1))
theorem Chg.fx {w W U V : World} (h : Chg (Fx w W) W U) (k : Chg (Fx w U) U V) : Chg (Fx w W) W V := h.then k (fun i hi => by
  rcases Nat.lt_or_ge i W.heap.size with hlt | hge
  · by_cases hf : Fx w W i
    · exact .inl hf
    · rcases hi with hi | ⟨hB, cur, hc⟩
      · exact .inl (.inl hi)
      · rw [h.block i hlt hf] at hc
        exact .inl (.inr ⟨hB, cur, hc⟩)
  · exact .inr hge)
theorem fo_below (w U : World) (err : Int) (hb : Below w.heap.size w U) : Below w.heap.size w (((U.setCell ⟨w.heap.size + 1, 0, none⟩ (.string ⟨#[]⟩)).setCell ⟨w.heap.size + 1, 1, none⟩ (.string ⟨#[]⟩)).setCell ⟨w.heap.size + 1 + 1, 0, none⟩ (.int .i64 err)) :=
  ((hb.setCell (p := ⟨w.heap.size + 1, 0, none⟩) (by dsimp only; omega) _).setCell (p := ⟨w.heap.size + 1, 1, none⟩) (by dsimp only; omega) _).setCell (p := ⟨w.heap.size + 1 + 1, 0, none⟩) (by dsimp only; omega) _
theorem Fo.setBad {w : World} {s : ByteArray} {W : World} {err a : Nat} {v : Value} {out : List UInt8} (h : Fo w s W ⟨#[]⟩ ⟨#[]⟩ err a v out) :
    Fo w s (((W.setCell ⟨w.heap.size + 1, 0, none⟩ (.string ⟨#[]⟩)).setCell ⟨w.heap.size + 1, 1, none⟩ (.string ⟨#[]⟩)).setCell ⟨w.heap.size + 1 + 1, 0, none⟩ (.int .i64 160)) ⟨#[]⟩ ⟨#[]⟩ 160 a v out ∧
    Chg (Fx w W) W (((W.setCell ⟨w.heap.size + 1, 0, none⟩ (.string ⟨#[]⟩)).setCell ⟨w.heap.size + 1, 1, none⟩ (.string ⟨#[]⟩)).setCell ⟨w.heap.size + 1 + 1, 0, none⟩ (.int .i64 160)) := by
  have far : ∀ {g t : Nat} {cs : Array Value}, g ≠ w.heap.size + 1 → g ≠ w.heap.size + 1 + 1 → Lies W g cs t → Lies (((W.setCell ⟨w.heap.size + 1, 0, none⟩ (.string ⟨#[]⟩)).setCell ⟨w.heap.size + 1, 1, none⟩ (.string ⟨#[]⟩)).setCell ⟨w.heap.size + 1 + 1, 0, none⟩ (.int .i64 160)) g cs t :=
    fun {g t cs} h1 h2 hl => ((hl.set_other (a := ⟨w.heap.size + 1, 0, none⟩) h1 _).set_other (a := ⟨w.heap.size + 1, 1, none⟩) h1 _).set_other (a := ⟨w.heap.size + 1 + 1, 0, none⟩) h2 _
  refine ⟨⟨far (by omega) (by omega) h.s0, ((h.f0.set 0 (.string ⟨#[]⟩)).set 1 (.string ⟨#[]⟩)).set_other (a := ⟨w.heap.size + 1 + 1, 0, none⟩) (by dsimp only; omega) _,
    ((h.e0.set_other (a := ⟨w.heap.size + 1, 0, none⟩) (by dsimp only; omega) _).set_other (a := ⟨w.heap.size + 1, 1, none⟩) (by dsimp only; omega) _).set 0 (.int .i64 160), far (by omega) (by omega) h.a0, far (by omega) (by omega) h.o0, ?_, fo_below w W 160 h.be⟩, ?_⟩
  · exact own_keep h.own (fun i hi => ((Below.heap_setCell _ _ _ _ (own_apart h.own h.e0 (by decide) i hi)).trans (Below.heap_setCell _ _ _ _ (own_apart h.own h.f0 (by decide) i hi))).trans (Below.heap_setCell _ _ _ _ (own_apart h.own h.f0 (by decide) i hi)))
  · exact (((Chg.refl _ _).set (p := ⟨w.heap.size + 1, 0, none⟩) (.inl (.inl ⟨by dsimp only; omega, by dsimp only; omega⟩)) _).set (p := ⟨w.heap.size + 1, 1, none⟩) (.inl (.inl ⟨by dsimp only; omega, by dsimp only; omega⟩)) _).set (p := ⟨w.heap.size + 1 + 1, 0, none⟩) (.inl (.inl ⟨by dsimp only; omega, by dsimp only; omega⟩)) _
theorem results_fe {P : Program} {fn : Func} {p q : Tmp} {ty tz : TypeId} (h : fn.results = #[.cell p tz, .cell q ty]) (tmps : Array Value) (w : World) (g1 g2 : Nat) (ds : Array Value) (d2 : TypeDesc) (u : Value)
    (hp : tmps.getD p undef = .pointer (some ⟨g1, 0, none⟩)) (hq : tmps.getD q undef = .pointer (some ⟨g2, 0, none⟩)) (hg1 : Lies w g1 ds tz) (hk : (loadVar ty ⟨g2, 0, none⟩).run P w = .ok u w)
    (hu2 : P.underlying tz = some d2) (ha2 : (match d2 with | .struct _ | .array _ _ => true | _ => false) = true) (hz2 : (P.info? tz).map (·.size) = some ds.size) : (results fn tmps).run P w = .ok (.tuple #[.agg ds, u]) w := by
  have hp' : tmps[p]?.getD undef = .pointer (some ⟨g1, 0, none⟩) := by simpa using hp
  have hq' : tmps[q]?.getD undef = .pointer (some ⟨g2, 0, none⟩) := by simpa using hq
  simp [results, h, hp', hq', asAddr, run_loadVar_row w g1 tz tz ds (0, 0) d2 hg1 hu2 ha2 hz2, hk]
theorem load_err (w : World) (g : Nat) (n : Int) (hc : w.cell? ⟨g, 0, none⟩ = some (.int .i64 n)) : (loadVar 25 ⟨g, 0, none⟩).run Tryd.prog w = .ok (.int .i64 n) w := by
  simp [go_sem, hc]
theorem fo_close (w U : World) (err : Int) (hf : Lies U (w.heap.size + 1) #[.string ⟨#[]⟩, .string ⟨#[]⟩] 32) (he : Lies U (w.heap.size + 1 + 1) #[.int .i64 0] 25) (hb : Below w.heap.size w U) (tmps : Array Value) (h6 : tmps.getD 6 undef = .pointer (some ⟨w.heap.size + 1, 0, none⟩)) (h7 : tmps.getD 7 undef = .pointer (some ⟨w.heap.size + 1 + 1, 0, none⟩)) :
    (results Tryd.f13 tmps).run Tryd.prog (((U.setCell ⟨w.heap.size + 1, 0, none⟩ (.string ⟨#[]⟩)).setCell ⟨w.heap.size + 1, 1, none⟩ (.string ⟨#[]⟩)).setCell ⟨w.heap.size + 1 + 1, 0, none⟩ (.int .i64 err)) =
      .ok (.tuple #[.agg #[.string ⟨#[]⟩, .string ⟨#[]⟩], .int .i64 err]) (((U.setCell ⟨w.heap.size + 1, 0, none⟩ (.string ⟨#[]⟩)).setCell ⟨w.heap.size + 1, 1, none⟩ (.string ⟨#[]⟩)).setCell ⟨w.heap.size + 1 + 1, 0, none⟩ (.int .i64 err)) ∧
    Below w.heap.size w (((U.setCell ⟨w.heap.size + 1, 0, none⟩ (.string ⟨#[]⟩)).setCell ⟨w.heap.size + 1, 1, none⟩ (.string ⟨#[]⟩)).setCell ⟨w.heap.size + 1 + 1, 0, none⟩ (.int .i64 err)) := by
  have k1 : Lies (((U.setCell ⟨w.heap.size + 1, 0, none⟩ (.string ⟨#[]⟩)).setCell ⟨w.heap.size + 1, 1, none⟩ (.string ⟨#[]⟩)).setCell ⟨w.heap.size + 1 + 1, 0, none⟩ (.int .i64 err)) (w.heap.size + 1) #[.string ⟨#[]⟩, .string ⟨#[]⟩] 32 :=
    ((hf.set 0 (.string ⟨#[]⟩)).set 1 (.string ⟨#[]⟩)).set_other (a := ⟨w.heap.size + 1 + 1, 0, none⟩) (by dsimp only; omega) _
  have k2 : Lies (((U.setCell ⟨w.heap.size + 1, 0, none⟩ (.string ⟨#[]⟩)).setCell ⟨w.heap.size + 1, 1, none⟩ (.string ⟨#[]⟩)).setCell ⟨w.heap.size + 1 + 1, 0, none⟩ (.int .i64 err)) (w.heap.size + 1 + 1) #[.int .i64 err] 25 :=
    ((he.set_other (a := ⟨w.heap.size + 1, 0, none⟩) (by dsimp only; omega) _).set_other (a := ⟨w.heap.size + 1, 1, none⟩) (by dsimp only; omega) _).set 0 (.int .i64 err)
  refine ⟨results_fe rfl _ _ (w.heap.size + 1) (w.heap.size + 1 + 1) _ _ _ h6 h7 k1 (load_err _ _ err (k2.cell 0)) Tryd.underlying32 rfl (by kernel_rfl), ?_⟩
  exact ((hb.setCell (p := ⟨w.heap.size + 1, 0, none⟩) (by dsimp only; omega) _).setCell (p := ⟨w.heap.size + 1, 1, none⟩) (by dsimp only; omega) _).setCell (p := ⟨w.heap.size + 1 + 1, 0, none⟩) (by dsimp only; omega) _
set_option maxRecDepth 100000 in
set_option maxHeartbeats 4000000 in
theorem ffold_any (nm s : ByteArray) (most : Int) (hn : nm.size ≤ 140737488351232) (hs : s.size ≤ 4294967296) (w : World) (ht : Table w) : Calls Tryd.prog 13 #[.string nm, .string s, .int .i64 most] w fun e w' =>
    e = .returned (.tuple #[.agg #[.string (tx (foldF nm.data.toList s.data.toList most).2.name), .string (tx (foldF nm.data.toList s.data.toList most).2.body)], .int .i64 ((foldF nm.data.toList s.data.toList most).1 : Int)]) ∧ Below w.heap.size w w' := by
  have hnI : (nm.size : Int) ≤ 140737488351232 := by omega
  have hsI : (s.size : Int) ≤ 4294967296 := by omega
  have HNA : Hid (∀ wx, Below w.heap.size w wx → Calls Tryd.prog 28 #[.string nm] wx fun e w' => e = .returned (.bool (nmB nm.data.toList)) ∧ w' = wx) := fun wx hb => fisn_any nm (by omega) wx (tab_below ht hb)
  have HRE : Hid (∀ wx, Calls Tryd.prog 32 #[.string s, .int .i64 0] wx fun e w' => e = .returned (.int .i64 (rwE s.data.toList 0 : Int)) ∧ w' = wx) := fun wx => fres_any s 0 (by omega) (Nat.zero_le _) wx
  have hle := rwE_le s.data.toList 0 (Nat.zero_le _)
  rw [len_list] at hle
  have HB0 : Hid (Below w.heap.size w (((w.alloc (.cells #[.string s] 9)).alloc (.cells #[.string ⟨#[]⟩, .string ⟨#[]⟩] 32)).alloc (.cells #[.int .i64 0] 25))) := (((Below.refl _ _).alloc (Nat.le_refl _) _).alloc (by simp) _).alloc (by simp; omega) _
  have HS0 : Hid (Lies (((w.alloc (.cells #[.string s] 9)).alloc (.cells #[.string ⟨#[]⟩, .string ⟨#[]⟩] 32)).alloc (.cells #[.int .i64 0] 25)) w.heap.size #[.string s] 9) := ((Lies.new _ _ _).alloc _).alloc _
  have HF0 : Hid (Lies (((w.alloc (.cells #[.string s] 9)).alloc (.cells #[.string ⟨#[]⟩, .string ⟨#[]⟩] 32)).alloc (.cells #[.int .i64 0] 25)) (w.heap.size + 1) #[.string ⟨#[]⟩, .string ⟨#[]⟩] 32) := (new_one _ _ _ _).alloc _
  have HE0 : Hid (Lies (((w.alloc (.cells #[.string s] 9)).alloc (.cells #[.string ⟨#[]⟩, .string ⟨#[]⟩] 32)).alloc (.cells #[.int .i64 0] 25)) (w.heap.size + 2) #[.int .i64 0] 25) := new_two _ _ _ _ _
  have hzV : (((w.alloc (.cells #[.string s] 9)).alloc (.cells #[.string ⟨#[]⟩, .string ⟨#[]⟩] 32)).alloc (.cells #[.int .i64 0] 25)).heap.size = w.heap.size + 3 := by simp
  have HF : Hid (∀ (r : Nat × Fd), foldF nm.data.toList s.data.toList most = r → foldF nm.data.toList s.data.toList most = r) := fun r h => h
  have h1 : foldF nm.data.toList s.data.toList most = if nmB nm.data.toList = false ∨ rwE s.data.toList 0 < s.data.toList.length then (160, ⟨[], []⟩) else if most < 1 ∨ 998 < most then (2, ⟨[], []⟩) else
      match foldR s.data.toList (cuts s.data.toList (nm.data.toList.length + 1) most.toNat) (nm.data.toList.length + 1) [] with
      | none => (160, ⟨[], []⟩)
      | some b => (0, ⟨nm.data.toList, b⟩) := rfl
  rw [len_list, len_list] at h1
  have HFE : Hid _ := h1
  clear h1 HF ht
  generalize foldF nm.data.toList s.data.toList most = R at *
  refine (callsIn_wide (n := 9)).1 ?_
  refine callsIn_of_wp_marks Tryd.func13 rfl trivial ?_ rfl
  simp only [Tryd.ntmps13, List.size_toArray, List.length_cons, List.length_nil, Nat.reduceAdd, Nat.reduceSub, Array.replicate_succ, Array.replicate_zero, List.push_toArray, List.append_toArray, List.nil_append, List.cons_append]
  refine wpIn_wide.2 ?_
  go_wp2_with fail
  obtain ⟨V, hV⟩ : ∃ V, V = ((w.alloc (.cells #[.string s] 9)).alloc (.cells #[.string ⟨#[]⟩, .string ⟨#[]⟩] 32)).alloc (.cells #[.int .i64 0] 25) := ⟨_, rfl⟩
  rw [← hV] at HB0 HS0 HF0 HE0 hzV ⊢
  clear hV
  have c0 := HS0.out.cell 0
  simp only [List.getElem?_toArray, List.getElem?_cons_zero] at c0
  cases hnb : nmB nm.data.toList with
  | false =>
    rw [hnb] at HNA HFE
    have HR : Hid (R = (160, ⟨[], []⟩)) := by rw [HFE.out]; rfl
    clear HFE HRE
    refine wp_onlyN ?_
    go_region_with (first | (go_at_call 28; refine (HNA.out _ HB0.out.drew).mono ?_; rintro e w1 ⟨rfl, rfl⟩))
    all_goals
      simp only [OnlyN]
      have hb := HB0.out.drew
      have hf := HF0.out.drew
      have he := HE0.out.drew
      have c1 := hf.cell 0
      have z1 := hf.frozen 0
      have c2 := hf.cell 1
      have z2 := hf.frozen 1
      have c3 := he.cell 0
      have z3 := he.frozen 0
      simp only [List.getElem?_toArray, List.getElem?_cons_zero, List.getElem?_cons_succ] at c1 c2 c3
      generalize V.drew = U at *
      go_wp2_with fail
      exact ⟨_, (fo_close w U 160 hf he hb _ (by rfl) (by rfl)).1, by rw [HR.out]; rfl, fo_below w U 160 hb⟩
  | true =>
    rw [hnb] at HNA HFE
    by_cases hcr : rwE s.data.toList 0 < s.size
    · have hcI : (rwE s.data.toList 0 : Int) < (s.size : Int) := by omega
      have HR : Hid (R = (160, ⟨[], []⟩)) := by rw [HFE.out, if_pos (.inr hcr)]; exact rfl
      clear HFE
      refine wp_onlyN ?_
      go_region_held3 (fun w' => Below V.heap.size V w' ∧ w'.cell? ⟨w.heap.size, 0, none⟩ = some (.string s)) (first | assumption | exact ⟨Below.refl _ _, c0⟩ | exact ⟨(Below.refl _ _).drew, c0⟩) (first | (go_at_call 28; refine (HNA.out _ (HB0.out.trans (Below.mono (And.left (by assumption)) (by omega)))).mono ?_; rintro e w1 ⟨rfl, rfl⟩) | (go_at_call 32; refine (HRE.out _).mono ?_; rintro e w1 ⟨rfl, rfl⟩))
      simp only [OnlyN]
      have hb := HB0.out.drew
      have hf := HF0.out.drew
      have he := HE0.out.drew
      have c1 := hf.cell 0
      have z1 := hf.frozen 0
      have c2 := hf.cell 1
      have z2 := hf.frozen 1
      have c3 := he.cell 0
      have z3 := he.frozen 0
      simp only [List.getElem?_toArray, List.getElem?_cons_zero, List.getElem?_cons_succ] at c1 c2 c3
      generalize V.drew = U at *
      go_wp2_with fail
      exact ⟨_, (fo_close w U 160 hf he hb _ (by rfl) (by rfl)).1, by rw [HR.out]; rfl, fo_below w U 160 hb⟩
    · have hcI : ¬ (rwE s.data.toList 0 : Int) < (s.size : Int) := by omega
      have HFE2 : Hid _ := HFE.out
      refine wp_onlyN ?_
      go_region_held3 (fun w' => Below V.heap.size V w' ∧ w'.cell? ⟨w.heap.size, 0, none⟩ = some (.string s)) (first | assumption | exact ⟨Below.refl _ _, c0⟩ | exact ⟨(Below.refl _ _).drew, c0⟩) (first | (go_at_call 28; refine (HNA.out _ (HB0.out.trans (Below.mono (And.left (by assumption)) (by omega)))).mono ?_; rintro e w1 ⟨rfl, rfl⟩) | (go_at_call 32; refine (HRE.out _).mono ?_; rintro e w1 ⟨rfl, rfl⟩))
      simp only [OnlyN]
      have hb := HB0.out.drew
      have hf := HF0.out.drew
      have he := HE0.out.drew
      have c1 := hf.cell 0
      have z1 := hf.frozen 0
      have c2 := hf.cell 1
      have z2 := hf.frozen 1
      have c3 := he.cell 0
      have z3 := he.frozen 0
      simp only [List.getElem?_toArray, List.getElem?_cons_zero, List.getElem?_cons_succ] at c1 c2 c3
      have hs0 := HS0.out.drew
      have hzU : V.drew.heap.size = w.heap.size + 3 := hzV
      clear c0 hzV HS0 HB0 HF0 HE0 HNA HRE
      generalize V.drew = U at *
      by_cases hm1 : most < 1
      · have HR : Hid (R = (2, ⟨[], []⟩)) := by rw [HFE2.out, if_neg (by simp; omega), if_pos (.inl hm1)]; exact rfl
        go_wp2_with fail
        exact ⟨_, (fo_close w U 2 hf he hb _ (by rfl) (by rfl)).1, by rw [HR.out]; rfl, fo_below w U 2 hb⟩
      · by_cases hm2 : 998 < most
        · have HR : Hid (R = (2, ⟨[], []⟩)) := by rw [HFE2.out, if_neg (by simp; omega), if_pos (.inr hm2)]; exact rfl
          go_wp2_with fail
          exact ⟨_, (fo_close w U 2 hf he hb _ (by rfl) (by rfl)).1, by rw [HR.out]; rfl, fo_below w U 2 hb⟩
        · obtain ⟨mo, rfl⟩ : ∃ mo : Nat, most = (mo : Int) := ⟨most.toNat, by omega⟩
          have hmo : mo ≤ 998 := by omega
          have HR : Hid (R = match foldR s.data.toList (cuts s.data.toList (nm.size + 1) mo) (nm.size + 1) [] with
            | none => (160, ⟨[], []⟩)
            | some b => (0, ⟨nm.data.toList, b⟩)) := by rw [HFE2.out, if_neg (by simp; omega), if_neg (by omega)]; exact rfl
          have e1 : IntKind.i64.wrap ((nm.size : Int) + 1) = (nm.size : Int) + 1 := by rw [IntKind.wrap_i64]; omega
          have HPC : Hid (∀ wx, Calls Tryd.prog 33 #[.string s, .int .i64 ((nm.size : Int) + 1), .int .i64 (mo : Int)] wx fun e w' => e = .returned (.func (.func 47) #[] #[.pointer (some ⟨wx.heap.size + 2, 0, none⟩), .pointer (some ⟨wx.heap.size + 1, 0, none⟩), .pointer (some ⟨wx.heap.size, 0, none⟩)]) ∧
            w' = ((wx.alloc (.cells #[.string s] 9)).alloc (.cells #[.int .i64 ((nm.size : Int) + 1)] 3)).alloc (.cells #[.int .i64 (mo : Int)] 3)) := fun wx => pieces_any s _ _ wx
          have hcs := hs0.cell 0
          simp only [List.getElem?_toArray, List.getElem?_cons_zero] at hcs
          clear HFE HFE2 hcr
          go_wp2_with fail
          refine (HPC.out _).mono ?_
          rintro e w2 ⟨rfl, hw2⟩
          go_wp2_with fail
          have HU : Hid (Fo w s w2 ⟨#[]⟩ ⟨#[]⟩ 0 (nm.size + 1) (.slice none 0 0) []) := by
            rw [hw2]
            refine ⟨((((hs0.alloc _).alloc _).alloc _).alloc _).alloc _, ((((hf.alloc _).alloc _).alloc _).alloc _).alloc _, ((((he.alloc _).alloc _).alloc _).alloc _).alloc _, ?_, ?_, ⟨by simp [cellsB], .inl ⟨rfl, rfl⟩⟩, ?_⟩
            · have := ((((Lies.new U #[.int .i64 ((nm.size : Int) + 1)] 3).alloc (.cells #[.slice none 0 0] 22)).alloc (.cells #[.string s] 9)).alloc (.cells #[.int .i64 ((nm.size : Int) + 1)] 3)).alloc (.cells #[.int .i64 (mo : Int)] 3)
              rw [hzU] at this
              exact this
            · have := (((Lies.new (U.alloc (.cells #[.int .i64 ((nm.size : Int) + 1)] 3)) #[.slice none 0 0] 22).alloc (.cells #[.string s] 9)).alloc (.cells #[.int .i64 ((nm.size : Int) + 1)] 3)).alloc (.cells #[.int .i64 (mo : Int)] 3)
              rw [World.size_alloc, hzU] at this
              exact this
            · exact ((((hb.alloc (by omega) _).alloc (by simp; omega) _).alloc (by simp; omega) _).alloc (by simp; omega) _).alloc (by simp; omega) _
          have HG : Hid (Lies w2 (w.heap.size + 3 + 1 + 1) #[.string s] 9 ∧ Lies w2 (w.heap.size + 3 + 1 + 1 + 1) #[.int .i64 ((nm.size + 1 : Nat) : Int)] 3 ∧ Lies w2 (w.heap.size + 3 + 1 + 1 + 2) #[.int .i64 (mo : Int)] 3) := by
            have hz2 : ((U.alloc (.cells #[.int .i64 ((nm.size : Int) + 1)] 3)).alloc (.cells #[.slice none 0 0] 22)).heap.size = w.heap.size + 3 + 1 + 1 := by simp [hzU]
            rw [hw2]
            refine ⟨?_, ?_, ?_⟩
            · have := ((Lies.new ((U.alloc (.cells #[.int .i64 ((nm.size : Int) + 1)] 3)).alloc (.cells #[.slice none 0 0] 22)) #[.string s] 9).alloc (.cells #[.int .i64 ((nm.size : Int) + 1)] 3)).alloc (.cells #[.int .i64 (mo : Int)] 3)
              rw [hz2] at this
              exact this
            · have := (new_one ((U.alloc (.cells #[.int .i64 ((nm.size : Int) + 1)] 3)).alloc (.cells #[.slice none 0 0] 22)) (.cells #[.string s] 9) #[.int .i64 ((nm.size : Int) + 1)] 3).alloc (.cells #[.int .i64 (mo : Int)] 3)
              rw [hz2] at this
              exact this
            · have := new_two ((U.alloc (.cells #[.int .i64 ((nm.size : Int) + 1)] 3)).alloc (.cells #[.slice none 0 0] 22)) (.cells #[.string s] 9) (.cells #[.int .i64 ((nm.size : Int) + 1)] 3) #[.int .i64 (mo : Int)] 3
              rw [hz2] at this
              exact this
          have hw2z : w.heap.size + 5 ≤ w2.heap.size := by rw [hw2]; simp [hzU]
          rw [← hw2]
          clear hw2 HPC hcs c1 z1 c2 z2 c3 z3 hb hf he hs0 hzU
          refine (wpIn_wide (n := 9)).1 ?_
          refine' ra_out (by decide) (gf := 47) (lb := #[.pointer (some ⟨w.heap.size + 3 + 1 + 1 + 2, 0, none⟩), .pointer (some ⟨w.heap.size + 3 + 1 + 1 + 1, 0, none⟩), .pointer (some ⟨w.heap.size + 3 + 1 + 1, 0, none⟩)]) rfl (Go.Proofs.enters_of Tryd.func47 (by kernel_rfl) rfl) (pieces_seq s (by omega) (nm.size + 1) mo (by omega) hmo (w.heap.size + 3 + 1 + 1) 8 w2 HG.out.2.2 HG.out.2.1 HG.out.1) (vsP_size _ _ _) Kt.trans (fun W l o o' _ h1 h2 => Kt.book _ W l o o' h1 h2)
            (fun k W' => ∃ a v out, Hid (Fo w s W' ⟨#[]⟩ ⟨#[]⟩ 0 a v out) ∧ Hid (foldR s.data.toList (cuts s.data.toList (nm.size + 1) mo) (nm.size + 1) [] = foldR s.data.toList ((cuts s.data.toList (nm.size + 1) mo).drop k) a out) ∧ Hid (out.length ≤ 1000 * k ∧ a ≤ nm.size + 1))
            (fun c _ W' => c = .ret ∧ ∃ a v out, Hid (Fo w s W' ⟨#[]⟩ ⟨#[]⟩ 160 a v out) ∧ Hid (foldR s.data.toList (cuts s.data.toList (nm.size + 1) mo) (nm.size + 1) [] = none)) ?hI ?hIx ⟨_, _, _, HU.out, rfl, Nat.zero_le _, Nat.le_refl _⟩ _ ?assign ?body ?done ?stop
          case hI =>
            exact fun k W1 W2 row hs hg hr => by
              obtain ⟨a, v, out, h1, h2, h3⟩ := hs
              exact ⟨a, v, out, h1.out.turnV hw2z hg hr, h2, h3⟩
          case hIx =>
            exact fun c k W1 W2 row hs hg hr => by
              obtain ⟨e, a, v, out, h1, h2⟩ := hs
              exact ⟨e, a, v, out, h1.out.turnV hw2z hg hr, h2⟩
          case assign =>
            intro l2 k hk W1 K hK
            rw [vsP_at _ _ _ k hk]
            gi_wp2
            exact hK
          case stop =>
            rintro D c k W1 hD _ ⟨rfl, a, v, out, H, HN⟩ hd
            refine wpIn_wide.2 ?_
            go_wp2
            refine ⟨by simp, .inl ⟨_, _, rfl, run_takeDeferred hd, ?_⟩⟩
            have hP := H.out.turnV hw2z (grownBy_putObj' W1 D (.deferred none)) (fun r e => by cases e; exact ⟨hD, _, hd, .inl rfl⟩)
            have HR2 : Hid (R = (160, ⟨[], []⟩)) := by rw [HR.out, HN.out]; exact rfl
            exact ⟨_, results_fe rfl _ _ (w.heap.size + 1) (w.heap.size + 1 + 1) _ _ _ (by rfl) (by rfl) hP.f0 (load_err _ _ 160 (hP.e0.cell 0)) Tryd.underlying32 rfl (by kernel_rfl), by rw [HR2.out]; rfl, hP.be⟩
          case body =>
            rintro l2 k hk W1 hl2 hrec ⟨a, v, out, H, HC, HL⟩
            have hk' : k < (cuts s.data.toList (nm.size + 1) mo).length := by rw [vsP_len] at hk; exact hk
            have hin := cuts_in s.data.toList (nm.size + 1) mo _ (List.getElem_mem hk')
            rw [ctK_eq _ _ _ _ hk', len_list] at hin
            have hkl := cuts_len s.data.toList (nm.size + 1) mo
            rw [len_list] at hkl
            have HC2 : Hid (foldR s.data.toList (cuts s.data.toList (nm.size + 1) mo) (nm.size + 1) [] = foldR s.data.toList (ctK s.data.toList (nm.size + 1) mo k :: (cuts s.data.toList (nm.size + 1) mo).drop (k + 1)) a out) := by
              rw [HC.out, List.drop_eq_getElem_cons hk', ctK_eq _ _ _ _ hk']
              exact rfl
            obtain ⟨p, hp⟩ : ∃ p, p = ctK s.data.toList (nm.size + 1) mo k := ⟨_, rfl⟩
            rw [← hp] at hin HC2
            rw [← hp]
            obtain ⟨hlo, hla⟩ := HL.out
            obtain ⟨f, t⟩ := p
            dsimp only at hin
            dsimp only
            have hft := hin.1
            have hts := hin.2
            have hftI : (f : Int) ≤ (t : Int) := by omega
            have htsI : (t : Int) ≤ (s.size : Int) := by omega
            have hkb : k ≤ s.size + 1 := by omega
            clear hin hp HC hk' hkl
            by_cases hf0 : 0 < f
            · have hfI : (0 : Int) < (f : Int) := by omega
              have HC3 : Hid (foldR s.data.toList (cuts s.data.toList (nm.size + 1) mo) (nm.size + 1) [] = if 998 < 0 + t - f then none else foldR s.data.toList ((cuts s.data.toList (nm.size + 1) mo).drop (k + 1)) 0 ((out ++ [13, 10]) ++ stE s.data.toList f t)) := by
                rw [HC2.out]
                exact foldR_on _ f t _ a out 0 (out ++ [13, 10]) (by rw [if_pos hf0]) (by rw [if_pos hf0])
              have c4 := H.out.o0.cell 0
              simp only [List.getElem?_toArray, List.getElem?_cons_zero] at c4
              have e1 : IntKind.i64.wrap (t : Int) = (t : Int) := by rw [IntKind.wrap_i64]; omega
              have e2 : IntKind.i64.wrap ((t : Int) - (f : Int)) = (t : Int) - (f : Int) := by rw [IntKind.wrap_i64]; omega
              clear HC2 hf0
              gi_wp2_with fail
              refine ⟨trivial, ?_⟩
              have hst : out.length + (catT [⟨#[13, 10]⟩]).length ≤ 140737488355328 := by
                have : (catT [⟨#[13, 10]⟩]).length = 2 := by simp [catT]
                omega
              refine (CallsIn.inRound l2 (callsIn_wide.2 (lay_any w.heap.size v out [⟨#[13, 10]⟩] W1.heap.size 1 (W1.alloc (.cells #[.string ⟨#[13, 10]⟩] 9)) (Nat.le_trans H.out.be.size (by simp)) (own_below H.out.own ((Below.refl _ _).alloc (Nat.le_refl _) _)) (Lies.new W1 _ _) hst (by simp)))).mono ?_
              rintro e w3 ⟨v3, rfl, hl3⟩
              obtain ⟨⟨c5, z5, -⟩, hF3, hX3⟩ := H.out.laid ((Below.refl _ _).alloc (Nat.le_refl _) _) hl3
              obtain ⟨a3, cp3, hv3, -⟩ := own_bts hl3.own
              generalize (out ++ catT [⟨#[13, 10]⟩]).length = n3 at hv3
              subst hv3
              have HX3 : Hid _ := hX3
              have HF3 : Hid _ := hF3
              have hF3' : Fo w s (w3.setCell ⟨w.heap.size + 3 + 1, 0, none⟩ (.slice a3 n3 cp3)) ⟨#[]⟩ ⟨#[]⟩ 0 a (.slice a3 n3 cp3) (out ++ [13, 10]) := hF3
              have c6 := hF3'.a0.cell 0
              have z6 := hF3'.a0.frozen 0
              simp only [List.getElem?_toArray, List.getElem?_cons_zero] at c6
              have hA := hF3'.setA
              clear hl3 hst c4
              gi_upto_region 13 with fail
              obtain ⟨W4, hW4⟩ : ∃ W4, W4 = (w3.setCell ⟨w.heap.size + 3 + 1, 0, none⟩ (.slice a3 n3 cp3)).setCell ⟨w.heap.size + 3, 0, none⟩ (.int .i64 0) := ⟨_, rfl⟩
              have HX : Hid (Fo w s W4 ⟨#[]⟩ ⟨#[]⟩ 0 0 (.slice a3 n3 cp3) (out ++ [13, 10])) := by rw [hW4]; exact hA.1
              have HXC : Hid (Chg (Fx w W1) W1 W4) := by rw [hW4]; exact hX3.fx hA.2
              have HL2 : Hid ((out ++ [13, 10]).length ≤ 1000 * k + 2 ∧ 0 ≤ nm.size + 1) := ⟨by simp; omega, by omega⟩
              rw [← hW4]
              clear hW4 hA hF3' HF3 HX3 hX3 hF3 c5 z5 c6 z6
              by_cases hbig : 998 < 0 + t - f
              · have hbI : (998 : Int) < (t : Int) - (f : Int) := by omega
                have hX := HX.out
                have d1 := hX.f0.cell 0
                have y1 := hX.f0.frozen 0
                have d2 := hX.f0.cell 1
                have y2 := hX.f0.frozen 1
                have d3 := hX.e0.cell 0
                have y3 := hX.e0.frozen 0
                have d4 := hX.a0.cell 0
                simp only [List.getElem?_toArray, List.getElem?_cons_zero, List.getElem?_cons_succ] at d1 d2 d3 d4
                have HN2 : Hid (foldR s.data.toList (cuts s.data.toList (nm.size + 1) mo) (nm.size + 1) [] = none) := by rw [HC3.out, if_pos hbig]; exact rfl
                clear hX
                gi_wp2_with fail
                have hZ := HX.out.setBad
                have hK := (H.out.kept (C := w2.heap.size) (HXC.out.fx hZ.2)).1
                first | exact ⟨hK, rfl, _, _, _, hZ.1, HN2.out⟩ | exact ⟨hK, rfl, _, _, _, hZ.1⟩ | exact ⟨hK, rfl, ⟨_, _, _, hZ.1⟩, HN2.out⟩ | exact ⟨hK, rfl, _, ⟨_, _, hZ.1⟩, HN2.out⟩ | exact ⟨hK, rfl, _, _, ⟨_, hZ.1⟩, HN2.out⟩ | exact Nat.zero
              · have hbI : ¬ (998 : Int) < (t : Int) - (f : Int) := by omega
                have HC4 : Hid (foldR s.data.toList (cuts s.data.toList (nm.size + 1) mo) (nm.size + 1) [] = foldR s.data.toList ((cuts s.data.toList (nm.size + 1) mo).drop (k + 1)) 0 (out ++ [13, 10] ++ stE s.data.toList f t)) := by rw [HC3.out, if_neg hbig]; exact rfl
                have d1 := HX.out.o0.cell 0
                have d2 := HX.out.s0.cell 0
                have d4 := HX.out.a0.cell 0
                simp only [List.getElem?_toArray, List.getElem?_cons_zero] at d1 d2 d4
                gi_wp2_with fail
                refine wpIn_region_late (fun wx => wx.cell? ⟨w.heap.size + 3 + 1, 0, none⟩ = some (.slice a3 n3 cp3) ∧ wx.cell? ⟨w.heap.size, 0, none⟩ = some (.string s)) 7 (by kernel_rfl) (by kernel_rfl) ?lo ⟨d1, d2⟩ (fun hHeld => ?_)
                case lo => rintro ⟨_, _, h⟩; exact h
                refine wpAnyE_take (i := 0) (d := some 51) (v := (.slice a3 n3 cp3)) rfl (by kernel_rfl) (by kernel_rfl) (by kernel_rfl) (by kernel_rfl) (fun _ _ _ h => h) rfl rfl ?hy (by first | assumption | exact hHeld) ?_
                case hy => (intro w' hSw; obtain ⟨q1, q2⟩ := hSw; go_simp <;> (first | with_reducible rfl | omega | skip))
                simp only [Act.put, List.setIfInBounds_toArray, List.set_cons_zero, List.set_cons_succ]
                refine wpAnyE_take (i := 1) (d := some 52) (v := .string s) rfl (by kernel_rfl) (by kernel_rfl) (by kernel_rfl) (by kernel_rfl) (fun _ _ _ h => h) rfl rfl ?hy (by first | assumption | exact hHeld) ?_
                case hy => (intro w' hSw; obtain ⟨q1, q2⟩ := hSw; go_simp <;> (first | with_reducible rfl | omega | skip))
                simp only [Act.put, List.setIfInBounds_toArray, List.set_cons_zero, List.set_cons_succ]
                refine wpAnyE_take (i := 2) (d := some 53) (v := .int .i64 (f : Int)) rfl (by kernel_rfl) (by kernel_rfl) (by kernel_rfl) (by kernel_rfl) (fun _ _ _ h => h) rfl rfl ?hy (by first | assumption | exact hHeld) ?_
                case hy => (intro w' hSw; obtain ⟨q1, q2⟩ := hSw; go_simp <;> (first | with_reducible rfl | omega | skip))
                simp only [Act.put, List.setIfInBounds_toArray, List.set_cons_zero, List.set_cons_succ]
                refine wpAnyE_take (i := 3) (d := some 54) (v := .int .i64 (t : Int)) rfl (by kernel_rfl) (by kernel_rfl) (by kernel_rfl) (by kernel_rfl) (fun _ _ _ h => h) rfl rfl ?hy (by first | assumption | exact hHeld) ?_
                case hy => (intro w' hSw; obtain ⟨q1, q2⟩ := hSw; go_simp <;> (first | with_reducible rfl | omega | skip))
                simp only [Act.put, List.setIfInBounds_toArray, List.set_cons_zero, List.set_cons_succ]
                refine wpAnyE_take (i := 4) (d := some 55) (v := .string (s.extract f t)) rfl (by kernel_rfl) (by kernel_rfl) (by kernel_rfl) (by kernel_rfl) (fun _ _ _ h => h) rfl rfl ?hy (by first | assumption | exact hHeld) ?_
                case hy => (intro w' hSw; obtain ⟨q1, q2⟩ := hSw; go_simp <;> (first | with_reducible rfl | omega | skip))
                simp only [Act.put, List.setIfInBounds_toArray, List.set_cons_zero, List.set_cons_succ]
                refine wpAnyE_one (i := 5) (by kernel_rfl) rfl rfl ?_
                go_simp
                refine ⟨⟨(HX.out.o0.alloc _).cell 0, (HX.out.s0.alloc _).cell 0⟩, ?_⟩
                refine wpAnyE_one (i := 6) (by kernel_rfl) rfl rfl ?_
                go_simp
                have hst : (out ++ [13, 10]).length + (catT [s.extract f t]).length ≤ 140737488355328 := by
                  have : (catT [s.extract f t]).length ≤ t - f := by simp [catT]; omega
                  have h8 := HL2.out
                  omega
                refine (lay_any w.heap.size (.slice a3 n3 cp3) (out ++ [13, 10]) [s.extract f t] W4.heap.size 1 (W4.alloc (.cells #[.string (s.extract f t)] 9)).drew (Nat.le_trans HX.out.be.size (by simp)) (own_below HX.out.own (((Below.refl _ _).alloc (Nat.le_refl _) _).drew)) (Lies.new W4 _ _).drew hst (by simp)).mono ?_
                rintro e w5 ⟨v5, rfl, hl5⟩
                obtain ⟨⟨g1, g2, g3⟩, hF5, hX5⟩ := HX.out.laid (((Below.refl _ _).alloc (Nat.le_refl _) _).drew) hl5
                refine ⟨⟨g1, g3⟩, ?_⟩
                have HF5 : Hid _ := hF5
                have HX5 : Hid _ := hX5
                have hlx : (s.extract f t).data.toList = stE s.data.toList f t := by rw [ext_list]; rfl
                have hsl := stE_len s.data.toList f t (by rw [len_list]; omega)
                obtain ⟨a5, cp5, hv5, -⟩ := own_bts hl5.own
                generalize (out ++ [13, 10] ++ catT [s.extract f t]).length = n5 at hv5
                subst hv5
                clear hF5 hX5 hl5 hHeld
                refine wpAnyE_one (i := 7) (by kernel_rfl) rfl rfl ?_
                go_simp
                refine wpAnyE_done (by kernel_rfl) ?_ _
                gi_wp2
                have hF6 := HF5.out
                rw [hlx] at hF6
                have hck := H.out.kept (C := w2.heap.size) (HXC.out.fx HX5.out)
                exact ⟨hck.1, hck.2, _, _, _, hF6, HC4.out, by rw [List.length_append, hsl]; have h8 := HL2.out; refine ⟨?_, ?_⟩ <;> omega⟩
            · have hfI : ¬ (0 : Int) < (f : Int) := by omega
              have HC3 : Hid (foldR s.data.toList (cuts s.data.toList (nm.size + 1) mo) (nm.size + 1) [] = if 998 < a + t - f then none else foldR s.data.toList ((cuts s.data.toList (nm.size + 1) mo).drop (k + 1)) a (out ++ stE s.data.toList f t)) := by
                rw [HC2.out]
                exact foldR_on _ f t _ a out a out (by rw [if_neg hf0]) (by rw [if_neg hf0])
              obtain ⟨a3, cp3, hv3, -⟩ := own_bts H.out.own
              generalize out.length = n3 at hv3
              subst hv3
              have HX : Hid (Fo w s W1 ⟨#[]⟩ ⟨#[]⟩ 0 a (.slice a3 n3 cp3) out) := H.out
              have HXC : Hid (Chg (Fx w W1) W1 W1) := Chg.refl _ _
              have HL2 : Hid (out.length ≤ 1000 * k + 2 ∧ a ≤ nm.size + 1) := ⟨by have := HL.out.1; omega, HL.out.2⟩
              have e1 : IntKind.i64.wrap ((a : Int) + (t : Int)) = (a : Int) + (t : Int) := by rw [IntKind.wrap_i64]; omega
              have e2 : IntKind.i64.wrap ((a : Int) + (t : Int) - (f : Int)) = (a : Int) + (t : Int) - (f : Int) := by rw [IntKind.wrap_i64]; omega
              clear HC2 hf0
              by_cases hbig : 998 < a + t - f
              · have hbI : (998 : Int) < (a : Int) + (t : Int) - (f : Int) := by omega
                have hX := HX.out
                have d1 := hX.f0.cell 0
                have y1 := hX.f0.frozen 0
                have d2 := hX.f0.cell 1
                have y2 := hX.f0.frozen 1
                have d3 := hX.e0.cell 0
                have y3 := hX.e0.frozen 0
                have d4 := hX.a0.cell 0
                simp only [List.getElem?_toArray, List.getElem?_cons_zero, List.getElem?_cons_succ] at d1 d2 d3 d4
                have HN2 : Hid (foldR s.data.toList (cuts s.data.toList (nm.size + 1) mo) (nm.size + 1) [] = none) := by rw [HC3.out, if_pos hbig]; exact rfl
                clear hX
                gi_wp2_with fail
                have hZ := HX.out.setBad
                have hK := (H.out.kept (C := w2.heap.size) (HXC.out.fx hZ.2)).1
                first | exact ⟨hK, rfl, _, _, _, hZ.1, HN2.out⟩ | exact ⟨hK, rfl, _, _, _, hZ.1⟩ | exact ⟨hK, rfl, ⟨_, _, _, hZ.1⟩, HN2.out⟩ | exact ⟨hK, rfl, _, ⟨_, _, hZ.1⟩, HN2.out⟩ | exact ⟨hK, rfl, _, _, ⟨_, hZ.1⟩, HN2.out⟩ | exact Nat.zero
              · have hbI : ¬ (998 : Int) < (a : Int) + (t : Int) - (f : Int) := by omega
                have HC4 : Hid (foldR s.data.toList (cuts s.data.toList (nm.size + 1) mo) (nm.size + 1) [] = foldR s.data.toList ((cuts s.data.toList (nm.size + 1) mo).drop (k + 1)) a (out ++ stE s.data.toList f t)) := by rw [HC3.out, if_neg hbig]; exact rfl
                have d1 := HX.out.o0.cell 0
                have d2 := HX.out.s0.cell 0
                have d4 := HX.out.a0.cell 0
                simp only [List.getElem?_toArray, List.getElem?_cons_zero] at d1 d2 d4
                gi_wp2_with fail
                refine wpIn_region_late (fun wx => wx.cell? ⟨w.heap.size + 3 + 1, 0, none⟩ = some (.slice a3 n3 cp3) ∧ wx.cell? ⟨w.heap.size, 0, none⟩ = some (.string s)) 7 (by kernel_rfl) (by kernel_rfl) ?lo ⟨d1, d2⟩ (fun hHeld => ?_)
                case lo => rintro ⟨_, _, h⟩; exact h
                refine wpAnyE_take (i := 0) (d := some 51) (v := (.slice a3 n3 cp3)) rfl (by kernel_rfl) (by kernel_rfl) (by kernel_rfl) (by kernel_rfl) (fun _ _ _ h => h) rfl rfl ?hy (by first | assumption | exact hHeld) ?_
                case hy => (intro w' hSw; obtain ⟨q1, q2⟩ := hSw; go_simp <;> (first | with_reducible rfl | omega | skip))
                simp only [Act.put, List.setIfInBounds_toArray, List.set_cons_zero, List.set_cons_succ]
                refine wpAnyE_take (i := 1) (d := some 52) (v := .string s) rfl (by kernel_rfl) (by kernel_rfl) (by kernel_rfl) (by kernel_rfl) (fun _ _ _ h => h) rfl rfl ?hy (by first | assumption | exact hHeld) ?_
                case hy => (intro w' hSw; obtain ⟨q1, q2⟩ := hSw; go_simp <;> (first | with_reducible rfl | omega | skip))
                simp only [Act.put, List.setIfInBounds_toArray, List.set_cons_zero, List.set_cons_succ]
                refine wpAnyE_take (i := 2) (d := some 53) (v := .int .i64 (f : Int)) rfl (by kernel_rfl) (by kernel_rfl) (by kernel_rfl) (by kernel_rfl) (fun _ _ _ h => h) rfl rfl ?hy (by first | assumption | exact hHeld) ?_
                case hy => (intro w' hSw; obtain ⟨q1, q2⟩ := hSw; go_simp <;> (first | with_reducible rfl | omega | skip))
                simp only [Act.put, List.setIfInBounds_toArray, List.set_cons_zero, List.set_cons_succ]
                refine wpAnyE_take (i := 3) (d := some 54) (v := .int .i64 (t : Int)) rfl (by kernel_rfl) (by kernel_rfl) (by kernel_rfl) (by kernel_rfl) (fun _ _ _ h => h) rfl rfl ?hy (by first | assumption | exact hHeld) ?_
                case hy => (intro w' hSw; obtain ⟨q1, q2⟩ := hSw; go_simp <;> (first | with_reducible rfl | omega | skip))
                simp only [Act.put, List.setIfInBounds_toArray, List.set_cons_zero, List.set_cons_succ]
                refine wpAnyE_take (i := 4) (d := some 55) (v := .string (s.extract f t)) rfl (by kernel_rfl) (by kernel_rfl) (by kernel_rfl) (by kernel_rfl) (fun _ _ _ h => h) rfl rfl ?hy (by first | assumption | exact hHeld) ?_
                case hy => (intro w' hSw; obtain ⟨q1, q2⟩ := hSw; go_simp <;> (first | with_reducible rfl | omega | skip))
                simp only [Act.put, List.setIfInBounds_toArray, List.set_cons_zero, List.set_cons_succ]
                refine wpAnyE_one (i := 5) (by kernel_rfl) rfl rfl ?_
                go_simp
                refine ⟨⟨(HX.out.o0.alloc _).cell 0, (HX.out.s0.alloc _).cell 0⟩, ?_⟩
                refine wpAnyE_one (i := 6) (by kernel_rfl) rfl rfl ?_
                go_simp
                have hst : (out).length + (catT [s.extract f t]).length ≤ 140737488355328 := by
                  have : (catT [s.extract f t]).length ≤ t - f := by simp [catT]; omega
                  have h8 := HL2.out
                  omega
                refine (lay_any w.heap.size (.slice a3 n3 cp3) (out) [s.extract f t] W1.heap.size 1 (W1.alloc (.cells #[.string (s.extract f t)] 9)).drew (Nat.le_trans HX.out.be.size (by simp)) (own_below HX.out.own (((Below.refl _ _).alloc (Nat.le_refl _) _).drew)) (Lies.new W1 _ _).drew hst (by simp)).mono ?_
                rintro e w5 ⟨v5, rfl, hl5⟩
                obtain ⟨⟨g1, g2, g3⟩, hF5, hX5⟩ := HX.out.laid (((Below.refl _ _).alloc (Nat.le_refl _) _).drew) hl5
                refine ⟨⟨g1, g3⟩, ?_⟩
                have HF5 : Hid _ := hF5
                have HX5 : Hid _ := hX5
                have hlx : (s.extract f t).data.toList = stE s.data.toList f t := by rw [ext_list]; rfl
                have hsl := stE_len s.data.toList f t (by rw [len_list]; omega)
                obtain ⟨a5, cp5, hv5, -⟩ := own_bts hl5.own
                generalize (out ++ catT [s.extract f t]).length = n5 at hv5
                subst hv5
                clear hF5 hX5 hl5 hHeld
                refine wpAnyE_one (i := 7) (by kernel_rfl) rfl rfl ?_
                go_simp
                refine wpAnyE_done (by kernel_rfl) ?_ _
                gi_wp2
                have hF6 := HF5.out
                rw [hlx] at hF6
                have hck := H.out.kept (C := w2.heap.size) (HXC.out.fx HX5.out)
                exact ⟨hck.1, hck.2, _, _, _, hF6, HC4.out, by rw [List.length_append, hsl]; have h8 := HL2.out; refine ⟨?_, ?_⟩ <;> omega⟩
          case done =>
            rintro D W1 hD ⟨a, v, out, H, HC, HL⟩ hd
            have HR2 : Hid (R = (0, ⟨nm.data.toList, out⟩)) := by
              rw [HR.out, HC.out, vsP_len, List.drop_length]
              exact rfl
            have hcv := own_tx H.out.own
            have d0 := H.out.o0.cell 0
            have d1 := H.out.f0.cell 0
            have y1 := H.out.f0.frozen 0
            have d2 := H.out.f0.cell 1
            have y2 := H.out.f0.frozen 1
            have d3 := H.out.e0.cell 0
            have y3 := H.out.e0.frozen 0
            simp only [List.getElem?_toArray, List.getElem?_cons_zero, List.getElem?_cons_succ] at d0 d1 d2 d3
            obtain ⟨T, hT⟩ : ∃ T, T = tx out := ⟨_, rfl⟩
            rw [← hT] at hcv
            have HT : Hid (T = tx out) := hT
            clear hT HC HL HR
            go_wp2_with fail
            obtain ⟨X, hX⟩ : ∃ X, X = ((W1.setCell ⟨w.heap.size + 1, 0, none⟩ (.string nm)).setCell ⟨w.heap.size + 1, 1, none⟩ (.string T)).setCell ⟨w.heap.size + 1 + 1, 0, none⟩ (.int .i64 0) := ⟨_, rfl⟩
            have k1 : Lies X (w.heap.size + 1) #[.string nm, .string T] 32 := by
              rw [hX]
              exact ((H.out.f0.set 0 (.string nm)).set 1 (.string T)).set_other (a := ⟨w.heap.size + 1 + 1, 0, none⟩) (by dsimp only; omega) _
            have k2 : Lies X (w.heap.size + 1 + 1) #[.int .i64 0] 25 := by
              rw [hX]
              exact ((H.out.e0.set_other (a := ⟨w.heap.size + 1, 0, none⟩) (by dsimp only; omega) _).set_other (a := ⟨w.heap.size + 1, 1, none⟩) (by dsimp only; omega) _).set 0 (.int .i64 0)
            have kX : X.heap[D]? = some (.deferred (some [])) := by
              rw [hX]
              exact ((kf_set 0 _ _ _).trans ((kf_set 0 _ _ _).trans (kf_set 0 _ _ _))).same D _ (Nat.zero_le _) hd rfl
            have kB : Below w.heap.size w X := by
              rw [hX]
              exact ((H.out.be.setCell (p := ⟨w.heap.size + 1, 0, none⟩) (by dsimp only; omega) _).setCell (p := ⟨w.heap.size + 1, 1, none⟩) (by dsimp only; omega) _).setCell (p := ⟨w.heap.size + 1 + 1, 0, none⟩) (by dsimp only; omega) _
            rw [← hX]
            clear hX
            refine ⟨by simp, .inl ⟨_, _, rfl, run_takeDeferred kX, ?_⟩⟩
            have hr : ∀ r, some D = some r → ∃ o : Obj, X.heap[r]? = some o ∧ o.isCells = false := fun r e => by cases e; exact ⟨_, kX, rfl⟩
            have p1 := lies_turn k1 (grownBy_putObj' X D (.deferred none)) hr
            have p2 := lies_turn k2 (grownBy_putObj' X D (.deferred none)) hr
            exact ⟨_, results_fe rfl _ _ (w.heap.size + 1) (w.heap.size + 1 + 1) _ _ _ (by rfl) (by rfl) p1 (load_err _ _ 0 (p2.cell 0)) Tryd.underlying32 rfl (by kernel_rfl), by rw [HR2.out, HT.out, tx_back]; rfl,
              below_turn kB (Nat.le_refl _) (Nat.le_refl _) (grownBy_putObj' X D (.deferred none)) (fun r e => by cases e; exact ⟨by omega, _, kX, rfl⟩)⟩
end Go.Proofs.YtpepjiocjcjeeabDoor
