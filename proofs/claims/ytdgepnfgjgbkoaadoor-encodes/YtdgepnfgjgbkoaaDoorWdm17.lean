/-
  Decode: from round to round.
-/
import Derived.Test.YtdgepnfgjgbkoaaDoorWdl17
namespace Go.Proofs.YtdgepnfgjgbkoaaDoor
open Go.RowKit Go.Shelf

/-- What a good round of Decode may turn. -/
def FV (w : World) (b : Nat) (W : World) (k : Nat) : Prop := Fb w.heap.size W k ∨ k = b ∨ k = b + 1 ∨ k = b + 1 + 1
theorem FV.fw {w : World} {b : Nat} {W : World} {k : Nat} (h : FV w b W k) : FW w b W k := by
  rcases h with h | h | h | h
  · exact .inl h
  · exact .inr (.inl h)
  · exact .inr (.inr (.inl h))
  · exact .inr (.inr (.inr (.inl h)))
theorem Dw.next {w : World} {s : ByteArray} {b : Nat} {W W' : World} {v v' : Value} {out out' : List UInt8} {done done' : Nat} {j j' : Bool} (H : Dw w s b W v out done j) (h : Chg (FV w b W) W W')
    (ho : Lies W' b #[v'] 38) (hd : Lies W' (b + 1) #[.int .i64 (done' : Int)] 3) (hj : Lies W' (b + 1 + 1) #[.bool j'] 4) (hown : W'.ownsRow w.heap.size 5 1 v' out'.length (cellsB out')) : Dw w s b W' v' out' done' j' := by
  have hwb := H.wb
  obtain ⟨_, _, h3, h4, h5⟩ := H.keep 0 (h.mono fun _ => FV.fw)
  refine ⟨h4, h.lies H.r0 ?_, h.lies H.p0 ?_, ho, hd, hj, h5, hown, h3, hwb⟩
  · rintro (h | h | h | h)
    · exact Fb.no H.r0 (by decide) h
    all_goals omega
  · rintro (h | h | h | h)
    · exact Fb.no H.p0 (by decide) h
    all_goals omega
/-- Nothing old was turned. -/
theorem Dw.on {w : World} {s : ByteArray} {b : Nat} {W W' : World} {v : Value} {out : List UInt8} {done : Nat} {j : Bool} (H : Dw w s b W v out done j) (h : Below W.heap.size W W') : Dw w s b W' v out done j :=
  H.next (Chg.of_below h) (H.o0.below h H.o0.lt) (H.d0.below h H.d0.lt) (H.j0.below h H.j0.lt) (own_below H.own h)
theorem own_cells {w W : World} {n : Nat} {v v' : Value} {out : List UInt8} {g t : Nat} {cs : Array Value} {p : Addr} (hl : Lies W g cs t) (ht : t ≠ 5) (hp : p.block = g) (h : W.ownsRow w.heap.size 5 1 v n (cellsB out)) : (W.setCell p v').ownsRow w.heap.size 5 1 v n (cellsB out) :=
  own_keep h (fun k hk => Below.heap_setCell _ _ _ _ (by rw [hp]; exact own_apart h hl ht k hk))
/-- joins is set. -/
theorem Dw.setJ {w : World} {s : ByteArray} {b : Nat} {W : World} {v : Value} {out : List UInt8} {done : Nat} {j : Bool} (H : Dw w s b W v out done j) (j' : Bool) :
    Dw w s b (W.setCell ⟨b + 1 + 1, 0, none⟩ (.bool j')) v out done j' ∧ Chg (FV w b W) W (W.setCell ⟨b + 1 + 1, 0, none⟩ (.bool j')) := by
  have hc : Chg (FV w b W) W (W.setCell ⟨b + 1 + 1, 0, none⟩ (.bool j')) := (Chg.refl _ W).set (p := ⟨b + 1 + 1, 0, none⟩) (.inl (.inr (.inr (.inr rfl)))) _
  exact ⟨H.next hc (H.o0.set_other (a := ⟨b + 1 + 1, 0, none⟩) (by dsimp only; omega) _) (H.d0.set_other (a := ⟨b + 1 + 1, 0, none⟩) (by dsimp only; omega) _) (H.j0.set 0 _) (own_cells H.j0 (by decide) rfl H.own), hc⟩
/-- done is set. -/
theorem Dw.setD {w : World} {s : ByteArray} {b : Nat} {W : World} {v : Value} {out : List UInt8} {done : Nat} {j : Bool} (H : Dw w s b W v out done j) (d : Nat) :
    Dw w s b (W.setCell ⟨b + 1, 0, none⟩ (.int .i64 (d : Int))) v out d j ∧ Chg (FV w b W) W (W.setCell ⟨b + 1, 0, none⟩ (.int .i64 (d : Int))) := by
  have hc : Chg (FV w b W) W (W.setCell ⟨b + 1, 0, none⟩ (.int .i64 (d : Int))) := (Chg.refl _ W).set (p := ⟨b + 1, 0, none⟩) (.inl (.inr (.inr (.inl rfl)))) _
  exact ⟨H.next hc (H.o0.set_other (a := ⟨b + 1, 0, none⟩) (by dsimp only; omega) _) (H.d0.set 0 _) (H.j0.set_other (a := ⟨b + 1, 0, none⟩) (by dsimp only; omega) _) (own_cells H.d0 (by decide) rfl H.own), hc⟩
/-- The text is longer. -/
theorem Dw.setO {w : World} {s : ByteArray} {b : Nat} {W W1 : World} {v v' : Value} {out out' : List UInt8} {done : Nat} {j : Bool} (H : Dw w s b W v out done j) (ho : W1.ownsRow w.heap.size 5 1 v' out'.length (cellsB out')) (hg : W.grownBy W1 v.ownBlock) :
    Dw w s b (W1.setCell ⟨b, 0, none⟩ v') v' out' done j ∧ Chg (FV w b W) W (W1.setCell ⟨b, 0, none⟩ v') ∧ Lies W1 b #[v] 38 := by
  have h1 : Chg (FV w b W) W W1 := chg_rowF (fun _ => .inl) (Chg.refl _ W) H.own hg
  have hb1 : ∀ g t (cs : Array Value), Lies W g cs t → t ≠ 5 → Lies W1 g cs t := fun g t cs hl ht => (hg.block g hl.lt (fun e => by
    exact own_apart H.own hl ht g e.symm rfl)).trans hl
  have hc : Chg (FV w b W) W (W1.setCell ⟨b, 0, none⟩ v') := h1.set (p := ⟨b, 0, none⟩) (.inl (.inr (.inl rfl))) _
  have o1 := hb1 b _ _ H.o0 (by decide)
  exact ⟨H.next hc (o1.set 0 _) ((hb1 _ _ _ H.d0 (by decide)).set_other (a := ⟨b, 0, none⟩) (by dsimp only; omega) _) ((hb1 _ _ _ H.j0 (by decide)).set_other (a := ⟨b, 0, none⟩) (by dsimp only; omega) _) (own_cells o1 (by decide) rfl ho), hc, o1⟩
/-- append of a text, its run known, within a fence. -/
theorem wpListIn_app {F : Fence} {n : Nat} {ops : Array Oper} {rest : List Oper} {o : Oper} {a : Act} {w w' : World} {v v' : Value} {T : ByteArray} {Q : Exit → Act → World → Prop} (hgd : o.guard = none) (sl x : Operand)
    (ho : o.op = .call { callee := .builtin .append, args := #[sl, x], argTypes := #[38, 9] }) (hty : o.type = 38) (hr : (Builtin.append_ #[38, 9] 38 #[v, .string T]).run Tryd.prog w = .ok v' w') (hs : a.eval sl = v) (hx : a.eval x = .string T)
    (h : wpListIn F n Tryd.prog ops Q rest (a.put o.dst v') w') : wpListIn F n Tryd.prog ops Q (o :: rest) a w := by
  refine wpListIn_plain hgd fun K hK => ?_
  unfold Oper.wpIn
  refine ⟨?_, ?_⟩
  · simp [Oper.about, ho, resolve, Target.leads, Sem.run_pure]
  · rw [Oper.semAt_plain F _ _ (by rw [ho]; intro c hc'; cases hc')]
    simp [execOp, ho, resolve, invoke, builtin, hs, hx, hty, hr, Result.andThen]
    exact hK _ _ h
theorem wp_app {o : Oper} {a : Act} {w w' : World} {v v' : Value} {T : ByteArray} {K : Act → World → Prop} {Q : Exit → Act → World → Prop} (sl x : Operand)
    (ho : o.op = .call { callee := .builtin .append, args := #[sl, x], argTypes := #[38, 9] }) (hty : o.type = 38) (hr : (Builtin.append_ #[38, 9] 38 #[v, .string T]).run Tryd.prog w = .ok v' w') (hs : a.eval sl = v) (hx : a.eval x = .string T)
    (h : K (a.put o.dst v') w') : o.wp Tryd.prog a w K Q := by
  unfold Oper.wp
  simp [execOp, ho, resolve, invoke, builtin, hs, hx, hty, hr, Result.andThen]
  exact h
/-- A text behind the text. -/
theorem Dw.app {w : World} {s : ByteArray} {b : Nat} {W : World} {v : Value} {out : List UInt8} {done : Nat} {j : Bool} (H : Dw w s b W v out done j) (T : ByteArray) (hl : out.length + T.size ≤ 140737488355328) :
    ∃ a n cp W1, (Builtin.append_ #[38, 9] 38 #[v, .string T]).run Tryd.prog W = .ok (.slice a n cp) W1 ∧ Dw w s b (W1.setCell ⟨b, 0, none⟩ (.slice a n cp)) (.slice a n cp) (out ++ T.data.toList) done j ∧
      Chg (FV w b W) W (W1.setCell ⟨b, 0, none⟩ (.slice a n cp)) ∧ Lies W1 b #[v] 38 ∧ Lies W1 (b + 1) #[.int .i64 (done : Int)] 3 ∧ Lies W1 (b + 1 + 1) #[.bool j] 4 ∧ Lies W1 w.heap.size #[.string s] 9 := by
  obtain ⟨i0, hi, hz0, hz1, hz2⟩ := info_parts info5
  obtain ⟨v', W1, hr, ho, hg, _⟩ := Lib.run_append_own_string (P := Tryd.prog) W w.heap.size 38 9 38 5 i0 Tryd.underlying38 Tryd.underlying9 hi hz0 hz1 hz2 v out.length _ H.own T (by unfold maxLen; omega) hl H.be.size
  have ho2 : W1.ownsRow w.heap.size 5 1 v' (out ++ T.data.toList).length (cellsB (out ++ T.data.toList)) := by
    rw [cellsB_append, List.length_append, len_list]
    exact ho
  obtain ⟨a, cp, hv, _⟩ := own_bts ho2
  rw [hv] at hr ho2
  obtain ⟨h1, h2, h3⟩ := H.setO ho2 hg
  have hb1 : ∀ g t (cs : Array Value), Lies W g cs t → t ≠ 5 → Lies W1 g cs t := fun g t cs hl ht => (hg.block g hl.lt (fun e => own_apart H.own hl ht g e.symm rfl)).trans hl
  exact ⟨a, _, cp, W1, hr, h1, h2, h3, hb1 _ _ _ H.d0 (by decide), hb1 _ _ _ H.j0 (by decide), hb1 _ _ _ H.s0 (by decide)⟩
/-- The same, before it is stored. -/
theorem Dw.app2 {w : World} {s : ByteArray} {b : Nat} {W : World} {v : Value} {out : List UInt8} {done : Nat} {j : Bool} (H : Dw w s b W v out done j) (T : ByteArray) (hl : out.length + T.size ≤ 140737488355328) :
    ∃ a n cp W1, (Builtin.append_ #[38, 9] 38 #[v, .string T]).run Tryd.prog W = .ok (.slice a n cp) W1 ∧ (convert 38 9 (.slice a n cp)).run Tryd.prog W1 = .ok (.string (bS (out ++ T.data.toList))) W1 ∧ Chg (FV w b W) W W1 ∧
      (∀ g t (cs : Array Value), Lies W g cs t → t ≠ 5 → Lies W1 g cs t) := by
  obtain ⟨i0, hi, hz0, hz1, hz2⟩ := info_parts info5
  obtain ⟨v', W1, hr, ho, hg, _⟩ := Lib.run_append_own_string (P := Tryd.prog) W w.heap.size 38 9 38 5 i0 Tryd.underlying38 Tryd.underlying9 hi hz0 hz1 hz2 v out.length _ H.own T (by unfold maxLen; omega) hl H.be.size
  have ho2 : W1.ownsRow w.heap.size 5 1 v' (out ++ T.data.toList).length (cellsB (out ++ T.data.toList)) := by
    rw [cellsB_append, List.length_append, len_list]
    exact ho
  have hcv := own_conv ho2
  obtain ⟨a, cp, hv, _⟩ := own_bts ho2
  rw [hv] at hr hcv
  have hb1 : ∀ g t (cs : Array Value), Lies W g cs t → t ≠ 5 → Lies W1 g cs t := fun g t cs hl ht => (hg.block g hl.lt (fun e => own_apart H.own hl ht g e.symm rfl)).trans hl
  exact ⟨a, _, cp, W1, hr, hcv, chg_rowF (fun _ => .inl) (Chg.refl _ W) H.own hg, hb1⟩
theorem Dst.fin {l : List UInt8} {out : List UInt8} {done : Nat} {j : Bool} (h : Dst l (wdsA l).length out done j) : decW l = (out ++ l.drop done, 0, 0) := by
  have ha := h.all
  rw [List.drop_length] at ha
  exact ha
/-- Changes behind changes. -/
theorem FV.later {w : World} {b : Nat} {W W1 : World} (h : Chg (FV w b W) W W1) {i : Nat} (hi : FV w b W1 i) : FV w b W i ∨ W.heap.size ≤ i := by
  rcases hi with ⟨h1, cur, h2⟩ | hi
  · rcases Nat.lt_or_ge i W.heap.size with hlt | hge
    · by_cases hf : FV w b W i
      · exact .inl hf
      · exact .inl (.inl ⟨h1, cur, (h.block i hlt hf).symm.trans h2⟩)
    · exact .inr hge
  · exact .inl (.inr hi)
theorem Chg.fv {w : World} {b : Nat} {W W1 W2 : World} (h : Chg (FV w b W) W W1) (k : Chg (FV w b W1) W1 W2) : Chg (FV w b W) W W2 := h.then k (fun _ => FV.later h)
/-- A round's end. -/
theorem Dw.post {w : World} {s : ByteArray} {b : Nat} {W W' : World} {v : Value} {out : List UInt8} {done : Nat} {j : Bool} (H : Dw w s b W v out done j) (C : Nat) (h : Chg (FV w b W) W W') : KeepsFrom C W W' ∧ Kg (· = b + 1 + 1 + 1) W W' := by
  obtain ⟨h1, h2, _⟩ := H.keep C (h.mono fun _ => FV.fw)
  exact ⟨h1, h2⟩
/-- Where the round leaves. -/
theorem Dw.leave {w : World} {s : ByteArray} {b : Nat} {W W1 : World} {v : Value} {out : List UInt8} {done : Nat} {j : Bool} (H : Dw w s b W v out done j) (C : Nat) (h : Below W.heap.size W W1) (e a : Nat) (W' : World)
    (hW : W' = ((W1.setCell ⟨w.heap.size + 1, 0, none⟩ (.string ⟨#[]⟩)).setCell ⟨w.heap.size + 1 + 1, 0, none⟩ (.int .i64 (e : Int))).setCell ⟨w.heap.size + 1 + 1, 1, none⟩ (.int .i64 (a : Int))) : KeepsFrom C W W' ∧ Dx w W' e a := by
  have hwb := H.wb
  have hc : Chg (FW w b W) W W' := by
    rw [hW]
    exact (((Chg.of_below h).set (p := ⟨w.heap.size + 1, 0, none⟩) (.inl (.inr (.inr (.inr (.inr (.inl rfl)))))) _).set (p := ⟨w.heap.size + 1 + 1, 0, none⟩) (.inl (.inr (.inr (.inr (.inr (.inr rfl)))))) _).set (p := ⟨w.heap.size + 1 + 1, 1, none⟩) (.inl (.inr (.inr (.inr (.inr (.inr rfl)))))) _
  obtain ⟨h1, _, h3, _⟩ := H.keep C hc
  refine ⟨h1, ?_, ?_, h3⟩
  · rw [hW]
    exact (((H.r0.below h H.r0.lt).set 0 _).set_other (a := ⟨w.heap.size + 1 + 1, 0, none⟩) (by dsimp only; omega) _).set_other (a := ⟨w.heap.size + 1 + 1, 1, none⟩) (by dsimp only; omega) _
  · rw [hW]
    exact (((H.p0.below h H.p0.lt).set_other (a := ⟨w.heap.size + 1, 0, none⟩) (by dsimp only; omega) _).set 0 _).set 1 _
end Go.Proofs.YtdgepnfgjgbkoaaDoor
