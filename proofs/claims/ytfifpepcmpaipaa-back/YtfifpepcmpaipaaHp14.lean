/-
  What hear keeps in memory.
-/
import Derived.Test.YtfifpepcmpaipaaPc14
import Derived.Test.YtfifpepcmpaipaaWk14
namespace Go.Proofs.Ytfifpepcmpaipaa
open Go.RowKit

/-- What was heard, as cells. -/
def hC (tv : Value) (n : Nat) (en : Bool) (i : Im) (vb : Value) (gd : Bool) : List Value := [tv, .int .i64 (n : Int), .bool en, .int .i64 (imK i), .string ⟨#[]⟩, vb, .int .i64 (imY i), .bool (imH i), .bool gd]
def zhC : List Value := [.slice none 0 0, .int .i64 0, .bool false, .int .i64 0, .string ⟨#[]⟩, .slice none 0 0, .int .i64 0, .bool false, .bool false]
theorem hC_cells {w : World} {g : Nat} {tv vb : Value} {n : Nat} {en gd : Bool} {k y : Int} {hh : Bool} (h : Lies w g (#[tv, .int .i64 (n : Int), .bool en, .int .i64 k, .string ⟨#[]⟩, vb, .int .i64 y, .bool hh, .bool gd]) 61) : (w.cell? ⟨g, 0, none⟩ = some tv ∧ w.cell? ⟨g, 1, none⟩ = some (.int .i64 (n : Int)) ∧ w.cell? ⟨g, 2, none⟩ = some (.bool en) ∧ w.cell? ⟨g, 3, none⟩ = some (.int .i64 k) ∧ w.cell? ⟨g, 4, none⟩ = some (.string ⟨#[]⟩) ∧ w.cell? ⟨g, 5, none⟩ = some vb ∧ w.cell? ⟨g, 6, none⟩ = some (.int .i64 y) ∧ w.cell? ⟨g, 7, none⟩ = some (.bool hh) ∧ w.cell? ⟨g, 8, none⟩ = some (.bool gd)) ∧ (∀ j, w.frozen? ⟨g, j, none⟩ = false) := ⟨⟨h.cell 0, h.cell 1, h.cell 2, h.cell 3, h.cell 4, h.cell 5, h.cell 6, h.cell 7, h.cell 8⟩, fun j => h.frozen j⟩
/-- A row's block is of its kind. -/
theorem Ow.ne {α : Type} {cel : α → List Value} {t k g u : Nat} {w : World} {v : Value} {l : List α} {cs : Array Value} (h : Ow cel t k w v l) (hl : Lies w g cs u) (hu : u ≠ t) : ∀ i, v.ownBlock = some i → i ≠ g := by
  intro i e he
  subst he
  obtain ⟨_, ⟨rfl, _⟩ | ⟨g', cap, cur, rfl, _, h4, _⟩⟩ := h
  · cases e
  · cases e
    unfold Lies at hl
    rw [h4] at hl
    cases hl
    exact hu rfl
theorem Ow.own {α : Type} {cel : α → List Value} {t k n : Nat} {w : World} {v u : Value} {l : List α} {xs : List Value} (h : Ow cel t k w v l) (ho : w.ownsRow 0 5 1 u n xs) (ht : t ≠ 5) : ∀ i, v.ownBlock = some i → ¬ u.ownBlock = some i := by
  intro i e he
  obtain ⟨_, ⟨rfl, _⟩ | ⟨g', cap, cur, rfl, _, h4, _⟩⟩ := h
  · cases e
  · cases e
    obtain ⟨_, ⟨rfl, _⟩ | ⟨g2, cap2, cur2, rfl, _, k4, _⟩⟩ := ho
    · cases he
    · cases he
      rw [h4] at k4
      cases k4
      exact ht rfl
theorem PeOk.chg {w w' : World} {x : Pe} {F : Nat → Prop} (h : PeOk w x) (hc : Chg F w w') (hn : ∀ ad, x.a = some ad → x.l ≠ [] → ¬ F ad.block) : PeOk w' x := by
  refine ⟨?_, h.lc, h.cm, h.nn⟩
  by_cases h0 : x.l = []
  · exact .inl h0
  · exact h.bt.chg hc (fun ad e => hn ad e h0)
theorem PeOk.rd {w : World} {x : Pe} {b t a : Nat} {s : Ds} (h : PeOk w x) (hr : Rd w b t a s) : ∀ ad, x.a = some ad → x.l ≠ [] → ad.block ≠ b := by
  intro ad e h0
  have hb := h.bt
  have : ad = ⟨ad.block, ad.off, none⟩ := by
    have := h.sp h0 ad e
    cases ad
    simp_all
  rw [e, this] at hb
  exact bts_rd hb (List.length_pos_iff.2 h0) hr
/-- Bytes laid behind a row of bytes. -/
theorem wpList_append_chg {ops : Array Oper} {rest : List Oper} {op : Oper} {a : Act} {w : World} {Q : Exit → Act → World → Prop} (hgd : op.guard = none) (s x : Operand)
    (ho : op.op = .call { callee := .builtin .append, args := #[s, x], argTypes := #[27, 27] }) (v : Value) (n : Nat) (xs : List UInt8) (hs : a.eval s = v) (hown : w.ownsRow 0 5 1 v n (cellsB xs))
    (sp : Option Addr) (l : List UInt8) (m c : Nat) (hm : m = l.length) (hx : a.eval x = .slice sp m c) (hb : Bts sp l w) (h0 : 0 < l.length) (hbytes : n + l.length ≤ 70368744177664)
    (h : ∀ g' cap w', w'.ownsRow 0 5 1 (.slice (some ⟨g', 0, none⟩) (n + l.length) cap) (n + l.length) (cellsB (xs ++ l)) → Chg (fun k => v.ownBlock = some k) w w' → (v.ownBlock = some g' ∨ w.heap.size ≤ g') → wpList Try.prog ops Q rest (a.put op.dst (.slice (some ⟨g', 0, none⟩) (n + l.length) cap)) w') : wpList Try.prog ops Q (op :: rest) a w := by
  subst hm
  obtain ⟨i0, hi, hz0, hz1, hz2⟩ := info_parts info5
  rcases id hb with e | ⟨g, o, rfl, _, _⟩
  · rw [e] at h0; cases h0
  · refine wpList_append_lies w hgd s x 27 ho 0 5 i0 (.int .u8 0) 1 1 Try.underlying27 hi hz0 hz1 hz2 rfl (by decide) v n (cellsB xs) hs hown ⟨g, o, none⟩ l.length c (cellsB l) hx (by rw [cellsB_length]; omega) (bts_news hb) (cellsB_one l) (by omega) (by unfold maxLen; omega) (by omega) (Nat.zero_le _) w.heap.size rfl ?_
    intro g' cap w' h2 h3 h4 _
    exact h g' cap w' (by rw [cellsB_append]; exact h2) ⟨h3.os, h3.tape, h3.output, h3.size, fun k hk hn => h3.block k hk (fun e => hn e.symm)⟩ (h4.imp id (fun e => by omega))
theorem Ds.run_sz (t a : Nat) : ∀ (l : List UInt8) (s : Ds), (s.run t a l).2.2.size ≤ s.size + 2 * (s.run t a l).1 ∧ (s.run t a l).2.2.row ≤ s.row + (s.run t a l).1 ∧ (s.run t a l).2.1.length ≤ 2 * (s.run t a l).1
  | [], s => by simp [run]
  | c :: r, s => by
    by_cases h : s.p < 6
    · have h1 := run_sz t a r (s.stp t c)
      have h2 := stp_size t s c
      have h3 := out_len a s c
      rw [run_cons h]
      simp only [List.length_append]
      omega
    · rw [run_over h]
      simp
/-- What hear keeps: b the reader, w the world it began in. -/
structure Hst (w : World) (b t a : Nat) (p0 pv : Value) (ys : List Pe) (wr : World) (tv vb : Value) (n : Nat) (o : List UInt8) (y : Ds) (en : Bool) (i : Im) : Prop where
  hh : Lies wr (w.heap.size + 1) (hC tv n en i vb false).toArray 61
  ow : wr.ownsRow 0 5 1 tv o.length (cellsB o)
  nw : ∀ k, tv.ownBlock = some k → w.heap.size + 1 < k
  rs : Lies wr w.heap.size zhC.toArray 61
  rd : Rd wr b t a y
  pc : Ow celP 27 1 wr pv ys
  ch : Chg (fun k => k = b ∨ p0.ownBlock = some k) w wr
  vl : ∃ va vc, vb = .slice va 0 vc
theorem ints_below {a : Option Addr} {zs : List Int} {w w' : World} {B : Nat} (h : IntsB a zs w) (hb : Below B w w') (hB : w.heap.size ≤ B) : IntsB a zs w' := by
  refine ⟨?_, h.2⟩
  rcases h.1 with e | ⟨g, o, e, hg, hc⟩
  · exact .inl e
  · exact .inr ⟨g, o, e, Nat.lt_of_lt_of_le hg (by have := hb.size; omega), fun j hj => (hb.cell (p := ⟨g, o + j, none⟩) (by show g < B; omega)).trans (hc j hj)⟩
/-- Other blocks are changed. -/
theorem Hst.chg {w : World} {b t a : Nat} {p0 pv : Value} {ys : List Pe} {wr wz : World} {tv vb : Value} {n : Nat} {o : List UInt8} {y z : Ds} {en : Bool} {i : Im} (h : Hst w b t a p0 pv ys wr tv vb n o y en i) (hb : b < w.heap.size) (hc : Chg (fun k => k = b) wr wz) (hr : Rd wz b t a z) : Hst w b t a p0 pv ys wz tv vb n o z en i :=
  ⟨hc.lies h.hh (by omega), own_keep h.ow (fun k e => hc.block k (h.ow.lt k e).2 (fun e2 => by have := h.nw k e; omega)), h.nw, hc.lies h.rs (by omega), hr, h.pc.chg hc (h.pc.ne h.rd (by decide)), h.ch.trans (hc.mono (fun _ e => .inl e)), h.vl⟩
theorem Hst.below {w : World} {b t a : Nat} {p0 pv : Value} {ys : List Pe} {wr wz : World} {tv vb : Value} {n : Nat} {o : List UInt8} {y : Ds} {en : Bool} {i : Im} (h : Hst w b t a p0 pv ys wr tv vb n o y en i) (hb : b < w.heap.size) (hc : Below wr.heap.size wr wz) : Hst w b t a p0 pv ys wz tv vb n o y en i := h.chg hb (Chg.of_below hc) (h.rd.below hc h.rd.lt)
/-- The heard's own cells are changed. -/
theorem Hst.but {w : World} {b t a : Nat} {p0 pv : Value} {ys : List Pe} {wr wz : World} {tv vb vb2 : Value} {n n2 : Nat} {o : List UInt8} {y : Ds} {en en2 : Bool} {i i2 : Im} (h : Hst w b t a p0 pv ys wr tv vb n o y en i) (hb : b < w.heap.size) (hc : But (w.heap.size + 1) wr wz) (hl : Lies wz (w.heap.size + 1) (hC tv n2 en2 i2 vb2 false).toArray 61) (hv : ∃ va vc, vb2 = .slice va 0 vc) : Hst w b t a p0 pv ys wz tv vb2 n2 o y en2 i2 :=
  ⟨hl, own_keep h.ow (fun k e => hc.block k (h.ow.lt k e).2 (fun e2 => by have := h.nw k e; omega)), h.nw, hc.lies h.rs (by omega), h.rd.keep (hc.block b h.rd.lt (by omega)), h.pc.keep (fun g e => hc.block g (h.pc.lt g e) (h.pc.ne h.hh (by decide) g e)), h.ch.then (hc.chg (F := fun k => k = w.heap.size + 1) rfl) (fun i e => .inr (by omega)), hv⟩
/-- The told row has grown. -/
theorem Hst.grow {w : World} {b t a : Nat} {p0 pv : Value} {ys : List Pe} {wr w8 wz : World} {tv tv2 vb : Value} {n : Nat} {o o2 : List UInt8} {y : Ds} {en : Bool} {i : Im} (h : Hst w b t a p0 pv ys wr tv vb n o y en i) (hb : b < w.heap.size) (hc : Chg (fun k => tv.ownBlock = some k) wr w8) (ho : w8.ownsRow 0 5 1 tv2 o2.length (cellsB o2)) (hn : ∀ k, tv2.ownBlock = some k → tv.ownBlock = some k ∨ wr.heap.size ≤ k) (hz : wz = w8.setCell ⟨w.heap.size + 1, 0, none⟩ tv2) : Hst w b t a p0 pv ys wz tv2 vb n o2 y en i := by
  have hw : ∀ k, tv2.ownBlock = some k → w.heap.size + 1 < k := fun k e => by
    rcases hn k e with h1 | h1
    · exact h.nw k h1
    · have := h.hh.lt; omega
  have hl8 : Lies w8 (w.heap.size + 1) (hC tv n en i vb false).toArray 61 := hc.lies h.hh (fun e => absurd (h.nw _ e) (by omega))
  have hB : But (w.heap.size + 1) w8 wz := by subst hz; exact (But.refl _ _).set _ _
  have hlt : w.heap.size + 1 < wr.heap.size := h.hh.lt
  refine ⟨by subst hz; exact hl8.set 0 _, own_keep ho (fun k e => hB.block k (ho.lt k e).2 (fun e2 => by have := hw k e; omega)), hw, ?_, ?_, ?_, ?_, h.vl⟩
  · exact hB.lies (hc.lies h.rs (fun e => absurd (h.nw _ e) (by omega))) (by omega)
  · exact (h.rd.chg hc (fun e => absurd (h.nw _ e) (by omega))).keep (hB.block b (Nat.lt_of_lt_of_le h.rd.lt hc.size) (by omega))
  · have h8 := h.pc.chg hc (h.pc.own h.ow (by decide))
    exact h8.keep (fun g e => hB.block g (h8.lt g e) (h8.ne hl8 (by decide) g e))
  · refine (h.ch.then hc (fun k e => .inr ?_)).then (hB.chg (F := fun k => k = w.heap.size + 1) rfl) (fun k e => .inr (by omega))
    have := h.nw k e
    omega
end Go.Proofs.Ytfifpepcmpaipaa
