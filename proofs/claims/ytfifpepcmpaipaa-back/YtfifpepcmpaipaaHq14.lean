/-
  The statements' own hear: what a reader tells of pieces.
-/
import Derived.Test.YtfifpepcmpaipaaHp14
namespace Go.Proofs.Ytfifpepcmpaipaa
open Go.RowKit

theorem pe_cell {w : World} {g n c : Nat} {l : List Pe} (h : Ow celP 27 1 w (.slice (some ⟨g, 0, none⟩) n c) l) (i : Nat) (hi : i < l.length) : w.cell? ⟨g, i, none⟩ = some (.slice l[i].a l[i].l.length l[i].c) := by
  have hl : (l.flatMap celP).length = l.length * 1 := flat_length celP_length l
  rw [h.cells i (by omega)]
  have := flat_at celP_length l i 0 hi (by decide)
  rw [Nat.mul_one, Nat.add_zero] at this
  rw [this]
  rfl
theorem sla_block {a : Option Addr} {k cap : Nat} {ad : Addr} (h : sla a k cap = some ad) : ∃ a0, a = some a0 ∧ ad.block = a0.block := by
  unfold sla at h
  split at h
  · exact ⟨ad, h, rfl⟩
  · cases a with
    | none => cases h
    | some a0 =>
      cases h
      refine ⟨a0, rfl, ?_⟩
      simp only [Addr.add]
      split <;> rfl
/-- A piece that lies apart from the reader and from the pieces' row. -/
def PeIn (w : World) (b : Nat) (p0 : Value) (x : Pe) : Prop := PeOk w x ∧ ∀ ad, x.a = some ad → x.l ≠ [] → ¬ (ad.block = b ∨ p0.ownBlock = some ad.block)
theorem PeIn.cut {w : World} {b : Nat} {p0 : Value} {a : Option Addr} {l : List UInt8} {cap : Nat} (h : PeIn w b p0 ⟨a, l, cap⟩) (p : Nat) (hp : p ≤ l.length) : PeIn w b p0 ⟨sla a p cap, l.drop p, cap - p⟩ := by
  constructor
  · have := h.1.cut p (l.length - p) hp
    rw [List.take_of_length_le (by rw [List.length_drop]; exact Nat.le_refl _)] at this
    exact this
  · intro ad e h0
    obtain ⟨a0, e0, hb⟩ := sla_block e
    rw [hb]
    refine h.2 a0 e0 (fun e1 => h0 ?_)
    dsimp only at e1 ⊢
    rw [e1]
    simp
theorem PeIn.at {w wr : World} {b : Nat} {p0 : Value} {x : Pe} (h : PeIn w b p0 x) (hc : Chg (fun k => k = b ∨ p0.ownBlock = some k) w wr) : PeOk wr x := h.1.chg hc h.2
theorem PeIn.nil (w : World) (b : Nat) (p0 : Value) : PeIn w b p0 ⟨none, [], 0⟩ := ⟨PeOk.nil w, fun _ e => by cases e⟩
/-- A piece that was there ahead of the reader and of the pieces' row. -/
theorem pein_old {w W : World} {b : Nat} {p0 : Value} {x : Pe} (h : PeOk w x) (hb : Below w.heap.size w W) (hr : w.heap.size ≤ b) (hp : ∀ k, p0.ownBlock = some k → w.heap.size ≤ k) : PeIn W b p0 x := by
  refine ⟨h.below hb, fun ad e h0 => ?_⟩
  have hlt : ad.block < w.heap.size := by
    rcases h.bt with e1 | ⟨g, o, e1, hg, _⟩
    · exact absurd e1 h0
    · rw [e1] at e; cases e; exact hg
  rintro (h1 | h1)
  · omega
  · have := hp _ h1; omega
/-- A piece that was there ahead of the pieces' row. -/
theorem pein_of {w W : World} {b t a : Nat} {s : Ds} {p0 : Value} {x : Pe} (h : PeOk w x) (hr : Rd w b t a s) (hb : Below w.heap.size w W) (hp : ∀ k, p0.ownBlock = some k → w.heap.size ≤ k) : PeIn W b p0 x := by
  refine ⟨h.below hb, fun ad e h0 => ?_⟩
  have hlt : ad.block < w.heap.size := by
    rcases h.bt with e1 | ⟨g, o, e1, hg, _⟩
    · exact absurd e1 h0
    · rw [e1] at e; cases e; exact hg
  rintro (h1 | h1)
  · exact h.rd hr ad e h0 h1
  · have := hp _ h1; omega
def lenOf : Value → Nat
  | .slice _ n _ => n
  | _ => 0
def msr (p a : Value) : Nat := 2 * lenOf p + (match a with | .bool true => 1 | _ => 0)
/-- How a reader and what was heard of it belong together. -/
def Hrd (a : Nat) (x y : Ds) (q : List UInt8) (ag en : Bool) (i : Im) : Prop := (en = false ∧ i = .no ∧ y = x ∧ (ag = false → x.p < 6 ∧ q = [])) ∨ (en = true ∧ ag = false ∧ x.p = 6 ∧ i = x.im a)
def Bnd (n : Nat) (o : List UInt8) (x : Ds) : Prop := 1 ≤ x.p ∧ x.p ≤ 6 ∧ x.size ≤ 2 * n ∧ x.row ≤ n ∧ o.length ≤ 2 * n
theorem Bnd.on {t a n : Nat} {o q : List UInt8} {x : Ds} (h : Bnd n o x) : Bnd (n + (x.run t a q).1) (o ++ (x.run t a q).2.1) (x.run t a q).2.2 := by
  obtain ⟨h1, h2, h3, h4, h5⟩ := h
  have hp := Ds.run_p t a q x h1 h2
  have hs := Ds.run_sz t a q x
  exact ⟨hp.1, hp.2, by omega, by omega, by rw [List.length_append]; omega⟩
theorem Rest.le {t a : Nat} {s : Ds} {L : List UInt8} {n : Nat} {o : List UInt8} {x : Ds} {q : List UInt8} (h : Rest t a (s.run t a L) n o x q) : n + (x.run t a q).1 ≤ L.length := by
  have := Ds.run_len t a L s
  unfold Rest at h
  rw [h] at this
  exact this
theorem Rest.fin {t a : Nat} {T : Nat × List UInt8 × Ds} {n : Nat} {o : List UInt8} {x : Ds} {q q2 : List UInt8} (h : Rest t a T n o x q) (hp : x.p = 6) : Rest t a T n o x q2 := by
  unfold Rest at h ⊢
  rw [Ds.run_over (by omega)] at h ⊢
  exact h
theorem Rest.nil {t a : Nat} {T : Nat × List UInt8 × Ds} {n : Nat} {o : List UInt8} {x : Ds} (h : Rest t a T n o x []) : T = (n, o, x) := by
  unfold Rest at h
  rw [h]
  simp [Ds.run]
theorem imOf_body {a : Nat} {l : List UInt8} {s : Ds} (h : 0 < l.length) : imOf a l s = .body l ∧ stOf l s = s := by
  have : ¬ l = [] := fun e => by rw [e] at h; cases h
  exact ⟨if_neg this, if_neg this⟩
theorem imOf_fin {a : Nat} {s : Ds} (h : s.p = 6) : imOf a [] s = .fin (s.why a) s.high ∧ stOf [] s = s.over := by simp [imOf, stOf, h]
theorem imOf_no {a : Nat} {s : Ds} (h : ¬ s.p = 6) : imOf a [] s = .no ∧ stOf [] s = s := by simp [imOf, stOf, h]
theorem cat_mem {xs : List Pe} {x : Pe} (h : x ∈ xs) : x.l.length ≤ (cat xs).length := by
  obtain ⟨u, v, rfl⟩ := List.append_of_mem h
  simp [cat]
  omega
theorem hC_end {w : World} {g n : Nat} {tv vb va : Value} {en gd hh2 : Bool} {k y k2 y2 : Int} {hh : Bool} (h : Lies w g #[tv, .int .i64 (n : Int), .bool en, .int .i64 k, .string ⟨#[]⟩, vb, .int .i64 y, .bool hh, .bool gd] 61) : Lies ((((((w.setCell ⟨g, 2, none⟩ (.bool true)).setCell ⟨g, 3, none⟩ (.int .i64 k2)).setCell ⟨g, 4, none⟩ (.string ⟨#[]⟩)).setCell ⟨g, 5, none⟩ va).setCell ⟨g, 6, none⟩ (.int .i64 y2)).setCell ⟨g, 7, none⟩ (.bool hh2)) g #[tv, .int .i64 (n : Int), .bool true, .int .i64 k2, .string ⟨#[]⟩, va, .int .i64 y2, .bool hh2, .bool gd] 61 := by
  have h1 : Lies (w.setCell ⟨g, 2, none⟩ (.bool true)) g #[tv, .int .i64 (n : Int), .bool true, .int .i64 k, .string ⟨#[]⟩, vb, .int .i64 y, .bool hh, .bool gd] 61 := h.set 2 _
  clear h
  generalize w.setCell ⟨g, 2, none⟩ (.bool true) = w1 at *
  have h2 : Lies (w1.setCell ⟨g, 3, none⟩ (.int .i64 k2)) g #[tv, .int .i64 (n : Int), .bool true, .int .i64 k2, .string ⟨#[]⟩, vb, .int .i64 y, .bool hh, .bool gd] 61 := h1.set 3 _
  clear h1
  generalize w1.setCell ⟨g, 3, none⟩ (.int .i64 k2) = w2 at *
  have h3 : Lies (w2.setCell ⟨g, 4, none⟩ (.string ⟨#[]⟩)) g #[tv, .int .i64 (n : Int), .bool true, .int .i64 k2, .string ⟨#[]⟩, vb, .int .i64 y, .bool hh, .bool gd] 61 := h2.set 4 _
  clear h2
  generalize w2.setCell ⟨g, 4, none⟩ (.string ⟨#[]⟩) = w3 at *
  have h4 : Lies (w3.setCell ⟨g, 5, none⟩ va) g #[tv, .int .i64 (n : Int), .bool true, .int .i64 k2, .string ⟨#[]⟩, va, .int .i64 y, .bool hh, .bool gd] 61 := h3.set 5 _
  clear h3
  generalize w3.setCell ⟨g, 5, none⟩ va = w4 at *
  have h5 : Lies (w4.setCell ⟨g, 6, none⟩ (.int .i64 y2)) g #[tv, .int .i64 (n : Int), .bool true, .int .i64 k2, .string ⟨#[]⟩, va, .int .i64 y2, .bool hh, .bool gd] 61 := h4.set 6 _
  clear h4
  generalize w4.setCell ⟨g, 6, none⟩ (.int .i64 y2) = w5 at *
  exact h5.set 7 _
theorem hC_arr (tv : Value) (n : Nat) (en : Bool) (i : Im) (vb : Value) (gd : Bool) : (hC tv n en i vb gd).toArray = #[tv, .int .i64 (n : Int), .bool en, .int .i64 (imK i), .string ⟨#[]⟩, vb, .int .i64 (imY i), .bool (imH i), .bool gd] := rfl
theorem infoHE : (Try.prog.info? 61).map (·.size) = some 9 := by kernel_rfl
theorem hear_fin {a : Nat} (w W9 : World) (b : Nat) (p0 : Value) (T : Nat × List UInt8 × Ds) (n : Nat) (o : List UInt8) (x : Ds) (en : Bool) (im : Im) (tv : Value) (ua : Option Addr) (uc : Nat) (V : Array Value) (hT : T = (n, o, x)) (he : en = x.ended) (hi : im = x.im a) (hV : V = (hC tv n en im (.slice ua 0 uc) true).toArray) (hr : Lies W9 w.heap.size zhC.toArray 61) (ho : W9.ownsRow 0 5 1 tv o.length (cellsB o)) (hn : ∀ k, tv.ownBlock = some k → w.heap.size + 1 < k) (hc : Chg (fun k => k = b ∨ p0.ownBlock = some k) w W9) (hin : (Try.prog.info? 61).map (·.size) = some V.size) (tmps : Array Value) (hp : tmps.getD 4 undef = .pointer (some ⟨w.heap.size, 0, none⟩)) :
    bodyPost Try.prog Try.f23 (fun e w' => ∃ tv va vc, e = .returned (.agg (hC tv T.1 T.2.2.ended (T.2.2.im a) (.slice va 0 vc) true).toArray) ∧ w'.ownsRow 0 5 1 tv T.2.1.length (cellsB T.2.1) ∧ (∀ k, tv.ownBlock = some k → w.heap.size ≤ k) ∧ Chg (fun k => k = b ∨ p0.ownBlock = some k) w w') .ret { tmps := tmps, defers := [] } (W9.setRow w.heap.size V) := by
  subst hT he hi
  have hB : But w.heap.size W9 (W9.setRow w.heap.size V) := (But.refl _ _).row _
  refine bodyPost_ret (results_cell_row rfl tmps _ w.heap.size 61 V (0, 0) _ hp (hr.row V) Try.underlying61 rfl hin) rfl ⟨tv, ua, uc, by rw [hV], ?_, ?_, ?_⟩
  · exact own_keep ho (fun k e => hB.block k (ho.lt k e).2 (fun e2 => by have := hn k e; omega))
  · exact fun k e => by have := hn k e; omega
  · exact hc.then (hB.chg (F := fun k => k = w.heap.size) rfl) (fun i e => .inr (by omega))
theorem im_fin {a : Nat} {s : Ds} (h : s.p = 6) : s.im a = .fin (s.why a) s.high := if_pos h
end Go.Proofs.Ytfifpepcmpaipaa
