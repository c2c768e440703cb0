/-
  A reader in memory: New, there, Err, Held.
-/
import Derived.Test.YtbfgefgadplcjaaDoorRo12
import Derived.Test.YtbfgefgadplcjaaDoorPw12
import Derived.Test.YtbfgefgadplcjaaDoorRdR
import Derived.Test.YtbfgefgadplcjaaDoorRuR
namespace Go.Proofs.YtbfgefgadplcjaaDoor
open Go.RowKit

/-- A reader's cells. -/
def rdC (p : Nat) (e : Int) (q : Plc) (v : Value) : List Value := [.pointer (some ⟨p, 0, none⟩), .int .i64 e] ++ plC q ++ [v]
def errS (b : Bool) : Int := if b then 120 else 0
/-- Replies in memory. -/
def Rys (w : World) (l : List Rx) (o : List Ry) : Prop := l.length = o.length ∧ ∀ i (h : i < l.length) (h2 : i < o.length), RyAt w l[i] o[i]
theorem RyAt.keep {w w' : World} {x : Rx} {r : Ry} (h : RyAt w x r) (hk : ∀ ad, x.a = some ad → w'.heap[ad.block]? = w.heap[ad.block]?) : RyAt w' x r := by
  obtain ⟨h1, h2, h3, g, hg, hl⟩ := h
  exact ⟨h1, h2, h3, g, hg, (hk _ hg).trans hl⟩
theorem RyAt.lt {w : World} {x : Rx} {r : Ry} (h : RyAt w x r) : ∀ ad, x.a = some ad → ad.block < w.heap.size := by
  obtain ⟨h1, h2, h3, g, hg, hl⟩ := h
  intro ad e
  rw [hg] at e
  cases e
  exact hl.lt
theorem Rys.keep {w w' : World} {l : List Rx} {o : List Ry} (h : Rys w l o) (hk : ∀ x ∈ l, ∀ ad, x.a = some ad → w'.heap[ad.block]? = w.heap[ad.block]?) : Rys w' l o :=
  ⟨h.1, fun i h1 h2 => (h.2 i h1 h2).keep (hk _ (List.getElem_mem h1))⟩
theorem Rys.lt {w : World} {l : List Rx} {o : List Ry} (h : Rys w l o) : ∀ x ∈ l, ∀ ad, x.a = some ad → ad.block < w.heap.size := by
  intro x hx
  obtain ⟨i, hi, rfl⟩ := List.mem_iff_getElem.1 hx
  exact (h.2 i hi (by rw [← h.1]; exact hi)).lt
theorem Rys.kind {w : World} {l : List Rx} {o : List Ry} (h : Rys w l o) {g : Nat} {cs : Array Value} {t : TypeId} (hl : Lies w g cs t) (ht : t ≠ 9) : ∀ x ∈ l, ∀ ad, x.a = some ad → ad.block ≠ g := by
  intro x hx
  obtain ⟨i, hi, rfl⟩ := List.mem_iff_getElem.1 hx
  obtain ⟨_, _, _, k, hk, hL⟩ := h.2 i hi (by rw [← h.1]; exact hi)
  intro ad e
  rw [hk] at e
  cases e
  exact lies_ne hL hl (fun e => ht e.symm)
theorem Rys.nil (w : World) : Rys w [] [] := ⟨rfl, fun _ h => absurd h (Nat.not_lt_zero _)⟩
theorem Rys.snoc {w : World} {l : List Rx} {o : List Ry} (h : Rys w l o) {x : Rx} {r : Ry} (hx : RyAt w x r) : Rys w (l ++ [x]) (o ++ [r]) := by
  refine ⟨by simp [h.1], fun i h1 h2 => ?_⟩
  by_cases hi : i < l.length
  · rw [List.getElem_append_left hi, List.getElem_append_left (by rw [← h.1]; exact hi)]
    exact h.2 i hi (by rw [← h.1]; exact hi)
  · have : i = l.length := by simp at h1; omega
    subst this
    rw [List.getElem_concat_length rfl, List.getElem_concat_length h.1]
    exact hx
theorem Rys.tail {w : World} {l : List Rx} {o : List Ry} (h : Rys w l o) : Rys w l.tail o.tail := by
  refine ⟨by simp [h.1], fun _ _ _ => ?_⟩
  rw [List.getElem_tail, List.getElem_tail]
  exact h.2 _ _ _
/-- A reader that New made. -/
structure Rd (w : World) (F : Nat → Prop) (b : Nat) (S : Sr) : Prop where
  ex : ∃ p q l v, Lies w b (rdC p (errS S.b) S.p v).toArray 43 ∧ RgR w (some p) q 1048576 l ∧ Rys w l S.o ∧ w.ownsRow 0 5 1 v S.h.length (cellsB S.h) ∧ F p ∧ (∀ k, q = some k → F k) ∧ (∀ k, v.ownBlock = some k → F k) ∧ (∀ x ∈ l, ∀ ad, x.a = some ad → F ad.block)
  fb : F b
  ok : S.Ok
theorem Rd.mono {w : World} {F G : Nat → Prop} {b : Nat} {S : Sr} (h : Rd w F b S) (hg : ∀ k, F k → k < w.heap.size → G k) : Rd w G b S := by
  obtain ⟨p, q, l, v, h1, h2, h3, h4, h5, h6, h7, h8⟩ := h.ex
  exact ⟨⟨p, q, l, v, h1, h2, h3, h4, hg p h5 (h2.lt p (.inl rfl)), fun k e => hg k (h6 k e) (h2.lt k (.inr e)), fun k e => hg k (h7 k e) (h4.lt k e).2, fun x hx ad e => hg _ (h8 x hx ad e) (h3.lt x hx ad e)⟩, hg b h.fb h1.lt, h.ok⟩
theorem Rd.keep {w w' : World} {F : Nat → Prop} {b : Nat} {S : Sr} (h : Rd w F b S) (hk : ∀ k, F k → k < w.heap.size → w'.heap[k]? = w.heap[k]?) : Rd w' F b S := by
  obtain ⟨p, q, l, v, h1, h2, h3, h4, h5, h6, h7, h8⟩ := h.ex
  refine ⟨⟨p, q, l, v, (hk b h.fb h1.lt).trans h1, h2.keep (fun k e => ?_), h3.keep (fun x hx ad e => hk _ (h8 x hx ad e) (h3.lt x hx ad e)), own_keep h4 (fun k e => hk k (h7 k e) (h4.lt k e).2), h5, h6, h7, h8⟩, h.fb, h.ok⟩
  rcases e with e | e
  · cases e; exact hk _ h5 (h2.lt _ (.inl rfl))
  · exact hk _ (h6 _ e) (h2.lt _ (.inr e))
theorem Rd.chg {w w' : World} {F G : Nat → Prop} {b : Nat} {S : Sr} (h : Rd w F b S) (hc : Chg G w w') (hn : ∀ k, F k → ¬ G k) : Rd w' F b S := h.keep (fun k hf hl => hc.block k hl (hn k hf))
theorem Rd.below {w w' : World} {F : Nat → Prop} {b : Nat} {S : Sr} (h : Rd w F b S) (hb : Below w.heap.size w w') : Rd w' F b S := h.keep (fun k _ hl => hb.block k hl)
theorem Rd.lt {w : World} {F : Nat → Prop} {b : Nat} {S : Sr} (h : Rd w F b S) : b < w.heap.size := by
  obtain ⟨p, q, l, v, h1, _⟩ := h.ex
  exact h1.lt
theorem Rd.drewN {w : World} {F : Nat → Prop} {b : Nat} {S : Sr} (h : Rd w F b S) (n : Nat) : Rd (w.drewN n) F b S := h.keep (fun _ _ _ => rfl)

set_option maxHeartbeats 400000 in
theorem rthere_any (b : Nat) (w : World) (p : Nat) (h : w.cell? ⟨b, 0, none⟩ = some (.pointer (some ⟨p, 0, none⟩))) : Calls Tryd.prog 31 #[.pointer (some ⟨b, 0, none⟩)] w fun e w' => e = .returned (.bool true) ∧ w' = w := by
  go_enter Tryd.func31, Tryd.ntmps31
  go_wp2
  go_ret
  exact ⟨rfl, rfl⟩
theorem rdC_cells {w : World} {b p : Nat} {e : Int} {q : Plc} {v : Value} (h : Lies w b (rdC p e q v).toArray 43) : w.cell? ⟨b, 0, none⟩ = some (.pointer (some ⟨p, 0, none⟩)) ∧ w.cell? ⟨b, 1, none⟩ = some (.int .i64 e) ∧ w.cell? ⟨b, 9, none⟩ = some v := ⟨h.cell 0, h.cell 1, h.cell 9⟩
set_option maxHeartbeats 400000 in
theorem rerr_any (F : Nat → Prop) (b : Nat) (S : Sr) (w : World) (h : Rd w F b S) : Calls Tryd.prog 15 #[.pointer (some ⟨b, 0, none⟩)] w fun e w' => e = .returned (.int .i64 (errS S.b)) ∧ w' = w := by
  obtain ⟨p, q, l, v, h1, _⟩ := h.ex
  obtain ⟨c0, c1, -⟩ := rdC_cells h1
  have HT := rthere_any b w p c0
  clear h h1 c0
  go_enter Tryd.func15, Tryd.ntmps15
  go_wp2_with (go_at_call 31; refine HT.mono ?_; rintro e w2 ⟨rfl, rfl⟩)
  go_ret
  exact ⟨rfl, rfl⟩
set_option maxHeartbeats 400000 in
theorem rheld_any (F : Nat → Prop) (b : Nat) (S : Sr) (w : World) (h : Rd w F b S) : Calls Tryd.prog 17 #[.pointer (some ⟨b, 0, none⟩)] w fun e w' => e = .returned (.int .i64 (S.h.length : Nat)) ∧ w' = w := by
  obtain ⟨p, q, l, v, h1, _, _, h4, _⟩ := h.ex
  obtain ⟨a, cap, rfl, _⟩ := own_bts h4
  obtain ⟨c0, -, c9⟩ := rdC_cells h1
  have HT := rthere_any b w p c0
  clear h h1 c0 h4
  generalize S.h.length = n at *
  go_enter Tryd.func17, Tryd.ntmps17
  go_wp2_with (go_at_call 31; refine HT.mono ?_; rintro e w2 ⟨rfl, rfl⟩)
  go_ret
  exact ⟨rfl, rfl⟩
set_option maxHeartbeats 1000000 in
theorem rnew_any (w : World) : Calls Tryd.prog 10 #[] w fun e w' => ∃ b, e = .returned (.pointer (some ⟨b, 0, none⟩)) ∧ Rd w' (fun k => w.heap.size ≤ k) b Sr.nil ∧ Below w.heap.size w w' := by
  have HQ := newR_good 1048576 (by decide) (by decide) w
  go_enter Tryd.func10, Tryd.ntmps10
  go_wp2_with fail
  refine HQ.mono ?_
  rintro e w1 ⟨rfl, HR, HB⟩
  have HR1 : Hid (RgR w1 (some w.heap.size) none 1048576 []) := HR
  have HB1 : Hid (Below w.heap.size w w1) := HB
  clear HR HB HQ
  unfold ptr
  dsimp only [Option.map]
  go_wp2
  go_ret
  refine ⟨w1.heap.size, rfl, ⟨⟨w.heap.size, none, [], .slice none 0 0, Lies.new w1 _ _, HR1.out.below ((Below.refl _ _).alloc (Nat.le_refl _) _), Rys.nil _, ⟨rfl, .inl ⟨rfl, rfl⟩⟩, Nat.le_refl _, (fun k e => by cases e), (fun k e => by cases e), (fun x hx => by cases hx)⟩, HB1.out.size, Sr.nil_ok⟩, HB1.out.alloc HB1.out.size _⟩
/-- A ring's blocks are none of other kinds. -/
theorem ring_kind {w : World} {p q : Option Nat} {most : Nat} {l : List Rx} (h : RgR w p q most l) {k : Nat} (hk : Fq p q k) {cs : Array Value} {t : TypeId} (hl : Lies w k cs t) (h1 : t ≠ 87) (h2 : t ≠ 50) : False := by
  cases h with
  | no => rcases hk with hk | hk <;> cases hk
  | zero b h => rcases hk with hk | hk <;> cases hk; exact h1 (lies_kind hl h)
  | made b q most A f c h =>
    rcases hk with hk | hk
    · cases hk; exact h1 (lies_kind hl h.lies)
    · by_cases e : A = []
      · rw [h.non e] at hk; cases hk
      · obtain ⟨g, k1, k2⟩ := h.som e
        rw [k1] at hk
        cases hk
        exact h2 (lies_kind hl k2)
/-- What Next tells. -/
structure NxAt (w : World) (F : Nat → Prop) (x : Rx) (o : List Ry) : Prop where
  no : o = [] → x = Rx.nil
  yes : ∀ r o', o = r :: o' → RyAt w x r ∧ ∀ ad, x.a = some ad → F ad.block
/-- What is no ring stays. -/
def Kp (w w' : World) : Prop := ∀ k cs t, Lies w k cs t → t ≠ 87 → t ≠ 50 → Lies w' k cs t
theorem Kp.trans {a b c : World} (h : Kp a b) (k : Kp b c) : Kp a c := fun i cs t hl h1 h2 => k i cs t (h i cs t hl h1 h2) h1 h2
theorem Kp.refl (a : World) : Kp a a := fun _ _ _ h _ _ => h
theorem Kp.rys {w w' : World} (h : Kp w w') {l : List Rx} {o : List Ry} (hr : Rys w l o) : Rys w' l o :=
  ⟨hr.1, fun i h1 h2 => by
    obtain ⟨e1, e2, e3, g, hg, hl⟩ := hr.2 i h1 h2
    exact ⟨e1, e2, e3, g, hg, h g _ _ hl (by decide) (by decide)⟩⟩
set_option maxHeartbeats 1000000 in
theorem rnext_any (F : Nat → Prop) (b : Nat) (S : Sr) (w : World) (h : Rd w F b S) (hF : ∀ k, F k → k < w.heap.size) : Calls Tryd.prog 13 #[.pointer (some ⟨b, 0, none⟩)] w fun e w' => ∃ x, e = .returned (.tuple #[rxV x, .bool (!S.o.isEmpty)]) ∧ NxAt w' F x S.o ∧ Rd w' F b ⟨S.p, S.h, S.o.tail, S.b⟩ ∧ Chg F w w' ∧ Kp w w' := by
  obtain ⟨p, q, l, v, h1, h2, h3, h4, h5, h6, h7, h8⟩ := h.ex
  obtain ⟨c0, -, -⟩ := rdC_cells h1
  obtain ⟨W, hW⟩ : ∃ W, W = w.alloc (.cells (rxC Rx.nil) 50) := ⟨_, rfl⟩
  have hB : Below w.heap.size w W := by subst hW; exact (Below.refl _ _).alloc (Nat.le_refl _) _
  have HLR : Hid (Lies W w.heap.size (rxC Rx.nil) 50) := by subst hW; exact Lies.new w _ _
  have HT : Hid (Calls Tryd.prog 31 #[.pointer (some ⟨b, 0, none⟩)] W fun e w' => e = .returned (.bool true) ∧ w' = W) := rthere_any b W p ((hB.cell (p := ⟨b, 0, none⟩) h1.lt).trans c0)
  have d0 : W.cell? ⟨b, 0, none⟩ = some (.pointer (some ⟨p, 0, none⟩)) := (hB.cell (p := ⟨b, 0, none⟩) h1.lt).trans c0
  have HP : Hid (Calls Tryd.prog 32 #[.pointer (some ⟨p, 0, none⟩)] W fun e w' => e = .returned (.tuple #[valR (l.headD Rx.nil), .bool (!l.isEmpty)]) ∧ RgR w' (some p) q 1048576 l.tail ∧ Chg (Fq (some p) q) W w') := popR_any (some p) q 1048576 l W (h2.below hB)
  have hsame : l.isEmpty = S.o.isEmpty := by
    have := h3.1
    cases l <;> cases hS : S.o <;> simp [hS] at this <;> rfl
  have HFQ : Hid (∀ k, Fq (some p) q k → F k) := fun k e => by
    rcases e with e | e
    · cases e; exact h5
    · exact h6 k e
  have HFIN : Hid (∀ w', RgR w' (some p) q 1048576 l.tail → Chg (Fq (some p) q) W w' → NxAt w' F (l.headD Rx.nil) S.o ∧ Rd w' F b ⟨S.p, S.h, S.o.tail, S.b⟩ ∧ Chg F w w' ∧ Kp w w') := fun w' hr hc => by
    have hC : Chg F w w' := (Chg.of_below hB).trans (hc.mono HFQ.out)
    have hbk : ∀ k, k < w.heap.size → ¬ Fq (some p) q k → w'.heap[k]? = w.heap[k]? := fun k hk hn => (hc.block k (Nat.lt_of_lt_of_le hk hB.size) hn).trans (hB.block k hk)
    have hrow : ∀ x ∈ l, ∀ ad, x.a = some ad → w'.heap[ad.block]? = w.heap[ad.block]? := fun x hx ad e => hbk _ (h3.lt x hx ad e) (fun hf => by
      obtain ⟨i, hi, rfl⟩ := List.mem_iff_getElem.1 hx
      obtain ⟨_, _, _, g, hg, hL⟩ := h3.2 i hi (by rw [← h3.1]; exact hi)
      rw [hg] at e
      cases e
      exact ring_kind h2 hf hL (by decide) (by decide))
    have h3' := h3.keep hrow
    refine ⟨⟨fun e => ?_, fun r o' e => ?_⟩, ⟨⟨p, q, l.tail, v, ?_, hr, h3'.tail, own_keep h4 (fun k e => hbk k (h4.lt k e).2 (fun hf => ?_)), h5, h6, h7, fun x hx => h8 x (List.mem_of_mem_tail hx)⟩, h.fb, ⟨h.ok.p, h.ok.lo, h.ok.hi, h.ok.bad⟩⟩, hC, fun k cs t hl t1 t2 => (hbk k hl.lt (fun hf => ring_kind h2 hf hl t1 t2)).trans hl⟩
    · have := h3.1
      rw [e] at this
      rw [List.eq_nil_of_length_eq_zero this]
      rfl
    · have h0 : 0 < l.length := by rw [h3.1, e]; simp
      have hhd : l.headD Rx.nil = l[0] := by cases l with
        | nil => cases h0
        | cons x r => rfl
      rw [hhd]
      have := h3'.2 0 h0 (by rw [e]; simp)
      simp only [e, List.getElem_cons_zero] at this
      exact ⟨this, h8 _ (List.getElem_mem h0)⟩
    · exact (hbk b h1.lt (fun hf => ring_kind h2 hf h1 (by decide) (by decide) )).trans h1
    · obtain ⟨_, ⟨rfl, _⟩ | ⟨g, cap, cur, rfl, _, hh, _⟩⟩ := h4
      · cases e
      · cases e
        exact ring_kind h2 hf (show Lies w g cur 5 from hh) (by decide) (by decide)
  have HFI2 : Hid (∀ w' x, NxAt w' F x S.o ∧ Rd w' F b ⟨S.p, S.h, S.o.tail, S.b⟩ ∧ Chg F w w' ∧ Kp w w' → NxAt (rxSet w' w.heap.size x) F x S.o ∧ Rd (rxSet w' w.heap.size x) F b ⟨S.p, S.h, S.o.tail, S.b⟩ ∧ Chg F w (rxSet w' w.heap.size x) ∧ Kp w (rxSet w' w.heap.size x)) := fun w' x hh => by
    obtain ⟨k1, k2, k3, k4⟩ := hh
    have hs : ∀ k, F k → (rxSet w' w.heap.size x).heap[k]? = w'.heap[k]? := fun k hk => by
      have : k ≠ w.heap.size := by have := hF k hk; omega
      unfold rxSet
      exact (Below.heap_setCell _ _ _ _ this).trans ((Below.heap_setCell _ _ _ _ this).trans ((Below.heap_setCell _ _ _ _ this).trans ((Below.heap_setCell _ _ _ _ this).trans (Below.heap_setCell _ _ _ _ this))))
    refine ⟨⟨k1.no, fun r o' e => ?_⟩, k2.keep (fun k hk _ => hs k hk), ?_, fun k cs t hl t1 t2 => rxSet_other (k4 k cs t hl t1 t2) (Nat.ne_of_lt hl.lt) x⟩
    · obtain ⟨j1, j2⟩ := k1.yes r o' e
      exact ⟨j1.keep (fun ad e => hs _ (j2 ad e)), j2⟩
    · unfold rxSet
      exact ((((k3.set (.inr (Nat.le_refl _)) _).set (.inr (Nat.le_refl _)) _).set (.inr (Nat.le_refl _)) _).set (.inr (Nat.le_refl _)) _).set (.inr (Nat.le_refl _)) _
  rw [hsame] at HP
  have HNF : Hid (¬ Fq (some p) q w.heap.size) := fun e => by
    have := hF _ (HFQ.out _ e)
    omega
  have HWW : Hid (w.alloc (.cells #[.int .i64 0, .int .i64 0, .int .i64 0, .int .i64 0, .slice none 0 0] 50) = W) := hW.symm
  clear h h1 h2 h3 h4 h5 h6 h7 h8 c0 hB hsame hW
  go_enter Tryd.func13, Tryd.ntmps13
  go_wp2_with fail
  rw [HWW.out]
  refine HT.out.mono ?_
  rintro e w2 ⟨rfl, rfl⟩
  go_wp2_with fail
  refine HP.out.mono ?_
  rintro e w3 ⟨rfl, HR3, HC3⟩
  have HL3 : Lies w3 w.heap.size (rxC Rx.nil) 50 := HC3.lies HLR.out HNF.out
  have HF3 : Hid (NxAt w3 F (l.headD Rx.nil) S.o ∧ Rd w3 F b ⟨S.p, S.h, S.o.tail, S.b⟩ ∧ Chg F w w3 ∧ Kp w w3) := HFIN.out _ HR3 HC3
  have HL4 : Hid (Lies w3 w.heap.size (rxC Rx.nil) 50) := HL3
  obtain ⟨r0, r1, r2, r3, r4, g0, g1, g2, g3, g4⟩ := rxC_cells HL3
  clear HR3 HC3 HL3 HT HP d0 HFIN HLR HWW
  unfold valR
  generalize l.headD Rx.nil = x at *
  go_wp2
  exact ret_cell rfl w.heap.size 50 (rxC x) (0, 0) _ (.bool (!S.o.isEmpty)) rfl rfl (rxSet_lies HL4.out x) Tryd.underlying50 rfl infoRY ⟨x, rfl, HFI2.out w3 x HF3.out⟩
end Go.Proofs.YtbfgefgadplcjaaDoor
