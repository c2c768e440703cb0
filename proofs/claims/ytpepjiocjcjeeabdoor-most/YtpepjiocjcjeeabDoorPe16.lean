/-
  Parse.
-/
import Derived.Test.YtpepjiocjcjeeabDoorQaP
namespace Go.Proofs.YtpepjiocjcjeeabDoor
open Go.RowKit Go.Shelf

attribute [local go_sem] Oper.semAt_some

theorem ownX_turn {W W' : World} {B n t m : Nat} {v : Value} {xs : List Value} {row : Option Nat} (h : W.ownsRow B t m v n xs) (hg : W.grownBy W' row) (hr : ∀ r, row = some r → ∃ o : Obj, W.heap[r]? = some o ∧ o.isCells = false) : W'.ownsRow B t m v n xs := ownX_keep h (fun k hk => by
  rcases h.2 with ⟨rfl, _⟩ | ⟨g, cap, cur, rfl, hB, hc, _⟩
  · cases hk
  · cases hk
    exact grownBy_keeps_cells hg hr hc rfl)
theorem results_sis {P : Program} {fn : Func} {p q r : Tmp} {ty tz : TypeId} (h : fn.results = #[.cell p ty, .cell q 3, .cell r tz]) (tmps : Array Value) (w : World) (g1 g2 g3 : Nat) (ds : Array Value) (d2 : TypeDesc) (u v : Value)
    (hp : tmps.getD p undef = .pointer (some ⟨g1, 0, none⟩)) (hq : tmps.getD q undef = .pointer (some ⟨g2, 0, none⟩)) (hr : tmps.getD r undef = .pointer (some ⟨g3, 0, none⟩)) (hk : (loadVar ty ⟨g1, 0, none⟩).run P w = .ok u w) (hg3 : Lies w g3 ds tz)
    (hl : (loadVar 3 ⟨g2, 0, none⟩).run P w = .ok v w)
    (hu2 : P.underlying tz = some d2) (ha2 : (match d2 with | .struct _ | .array _ _ => true | _ => false) = true) (hz2 : (P.info? tz).map (·.size) = some ds.size) : (results fn tmps).run P w = .ok (.tuple #[u, v, .agg ds]) w := by
  have hp' : tmps[p]?.getD undef = .pointer (some ⟨g1, 0, none⟩) := by simpa using hp
  have hq' : tmps[q]?.getD undef = .pointer (some ⟨g2, 0, none⟩) := by simpa using hq
  have hr' : tmps[r]?.getD undef = .pointer (some ⟨g3, 0, none⟩) := by simpa using hr
  simp [results, h, hp', hq', hr', asAddr, run_loadVar_row w g3 tz tz ds (0, 0) d2 hg3 hu2 ha2 hz2, hl, hk]
theorem load_fds (w : World) (g : Nat) (v : Value) (hc : w.cell? ⟨g, 0, none⟩ = some v) : (loadVar 24 ⟨g, 0, none⟩).run Tryd.prog w = .ok v w := by
  simp [go_sem, hc]
theorem load_i3 (w : World) (g : Nat) (n : Int) (hc : w.cell? ⟨g, 0, none⟩ = some (.int .i64 n)) : (loadVar 3 ⟨g, 0, none⟩).run Tryd.prog w = .ok (.int .i64 n) w := by
  simp [go_sem, hc]
/-- What Parse has in memory. -/
structure Pw (w : World) (ad : Option Addr) (n cap : Nat) (W : World) (ps : List Plc) (v rf : Value) (rb : Nat) (s : Nat × Nat) : Prop where
  m0 : Lies W w.heap.size #[.slice ad n cap] 22
  r1 : Lies W (w.heap.size + 1) #[rf] 24
  r2 : Lies W (w.heap.size + 2) #[.int .i64 (rb : Int)] 3
  r3 : Lies W (w.heap.size + 3) #[.int .i64 0, .int .i64 0] 27
  sp : Lies W (w.heap.size + 5) #[.int .i64 (s.1 : Int), .int .i64 (s.2 : Int)] 27
  it : Lies W (w.heap.size + 6) #[.slice ad n cap] 22
  hd : Hd w.heap.size W (w.heap.size + 4) ps v
  be : Below w.heap.size w W
theorem Pw.turn {w : World} {ad : Option Addr} {n cap : Nat} {W W' : World} {ps : List Plc} {v rf : Value} {rb : Nat} {s : Nat × Nat} {C : Nat} (h : Pw w ad n cap W ps v rf rb s) (hC : w.heap.size ≤ C) {row : Option Nat} (hg : W.grownBy W' row) (hr : ∀ r, row = some r → C ≤ r ∧ ∃ o : Obj, W.heap[r]? = some o ∧ o.isCells = false) : Pw w ad n cap W' ps v rf rb s :=
  have hr' := fun r e => (hr r e).2
  ⟨lies_turn h.m0 hg hr', lies_turn h.r1 hg hr', lies_turn h.r2 hg hr', lies_turn h.r3 hg hr', lies_turn h.sp hg hr', lies_turn h.it hg hr', ⟨lies_turn h.hd.hd hg hr', ownX_turn h.hd.own hg hr'⟩, below_turn h.be hC (Nat.le_refl _) hg hr⟩
theorem hd_set {B h b i T : Nat} {W : World} {ps : List Plc} {v : Value} {cs : Array Value} (hh : Hd B W h ps v) (hs : Lies W b cs T) (hT : T ≠ 70) (hne : h ≠ b) (x : Value) : Hd B (W.setCell ⟨b, i, none⟩ x) h ps v := ⟨hh.hd.set_other (a := ⟨b, i, none⟩) hne _, ownX_keep hh.own (fun j hj => by
  have hne : j ≠ b := fun e => by
    subst e
    rcases hh.own.2 with ⟨e1, _⟩ | ⟨g', cp, cur, e1, _, hg', _⟩
    · rw [e1] at hj; cases hj
    · rw [e1] at hj
      cases hj
      exact hT (lies_kind hs hg')
  exact Below.heap_setCell _ _ _ _ hne)⟩
theorem ownX_base {W : World} {B B' t m n : Nat} {v : Value} {xs : List Value} (h : W.ownsRow B t m v n xs) (hB : B' ≤ B) : W.ownsRow B' t m v n xs := by
  refine ⟨h.1, ?_⟩
  rcases h.2 with h2 | ⟨g, cap, cur, h1, h2, h3⟩
  · exact .inl h2
  · exact .inr ⟨g, cap, cur, h1, by omega, h3⟩
theorem ownX_set {W : World} {B t m n : Nat} {v : Value} {xs : List Value} (h : W.ownsRow B t m v n xs) (b i : Nat) (hb : b < B) (x : Value) : (W.setCell ⟨b, i, none⟩ x).ownsRow B t m v n xs := ownX_keep h (fun j hj => by
  have hne : j ≠ b := fun e => by
    subst e
    rcases h.2 with ⟨e1, _⟩ | ⟨g', cp, cur, e1, hB, _⟩
    · rw [e1] at hj; cases hj
    · rw [e1] at hj
      cases hj
      exact absurd hB (Nat.not_le.2 hb)
  exact Below.heap_setCell _ _ _ _ hne)
theorem Pw.below {w : World} {ad : Option Addr} {n cap : Nat} {W W' : World} {ps : List Plc} {v rf : Value} {rb : Nat} {s : Nat × Nat} (h : Pw w ad n cap W ps v rf rb s) (hb : Below W.heap.size W W') : Pw w ad n cap W' ps v rf rb s :=
  ⟨h.m0.below hb h.m0.lt, h.r1.below hb h.r1.lt, h.r2.below hb h.r2.lt, h.r3.below hb h.r3.lt, h.sp.below hb h.sp.lt, h.it.below hb h.it.lt, ⟨h.hd.hd.below hb h.hd.hd.lt, ownX_keep h.hd.own (fun j hj => hb.block j (h.hd.own.lt j hj).2)⟩, h.be.trans (hb.mono h.be.size)⟩
theorem Pw.set1 {w : World} {ad : Option Addr} {n cap : Nat} {W : World} {ps : List Plc} {v rf : Value} {rb : Nat} {s : Nat × Nat} (h : Pw w ad n cap W ps v rf rb s) (x : Value) : Pw w ad n cap (W.setCell ⟨w.heap.size + 1, 0, none⟩ x) ps v x rb s :=
  ⟨h.m0.set_other (a := ⟨w.heap.size + 1, 0, none⟩) (by dsimp only; omega) _, h.r1.set 0 x, h.r2.set_other (a := ⟨w.heap.size + 1, 0, none⟩) (by dsimp only; omega) _, h.r3.set_other (a := ⟨w.heap.size + 1, 0, none⟩) (by dsimp only; omega) _, h.sp.set_other (a := ⟨w.heap.size + 1, 0, none⟩) (by dsimp only; omega) _, h.it.set_other (a := ⟨w.heap.size + 1, 0, none⟩) (by dsimp only; omega) _, hd_set h.hd h.r1 (by decide) (by omega) _, h.be.setCell (p := ⟨w.heap.size + 1, 0, none⟩) (by dsimp only; omega) _⟩
theorem Pw.set2 {w : World} {ad : Option Addr} {n cap : Nat} {W : World} {ps : List Plc} {v rf : Value} {rb : Nat} {s : Nat × Nat} (h : Pw w ad n cap W ps v rf rb s) (x : Nat) : Pw w ad n cap (W.setCell ⟨w.heap.size + 2, 0, none⟩ (.int .i64 (x : Int))) ps v rf x s :=
  ⟨h.m0.set_other (a := ⟨w.heap.size + 2, 0, none⟩) (by dsimp only; omega) _, h.r1.set_other (a := ⟨w.heap.size + 2, 0, none⟩) (by dsimp only; omega) _, h.r2.set 0 _, h.r3.set_other (a := ⟨w.heap.size + 2, 0, none⟩) (by dsimp only; omega) _, h.sp.set_other (a := ⟨w.heap.size + 2, 0, none⟩) (by dsimp only; omega) _, h.it.set_other (a := ⟨w.heap.size + 2, 0, none⟩) (by dsimp only; omega) _, hd_set h.hd h.r2 (by decide) (by omega) _, h.be.setCell (p := ⟨w.heap.size + 2, 0, none⟩) (by dsimp only; omega) _⟩
theorem Pw.set3 {w : World} {ad : Option Addr} {n cap : Nat} {W : World} {ps : List Plc} {v rf : Value} {rb : Nat} {s : Nat × Nat} (h : Pw w ad n cap W ps v rf rb s) : Pw w ad n cap ((W.setCell ⟨w.heap.size + 3, 0, none⟩ (.int .i64 0)).setCell ⟨w.heap.size + 3, 1, none⟩ (.int .i64 0)) ps v rf rb s :=
  ⟨(h.m0.set_other (a := ⟨w.heap.size + 3, 0, none⟩) (by dsimp only; omega) _).set_other (a := ⟨w.heap.size + 3, 1, none⟩) (by dsimp only; omega) _, (h.r1.set_other (a := ⟨w.heap.size + 3, 0, none⟩) (by dsimp only; omega) _).set_other (a := ⟨w.heap.size + 3, 1, none⟩) (by dsimp only; omega) _, (h.r2.set_other (a := ⟨w.heap.size + 3, 0, none⟩) (by dsimp only; omega) _).set_other (a := ⟨w.heap.size + 3, 1, none⟩) (by dsimp only; omega) _, (h.r3.set 0 (.int .i64 0)).set 1 (.int .i64 0), (h.sp.set_other (a := ⟨w.heap.size + 3, 0, none⟩) (by dsimp only; omega) _).set_other (a := ⟨w.heap.size + 3, 1, none⟩) (by dsimp only; omega) _, (h.it.set_other (a := ⟨w.heap.size + 3, 0, none⟩) (by dsimp only; omega) _).set_other (a := ⟨w.heap.size + 3, 1, none⟩) (by dsimp only; omega) _, hd_set (hd_set h.hd h.r3 (by decide) (by omega) _) (h.r3.set 0 (.int .i64 0)) (by decide) (by omega) _, (h.be.setCell (p := ⟨w.heap.size + 3, 0, none⟩) (by dsimp only; omega) _).setCell (p := ⟨w.heap.size + 3, 1, none⟩) (by dsimp only; omega) _⟩
theorem Pw.setS {w : World} {ad : Option Addr} {n cap : Nat} {W : World} {ps : List Plc} {v rf : Value} {rb : Nat} {s : Nat × Nat} (h : Pw w ad n cap W ps v rf rb s) (x y : Nat) : Pw w ad n cap ((W.setCell ⟨w.heap.size + 5, 0, none⟩ (.int .i64 (x : Int))).setCell ⟨w.heap.size + 5, 1, none⟩ (.int .i64 (y : Int))) ps v rf rb (x, y) :=
  ⟨(h.m0.set_other (a := ⟨w.heap.size + 5, 0, none⟩) (by dsimp only; omega) _).set_other (a := ⟨w.heap.size + 5, 1, none⟩) (by dsimp only; omega) _, (h.r1.set_other (a := ⟨w.heap.size + 5, 0, none⟩) (by dsimp only; omega) _).set_other (a := ⟨w.heap.size + 5, 1, none⟩) (by dsimp only; omega) _, (h.r2.set_other (a := ⟨w.heap.size + 5, 0, none⟩) (by dsimp only; omega) _).set_other (a := ⟨w.heap.size + 5, 1, none⟩) (by dsimp only; omega) _, (h.r3.set_other (a := ⟨w.heap.size + 5, 0, none⟩) (by dsimp only; omega) _).set_other (a := ⟨w.heap.size + 5, 1, none⟩) (by dsimp only; omega) _, (h.sp.set 0 (.int .i64 (x : Int))).set 1 (.int .i64 (y : Int)), (h.it.set_other (a := ⟨w.heap.size + 5, 0, none⟩) (by dsimp only; omega) _).set_other (a := ⟨w.heap.size + 5, 1, none⟩) (by dsimp only; omega) _, hd_set (hd_set h.hd h.sp (by decide) (by omega) _) (h.sp.set 0 (.int .i64 (x : Int))) (by decide) (by omega) _, (h.be.setCell (p := ⟨w.heap.size + 5, 0, none⟩) (by dsimp only; omega) _).setCell (p := ⟨w.heap.size + 5, 1, none⟩) (by dsimp only; omega) _⟩
/-- What a round may change. -/
def Cp (w : World) (W : World) (k : Nat) : Prop := (k = w.heap.size + 1 ∨ k = w.heap.size + 2 ∨ k = w.heap.size + 3 ∨ k = w.heap.size + 5 ∨ k = w.heap.size + 4) ∨ Fp w.heap.size W k
theorem Pw.kept {w : World} {ad : Option Addr} {n cap : Nat} {W W' : World} {ps : List Plc} {v rf : Value} {rb : Nat} {s : Nat × Nat} {C : Nat} (h : Pw w ad n cap W ps v rf rb s) {a2 : Option Addr} (had : ∀ a, a2 = some a → a.block < w.heap.size) (hc : Chg (Cp w W) W W') : KeepsFrom C W W' ∧ Kg (Gb (w.heap.size + 6) a2) W W' :=
  ⟨keeps_cells hc (fun i hi => by
    rcases hi with (rfl | rfl | rfl | rfl | rfl) | ⟨_, cur, hi⟩
    · exact ⟨_, h.r1, rfl⟩
    · exact ⟨_, h.r2, rfl⟩
    · exact ⟨_, h.r3, rfl⟩
    · exact ⟨_, h.sp, rfl⟩
    · exact ⟨_, h.hd.hd, rfl⟩
    · exact ⟨_, hi, rfl⟩), Kg.of_chg hc (fun i hi e => by
    rcases e with e | ⟨a, ha, e⟩
    · subst e
      rcases hi with hi | hi
      · omega
      · exact Fp.no h.it (by decide) hi
    · have := had a ha
      rcases hi with hi | hi
      · omega
      · have := hi.1
        omega)⟩
/-- header.take has run. -/
theorem Pw.took {w : World} {ad : Option Addr} {n cap : Nat} {W W' : World} {ps qs : List Plc} {v v' rf : Value} {rb : Nat} {s : Nat × Nat} (h : Pw w ad n cap W ps v rf rb s) (hh : Hd w.heap.size W' (w.heap.size + 4) qs v') (hc : Chg (fun k => k = w.heap.size + 4 ∨ Fp w.heap.size W k) W W') : Pw w ad n cap W' qs v' rf rb s ∧ Chg (Cp w W) W W' := by
  have no : ∀ {g t : Nat} {cs : Array Value}, Lies W g cs t → t ≠ 70 → g ≠ w.heap.size + 4 → ¬ (g = w.heap.size + 4 ∨ Fp w.heap.size W g) := fun hl ht hg hx => hx.elim hg (Fp.no hl ht)
  exact ⟨⟨hc.lies h.m0 (no h.m0 (by decide) (by omega)), hc.lies h.r1 (no h.r1 (by decide) (by omega)), hc.lies h.r2 (no h.r2 (by decide) (by omega)), hc.lies h.r3 (no h.r3 (by decide) (by omega)), hc.lies h.sp (no h.sp (by decide) (by omega)), hc.lies h.it (no h.it (by decide) (by omega)), hh, h.be.trans (hc.to_below h.be.size (fun i hi => by
    rcases hi with rfl | hi
    · omega
    · exact hi.1))⟩, hc.mono (fun k hk => by
    rcases hk with hk | hk
    · exact .inl (.inr (.inr (.inr (.inr hk))))
    · exact .inr hk)⟩
set_option maxRecDepth 100000 in
set_option maxHeartbeats 4000000 in
theorem fparse_gen (ad : Option Addr) (l : List UInt8) (cap : Nat) (hlc : l.length ≤ cap) (hcm : cap ≤ 9223372036854775807) (hs : l.length ≤ 140737488351232) (w : World) (hr : Bts ad l w) (ht : Table w) :
    Calls Tryd.prog 8 #[.slice ad l.length cap] w fun e w' => ∃ v, e = .returned (.tuple #[v, .int .i64 (btP (prsF l) : Int), .agg #[.int .i64 ((spP (prsF l)).1 : Int), .int .i64 ((spP (prsF l)).2 : Int)]]) ∧ w'.ownsRow w.heap.size 32 2 v (fsP l (prsF l)).length (cellsF (fsP l (prsF l))) ∧ Below w.heap.size w w' := by
  have HRO : Hid (∀ wx, Calls Tryd.prog 18 #[.slice ad l.length cap] wx fun e w' => e = .returned (.func (.func 37) #[] #[.pointer (some ⟨wx.heap.size, 0, none⟩)]) ∧ w' = wx.alloc (.cells #[.slice ad l.length cap] 22)) := fun wx => rowsb_any ad l.length cap wx
  have HT : Hid (Table w) := ht
  have HBT : Hid (Bts ad l w) := hr
  have HAD : Hid (∀ a, adL ad l = some a → a.block < w.heap.size) := adL_lt hr
  clear ht hr
  refine (callsIn_wide (n := 9)).1 ?_
  refine callsIn_of_wp_marks Tryd.func8 rfl trivial ?_ rfl
  simp only [Tryd.ntmps8, List.size_toArray, List.length_cons, List.length_nil, Nat.reduceAdd, Nat.reduceSub, Array.replicate_succ, Array.replicate_zero, List.push_toArray, List.append_toArray, List.nil_append, List.cons_append]
  refine wpIn_wide.2 ?_
  go_wp2_with fail
  refine (HRO.out _).mono ?_
  rintro e w2 ⟨rfl, hw2⟩
  go_wp2_with fail
  have HU : Hid (Pw w ad l.length cap w2 [] (.slice none 0 0) (.slice none 0 0) 0 (0, 0)) := by
    rw [hw2]
    have nn : ∀ (A : World) (cs : Array Value) (t n : Nat), n = A.heap.size → Lies (A.alloc (.cells cs t)) n cs t := fun A cs t n e => by rw [e]; exact Lies.new A cs t
    refine ⟨((((((nn _ _ _ _ ?_).alloc _).alloc _).alloc _).alloc _).alloc _).alloc _, (((((nn _ _ _ _ ?_).alloc _).alloc _).alloc _).alloc _).alloc _, ((((nn _ _ _ _ ?_).alloc _).alloc _).alloc _).alloc _, (((nn _ _ _ _ ?_).alloc _).alloc _).alloc _, (nn _ _ _ _ ?_).alloc _, nn _ _ _ _ ?_, ⟨((nn _ _ _ _ ?_).alloc _).alloc _, ?_⟩, ?_⟩
    all_goals first | rfl | (simp only [World.size_alloc]; done) | skip
    · exact ⟨rfl, .inl ⟨rfl, rfl⟩⟩
    · exact (((((((Below.refl _ w).alloc (Nat.le_refl _) _).alloc (by simp) _).alloc (by simp; omega) _).alloc (by simp; omega) _).alloc (by simp; omega) _).alloc (by simp; omega) _).alloc (by simp; omega) _
  rw [← hw2]
  clear hw2 HRO
  refine (wpIn_wide (n := 9)).1 ?_
  refine' rv_out (by decide) (gf := 37) (lb := #[.pointer (some ⟨w.heap.size + 6, 0, none⟩)]) rfl (Go.Proofs.enters_of Tryd.func37 (by kernel_rfl) rfl) (rowsb_seq ad l cap (by omega) (w.heap.size + 6) 8 (by decide) w2 HU.out.it (HBT.out.below HU.out.be)) (vsR_size _) Kg.trans (fun W l o o' _ h1 h2 => Kg.book _ W l o o' h1 h2)
    (fun k W => ∃ f ps v s, Hid (Pw w ad l.length cap W ps v (.slice none 0 0) 0 s) ∧ Hid (Pst l k f ps)) (fun c _ W => (c = .ret ∧ ∃ ps v rf rb s, Hid (Pw w ad l.length cap W ps v rf rb s) ∧ Hid (W.ownsRow w.heap.size 32 2 rf (fsP l (prsF l)).length (cellsF (fsP l (prsF l)))) ∧ Hid (rb = btP (prsF l) ∧ (0, 0) = spP (prsF l))) ∨ (c = .exit 0 ∧ ∃ ps v s, Hid (Pw w ad l.length cap W ps v (.slice none 0 0) 0 s) ∧ Hid (prsF l = .error s))) ?hI ?hIx ⟨0, [], _, _, HU.out, Pst.zero l⟩ _ ?assign ?body ?done ?stop
  case hI => exact fun k _ W W' row hs hg hr => by obtain ⟨f, a, b, c, h, h2⟩ := hs; exact ⟨f, a, b, c, h.out.turn HU.out.be.size hg hr, h2⟩
  case hIx =>
    exact fun c k _ W W' row hs hg hr => by
      rcases hs with ⟨e1, a, b, c, d, s, h, h2, h3⟩ | ⟨e1, a, b, s, h, h2⟩
      · exact .inl ⟨e1, a, b, c, d, s, h.out.turn HU.out.be.size hg hr, ownX_turn h2.out hg (fun r e => (hr r e).2), h3⟩
      · exact .inr ⟨e1, a, b, s, h.out.turn HU.out.be.size hg hr, h2⟩
  case assign =>
    intro lp k hk W K hK
    rw [vsR_at _ k hk]
    gi_wp2
    exact hK
  case done =>
    rintro D W hD ⟨f, ps, v, s, H, HP⟩ hk
    have := HP.out.more
    rw [vsR_len] at this
    exact absurd this (Nat.lt_irrefl _)
  case stop =>
    rintro D c k W hD _ (⟨rfl, ps, v, rf, rb, s, H, HO, HE⟩ | ⟨rfl, ps, v, s, H, HE⟩) hk
    · refine wpIn_wide.2 ?_
      go_wp2
      refine ⟨by simp, .inl ⟨_, _, rfl, run_takeDeferred hk, ?_⟩⟩
      have hr1 := fun r (e : some D = some r) => (⟨by cases e; exact hD, _, by cases e; exact hk, rfl⟩ : w2.heap.size ≤ r ∧ ∃ o : Obj, W.heap[r]? = some o ∧ o.isCells = false)
      have hP := H.out.turn (C := w2.heap.size) HU.out.be.size (grownBy_putObj' W D (.deferred none)) hr1
      have hO := ownX_turn HO.out (grownBy_putObj' W D (.deferred none)) (fun r e => (hr1 r e).2)
      obtain ⟨e1, e2⟩ := HE.out
      rw [← e2, ← e1]
      exact ⟨_, results_sis rfl _ _ (w.heap.size + 1) (w.heap.size + 2) (w.heap.size + 3) #[.int .i64 0, .int .i64 0] _ rf (.int .i64 (rb : Int)) rfl rfl rfl (load_fds _ _ _ (hP.r1.cell 0)) hP.r3 (load_i3 _ _ _ (hP.r2.cell 0)) Tryd.underlying27 rfl infoSp2, ⟨rf, rfl, hO, hP.be⟩⟩
    · refine wpIn_wide.2 ?_
      have c5 := H.out.sp.cell 0
      have c6 := H.out.sp.cell 1
      have c1 := H.out.r1.cell 0
      have c2 := H.out.r2.cell 0
      have c3 := H.out.r3.cell 0
      have c4 := H.out.r3.cell 1
      have z1 := H.out.r1.frozen 0
      have z2 := H.out.r2.frozen 0
      have z3 := H.out.r3.frozen 0
      have z4 := H.out.r3.frozen 1
      simp only [List.getElem?_toArray, List.getElem?_cons_zero, List.getElem?_cons_succ] at c1 c2 c3 c4 c5 c6
      have h45 : Hid (∀ wx : World, Lies wx (w.heap.size + 5) #[.int .i64 (s.1 : Int), .int .i64 (s.2 : Int)] 27 → wx.cell? ⟨w.heap.size + 5, 0, none⟩ = some (.int .i64 (s.1 : Int)) ∧ wx.cell? ⟨w.heap.size + 5, 1, none⟩ = some (.int .i64 (s.2 : Int))) := fun wx h => ⟨h.cell 0, h.cell 1⟩
      go_wp2_with fail
      refine wp_onlyN ?_
      refine wp_region_late (fun wx => wx.cell? ⟨w.heap.size + 5, 0, none⟩ = some (.int .i64 (s.1 : Int)) ∧ wx.cell? ⟨w.heap.size + 5, 1, none⟩ = some (.int .i64 (s.2 : Int))) 3 (by kernel_rfl) ⟨c5, c6⟩ (fun hHeld => ?_)
      refine wpAnyE_take (i := 0) (d := some 33) (v := .agg #[.int .i64 (s.1 : Int), .int .i64 (s.2 : Int)]) rfl (by kernel_rfl) (by kernel_rfl) (by kernel_rfl) (by kernel_rfl) (fun _ _ _ h => h) rfl rfl ?hy (by first | assumption | exact hHeld) ?_
      case hy => (intro w' hSw; obtain ⟨q1, q2⟩ := hSw; go_simp <;> (first | with_reducible rfl | omega | skip))
      simp only [Act.put, List.setIfInBounds_toArray, List.set_cons_zero, List.set_cons_succ]
      refine wpAnyE_one (i := 1) (by kernel_rfl) rfl rfl ?_
      go_simp
      refine wpAnyE_one (i := 2) (by kernel_rfl) rfl rfl ?_
      go_simp
      refine wpAnyE_one (i := 3) (by kernel_rfl) rfl rfl ?_
      go_simp
      refine wpAnyE_done (by kernel_rfl) ?_ _
      clear hHeld
      dsimp only [OnlyN]
      go_wp2_with fail
      have hz := HU.out.it.lt
      have k1 : Lies ((((W.setCell ⟨w.heap.size + 1, 0, none⟩ (.slice none 0 0)).setCell ⟨w.heap.size + 2, 0, none⟩ (.int .i64 0)).setCell ⟨w.heap.size + 3, 0, none⟩ (.int .i64 (s.1 : Int))).setCell ⟨w.heap.size + 3, 1, none⟩ (.int .i64 (s.2 : Int))).drew (w.heap.size + 1) #[.slice none 0 0] 24 := ((((H.out.r1.set 0 (.slice none 0 0)).set_other (a := ⟨w.heap.size + 2, 0, none⟩) (by dsimp only; omega) _).set_other (a := ⟨w.heap.size + 3, 0, none⟩) (by dsimp only; omega) _).set_other (a := ⟨w.heap.size + 3, 1, none⟩) (by dsimp only; omega) _).drew
      have k2 : Lies ((((W.setCell ⟨w.heap.size + 1, 0, none⟩ (.slice none 0 0)).setCell ⟨w.heap.size + 2, 0, none⟩ (.int .i64 0)).setCell ⟨w.heap.size + 3, 0, none⟩ (.int .i64 (s.1 : Int))).setCell ⟨w.heap.size + 3, 1, none⟩ (.int .i64 (s.2 : Int))).drew (w.heap.size + 2) #[.int .i64 0] 3 := ((((H.out.r2.set_other (a := ⟨w.heap.size + 1, 0, none⟩) (by dsimp only; omega) _).set 0 (.int .i64 0)).set_other (a := ⟨w.heap.size + 3, 0, none⟩) (by dsimp only; omega) _).set_other (a := ⟨w.heap.size + 3, 1, none⟩) (by dsimp only; omega) _).drew
      have k3 : Lies ((((W.setCell ⟨w.heap.size + 1, 0, none⟩ (.slice none 0 0)).setCell ⟨w.heap.size + 2, 0, none⟩ (.int .i64 0)).setCell ⟨w.heap.size + 3, 0, none⟩ (.int .i64 (s.1 : Int))).setCell ⟨w.heap.size + 3, 1, none⟩ (.int .i64 (s.2 : Int))).drew (w.heap.size + 3) #[.int .i64 (s.1 : Int), .int .i64 (s.2 : Int)] 27 := ((((H.out.r3.set_other (a := ⟨w.heap.size + 1, 0, none⟩) (by dsimp only; omega) _).set_other (a := ⟨w.heap.size + 2, 0, none⟩) (by dsimp only; omega) _).set 0 (.int .i64 (s.1 : Int))).set 1 (.int .i64 (s.2 : Int))).drew
      have kb : Below w.heap.size w ((((W.setCell ⟨w.heap.size + 1, 0, none⟩ (.slice none 0 0)).setCell ⟨w.heap.size + 2, 0, none⟩ (.int .i64 0)).setCell ⟨w.heap.size + 3, 0, none⟩ (.int .i64 (s.1 : Int))).setCell ⟨w.heap.size + 3, 1, none⟩ (.int .i64 (s.2 : Int))).drew := ((((H.out.be.setCell (p := ⟨w.heap.size + 1, 0, none⟩) (by dsimp only; omega) _).setCell (p := ⟨w.heap.size + 2, 0, none⟩) (by dsimp only; omega) _).setCell (p := ⟨w.heap.size + 3, 0, none⟩) (by dsimp only; omega) _).setCell (p := ⟨w.heap.size + 3, 1, none⟩) (by dsimp only; omega) _).drew
      have kd : ((((W.setCell ⟨w.heap.size + 1, 0, none⟩ (.slice none 0 0)).setCell ⟨w.heap.size + 2, 0, none⟩ (.int .i64 0)).setCell ⟨w.heap.size + 3, 0, none⟩ (.int .i64 (s.1 : Int))).setCell ⟨w.heap.size + 3, 1, none⟩ (.int .i64 (s.2 : Int))).drew.heap[D]? = some (.deferred (some [])) := ((Below.heap_setCell _ _ _ _ (by dsimp only; omega)).trans ((Below.heap_setCell _ _ _ _ (by dsimp only; omega)).trans ((Below.heap_setCell _ _ _ _ (by dsimp only; omega)).trans (Below.heap_setCell _ _ _ _ (by dsimp only; omega))))).trans hk
      generalize ((((W.setCell ⟨w.heap.size + 1, 0, none⟩ (.slice none 0 0)).setCell ⟨w.heap.size + 2, 0, none⟩ (.int .i64 0)).setCell ⟨w.heap.size + 3, 0, none⟩ (.int .i64 (s.1 : Int))).setCell ⟨w.heap.size + 3, 1, none⟩ (.int .i64 (s.2 : Int))).drew = W' at *
      refine ⟨by simp, .inl ⟨_, _, rfl, run_takeDeferred kd, ?_⟩⟩
      have hr1 := fun r (e : some D = some r) => (⟨by cases e; exact hD, _, by cases e; exact kd, rfl⟩ : w2.heap.size ≤ r ∧ ∃ o : Obj, W'.heap[r]? = some o ∧ o.isCells = false)
      have hg := grownBy_putObj' W' D (.deferred none)
      have l1 := lies_turn k1 hg (fun r e => (hr1 r e).2)
      have l2 := lies_turn k2 hg (fun r e => (hr1 r e).2)
      have l3 := lies_turn k3 hg (fun r e => (hr1 r e).2)
      rw [HE.out]
      exact ⟨_, results_sis rfl _ _ (w.heap.size + 1) (w.heap.size + 2) (w.heap.size + 3) #[.int .i64 (s.1 : Int), .int .i64 (s.2 : Int)] _ (.slice none 0 0) (.int .i64 0) rfl rfl rfl (load_fds _ _ _ (l1.cell 0)) l3 (load_i3 _ _ _ (l2.cell 0)) Tryd.underlying27 rfl infoSp2, ⟨.slice none 0 0, rfl, ⟨rfl, .inl ⟨rfl, rfl⟩⟩, below_turn kb HU.out.be.size (Nat.le_refl _) hg hr1⟩⟩
  case body =>
    rintro lp k hk W hlp hrec ⟨f, ps, v, s, H, HP⟩
    have hk' : k < (rws l 0).length := by rw [← vsR_len]; exact hk
    rw [HP.out.row hk']
    dsimp only
    have hfl := HP.out.low
    have hge := rwE_ge l f
    have hle := rwE_le l f hfl
    have HB : Hid (Bts ad l W) := HBT.out.below H.out.be
    have HOV : Hid (Calls Tryd.prog 19 #[.slice ad l.length cap, .int .i64 (f : Int)] W fun e w' => e = .returned (.tuple #[.int .i64 ((if f = l.length then f else f + 2 : Nat) : Int), .bool (decide (f = l.length) || leH (l.drop f))]) ∧ w' = W) := over_any ad l cap f (by omega) hfl W HB.out
    have c0 := H.out.m0.cell 0
    have c1 := H.out.r1.cell 0
    have c2 := H.out.r2.cell 0
    have c3 := H.out.r3.cell 0
    have c4 := H.out.r3.cell 1
    have c5 := H.out.sp.cell 0
    have c6 := H.out.sp.cell 1
    have z1 := H.out.r1.frozen 0
    have z2 := H.out.r2.frozen 0
    have z3 := H.out.r3.frozen 0
    have z4 := H.out.r3.frozen 1
    have z5 := H.out.sp.frozen 0
    have z6 := H.out.sp.frozen 1
    simp only [List.getElem?_toArray, List.getElem?_cons_zero, List.getElem?_cons_succ] at c0 c1 c2 c3 c4 c5 c6
    obtain ⟨bd, hbd⟩ : ∃ bd : Nat, bd = if f = l.length then f else f + 2 := ⟨_, rfl⟩
    rw [← hbd] at HOV
    cases hov : decide (f = l.length) || leH (l.drop f) with
    | true =>
      rw [hov] at HOV
      have HRES : Hid (prsF l = .ok (ps, bd)) := by
        show prsF l = _
        by_cases he : f = l.length
        · rw [hbd, if_pos he]; exact HP.out.endA he
        · rw [decide_eq_false he, Bool.false_or] at hov
          rw [hbd, if_neg he]; exact HP.out.endB he hov
      clear hbd hov
      have HFI : Hid (Calls Tryd.prog 20 #[.pointer (some ⟨w.heap.size + 4, 0, none⟩), .slice ad l.length cap] W fun e w' => ∃ v, e = .returned v ∧ w'.ownsRow W.heap.size 32 2 v (ps.map (fdOf l)).length (cellsF (ps.map (fdOf l))) ∧ Below W.heap.size W w') := hfields_any ad l cap hlc ps (w.heap.size + 4) w.heap.size v W (by omega) HP.out.few HP.out.oks H.out.hd HB.out
      generalize rwE l f = tz at *
      gi_wp2_with fail
      refine ⟨trivial, ?_⟩
      refine (callsIn_wide.2 HOV.out).mono ?_
      rintro e w1 ⟨rfl, h1⟩
      rw [h1]
      clear h1 w1 HOV
      gi_wp2_with fail
      refine ⟨trivial, ?_⟩
      refine (callsIn_wide.2 HFI.out).mono ?_
      rintro e w1 ⟨fv, rfl, hO, hB1⟩
      have H1 : Hid (Pw w ad l.length cap w1 ps v (.slice none 0 0) 0 s) := H.out.below hB1
      obtain ⟨sa, sn, sc, rfl⟩ : ∃ sa sn sc, fv = .slice sa sn sc := by
        rcases hO.2 with ⟨rfl, _⟩ | ⟨_, _, _, rfl, _⟩
        · exact ⟨_, _, _, rfl⟩
        · exact ⟨_, _, _, rfl⟩
      have HO1 : Hid (w1.ownsRow W.heap.size 32 2 (.slice sa sn sc) (ps.map (fdOf l)).length (cellsF (ps.map (fdOf l)))) := hO
      have HB1 : Hid (Below W.heap.size W w1) := hB1
      clear hO hB1 c0 c1 c2 c3 c4 c5 c6 z1 z2 z3 z4 z5 z6 HFI
      have c1 := H1.out.r1.cell 0
      have c2 := H1.out.r2.cell 0
      have c3 := H1.out.r3.cell 0
      have c4 := H1.out.r3.cell 1
      have z1 := H1.out.r1.frozen 0
      have z2 := H1.out.r2.frozen 0
      have z3 := H1.out.r3.frozen 0
      have z4 := H1.out.r3.frozen 1
      simp only [List.getElem?_toArray, List.getElem?_cons_zero, List.getElem?_cons_succ] at c1 c2 c3 c4
      gi_wp2_with fail
      have hc := (((((Chg.of_below (F := Cp w W) HB1.out).set (p := ⟨w.heap.size + 1, 0, none⟩) (.inl (.inl (.inl rfl))) (.slice sa sn sc)).set (p := ⟨w.heap.size + 2, 0, none⟩) (.inl (.inl (.inr (.inl rfl)))) (.int .i64 (bd : Int))).set (p := ⟨w.heap.size + 3, 0, none⟩) (.inl (.inl (.inr (.inr (.inl rfl))))) (.int .i64 0))).set (p := ⟨w.heap.size + 3, 1, none⟩) (.inl (.inl (.inr (.inr (.inl rfl))))) (.int .i64 0)
      have hzz := H.out.it.lt
      have hO4 := ownX_base (ownX_set (ownX_set (ownX_set (ownX_set HO1.out (w.heap.size + 1) 0 (by omega) (.slice sa sn sc)) (w.heap.size + 2) 0 (by omega) (.int .i64 (bd : Int))) (w.heap.size + 3) 0 (by omega) (.int .i64 0)) (w.heap.size + 3) 1 (by omega) (.int .i64 0)) H.out.be.size
      refine ⟨(H.out.kept HAD.out hc).1, .inl ⟨rfl, ps, v, _, bd, s, ((H1.out.set1 _).set2 bd).set3, ?_, ?_⟩⟩
      · rw [HRES.out]
        exact hO4
      · rw [HRES.out]
        exact ⟨rfl, rfl⟩
    | false =>
      rw [hov] at HOV
      rw [Bool.or_eq_false_iff, decide_eq_false_iff_not] at hov
      obtain ⟨hne, hlf⟩ := hov
      have HTK : Hid (Calls Tryd.prog 21 #[.pointer (some ⟨w.heap.size + 4, 0, none⟩), .slice ad l.length cap, .int .i64 (f : Int), .int .i64 (rwE l f : Int)] W fun e w' => e = .returned (.agg #[.int .i64 ((spE (tkH l ps f (rwE l f))).1 : Int), .int .i64 ((spE (tkH l ps f (rwE l f))).2 : Int)]) ∧ (∃ v', Hd w.heap.size w' (w.heap.size + 4) (psV (tkH l ps f (rwE l f)) ps) v') ∧ Chg (fun k => k = w.heap.size + 4 ∨ Fp w.heap.size W k) W w') := htake_any ad l cap hlc hcm ps f (rwE l f) (w.heap.size + 4) w.heap.size v W hge hle (by omega) HP.out.few (fun e => by rw [e]; exact hlf) H.out.hd H.out.be.size HB.out (tab_below HT.out H.out.be)
      cases htk : tkH l ps f (rwE l f) with
      | error s' =>
        have HR : Hid (prsF l = .error s') := HP.out.bad hne hlf htk
        have hs1 : ((s'.1 : Int) == 0) = false := by
          rw [beq_eq_false_iff_ne]
          rcases tk_err htk with h | h <;> omega
        rw [htk] at HTK
        clear htk
        generalize rwE l f = tz at *
        gi_wp2_with fail
        refine ⟨trivial, ?_⟩
        refine (callsIn_wide.2 HOV.out).mono ?_
        rintro e w1 ⟨rfl, h1⟩
        rw [h1]
        clear h1 w1 HOV
        gi_wp2_with fail
        refine ⟨trivial, ?_⟩
        refine (callsIn_wide.2 HTK.out).mono ?_
        rintro e w1 ⟨rfl, ⟨v', hH⟩, hC⟩
        have H1 : Hid _ := H.out.took hH hC
        clear hH hC c0 c1 c2 c3 c4 c5 c6 z1 z2 z3 z4 z5 z6 HTK
        have c5 := H1.out.1.sp.cell 0
        have c6 := H1.out.1.sp.cell 1
        have z5 := H1.out.1.sp.frozen 0
        have z6 := H1.out.1.sp.frozen 1
        simp only [List.getElem?_toArray, List.getElem?_cons_zero, List.getElem?_cons_succ] at c5 c6
        dsimp only [spE]
        gi_wp2_with fail
        have hc := (H1.out.2.set (p := ⟨w.heap.size + 5, 0, none⟩) (.inl (.inl (.inr (.inr (.inr (.inl rfl)))))) (.int .i64 (s'.1 : Int))).set (p := ⟨w.heap.size + 5, 1, none⟩) (.inl (.inl (.inr (.inr (.inr (.inl rfl)))))) (.int .i64 (s'.2 : Int))
        exact ⟨(H.out.kept HAD.out hc).1, .inr ⟨rfl, _, _, _, H1.out.1.setS s'.1 s'.2, HR.out⟩⟩
      | ok qs =>
        have HR : Hid (Pst l (k + 1) (rwE l f + 2) qs) := HP.out.next hne hlf htk
        rw [htk] at HTK
        clear htk
        generalize rwE l f = tz at *
        gi_wp2_with fail
        refine ⟨trivial, ?_⟩
        refine (callsIn_wide.2 HOV.out).mono ?_
        rintro e w1 ⟨rfl, h1⟩
        rw [h1]
        clear h1 w1 HOV
        gi_wp2_with fail
        refine ⟨trivial, ?_⟩
        refine (callsIn_wide.2 HTK.out).mono ?_
        rintro e w1 ⟨rfl, ⟨v', hH⟩, hC⟩
        have H1 : Hid _ := H.out.took hH hC
        clear hH hC c0 c1 c2 c3 c4 c5 c6 z1 z2 z3 z4 z5 z6 HTK
        have c5 := H1.out.1.sp.cell 0
        have c6 := H1.out.1.sp.cell 1
        have z5 := H1.out.1.sp.frozen 0
        have z6 := H1.out.1.sp.frozen 1
        simp only [List.getElem?_toArray, List.getElem?_cons_zero, List.getElem?_cons_succ] at c5 c6
        dsimp only [spE]
        gi_wp2_with fail
        have hc := (H1.out.2.set (p := ⟨w.heap.size + 5, 0, none⟩) (.inl (.inl (.inr (.inr (.inr (.inl rfl)))))) (.int .i64 0)).set (p := ⟨w.heap.size + 5, 1, none⟩) (.inl (.inl (.inr (.inr (.inr (.inl rfl)))))) (.int .i64 0)
        exact ⟨(H.out.kept HAD.out hc).1, (H.out.kept (C := w2.heap.size) HAD.out hc).2, _, qs, _, _, H1.out.1.setS 0 0, HR.out⟩
theorem fparse_any (ad : Option Addr) (l : List UInt8) (cap : Nat) (hlc : l.length ≤ cap) (hcm : cap ≤ 9223372036854775807) (hs : l.length ≤ 140737488351232) (w : World) (_had : ∀ a, ad = some a → a.block < w.heap.size) (hr : Bts ad l w) (ht : Table w) :
    Calls Tryd.prog 8 #[.slice ad l.length cap] w fun e w' => ∃ v, e = .returned (.tuple #[v, .int .i64 (btP (prsF l) : Int), .agg #[.int .i64 ((spP (prsF l)).1 : Int), .int .i64 ((spP (prsF l)).2 : Int)]]) ∧ w'.ownsRow w.heap.size 32 2 v (fsP l (prsF l)).length (cellsF (fsP l (prsF l))) ∧ Below w.heap.size w w' := fparse_gen ad l cap hlc hcm hs w hr ht
end Go.Proofs.YtpepjiocjcjeeabDoor
