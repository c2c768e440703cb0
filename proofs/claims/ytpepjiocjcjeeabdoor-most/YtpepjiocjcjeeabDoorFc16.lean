/-
  Unfold.
-/
import Derived.Test.YtpepjiocjcjeeabDoorFb16
import Derived.Test.YtpepjiocjcjeeabDoorPure
namespace Go.Proofs.YtpepjiocjcjeeabDoor
open Go.RowKit Go.Shelf

attribute [local go_sem] Oper.semAt_some

/-- The k-th fold. -/
def fpk (l : List UInt8) (k : Nat) : Nat := (fps l l.length).getD k 0
theorem fpk_eq (l : List UInt8) (k : Nat) (h : k < (fps l l.length).length) : (fps l l.length)[k] = fpk l k := by
  unfold fpk
  rw [List.getD_eq_getElem?_getD, List.getElem?_eq_getElem h]
  rfl
/-- What Unfold has in memory while it goes through the folds. -/
structure Uw (w : World) (s : ByteArray) (b : Nat) (k : Nat) (W : World) (v : Value) (out : List UInt8) (f : Nat) : Prop where
  s0 : Lies W w.heap.size #[.string s] 9
  o0 : Lies W b #[v] 22
  f0 : Lies W (b + 1) #[.int .i64 (f : Int)] 3
  g0 : Lies W (b + 2) #[.string s] 9
  own : W.ownsRow w.heap.size 5 1 v out.length (cellsB out)
  uf : Ufs s.data.toList k out f
  be : Below w.heap.size w W
  wb : w.heap.size < b
theorem lies_turn {W W' : World} {g t : Nat} {cs : Array Value} {row : Option Nat} (h : Lies W g cs t) (hg : W.grownBy W' row) (hr : ∀ r, row = some r → ∃ o : Obj, W.heap[r]? = some o ∧ o.isCells = false) : Lies W' g cs t := (grownBy_keeps_cells hg hr h rfl).trans h
theorem own_turn {W W' : World} {B n : Nat} {v : Value} {xs : List Value} {row : Option Nat} (h : W.ownsRow B 5 1 v n xs) (hg : W.grownBy W' row) (hr : ∀ r, row = some r → ∃ o : Obj, W.heap[r]? = some o ∧ o.isCells = false) : W'.ownsRow B 5 1 v n xs := own_keep h (fun k hk => by
  rcases h.2 with ⟨rfl, _⟩ | ⟨g, cap, cur, rfl, hB, hc, _⟩
  · cases hk
  · cases hk
    exact grownBy_keeps_cells hg hr hc rfl)
theorem below_turn {w W W' : World} {B C : Nat} {row : Option Nat} (h : Below B w W) (hB : B ≤ C) (hw : B ≤ w.heap.size) (hg : W.grownBy W' row) (hr : ∀ r, row = some r → C ≤ r ∧ ∃ o : Obj, W.heap[r]? = some o ∧ o.isCells = false) : Below B w W' := h.grown hg (Nat.le_trans hw h.size) (fun q hq => Nat.le_trans hB (hr q hq).1)
theorem Uw.turn {w : World} {s : ByteArray} {b k : Nat} {W W' : World} {v : Value} {out : List UInt8} {f C : Nat} (h : Uw w s b k W v out f) (hC : w.heap.size ≤ C) {row : Option Nat} (hg : W.grownBy W' row) (hr : ∀ r, row = some r → C ≤ r ∧ ∃ o : Obj, W.heap[r]? = some o ∧ o.isCells = false) : Uw w s b k W' v out f :=
  have hr' := fun r e => (hr r e).2
  ⟨lies_turn h.s0 hg hr', lies_turn h.o0 hg hr', lies_turn h.f0 hg hr', lies_turn h.g0 hg hr', own_turn h.own hg hr', h.uf, below_turn h.be hC (Nat.le_refl _) hg hr, h.wb⟩
theorem keeps_cells {B : Nat} {F : Nat → Prop} {W W' : World} (h : Chg F W W') (hF : ∀ k, F k → ∃ o : Obj, W.heap[k]? = some o ∧ o.isCells = true) : KeepsFrom B W W' :=
  ⟨h.size, fun k o _ ho hc => (h.block k (Array.getElem?_eq_some_iff.1 ho).1 (fun f => by
    obtain ⟨o', h1, h2⟩ := hF k f
    rw [ho] at h1
    cases h1
    rw [hc] at h2
    cases h2)).trans ho⟩
theorem Fb.later {B k : Nat} {W W' : World} (h : Fb B W' k) (hb : Below W.heap.size W W') : Fb B W k ∨ W.heap.size ≤ k := by
  rcases Nat.lt_or_ge k W.heap.size with hlt | hge
  · obtain ⟨h1, cur, h2⟩ := h
    rw [hb.block k hlt] at h2
    exact .inl ⟨h1, cur, h2⟩
  · exact .inr hge
theorem Uw.step {w : World} {s : ByteArray} {b k : Nat} {W : World} {v : Value} {out : List UInt8} {f : Nat} (h : Uw w s b k W v out f) (C p : Nat) (w3 : World) (v3 : Value) (hl : Laid (W.alloc (.cells #[.string (s.extract f p)] 9)).drew w.heap.size (out ++ catT [s.extract f p]) w3 v3)
    (hu : Ufs s.data.toList (k + 1) (out ++ stE s.data.toList f p) (p + 2)) :
    w3.cell? ⟨b, 0, none⟩ = some v ∧ w3.frozen? ⟨b, 0, none⟩ = false ∧ w3.cell? ⟨b + 1, 0, none⟩ = some (.int .i64 (f : Int)) ∧ w3.frozen? ⟨b + 1, 0, none⟩ = false ∧ w3.cell? ⟨w.heap.size, 0, none⟩ = some (.string s) ∧
    Uw w s b (k + 1) ((w3.setCell ⟨b, 0, none⟩ v3).setCell ⟨b + 1, 0, none⟩ (.int .i64 ((p + 2 : Nat) : Int))) v3 (out ++ stE s.data.toList f p) (p + 2) ∧
    KeepsFrom C W ((w3.setCell ⟨b, 0, none⟩ v3).setCell ⟨b + 1, 0, none⟩ (.int .i64 ((p + 2 : Nat) : Int))) ∧ Kg (· = b + 2) W ((w3.setCell ⟨b, 0, none⟩ v3).setCell ⟨b + 1, 0, none⟩ (.int .i64 ((p + 2 : Nat) : Int))) := by
  have hb6 : Below W.heap.size W (W.alloc (.cells #[.string (s.extract f p)] 9)).drew := ((Below.refl _ _).alloc (Nat.le_refl _) _).drew
  have hc3 : Chg (Fb w.heap.size W) W w3 := (Chg.of_below hb6).then hl.chg (fun i hi => hi.later hb6)
  have hwb := h.wb
  have l0 := hc3.lies h.s0 (Fb.no h.s0 (by decide))
  have l1 := hc3.lies h.o0 (Fb.no h.o0 (by decide))
  have l2 := hc3.lies h.f0 (Fb.no h.f0 (by decide))
  have l3 := hc3.lies h.g0 (Fb.no h.g0 (by decide))
  have hcat : catT [s.extract f p] = stE s.data.toList f p := by
    simp [catT, stE, List.drop_take]
  have hX : Chg (fun k => Fb w.heap.size W k ∨ k = b ∨ k = b + 1) W ((w3.setCell ⟨b, 0, none⟩ v3).setCell ⟨b + 1, 0, none⟩ (.int .i64 ((p + 2 : Nat) : Int))) := ((hc3.mono (fun _ hi => .inl hi)).set (p := ⟨b, 0, none⟩) (.inl (.inr (.inl rfl))) v3).set (p := ⟨b + 1, 0, none⟩) (.inl (.inr (.inr rfl))) _
  refine ⟨l1.cell 0, l1.frozen 0, l2.cell 0, l2.frozen 0, l0.cell 0, ⟨?_, ?_, ?_, ?_, ?_, hu, ?_, hwb⟩, keeps_cells hX (fun i hi => ?_), Kg.of_chg hX (fun i hi e => ?_)⟩
  · exact (l0.set_other (a := ⟨b, 0, none⟩) (by dsimp only; omega) v3).set_other (a := ⟨b + 1, 0, none⟩) (by dsimp only; omega) _
  · exact (l1.set 0 v3).set_other (a := ⟨b + 1, 0, none⟩) (by dsimp only; omega) _
  · exact (l2.set_other (a := ⟨b, 0, none⟩) (by dsimp only; omega) v3).set 0 _
  · exact (l3.set_other (a := ⟨b, 0, none⟩) (by dsimp only; omega) v3).set_other (a := ⟨b + 1, 0, none⟩) (by dsimp only; omega) _
  · have ho := hl.own
    rw [hcat] at ho
    refine own_keep ho (fun i hi => ?_)
    have n1 : i ≠ b := own_apart ho l1 (by decide) i hi
    have n2 : i ≠ b + 1 := own_apart ho l2 (by decide) i hi
    exact (Below.heap_setCell _ _ _ _ n2).trans (Below.heap_setCell _ _ _ _ n1)
  · exact (h.be.trans ((hX.to_below h.be.size (fun i hi => by
      rcases hi with hi | rfl | rfl
      · exact hi.1
      · omega
      · omega))))
  · rcases hi with ⟨_, cur, hi⟩ | rfl | rfl
    · exact ⟨_, hi, rfl⟩
    · exact ⟨_, h.o0, rfl⟩
    · exact ⟨_, h.f0, rfl⟩
  · subst e
    rcases hi with hi | hi | hi
    · exact Fb.no h.g0 (by decide) hi
    · omega
    · omega
set_option maxRecDepth 100000 in
set_option maxHeartbeats 4000000 in
theorem unfold_any (s : ByteArray) (hs : s.size ≤ 140737488351232) (w : World) : Calls Tryd.prog 15 #[.string s] w fun e w' => e = .returned (.string (tx (unf s.data.toList))) ∧ Below w.heap.size w w' := by
  have hsI : (s.size : Int) ≤ 140737488351232 := by omega
  have HFO : Hid (∀ wx, Calls Tryd.prog 36 #[.string s] wx fun e w' => e = .returned (.func (.func 49) #[] #[.pointer (some ⟨wx.heap.size, 0, none⟩)]) ∧ w' = wx.alloc (.cells #[.string s] 9)) := fun wx => fols_any s wx
  obtain ⟨w1, hmk, hO1, hB1⟩ := make_room (w.alloc (.cells #[.string s] 9)) 0 s.size 0 s.size rfl rfl (Nat.zero_le _) (by omega) w.heap.size (by simp)
  rw [World.size_alloc] at hmk hO1
  have HO1 : Hid (w1.ownsRow w.heap.size 5 1 (.slice (some ⟨w.heap.size + 1, 0, none⟩) 0 s.size) 0 (cellsB [])) := hO1
  have HL1 : Hid (Lies w1 w.heap.size #[.string s] 9) := (Lies.new w _ _).below hB1 (by simp)
  have HB1 : Hid (Below w.heap.size w w1) := ((Below.refl _ w).alloc (Nat.le_refl _) _).trans (hB1.mono (by simp))
  have c0 := HL1.out.cell 0
  rw [show (#[Value.string s] : Array Value)[0]? = some (.string s) from rfl] at c0
  have hlt0 : w.heap.size < w1.heap.size := HL1.out.lt
  clear hO1 hB1
  refine (callsIn_wide (n := 9)).1 ?_
  refine callsIn_of_wp_marks Tryd.func15 rfl trivial ?_ rfl
  simp only [Tryd.ntmps15, List.size_toArray, List.length_cons, List.length_nil, Nat.reduceAdd, Nat.reduceSub, Array.replicate_succ, Array.replicate_zero, List.push_toArray, List.append_toArray, List.nil_append, List.cons_append]
  refine wpIn_wide.2 ?_
  go_wp2_with fail
  refine (HFO.out _).mono ?_
  rintro e w2 ⟨rfl, hw2⟩
  go_wp2_with fail
  obtain ⟨b, hb⟩ : ∃ b, b = w1.heap.size := ⟨_, rfl⟩
  have HU : Hid (Uw w s b 0 w2 (.slice (some ⟨w.heap.size + 1, 0, none⟩) 0 s.size) [] 0) := by
    rw [hw2, hb]
    refine ⟨((HL1.out.alloc _).alloc _).alloc _, ((Lies.new _ _ _).alloc _).alloc _, ?_, ?_, own_below HO1.out ((((Below.refl _ _).alloc (Nat.le_refl _) _).alloc (by simp) _).alloc (by simp; omega) _), Ufs.start _, ((HB1.out.alloc (by omega) _).alloc (by simp; omega) _).alloc (by simp; omega) _, hlt0⟩
    · exact (new_one _ _ _ _).alloc _
    · exact new_two _ _ _ _ _
  rw [← hw2, ← hb]
  clear hw2 hb hmk HO1 HL1 HB1 c0 hlt0 HFO
  have hps : ∀ v ∈ vsF s.data.toList, v.size = 1 := fun v hv => by
    obtain ⟨p, _, rfl⟩ := List.mem_map.1 hv
    rfl
  have HV : Hid (∀ k (hk : k < (vsF s.data.toList).length), (vsF s.data.toList)[k] = #[.int .i64 (fpk s.data.toList k : Int)]) := fun k hk => by
    have hk' : k < (fps s.data.toList s.data.toList.length).length := by unfold vsF at hk; rw [List.length_map] at hk; exact hk
    have h5 : (vsF s.data.toList)[k]? = some #[.int .i64 (fpk s.data.toList k : Int)] := by
      unfold vsF
      rw [List.getElem?_map, List.getElem?_eq_getElem hk', fpk_eq _ _ hk']
      rfl
    rw [List.getElem?_eq_getElem hk] at h5
    exact Option.some.inj h5
  refine (wpIn_wide (n := 9)).1 ?_
  refine' rv_out (by decide) (gf := 49) (lb := #[.pointer (some ⟨b + 1 + 1, 0, none⟩)]) rfl (Go.Proofs.enters_of Tryd.func49 (by kernel_rfl) rfl) (folds_seq s (by omega) (b + 2) 8 (by decide) w2 HU.out.g0) hps Kg.trans (fun W l o o' _ h1 h2 => Kg.book _ W l o o' h1 h2)
    (fun k W => ∃ v out f, Hid (Uw w s b k W v out f)) (fun _ _ _ => False) ?hI ?hIx ⟨_, _, _, HU.out⟩ _ ?assign ?body ?done ?stop
  case hI => exact fun k _ W W' row hs hg hr => by obtain ⟨v, out, f, h⟩ := hs; exact ⟨v, out, f, h.out.turn HU.out.be.size hg hr⟩
  case hIx => exact fun c k _ W W' row hs _ _ => hs
  case assign =>
    intro lp k hk W K hK
    rw [HV.out k hk]
    gi_wp2
    exact hK
  case stop => exact fun D c k W _ _ h _ => h.elim
  case body =>
    intro lp k hk W hlp hrec hi
    obtain ⟨v, out, f, H⟩ := hi
    have hk' : k < (fps s.data.toList s.data.toList.length).length := by unfold vsF at hk; rw [List.length_map] at hk; exact hk
    have HST := H.out.uf.step hk'
    have hfp := H.out.uf.nn hk'
    have hpl := fd_lt _ _ ((fps_mem s.data.toList s.data.toList.length _).1 (List.getElem_mem hk')).2
    rw [fpk_eq _ _ hk'] at HST hfp hpl
    rw [len_list] at hpl
    have HS2 : Hid (Ufs s.data.toList (k + 1) (out ++ stE s.data.toList f (fpk s.data.toList k)) (fpk s.data.toList k + 2)) := HST
    clear HST
    generalize fpk s.data.toList k = p at *
    have hfpI : (f : Int) ≤ (p : Int) := by omega
    have hplI : (p : Int) + 2 < (s.size : Int) := by omega
    have hwp : IntKind.i64.wrap ((p : Int) + 2) = (p : Int) + 2 := by rw [IntKind.wrap_i64]; omega
    gi_wp2_with fail
    refine wpIn_region_late (fun wx => wx.cell? ⟨w.heap.size, 0, none⟩ = some (.string s) ∧ wx.cell? ⟨b, 0, none⟩ = some v ∧ wx.cell? ⟨b + 1, 0, none⟩ = some (.int .i64 (f : Int))) 7 (by kernel_rfl) (by kernel_rfl) ?lo ⟨H.out.s0.cell 0, H.out.o0.cell 0, H.out.f0.cell 0⟩ (fun hHeld => ?_)
    case lo => rintro ⟨_, _, h⟩; exact h
    refine wpAnyE_take (i := 0) (d := some 12) (v := v) rfl (by kernel_rfl) (by kernel_rfl) (by kernel_rfl) (by kernel_rfl) (fun _ _ _ h => h) rfl rfl ?hy (by first | assumption | exact hHeld) ?_
    case hy => (intro w' hSw; obtain ⟨q1, q2, q3⟩ := hSw; go_simp <;> (first | with_reducible rfl | omega | skip))
    simp only [Act.put, List.setIfInBounds_toArray, List.set_cons_zero, List.set_cons_succ]
    refine wpAnyE_take (i := 1) (d := some 13) (v := .string s) rfl (by kernel_rfl) (by kernel_rfl) (by kernel_rfl) (by kernel_rfl) (fun _ _ _ h => h) rfl rfl ?hy (by first | assumption | exact hHeld) ?_
    case hy => (intro w' hSw; obtain ⟨q1, q2, q3⟩ := hSw; go_simp <;> (first | with_reducible rfl | omega | skip))
    simp only [Act.put, List.setIfInBounds_toArray, List.set_cons_zero, List.set_cons_succ]
    refine wpAnyE_take (i := 2) (d := some 14) (v := .int .i64 (f : Int)) rfl (by kernel_rfl) (by kernel_rfl) (by kernel_rfl) (by kernel_rfl) (fun _ _ _ h => h) rfl rfl ?hy (by first | assumption | exact hHeld) ?_
    case hy => (intro w' hSw; obtain ⟨q1, q2, q3⟩ := hSw; go_simp <;> (first | with_reducible rfl | omega | skip))
    simp only [Act.put, List.setIfInBounds_toArray, List.set_cons_zero, List.set_cons_succ]
    refine wpAnyE_take (i := 3) (d := some 15) (v := .int .i64 (p : Int)) rfl (by kernel_rfl) (by kernel_rfl) (by kernel_rfl) (by kernel_rfl) (fun _ _ _ h => h) rfl rfl ?hy (by first | assumption | exact hHeld) ?_
    case hy => (intro w' hSw; obtain ⟨q1, q2, q3⟩ := hSw; go_simp <;> (first | with_reducible rfl | omega | skip))
    simp only [Act.put, List.setIfInBounds_toArray, List.set_cons_zero, List.set_cons_succ]
    refine wpAnyE_take (i := 4) (d := some 16) (v := .string (s.extract f p)) rfl (by kernel_rfl) (by kernel_rfl) (by kernel_rfl) (by kernel_rfl) (fun _ _ _ h => h) rfl rfl ?hy (by first | assumption | exact hHeld) ?_
    case hy => (intro w' hSw; obtain ⟨q1, q2, q3⟩ := hSw; go_simp <;> (first | with_reducible rfl | omega | skip))
    simp only [Act.put, List.setIfInBounds_toArray, List.set_cons_zero, List.set_cons_succ]
    refine wpAnyE_one (i := 5) (by kernel_rfl) rfl rfl ?_
    go_simp
    refine ⟨⟨(H.out.s0.alloc _).cell 0, (H.out.o0.alloc _).cell 0, (H.out.f0.alloc _).cell 0⟩, ?_⟩
    refine wpAnyE_one (i := 6) (by kernel_rfl) rfl rfl ?_
    go_simp
    have hst : out.length + (catT [s.extract f p]).length ≤ 140737488355328 := by
      have h1 := H.out.uf.sm
      have h2 := H.out.uf.le
      rw [len_list] at h2
      have : (catT [s.extract f p]).length ≤ p - f := by simp [catT]; omega
      omega
    refine (lay_any w.heap.size v out [s.extract f p] W.heap.size 1 (W.alloc (.cells #[.string (s.extract f p)] 9)).drew (Nat.le_trans H.out.be.size (by simp)) (own_below H.out.own (((Below.refl _ _).alloc (Nat.le_refl _) _).drew)) (Lies.new W _ _).drew hst (by simp)).mono ?_
    rintro e w3 ⟨v3, rfl, hl3⟩
    obtain ⟨a3, cp3, hv3, -⟩ := own_bts hl3.own
    generalize (out ++ catT [s.extract f p]).length = n3 at hv3
    subst hv3
    obtain ⟨c1, z1, c2, z2, c3, HX, HKF, HKG⟩ := H.out.step w2.heap.size p w3 _ hl3 HS2.out
    refine ⟨⟨c3, c1, c2⟩, ?_⟩
    have HX1 : Hid _ := HX
    have HKF1 : Hid _ := HKF
    have HKG1 : Hid _ := HKG
    clear HX HKF HKG hl3 hHeld
    refine wpAnyE_one (i := 7) (by kernel_rfl) rfl rfl ?_
    go_simp
    refine wpAnyE_done (by kernel_rfl) ?_ _
    gi_wp2
    have e2 : ((p + 2 : Nat) : Int) = (p : Int) + 2 := by omega
    rw [e2] at HX1 HKF1 HKG1
    exact ⟨HKF1.out, HKG1.out, _, _, _, HX1⟩
  case done =>
    rintro D W hD ⟨v, out, f, H⟩ hk
    rw [show (vsF s.data.toList).length = (fps s.data.toList s.data.toList.length).length from List.length_map ..] at H
    have HF : Hid (unf s.data.toList = out ++ s.data.toList.drop f) := H.out.uf.fin
    have c0 := H.out.s0.cell 0
    have c1 := H.out.o0.cell 0
    have c2 := H.out.f0.cell 0
    have hfs : f ≤ s.size := by have := H.out.uf.le; rw [len_list] at this; exact this
    have hfI : (f : Int) ≤ (s.size : Int) := by omega
    simp only [List.getElem?_toArray, List.getElem?_cons_zero] at c0 c1 c2
    go_wp2_with fail
    refine wp_onlyN ?_
    refine wp_region_late (fun wx => wx.cell? ⟨w.heap.size, 0, none⟩ = some (.string s) ∧ wx.cell? ⟨b, 0, none⟩ = some v ∧ wx.cell? ⟨b + 1, 0, none⟩ = some (.int .i64 (f : Int))) 7 (by kernel_rfl) ⟨c0, c1, c2⟩ (fun hHeld => ?_)
    refine wpAnyE_take (i := 0) (d := some 21) (v := v) rfl (by kernel_rfl) (by kernel_rfl) (by kernel_rfl) (by kernel_rfl) (fun _ _ _ h => h) rfl rfl ?hy (by first | assumption | exact hHeld) ?_
    case hy => (intro w' hSw; obtain ⟨q1, q2, q3⟩ := hSw; go_simp <;> (first | with_reducible rfl | omega | skip))
    simp only [Act.put, List.setIfInBounds_toArray, List.set_cons_zero, List.set_cons_succ]
    refine wpAnyE_take (i := 1) (d := some 22) (v := .string s) rfl (by kernel_rfl) (by kernel_rfl) (by kernel_rfl) (by kernel_rfl) (fun _ _ _ h => h) rfl rfl ?hy (by first | assumption | exact hHeld) ?_
    case hy => (intro w' hSw; obtain ⟨q1, q2, q3⟩ := hSw; go_simp <;> (first | with_reducible rfl | omega | skip))
    simp only [Act.put, List.setIfInBounds_toArray, List.set_cons_zero, List.set_cons_succ]
    refine wpAnyE_take (i := 2) (d := some 23) (v := .int .i64 (f : Int)) rfl (by kernel_rfl) (by kernel_rfl) (by kernel_rfl) (by kernel_rfl) (fun _ _ _ h => h) rfl rfl ?hy (by first | assumption | exact hHeld) ?_
    case hy => (intro w' hSw; obtain ⟨q1, q2, q3⟩ := hSw; go_simp <;> (first | with_reducible rfl | omega | skip))
    simp only [Act.put, List.setIfInBounds_toArray, List.set_cons_zero, List.set_cons_succ]
    refine wpAnyE_take (i := 3) (d := some 24) (v := .string (s.extract f s.size)) rfl (by kernel_rfl) (by kernel_rfl) (by kernel_rfl) (by kernel_rfl) (fun _ _ _ h => h) rfl rfl ?hy (by first | assumption | exact hHeld) ?_
    case hy => (intro w' hSw; obtain ⟨q1, q2, q3⟩ := hSw; go_simp <;> (first | with_reducible rfl | omega | skip))
    simp only [Act.put, List.setIfInBounds_toArray, List.set_cons_zero, List.set_cons_succ]
    refine wpAnyE_one (i := 4) (by kernel_rfl) rfl rfl ?_
    go_simp
    refine ⟨⟨(H.out.s0.alloc _).cell 0, (H.out.o0.alloc _).cell 0, (H.out.f0.alloc _).cell 0⟩, ?_⟩
    refine wpAnyE_one (i := 5) (by kernel_rfl) rfl rfl ?_
    go_simp
    have hcat : catT [s.extract f s.size] = s.data.toList.drop f := by
      simp [catT]
      rw [List.take_of_length_le]
      rw [List.length_drop, len_list]
      omega
    have hst : out.length + (catT [s.extract f s.size]).length ≤ 140737488355328 := by
      have h1 := H.out.uf.sm
      rw [hcat, List.length_drop, len_list]
      omega
    refine (lay_any w.heap.size v out [s.extract f s.size] W.heap.size 1 (W.alloc (.cells #[.string (s.extract f s.size)] 9)).drew (Nat.le_trans H.out.be.size (by simp)) (own_below H.out.own (((Below.refl _ _).alloc (Nat.le_refl _) _).drew)) (Lies.new W _ _).drew hst (by simp)).mono ?_
    rintro e w3 ⟨v3, rfl, hl3⟩
    have hcv := own_tx hl3.own
    rw [hcat, ← HF.out] at hcv
    have hb6 : Below W.heap.size W (W.alloc (.cells #[.string (s.extract f s.size)] 9)).drew := ((Below.refl _ _).alloc (Nat.le_refl _) _).drew
    have hc3 : Chg (Fb w.heap.size W) W w3 := (Chg.of_below hb6).then hl3.chg (fun i hi => hi.later hb6)
    have hD3 : w3.heap[D]? = some (.deferred (some [])) := (keeps_cells (B := 0) hc3 (fun i hi => by obtain ⟨_, cur, h⟩ := hi; exact ⟨_, h, rfl⟩)).same D _ (Nat.zero_le _) hk rfl
    have hB3 : Below w.heap.size w w3 := H.out.be.trans (hc3.to_below H.out.be.size (fun i hi => hi.1))
    have HD3 : Hid _ := hD3
    have HB3 : Hid _ := hB3
    have hS3 : w3.cell? ⟨w.heap.size, 0, none⟩ = some (.string s) ∧ w3.cell? ⟨b, 0, none⟩ = some v ∧ w3.cell? ⟨b + 1, 0, none⟩ = some (.int .i64 (f : Int)) := ⟨(hc3.lies H.out.s0 (Fb.no H.out.s0 (by decide))).cell 0, (hc3.lies H.out.o0 (Fb.no H.out.o0 (by decide))).cell 0, (hc3.lies H.out.f0 (Fb.no H.out.f0 (by decide))).cell 0⟩
    refine ⟨hS3, ?_⟩
    obtain ⟨U, hU⟩ : ∃ U, U = unf s.data.toList := ⟨_, rfl⟩
    rw [← hU] at hcv
    have HU2 : Hid (U = unf s.data.toList) := hU
    clear hD3 hB3 hc3 hb6 hl3 hHeld hcat hst hU
    have HS3 : Hid (w3.cell? ⟨w.heap.size, 0, none⟩ = some (.string s) ∧ w3.cell? ⟨b, 0, none⟩ = some v ∧ w3.cell? ⟨b + 1, 0, none⟩ = some (.int .i64 (f : Int))) := hS3
    clear hS3
    refine wpAnyE_one (i := 6) (by kernel_rfl) rfl rfl ?_
    go_simp
    refine ⟨HS3.out, ?_⟩
    refine wpAnyE_one (i := 7) (by kernel_rfl) rfl rfl ?_
    go_simp
    refine wpAnyE_done (by kernel_rfl) ?_ _
    simp only [OnlyN]
    go_wp2
    refine ⟨by simp, .inl ⟨_, _, rfl, run_takeDeferred HD3.out, ?_⟩⟩
    refine ⟨.string (tx U), ?_, by rw [HU2.out], ?_⟩
    · simp [results, Tryd.results15, go_sem]
    · exact below_turn HB3.out (Nat.le_refl _) (Nat.le_refl _) (grownBy_putObj' w3 D _) (fun r e => by cases e; exact ⟨by have := HU.out.be.size; omega, _, HD3.out, rfl⟩)
end Go.Proofs.YtpepjiocjcjeeabDoor
