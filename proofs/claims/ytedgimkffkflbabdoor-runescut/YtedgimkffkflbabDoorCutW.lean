/-
  A checker that is fed pieces, copies of lists, and lists of lists of bytes that the call made.
-/
import Derived.Test.YtedgimkffkflbabDoorCutP
import Derived.Test.YtedgimkffkflbabDoorNum
import Derived.Test.YtedgimkffkflbabDoorOwn2
import Derived.Lib.SliceRun
namespace Go.Proofs.YtedgimkffkflbabDoor
open Go.RowKit

set_option maxHeartbeats 2000000 in
set_option maxRecDepth 100000 in
theorem feed_ne (g : Nat) (m : Option Q) (a : Option Addr) (l : List UInt8) (cap : Nat) (w : World) (h : CkAt w g m) (hf : Fst w) (hb : Bts a l w) (hne : l ≠ [] → ∀ ad, a = some ad → ad.block ≠ g) (hs : l.length ≤ 9223372036854775806) :
    Calls Tryd.prog 13 #[.pointer (some ⟨g, 0, none⟩), .slice a l.length cap] w fun e w' => e = .returned (.bool (okM (runM m l))) ∧ But g w w' ∧ CkAt w' g (runM m l) := by
  have hgf : g ≠ 1 := fun e => by
    obtain ⟨_, _, _, _, hs, _⟩ := h
    subst e
    obtain ⟨t, fr, hf⟩ := hf
    have := hs.symm.trans hf
    injection this with this
    injection this with this
    have := congrArg Array.size this
    exact absurd this (by simp [stC, fsCells, fsRows])
  have HF : Hid (Fst w) := hf
  have HL : Hid (Bts a l w) := hb
  have HK : Hid (CkAt w g m) := h
  have HN : Hid (l ≠ [] → ∀ ad, a = some ad → ad.block ≠ g) := hne
  obtain ⟨left, low, high, wrong, c0, _⟩ := h.cells
  have hlt := h.lt
  clear hf hb h hne
  go_enter Tryd.func13, Tryd.ntmps13
  go_wp2_with fail
  refine (there_any g true _ c0).mono ?_
  rintro e w1 ⟨rfl, rfl⟩
  go_wp2
  go_loopw [12] (fun i wr => ∃ k : Nat, i = .int .i64 k ∧ k ≤ l.length ∧ Hid (0 < k → (runM m (l.take k)).isSome = true) ∧ Hid (CkAt wr g (runM m (l.take k))) ∧ Hid (But g w1 wr)) (fun i _ => l.length - (intOf i).toNat)
  case atStart => exact ⟨0, rfl, Nat.zero_le _, fun h => absurd h (by omega), by show CkAt _ _ _; rw [List.take_zero, runM_nil]; exact HK.out, But.refl _ _⟩
  case round =>
    obtain ⟨k, rfl, hk, HO, HM, HB⟩ := hrel
    by_cases hlk : k < l.length
    · have HC : Hid (∀ b : UInt8, Calls Tryd.prog 44 #[.pointer (some ⟨g, 1, none⟩), .int .u8 (b.toNat : Int)] wr fun e w' => e = .returned (.tuple #[]) ∧ But g wr w' ∧ CkAt w' g (stepM (runM m (l.take k)) b.toNat)) :=
        fun b => take_any g [.bool true] 85 _ b wr HM.out (HF.out.but HB.out (Ne.symm hgf))
      have HS := runM_take m l k hlk
      obtain ⟨g', o, rfl, hg, hc⟩ := (HB.out.bts HL.out (HN.out (fun e => by rw [e] at hlk; simp at hlk))).cell k hlk
      go_wp2_with fail
      refine (HC.out _).mono ?_
      rintro e w2 ⟨rfl, b2, m2⟩
      rw [← HS] at m2
      have HB2 : Hid (But g w1 w2) := HB.out.trans b2
      have HM2 : Hid (CkAt w2 g (runM m (l.take (k + 1)))) := m2
      obtain ⟨left, low, high, wrong, d0, d1, d2, d3, d4, hq⟩ := m2.cells
      have HQ := okM_wrong hq
      clear b2 m2 hq HS HC
      cases wrong
      · have HO2 : Hid (0 < k + 1 → (runM m (l.take (k + 1))).isSome = true) := fun _ => HQ
        clear HQ
        go_wp2
        go_roundw
        case rel => exact ⟨k + 1, by go_num, by omega, HO2, HM2, HB2⟩
        case measure => simp [intOf]; omega
      · have HZ : Hid (runM m l = none ∧ runM m (l.take (k + 1)) = none) := by
          have e1 : runM m (l.take (k + 1)) = none := by simpa [okM] using HQ
          have e2 := runM_append m (l.take (k + 1)) (l.drop (k + 1))
          rw [List.take_append_drop, e1] at e2
          exact ⟨e2, e1⟩
        clear HQ
        go_wp2
        go_ret
        refine ⟨ret_b (by rw [HZ.out.1]; rfl), HB2.out, ?_⟩
        rw [HZ.out.1, ← HZ.out.2]
        exact HM2.out
    · have e : l.take k = l := List.take_of_length_le (by omega)
      rw [e] at HM
      obtain ⟨left, low, high, wrong, d0, d1, d2, d3, d4, hq⟩ := HM.out.cells
      have HQ : Hid (okM (runM m l) = !wrong) := okM_wrong hq
      clear hq HO e
      go_wp2
      go_ret
      exact ⟨ret_b HQ.out.symm, HB.out, HM.out⟩

theorem clb_nil (cap : Nat) (w : World) : Calls Tryd.prog 17 #[.slice none 0 cap] w fun e w' => e = .returned (.slice none 0 0) ∧ w' = w := by
  have q := Lib.run_eql_slice_nil (P := Tryd.prog) w 34 5 none 0 cap 0 0 Tryd.underlying34
  go_enter Tryd.func17, Tryd.ntmps17
  go_wp2
  go_ret
  exact ⟨rfl, rfl⟩
theorem clb_some (ad : Addr) (l : List UInt8) (cap n : Nat) (hn : n = l.length) (w : World) (h : Bts (some ad) l w) (hl : n ≤ 140737488355328) :
    Calls Tryd.prog 17 #[.slice (some ad) n cap] w fun e w' => ∃ v, e = .returned v ∧ w'.ownsRow w.heap.size 5 1 v n (cellsB l) ∧ Below w.heap.size w w' := by
  obtain ⟨i0, hi, hz0, hz1, hz2⟩ := info_parts info5
  have HH : Hid (Bts (some ad) l w) := h
  have HN : Hid (n = l.length) := hn
  clear h hn
  have q := Lib.run_eql_slice_nil (P := Tryd.prog) w 34 5 (some ad) n cap 0 0 Tryd.underlying34
  go_enter Tryd.func17, Tryd.ntmps17
  go_wp2_with (at_builtin; refine wpList_append_own _ rfl _ _ 34 rfl w.heap.size 5 i0 (.int .u8 0) 1 1 Tryd.underlying34 hi hz0 hz1 hz2 rfl (by decide) _ 0 [] rfl (World.ownsRow_made w #[] 0 (Nat.le_refl _) (by unfold maxLen; omega) rfl) ad n cap (cellsB l) rfl (by rw [cellsB_length, HN.out]; omega) ?c1 (cellsB_one l) ?c3 ?c4 ?c5 ?_)
  case c1 => exact bts_news (HH.out.below ((Below.refl _ _).alloc (Nat.le_refl _) _))
  case c3 => unfold maxLen; omega
  case c4 => omega
  case c5 => simp
  intro v' w1 hown hgrow _
  have R : Hid (w1.ownsRow w.heap.size 5 1 v' n (cellsB l)) := by
    show w1.ownsRow _ _ _ _ _ _
    simpa using hown
  have HB : Hid (Below w.heap.size w w1) := ((Below.refl _ _).alloc (Nat.le_refl _) _).grown hgrow (by simp) (fun q hq => by simp [Value.ownBlock] at hq; omega)
  clear hown hgrow q
  go_wp2
  go_ret
  exact ⟨_, rfl, R, HB⟩
theorem clb_any (a : Option Addr) (l : List UInt8) (cap n : Nat) (hn : n = l.length) (w : World) (h : Bts a l w) (hl : n ≤ 140737488355328) :
    Calls Tryd.prog 17 #[.slice a n cap] w fun e w' => ∃ v, e = .returned v ∧ w'.ownsRow w.heap.size 5 1 v n (cellsB l) ∧ Below w.heap.size w w' := by
  cases a with
  | some ad => exact clb_some ad l cap n hn w h hl
  | none =>
    obtain rfl := bts_none h
    subst hn
    refine (clb_nil cap w).mono ?_
    rintro e w' ⟨rfl, rfl⟩
    exact ⟨_, rfl, ⟨rfl, .inl ⟨rfl, rfl⟩⟩, Below.refl _ _⟩
theorem cli_nil (cap : Nat) (w : World) : Calls Tryd.prog 14 #[.slice none 0 cap] w fun e w' => e = .returned (.slice none 0 0) ∧ w' = w := by
  have q := Lib.run_eql_slice_nil (P := Tryd.prog) w 35 3 none 0 cap 0 0 Tryd.underlying35
  go_enter Tryd.func14, Tryd.ntmps14
  go_wp2
  go_ret
  exact ⟨rfl, rfl⟩
theorem cli_some (ad : Addr) (l : List Int) (cap n : Nat) (hn : n = l.length) (w : World) (h : Nts .i64 (some ad) l w) (hl : n ≤ 17592186044416) :
    Calls Tryd.prog 14 #[.slice (some ad) n cap] w fun e w' => ∃ v, e = .returned v ∧ w'.ownsRow w.heap.size 3 1 v n (cellsN .i64 l) ∧ Below w.heap.size w w' := by
  obtain ⟨i0, hi, hz0, hz1, hz2⟩ := info_parts infoI
  have HH : Hid (Nts .i64 (some ad) l w) := h
  have HN : Hid (n = l.length) := hn
  clear h hn
  have q := Lib.run_eql_slice_nil (P := Tryd.prog) w 35 3 (some ad) n cap 0 0 Tryd.underlying35
  go_enter Tryd.func14, Tryd.ntmps14
  go_wp2_with (at_builtin; refine wpList_append_own _ rfl _ _ 35 rfl w.heap.size 3 i0 (.int .i64 0) 1 8 Tryd.underlying35 hi hz0 hz1 hz2 rfl (by decide) _ 0 [] rfl (World.ownsRow_made w #[] 0 (Nat.le_refl _) (by unfold maxLen; omega) rfl) ad n cap (cellsN .i64 l) rfl (by rw [cellsN_length, HN.out]; omega) ?c1 (cellsN_one .i64 l) ?c3 ?c4 ?c5 ?_)
  case c1 => exact nts_news (HH.out.below ((Below.refl _ _).alloc (Nat.le_refl _) _))
  case c3 => unfold maxLen; omega
  case c4 => omega
  case c5 => simp
  intro v' w1 hown hgrow _
  have R : Hid (w1.ownsRow w.heap.size 3 1 v' n (cellsN .i64 l)) := by
    show w1.ownsRow _ _ _ _ _ _
    simpa using hown
  have HB : Hid (Below w.heap.size w w1) := ((Below.refl _ _).alloc (Nat.le_refl _) _).grown hgrow (by simp) (fun q hq => by simp [Value.ownBlock] at hq; omega)
  clear hown hgrow q
  go_wp2
  go_ret
  exact ⟨_, rfl, R, HB⟩
theorem cli_any (a : Option Addr) (l : List Int) (cap n : Nat) (hn : n = l.length) (w : World) (h : Nts .i64 a l w) (hl : n ≤ 17592186044416) :
    Calls Tryd.prog 14 #[.slice a n cap] w fun e w' => ∃ v, e = .returned v ∧ w'.ownsRow w.heap.size 3 1 v n (cellsN .i64 l) ∧ Below w.heap.size w w' := by
  cases a with
  | some ad => exact cli_some ad l cap n hn w h hl
  | none =>
    obtain rfl := nts_none h
    subst hn
    refine (cli_nil cap w).mono ?_
    rintro e w' ⟨rfl, rfl⟩
    exact ⟨_, rfl, own_nilN _ _ _ _, Below.refl _ _⟩

/-- Lists of bytes that the call made, one by one. -/
def Els (w : World) (B : Nat) : List Value → List (List UInt8) → Prop
  | [], [] => True
  | v :: vs, l :: ls => w.ownsRow B 5 1 v l.length (cellsB l) ∧ Els w B vs ls
  | _, _ => False
theorem Els.len {w : World} {B : Nat} : ∀ {vs : List Value} {ls : List (List UInt8)}, Els w B vs ls → vs.length = ls.length
  | [], [], _ => rfl
  | v :: vs, l :: ls, h => by rw [List.length_cons, List.length_cons, Els.len h.2]
  | [], _ :: _, h => h.elim
  | _ :: _, [], h => h.elim
theorem Els.keep {w w' : World} {B : Nat} (hk : ∀ v n xs, w.ownsRow B 5 1 v n xs → w'.ownsRow B 5 1 v n xs) : ∀ {vs : List Value} {ls : List (List UInt8)}, Els w B vs ls → Els w' B vs ls
  | [], [], _ => trivial
  | _ :: _, _ :: _, h => ⟨hk _ _ _ h.1, Els.keep hk h.2⟩
  | [], _ :: _, h => h.elim
  | _ :: _, [], h => h.elim
theorem Els.below {w w' : World} {B : Nat} {vs : List Value} {ls : List (List UInt8)} (h : Els w B vs ls) (hb : Below w.heap.size w w') : Els w' B vs ls := h.keep (fun _ _ _ ho => own_below ho hb)
theorem Els.snoc {w : World} {B : Nat} {v : Value} {l : List UInt8} (hv : w.ownsRow B 5 1 v l.length (cellsB l)) : ∀ {vs : List Value} {ls : List (List UInt8)}, Els w B vs ls → Els w B (vs ++ [v]) (ls ++ [l])
  | [], [], _ => ⟨hv, trivial⟩
  | _ :: _, _ :: _, h => ⟨h.1, Els.snoc hv h.2⟩
  | [], _ :: _, h => h.elim
  | _ :: _, [], h => h.elim
theorem Els.get {w : World} {B : Nat} : ∀ {vs : List Value} {ls : List (List UInt8)}, Els w B vs ls → ∀ i (hi : i < ls.length), ∃ v, vs[i]? = some v ∧ w.ownsRow B 5 1 v ls[i].length (cellsB ls[i])
  | v :: vs, l :: ls, h, 0, _ => ⟨v, rfl, h.1⟩
  | v :: vs, l :: ls, h, i + 1, hi => by
    obtain ⟨u, h1, h2⟩ := Els.get h.2 i (by simpa using hi)
    exact ⟨u, by simpa using h1, by simpa using h2⟩
  | [], _ :: _, h, _, _ => h.elim
  | [], [], _, _, hi => by simp at hi
  | _ :: _, [], h, _, _ => h.elim
theorem own_kind {w : World} {B B' e e' m m' n n' k : Nat} {v v' : Value} {xs xs' : List Value} (h : w.ownsRow B e m v n xs) (h' : w.ownsRow B' e' m' v' n' xs') (hv : v.ownBlock = some k) (hv' : v'.ownBlock = some k) : e = e' := by
  rcases h.2 with ⟨rfl, _⟩ | ⟨g, cap, cur, rfl, _, hg, _⟩
  · cases hv
  · rcases h'.2 with ⟨rfl, _⟩ | ⟨g', cap', cur', rfl, _, hg', _⟩
    · cases hv'
    · injection hv with hv
      injection hv' with hv'
      subst hv hv'
      exact lies_kind hg hg'
theorem Els.grown {w w' : World} {B B' n : Nat} {v : Value} {xs : List Value} {vs : List Value} {ls : List (List UInt8)} (h : Els w B vs ls) (hv : w.ownsRow B' 34 1 v n xs) (hg : w.grownBy w' v.ownBlock) : Els w' B vs ls :=
  h.keep (fun u m ys ho => own_keep ho (fun k hk => hg.block k (ho.lt k hk).2 (fun e => by
    have := own_kind ho hv hk e.symm
    exact absurd this (by decide))))
/-- A place of a row that the call made. -/
theorem ownV_cell {w : World} {B e n : Nat} {v : Value} {xs : List Value} (h : w.ownsRow B e 1 v n xs) (i : Nat) (hi : i < n) (u : Value) (hu : xs[i]? = some u) : ∃ g cap, v = .slice (some ⟨g, 0, none⟩) n cap ∧ g < w.heap.size ∧ w.cell? ⟨g, i, none⟩ = some u := by
  rcases id h.2 with ⟨rfl, h0⟩ | ⟨g, cap, cur, rfl, hb, hg, hcap, _⟩
  · omega
  · refine ⟨g, cap, rfl, (Array.getElem?_eq_some_iff.1 hg).1, ?_⟩
    have := h.cellAt i (by omega)
    rw [this, hu]
theorem CkAt.grown {w w' : World} {g : Nat} {m : Option Q} {row : Option Nat} (h : CkAt w g m) (hg : w.grownBy w' row) (hne : ∀ k, row = some k → k ≠ g) : CkAt w' g m := by
  cases row with
  | none => exact h.but (k := w.heap.size) ⟨hg.os, hg.tape, hg.output, hg.size, fun k hk _ => hg.block k hk (by simp)⟩ (Nat.ne_of_lt h.lt)
  | some q => exact h.but (k := q) ⟨hg.os, hg.tape, hg.output, hg.size, fun k hk hn => hg.block k hk (by simpa using hn)⟩ (fun e => hne q rfl e.symm)
theorem infoS : (Tryd.prog.info? 34).map (fun i => (i.zero, i.size, i.bytes)) = some (some (.slice none 0 0), 1, 24) := by kernel_rfl
/-- One list more behind a row of lists. -/
theorem wpList_append_slice {ops : Array Oper} {rest : List Oper} {o : Oper} {a : Act} {w : World} {Q : Exit → Act → World → Prop} (hgd : o.guard = none) (s x : Operand)
    (ho : o.op = .call { callee := .builtin .append, args := #[s, x], argTypes := #[41, 41] }) (base : Nat) (v : Value) (n : Nat) (xs : List Value) (hs : a.eval s = v) (hown : w.ownsRow base 34 1 v n xs)
    (w0 : World) (ua : Option Addr) (ul uc : Nat) (hw : w = w0.alloc (.cells #[.slice ua ul uc] 34)) (c : Nat) (hx : a.eval x = .slice (some ⟨w0.heap.size, 0, none⟩) 1 c) (hbytes : n + 1 ≤ 1000000) (hbase : base ≤ w0.heap.size)
    (h : ∀ v' w', w'.ownsRow base 34 1 v' (n + 1) (xs ++ [.slice ua ul uc]) → w.grownBy w' v.ownBlock → wpList Tryd.prog ops Q rest (a.put o.dst v') w') : wpList Tryd.prog ops Q (o :: rest) a w := by
  obtain ⟨i0, hi, hz0, hz1, hz2⟩ := info_parts infoS
  subst hw
  refine wpList_append_own _ hgd s x 41 ho base 34 i0 (.slice none 0 0) 1 24 Tryd.underlying41 hi hz0 hz1 hz2 rfl (by decide) v n _ hs hown ⟨w0.heap.size, 0, none⟩ 1 c [.slice ua ul uc] hx rfl (one_new _) (fun u hu => by rw [List.mem_singleton] at hu; rw [hu]; rfl) (by unfold maxLen; omega) (by omega) (by simp; omega) ?_
  intro v' w' hown' hgrow _
  exact h v' w' hown' hgrow
end Go.Proofs.YtedgimkffkflbabDoor
