/-
  Behind a line end by itself nothing counts: plainly.
-/
import Derived.Test.YtpepjiocjcjeeabDoorPagP
import Derived.Test.YtpepjiocjcjeeabDoorFe16
import Derived.Test.YtpepjiocjcjeeabDoorPh16
namespace Go.Proofs.YtpepjiocjcjeeabDoor

theorem app_at (X Y : List UInt8) (j : Nat) (h : j < X.length) : (X ++ Y)[j]? = X[j]? := List.getElem?_append_left h
theorem leH_ext (X Y : List UInt8) (j : Nat) (h : j + 1 < X.length) : leH ((X ++ Y).drop j) = leH (X.drop j) := by
  rw [leH_at, leH_at, app_at X Y j (by omega), app_at X Y (j + 1) h]
theorem stE_ext (X Y : List UInt8) (f t : Nat) (h : t ≤ X.length) : stE (X ++ Y) f t = stE X f t := by
  unfold stE
  rw [List.take_append_of_le_length h]
theorem rwE_ext (X Y : List UInt8) : ∀ (n f : Nat), X.length - f = n → f ≤ X.length → rwE X f ≤ rwE (X ++ Y) f ∧ (rwE X f < X.length → rwE (X ++ Y) f = rwE X f) := by
  intro n
  induction n with
  | zero =>
    intro f hn hf
    have e := rwE_end X f (by omega)
    have h1 := rwE_ge (X ++ Y) f
    rw [e]
    exact ⟨h1, fun h => by omega⟩
  | succ n ih =>
    intro f hn hf
    have hlt : f < X.length := by omega
    have hlt2 : f < (X ++ Y).length := by rw [List.length_append]; omega
    have hge : (X ++ Y)[f] = X[f] := List.getElem_append_left hlt
    cases hc : crB X[f] with
    | true =>
      rw [rwE_hit X f hlt hc, rwE_hit (X ++ Y) f hlt2 (by rw [hge]; exact hc)]
      exact ⟨Nat.le_refl _, fun _ => rfl⟩
    | false =>
      rw [rwE_on X f hlt hc, rwE_on (X ++ Y) f hlt2 (by rw [hge]; exact hc)]
      exact ih (f + 1) (by omega) (by omega)
theorem tk_ext (X Y : List UInt8) (ps : List Plc) (f t : Nat) (h1 : f ≤ t) (h2 : t + 1 < X.length) : tkH (X ++ Y) ps f t = tkH X ps f t := by
  have hf : (X ++ Y)[f]? = X[f]? := app_at X Y f (by omega)
  have hs := stE_ext X Y f t (by omega)
  by_cases h5 : 998 < t - f
  · rw [tk_long _ ps f t h5, tk_long _ ps f t h5]
  · cases h6 : leH (X.drop t) with
    | false => rw [tk_open _ ps f t (by omega) h6, tk_open _ ps f t (by omega) (by rw [leH_ext X Y t h2]; exact h6)]
    | true =>
      rw [tk_blank X ps f t X[f] (List.getElem?_eq_getElem (by omega)) (by omega) h6, tk_blank (X ++ Y) ps f t X[f] (by rw [hf]; exact List.getElem?_eq_getElem (by omega)) (by omega) (by rw [leH_ext X Y t h2]; exact h6)]
      have hfo : foldH (X ++ Y) ps f t = foldH X ps f t := by
        unfold foldH
        rw [hs]
      have hbe : begH (X ++ Y) ps f t = begH X ps f t := by
        have hbl := badN_le 11 (stE X f t)
        rw [stE_len X f t (by omega)] at hbl
        unfold begH
        rw [hs]
        dsimp only
        rw [app_at X Y (f + badN 11 (stE X f t)) (by omega)]
      rw [hfo, hbe]
theorem Rch.low {X : List UInt8} {f : Nat} {ps : List Plc} (h : Rch X f ps) : f ≤ X.length := by
  obtain ⟨k, hk⟩ := h.pdt.st
  exact hk.low
theorem Rch.ext {X : List UInt8} {f : Nat} {ps : List Plc} (h : Rch X f ps) (Y : List UInt8) : Rch (X ++ Y) f ps := by
  induction h with
  | zero => exact .zero
  | @next f ps qs h he hb ht ih =>
    have h1 := rwE_ge X f
    have h2 := leH_lt X _ (tk_on ht)
    have h3 := (rwE_ext X Y _ f rfl h.low).2 (by omega)
    rw [← h3]
    refine .next ih (by rw [List.length_append]; omega) (by rw [leH_ext X Y f (by omega)]; exact hb) ?_
    rw [h3, tk_ext X Y ps f _ h1 h2]
    exact ht
/-- What is told of a message does not hang on what stands behind. -/
theorem ahead_all (X Y : List UInt8) : (∀ ps a, prsF X = .ok (ps, a) → a ≠ (prL (ps.map (fdOf X))).length → prsF (X ++ Y) = .ok (ps, a) ∧ ps.map (fdOf (X ++ Y)) = ps.map (fdOf X)) ∧
    (∀ e, prsF X = .error e → e.2 + 1 < X.length → prsF (X ++ Y) = .error e) := by
  obtain ⟨f, ps, h, hf⟩ := prs_fin X
  obtain ⟨k, hk⟩ := h.pdt.st
  have hg := h.pag
  have hz := h.ext Y
  obtain ⟨k2, hk2⟩ := hz.pdt.st
  have hlow := hk.low
  have hlen : (prL (ps.map (fdOf X))).length = f := by
    rw [hg.text, List.length_take]
    omega
  generalize hR : prsF X = R at hf
  refine ⟨fun qs a hq hne => ?_, fun e hq he2 => ?_⟩
  · subst hq
    cases hf with
    | out he => exact absurd hlen.symm hne
    | line he hb =>
      have h2 := leH_lt X f hb
      refine ⟨hk2.endB (by rw [List.length_append]; omega) (by rw [leH_ext X Y f h2]; exact hb), ?_⟩
      refine List.map_congr_left fun p hp => ?_
      obtain ⟨⟨p1, p2, p3⟩, _⟩ := hk.ok p hp
      unfold fdOf
      rw [stE_ext X Y _ _ (by omega), stE_ext X Y _ _ p3]
  · subst hq
    cases hf with
    | bad he hb ht =>
      have h1 := rwE_ge X f
      have h2 := rwE_le X f hlow
      obtain ⟨hx1, hx2⟩ := rwE_ext X Y _ f rfl hlow
      by_cases h5 : 998 < rwE X f - f
      · rw [tk_long X ps f _ h5] at ht
        cases ht
        dsimp only at he2
        refine hk2.bad (by rw [List.length_append]; omega) (by rw [leH_ext X Y f (by omega)]; exact hb) ?_
        exact tk_long _ ps f _ (by omega)
      · have key : rwE X f + 1 < X.length → prsF (X ++ Y) = .error e := fun hlt => by
          have h3 := hx2 (by omega)
          refine hk2.bad (by rw [List.length_append]; omega) (by rw [leH_ext X Y f (by omega)]; exact hb) ?_
          rw [h3, tk_ext X Y ps f _ h1 hlt]
          exact ht
        cases h6 : leH (X.drop (rwE X f)) with
        | true => exact key (leH_lt X _ h6)
        | false =>
          have ht2 := ht
          rw [tk_open X ps f _ (by omega) h6] at ht2
          cases ht2
          exact key he2
end Go.Proofs.YtpepjiocjcjeeabDoor
/-
  same of fields; bytes behind bytes of the call's own.
-/
namespace Go.Proofs.YtpepjiocjcjeeabDoor
open Go.RowKit

theorem lsame_eq (a b : Option Addr) (ca cb : Nat) (l : List Fd) (w : World) (ha : Fds a l w) (hb : Fds b l w) (hl : l.length ≤ 1125899906842624) :
    Calls Tryd.prog 12 #[.slice a l.length ca, .slice b l.length cb] w fun e w' => e = .returned (.bool true) ∧ Below w.heap.size w w' := by
  have HA : Hid (Fds a l w) := ha
  have HB : Hid (Fds b l w) := hb
  clear ha hb
  go_enter Tryd.func12, Tryd.ntmps12
  go_wp2
  go_loopw [5, 13] (fun _ i wr => ∃ k : Nat, k ≤ l.length ∧ i = .int .i64 k ∧ Hid (∃ n, wr = w.drewN n)) (fun _ i _ => l.length - (intOf i).toNat)
  case atStart => exact ⟨0, Nat.zero_le _, rfl, 0, rfl⟩
  case round =>
    obtain ⟨k, hk, rfl, HD⟩ := hrel
    obtain ⟨nd, hnd⟩ := HD.out
    subst hnd
    by_cases hlt : k < l.length
    · obtain ⟨g, o, hga, a0, a1⟩ := (HA.out.drewN nd).at k hlt
      obtain ⟨g2, o2, hgb, b0, b1⟩ := (HB.out.drewN nd).at k hlt
      subst hga
      subst hgb
      obtain ⟨wn, hwn⟩ : ∃ wn, wn = w.drewN nd := ⟨_, rfl⟩
      rw [← hwn] at a0 a1 b0 b1 ⊢
      have HWN : Hid (wn = w.drewN nd) := hwn
      clear hwn HD
      generalize tx l[k].name = nm at a0 b0
      generalize tx l[k].body = vl at a1 b1
      go_wp2_with fail
      go_quiet (fail)
      go_wp2
      go_roundw
      case rel => exact ⟨k + 1, by omega, by go_num, by rw [HWN.out]; exact ⟨_, by rw [World.drewN_drewN]⟩⟩
      case measure => simp [intOf]; omega
    · go_wp2
      go_ret
      exact ⟨rfl, below_drN _ _⟩
/-- Bytes behind a row of the call's own. -/
theorem wpList_appB {ops : Array Oper} {rest : List Oper} {o : Oper} {a : Act} {w : World} {Q : Exit → Act → World → Prop} (hgd : o.guard = none) (s x : Operand)
    (ho : o.op = .call { callee := .builtin .append, args := #[s, x], argTypes := #[22, 22] }) (base : Nat) (v : Value) (n : Nat) (l : List UInt8) (hs : a.eval s = v) (hown : w.ownsRow base 5 1 v n (cellsB l))
    (ad : Option Addr) (m : List UInt8) (k c : Nat) (hk : k = m.length) (hx : a.eval x = .slice ad k c) (hb : Bts ad m w) (hnn : ad = none → c = 0) (hlen : n + k ≤ 140737488355328) (hbase : base ≤ w.heap.size)
    (h : ∀ v' w', w'.ownsRow base 5 1 v' (n + k) (cellsB (l ++ m)) → w.grownBy w' v.ownBlock → wpList Tryd.prog ops Q rest (a.put o.dst v') w') : wpList Tryd.prog ops Q (o :: rest) a w := by
  obtain ⟨i0, hi, hz0, hz1, hz2⟩ := info_parts info5
  subst hk
  cases ad with
  | none =>
    obtain rfl : m = [] := by
      rcases hb with hb | ⟨g, o, e, _⟩
      · exact hb
      · cases e
    obtain rfl := hnn rfl
    refine wpList_append_own_none hgd s x 22 ho base 5 i0 1 Tryd.underlying22 hi v n _ hs hown hx ?_
    have h2 := h v w (by rw [List.append_nil]; exact hown) ⟨rfl, rfl, rfl, Nat.le_refl _, fun _ _ _ => rfl⟩
    exact h2
  | some ad =>
    refine wpList_append_own _ hgd s x 22 ho base 5 i0 (.int .u8 0) 1 1 Tryd.underlying22 hi hz0 hz1 hz2 rfl (by decide) v n _ hs hown ad m.length c (cellsB m) hx (by simp [cellsB]) (bts_news hb) (cellsB_one m) (by unfold maxLen; omega) (by omega) hbase ?_
    intro v' w' hown' hgrow _
    exact h v' w' (by rw [cellsB_append]; exact hown') hgrow
end Go.Proofs.YtpepjiocjcjeeabDoor
/-
  What a row's list with three tables gives the walks; a world for the witnesses.
-/
namespace Go.Proofs.YtpepjiocjcjeeabDoor
open Go.ChangeShapes Go.WideShapes Go.ChangeAt Go.RowKit

theorem tabsF_of {W : World} (h : laidMet Tryd.prog [("unicode/utf8.acceptRanges", Rows.laid_unicode_utf8_acceptRanges), ("posthorn/octet.classes", Rows.laid_posthorn_octet_classes), ("unicode/utf8.first", Rows.laid_unicode_utf8_first)] W) (_ : W.ShapedOpen Tryd.prog) : Table W := by
  obtain ⟨ps, ⟨g0, t0, cs0, fuel0, p0, q0, hg0, ht0, hv0, hd0, ⟨g1, t1, cs1, fuel1, p1, q1, hg1, ht1, hv1, hd1, _, _⟩, _⟩, _⟩ := h
  obtain rfl := Option.some.inj (gCl.symm.trans hg1)
  obtain rfl := Option.some.inj (tCl.symm.trans ht1)
  exact table_of_trod hv1 hd1
def litCF : DataW Unit → List Value
  | .lit (.int k z) => [Value.int k z]
  | .lit (.string b) => [Value.string ⟨b.toArray⟩]
  | _ => []
def rowCF : DataW Unit → List Value
  | .agg l => l.flatMap litCF
  | d => litCF d
def datCellsF : DataW Unit → Array Value
  | .agg l => (l.flatMap rowCF).toArray
  | _ => #[]
def layCellsF (d : DataW Unit) : Obj → Obj
  | .cells _ t frozen => .cells (datCellsF d) t frozen
  | o => o
noncomputable def laidWorldF (os : Os) : World :=
  { World.holding Tryd.prog os ⟨#[], #[], []⟩ with heap := (((World.holding Tryd.prog os ⟨#[], #[], []⟩).heap.modify 2 (layCellsF Rows.laid_unicode_utf8_acceptRanges)).modify 0 (layCellsF Rows.laid_posthorn_octet_classes)).modify 1 (layCellsF Rows.laid_unicode_utf8_first) }
theorem bulk_pos {H : Type} (d : DataW H) : 0 < Rows.uptoBulk d := by
  cases d <;> first | (rename_i l; cases l <;> simp [Rows.uptoBulk]) | simp [Rows.uptoBulk]
theorem bulk_len {H : Type} : ∀ l : List (DataW H), l.length ≤ Rows.uptoBulkAll l
  | [] => Nat.zero_le _
  | d :: r => by
    have h1 := bulk_pos d
    have h2 := bulk_len r
    simp only [Rows.uptoBulkAll, List.length_cons]
    omega
theorem bulk_slice {H : Type} {el sp l : List (DataW H)} (hk : Rows.uptoSmall H l = true) (h : DataW.slice el sp ∈ l) : el.length ≤ 1048576 := by
  have h1 : Rows.uptoBulkAll l ≤ 1048576 := of_decide_eq_true hk
  have h2 := bulk_mem h
  have h3 := bulk_len el
  simp only [Rows.uptoBulk] at h2
  omega
end Go.Proofs.YtpepjiocjcjeeabDoor
