/-
  What a row's list with three tables gives the walks; a world for the witnesses.
-/
import Derived.Test.YtpepjiocjcjeeabDoorFmP
import Derived.Test.YtpepjiocjcjeeabDoorFe16
namespace Go.Proofs.YtpepjiocjcjeeabDoor
open Go.ChangeShapes Go.WideShapes Go.ChangeAt Go.RowKit

theorem tabsF_of {W : World} (h : laidMet Tryd.prog [("unicode/utf8.acceptRanges", Rows.laid_unicode_utf8_acceptRanges), ("posthorn/octet.classes", Rows.laid_posthorn_octet_classes), ("unicode/utf8.first", Rows.laid_unicode_utf8_first)] W) (_ : W.ShapedOpen Tryd.prog) : Table W := by
  obtain ⟨ps, ⟨g0, t0, cs0, fuel0, p0, q0, hg0, ht0, hv0, hd0, ⟨g1, t1, cs1, fuel1, p1, q1, hg1, ht1, hv1, hd1, _, _⟩, _⟩, _⟩ := h
  obtain rfl := Option.some.inj (gCl.symm.trans hg1)
  obtain rfl := Option.some.inj (tCl.symm.trans ht1)
  exact table_of_trod hv1 hd1
def litCF : DataW Unit → List Value
  | .lit (.int k z) => [Value.int k z]
  | .lit (.string b) => [Value.string ⟨b.toArray⟩]
  | _ => []
def rowCF : DataW Unit → List Value
  | .agg l => l.flatMap litCF
  | d => litCF d
def datCellsF : DataW Unit → Array Value
  | .agg l => (l.flatMap rowCF).toArray
  | _ => #[]
def layCellsF (d : DataW Unit) : Obj → Obj
  | .cells _ t frozen => .cells (datCellsF d) t frozen
  | o => o
noncomputable def laidWorldF (os : Os) : World :=
  { World.holding Tryd.prog os ⟨#[], #[], []⟩ with heap := (((World.holding Tryd.prog os ⟨#[], #[], []⟩).heap.modify 2 (layCellsF Rows.laid_unicode_utf8_acceptRanges)).modify 0 (layCellsF Rows.laid_posthorn_octet_classes)).modify 1 (layCellsF Rows.laid_unicode_utf8_first) }
theorem bulk_pos {H : Type} (d : DataW H) : 0 < Rows.uptoBulk d := by
  cases d <;> first | (rename_i l; cases l <;> simp [Rows.uptoBulk]) | simp [Rows.uptoBulk]
theorem bulk_len {H : Type} : ∀ l : List (DataW H), l.length ≤ Rows.uptoBulkAll l
  | [] => Nat.zero_le _
  | d :: r => by
    have h1 := bulk_pos d
    have h2 := bulk_len r
    simp only [Rows.uptoBulkAll, List.length_cons]
    omega
theorem bulk_slice {H : Type} {el sp l : List (DataW H)} (hk : Rows.uptoSmall H l = true) (h : DataW.slice el sp ∈ l) : el.length ≤ 1048576 := by
  have h1 : Rows.uptoBulkAll l ≤ 1048576 := of_decide_eq_true hk
  have h2 := bulk_mem h
  have h3 := bulk_len el
  simp only [Rows.uptoBulk] at h2
  omega
end Go.Proofs.YtpepjiocjcjeeabDoor
/-
  same of fields; bytes behind bytes of the call's own.
-/
namespace Go.Proofs.YtpepjiocjcjeeabDoor
open Go.RowKit

theorem lsame_eq (a b : Option Addr) (ca cb : Nat) (l : List Fd) (w : World) (ha : Fds a l w) (hb : Fds b l w) (hl : l.length ≤ 1125899906842624) :
    Calls Tryd.prog 12 #[.slice a l.length ca, .slice b l.length cb] w fun e w' => e = .returned (.bool true) ∧ Below w.heap.size w w' := by
  have HA : Hid (Fds a l w) := ha
  have HB : Hid (Fds b l w) := hb
  clear ha hb
  go_enter Tryd.func12, Tryd.ntmps12
  go_wp2
  go_loopw [5, 13] (fun _ i wr => ∃ k : Nat, k ≤ l.length ∧ i = .int .i64 k ∧ Hid (∃ n, wr = w.drewN n)) (fun _ i _ => l.length - (intOf i).toNat)
  case atStart => exact ⟨0, Nat.zero_le _, rfl, 0, rfl⟩
  case round =>
    obtain ⟨k, hk, rfl, HD⟩ := hrel
    obtain ⟨nd, hnd⟩ := HD.out
    subst hnd
    by_cases hlt : k < l.length
    · obtain ⟨g, o, hga, a0, a1⟩ := (HA.out.drewN nd).at k hlt
      obtain ⟨g2, o2, hgb, b0, b1⟩ := (HB.out.drewN nd).at k hlt
      subst hga
      subst hgb
      obtain ⟨wn, hwn⟩ : ∃ wn, wn = w.drewN nd := ⟨_, rfl⟩
      rw [← hwn] at a0 a1 b0 b1 ⊢
      have HWN : Hid (wn = w.drewN nd) := hwn
      clear hwn HD
      generalize tx l[k].name = nm at a0 b0
      generalize tx l[k].body = vl at a1 b1
      go_wp2_with fail
      go_quiet (fail)
      go_wp2
      go_roundw
      case rel => exact ⟨k + 1, by omega, by go_num, by rw [HWN.out]; exact ⟨_, by rw [World.drewN_drewN]⟩⟩
      case measure => simp [intOf]; omega
    · go_wp2
      go_ret
      exact ⟨rfl, below_drN _ _⟩
/-- Bytes behind a row of the call's own. -/
theorem wpList_appB {ops : Array Oper} {rest : List Oper} {o : Oper} {a : Act} {w : World} {Q : Exit → Act → World → Prop} (hgd : o.guard = none) (s x : Operand)
    (ho : o.op = .call { callee := .builtin .append, args := #[s, x], argTypes := #[22, 22] }) (base : Nat) (v : Value) (n : Nat) (l : List UInt8) (hs : a.eval s = v) (hown : w.ownsRow base 5 1 v n (cellsB l))
    (ad : Option Addr) (m : List UInt8) (k c : Nat) (hk : k = m.length) (hx : a.eval x = .slice ad k c) (hb : Bts ad m w) (hnn : ad = none → c = 0) (hlen : n + k ≤ 140737488355328) (hbase : base ≤ w.heap.size)
    (h : ∀ v' w', w'.ownsRow base 5 1 v' (n + k) (cellsB (l ++ m)) → w.grownBy w' v.ownBlock → wpList Tryd.prog ops Q rest (a.put o.dst v') w') : wpList Tryd.prog ops Q (o :: rest) a w := by
  obtain ⟨i0, hi, hz0, hz1, hz2⟩ := info_parts info5
  subst hk
  cases ad with
  | none =>
    obtain rfl : m = [] := by
      rcases hb with hb | ⟨g, o, e, _⟩
      · exact hb
      · cases e
    obtain rfl := hnn rfl
    refine wpList_append_own_none hgd s x 22 ho base 5 i0 1 Tryd.underlying22 hi v n _ hs hown hx ?_
    have h2 := h v w (by rw [List.append_nil]; exact hown) ⟨rfl, rfl, rfl, Nat.le_refl _, fun _ _ _ => rfl⟩
    exact h2
  | some ad =>
    refine wpList_append_own _ hgd s x 22 ho base 5 i0 (.int .u8 0) 1 1 Tryd.underlying22 hi hz0 hz1 hz2 rfl (by decide) v n _ hs hown ad m.length c (cellsB m) hx (by simp [cellsB]) (bts_news hb) (cellsB_one m) (by unfold maxLen; omega) (by omega) hbase ?_
    intro v' w' hown' hgrow _
    exact h v' w' (by rw [cellsB_append]; exact hown') hgrow
end Go.Proofs.YtpepjiocjcjeeabDoor
/-
  Append of bytes behind a row of the call's own: the old row stays as it was, too.
-/
namespace Go.Proofs.YtpepjiocjcjeeabDoor
open Go.RowKit

theorem wpList_app2 {ops : Array Oper} {rest : List Oper} {o : Oper} {a : Act} {w : World} {Q : Exit → Act → World → Prop} (hgd : o.guard = none) (s x : Operand)
    (ho : o.op = .call { callee := .builtin .append, args := #[s, x], argTypes := #[22, 22] }) (base : Nat) (b : Option Addr) (n cp : Nat) (l : List UInt8) (hs : a.eval s = .slice b n cp) (hown : w.ownsRow base 5 1 (.slice b n cp) n (cellsB l)) (hn0 : 0 < n)
    (g0 : Nat) (m : List UInt8) (k c : Nat) (hk : k = m.length) (hx : a.eval x = .slice (some ⟨g0, 0, none⟩) k c) (hb : Bts (some ⟨g0, 0, none⟩) m w) (hlen : n + k ≤ 140737488355328) (hbase : base ≤ w.heap.size)
    (h : ∀ v' w', w'.ownsRow base 5 1 v' (n + k) (cellsB (l ++ m)) → w'.ownsRow base 5 1 (.slice b n cp) n (cellsB l) → w.grownBy w' (Value.slice b n cp).ownBlock → wpList Tryd.prog ops Q rest (a.put o.dst v') w') : wpList Tryd.prog ops Q (o :: rest) a w := by
  obtain ⟨i0, hi, hz0, hz1, hz2⟩ := info_parts info5
  subst hk
  refine wpList_plain hgd fun K hK => ?_
  have hml : (cellsB m).length = m.length * 1 := by rw [cellsB_length, Nat.mul_one]
  obtain ⟨v', w', hrun, ho1, hg1, _⟩ := run_append_own w (P := Tryd.prog) base 22 o.type 5 i0 (.int .u8 0) 1 1 Tryd.underlying22 hi hz0 hz1 hz2 rfl (by decide) _ n _ hown ⟨g0, 0, none⟩ m.length c (cellsB m) hml (bts_news hb) (cellsB_one m) (by unfold maxLen; omega) (by omega) hbase
  have hold : w'.ownsRow base 5 1 (.slice b n cp) n (cellsB l) := by
    rcases hown.2 with ⟨_, h0⟩ | ⟨g, cap, cur, hv, hbg, hg, hnc, hcm, hcs, ht⟩
    · omega
    · injection hv with e1 _ e3
      subst e1
      subst e3
      by_cases hroom : n + m.length ≤ cp
      · have hr := run_append_room (P := Tryd.prog) w 22 o.type 5 i0 Tryd.underlying22 hi g n cp cur hg ⟨g0, 0, none⟩ m.length c (cellsB m) (by rw [hz1]; exact hml) (bts_news hb) (cellsB_one m) hroom (by rw [hz1, hcs, hml]; omega)
        rw [hr] at hrun
        injection hrun with _ hw
        subst hw
        refine ⟨hown.1, .inr ⟨g, cp, _, rfl, hbg, setRow_heap w g cur _ 5 _ hg, hnc, hcm, ?_, ?_⟩⟩
        · simp only [List.size_toArray, List.length_append, List.length_take, List.length_drop, Array.length_toList, hz1, hcs, hml]
          omega
        · rw [hz1, ht, List.append_assoc]
          exact List.take_left' hown.1
      · have hr := run_append_grow (P := Tryd.prog) w 22 o.type 5 i0 (.int .u8 0) Tryd.underlying22 hi hz0 ⟨g, 0, none⟩ n cp (cellsB l) (by rw [hz1]; exact hown.1) (hown.cells (g := g) rfl) ⟨g0, 0, none⟩ m.length c (cellsB m) (by rw [hz1]; exact hml) (bts_news hb) (by omega) (by omega) (by rw [hz2]; exact growslice_fits (by omega) (by omega))
        rw [hr] at hrun
        injection hrun with _ hw
        subst hw
        exact ⟨hown.1, .inr ⟨g, cp, cur, rfl, hbg, (Below.heap_alloc w.drew _ g (Array.getElem?_eq_some_iff.1 hg).1).trans hg, hnc, hcm, hcs, ht⟩⟩
  unfold Oper.wp
  simp [execOp, ho, resolve, invoke, builtin, hs, hx, hrun, Result.andThen]
  exact hK _ _ (h v' w' (by rw [cellsB_append]; exact ho1) hold hg1)
end Go.Proofs.YtpepjiocjcjeeabDoor
