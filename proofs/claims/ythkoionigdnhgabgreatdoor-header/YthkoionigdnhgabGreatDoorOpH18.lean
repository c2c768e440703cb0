/-
  Rows of a text, plainly.
-/
import Derived.Test.YthkoionigdnhgabGreatDoorTx10
import Derived.Test.YthkoionigdnhgabGreatDoorKr7
import Derived.Laws.StructEq
import Derived.Deep.QuietTactic
import Derived.BigQuiet
import Derived.Test.YthkoionigdnhgabGreatDoorPureUp
import Derived.Test.YthkoionigdnhgabGreatDoorAdP
import Derived.Test.YthkoionigdnhgabGreatDoorOwn7
import Derived.Lib.AppendZerosOnto
import Derived.Lib.Walk
import Derived.Test.YthkoionigdnhgabGreatDoorBase
import Derived.Test.YthkoionigdnhgabGreatDoorRows
import Derived.ProofKit
import Derived.OpenShut
import Derived.SizedLaws
namespace Go.Proofs.YthkoionigdnhgabGreatDoor

def crB (c : UInt8) : Bool := c == 13 || c == 10
/-- Where the row that begins at a ends. -/
def rwE (l : List UInt8) (a : Nat) : Nat := a + ((l.drop a).takeWhile fun c => !crB c).length
theorem rwE_ge (l : List UInt8) (a : Nat) : a ≤ rwE l a := Nat.le_add_right _ _
theorem rwE_le (l : List UInt8) (a : Nat) (h : a ≤ l.length) : rwE l a ≤ l.length := by
  unfold rwE
  have := (List.takeWhile_prefix (p := fun c => !crB c) (l := l.drop a)).length_le
  rw [List.length_drop] at this
  omega
theorem rwE_end (l : List UInt8) (a : Nat) (h : l.length ≤ a) : rwE l a = a := by
  unfold rwE
  rw [List.drop_eq_nil_of_le h]
  rfl
theorem rwE_hit (l : List UInt8) (a : Nat) (h : a < l.length) (hc : crB l[a] = true) : rwE l a = a := by
  unfold rwE
  rw [List.drop_eq_getElem_cons h, List.takeWhile_cons, hc]
  rfl
theorem rwE_on (l : List UInt8) (a : Nat) (h : a < l.length) (hc : crB l[a] = false) : rwE l a = rwE l (a + 1) := by
  unfold rwE
  rw [List.drop_eq_getElem_cons h, List.takeWhile_cons, hc]
  simp
  omega
theorem leH_lt (l : List UInt8) (a : Nat) (h : leH (l.drop a) = true) : a + 1 < l.length := by
  apply Classical.byContradiction
  intro hn
  rw [leH_at, List.getElem?_eq_none (i := a + 1) (by omega)] at h
  simp at h
/-- The rows from f on: where each begins and ends. -/
def rws (l : List UInt8) (f : Nat) : List (Nat × Nat) :=
  if h : leH (l.drop (rwE l f)) = true then (f, rwE l f) :: rws l (rwE l f + 2) else [(f, rwE l f)]
termination_by l.length - f
decreasing_by
  have h1 := leH_lt l _ h
  have h2 := rwE_ge l f
  omega
theorem rws_on (l : List UInt8) (f : Nat) (h : leH (l.drop (rwE l f)) = true) : rws l f = (f, rwE l f) :: rws l (rwE l f + 2) := by
  rw [rws, dif_pos h]
theorem rws_off (l : List UInt8) (f : Nat) (h : leH (l.drop (rwE l f)) = false) : rws l f = [(f, rwE l f)] := by
  rw [rws, dif_neg (by rw [h]; decide)]
/-- A row that may go on with the field ahead of it. -/
def fldB (r : List UInt8) : Bool := (match r with
  | [] => false
  | c :: _ => blB c) && r.any fun c => !blB c
end Go.Proofs.YthkoionigdnhgabGreatDoor
/-
  Fields in memory; the document's Same.
-/
namespace Go.Proofs.YthkoionigdnhgabGreatDoor
open Go.RowKit

structure Fd where
  name : List UInt8
  body : List UInt8
def fdC (p : Fd) : Array Value := #[.string (tx p.name), .string (tx p.body)]
def cellsF (l : List Fd) : List Value := l.flatMap fun p => (fdC p).toList
/-- The fields l lie where a points. -/
def Fds (a : Option Addr) (l : List Fd) (w : World) : Prop := l = [] ∨ ∃ g o, a = some ⟨g, o, none⟩ ∧ g < w.heap.size ∧ ∀ j u, (cellsF l)[j]? = some u → w.cell? ⟨g, o + j, none⟩ = some u
theorem Fds.below {a : Option Addr} {l : List Fd} {w w' : World} (h : Fds a l w) (hb : Below w.heap.size w w') : Fds a l w' := by
  rcases h with h | ⟨g, o, e, hg, hr⟩
  · exact .inl h
  · exact .inr ⟨g, o, e, Nat.lt_of_lt_of_le hg hb.size, fun j u hj => (hb.cell (p := ⟨g, o + j, none⟩) hg).trans (hr j u hj)⟩
theorem Fds.drewN {a : Option Addr} {l : List Fd} {w : World} (h : Fds a l w) (n : Nat) : Fds a l (w.drewN n) := h
theorem cellsF_at : ∀ (l : List Fd) (i : Nat) (h : i < l.length), (cellsF l)[i * 2]? = some (.string (tx l[i].name)) ∧ (cellsF l)[i * 2 + 1]? = some (.string (tx l[i].body))
  | p :: r, 0, _ => ⟨rfl, rfl⟩
  | p :: r, i + 1, h => by
    have ih := cellsF_at r i (by simpa using h)
    have e : cellsF (p :: r) = (fdC p).toList ++ cellsF r := rfl
    have e3 : (fdC p).toList.length = 2 := rfl
    rw [e, List.getElem?_append_right (by rw [e3]; omega), List.getElem?_append_right (by rw [e3]; omega), e3]
    rw [show (i + 1) * 2 - 2 = i * 2 by omega, show (i + 1) * 2 + 1 - 2 = i * 2 + 1 by omega]
    exact ih
theorem Fds.at {a : Option Addr} {l : List Fd} {w : World} (h : Fds a l w) (i : Nat) (hi : i < l.length) : ∃ g o, a = some ⟨g, o, none⟩ ∧ w.cell? ⟨g, o + i * 2, none⟩ = some (.string (tx l[i].name)) ∧ w.cell? ⟨g, o + i * 2 + 1, none⟩ = some (.string (tx l[i].body)) := by
  rcases h with rfl | ⟨g, o, e, _, hr⟩
  · simp at hi
  · obtain ⟨h0, h1⟩ := cellsF_at l i hi
    exact ⟨g, o, e, hr _ _ h0, by rw [Nat.add_assoc]; exact hr _ _ h1⟩
end Go.Proofs.YthkoionigdnhgabGreatDoor
/-
  slices.Concat of two rows of bytes, the first of which is not empty.
-/
namespace Go.Proofs.YthkoionigdnhgabGreatDoor
open Go.RowKit

/-- append of as many bytes as there are zeros. -/
theorem run_zerosH (w : World) (ty : TypeId) (n : Nat) (h0 : 0 < n) (hn2 : n ≤ 1099511627776) :
    ∃ G w', n ≤ G ∧ G ≤ 9223372036854775807 ∧ (Builtin.append_ #[53, 3] ty #[.slice none 0 0, .int .i64 (n : Int)]).run Tryz.prog w = .ok (.slice (some ⟨w.heap.size, 0, none⟩) n G) w' ∧ w'.ownsRow w.heap.size 5 1 (.slice (some ⟨w.heap.size, 0, none⟩) 0 G) 0 (cellsB []) ∧ Below w.heap.size w w' := by
  obtain ⟨i, hi, hz0, hz1, hz2⟩ := info_parts info5
  have hcap := grownCap_le_maxLen w (0 + n) 0 5 (by unfold maxLen; omega)
  have hge := grownCap_ge w (0 + n) 0 5
  have hr := Lib.run_append_grow_zeros (P := Tryz.prog) w 53 3 ty 5 i (.int .u8 0) .i64 .i64 Tryz.underlying53 Tryz.underlying3 hi hz0 none 0 0 [] (run_firstCells_none w.drew i.size 0 0 0) n h0 (by rw [hz1]; decide) (by omega) (by omega) (by rw [hz2]; omega) (growslice_fits (by omega) (by rw [hz2, Nat.zero_add]; omega))
  refine ⟨grownCap w (0 + n) 0 5, _, by omega, by unfold maxLen at hcap; omega, by rw [hr, Nat.zero_add], ⟨by simp [cellsB], .inr ⟨w.heap.size, _, _, rfl, Nat.le_refl _, heap_alloc_new w.drew _, Nat.zero_le _, hcap, ?_, by simp [cellsB]⟩⟩, ((Below.refl _ _).drew).alloc (Nat.le_refl _) _⟩
  have hz : (Value.int .u8 0).cells.size = 1 := rfl
  simp only [Array.size_append, List.size_toArray, size_zeroCells, hz, List.length_nil, Nat.zero_add, ← Nat.add_mul]
  rw [Nat.zero_add] at *
  omega
set_option maxRecDepth 20000 in
theorem sgrowH_some (n : Nat) (h0 : 0 < n) (hn : n ≤ 1099511627776) (w : World) : Calls Tryz.prog 88 #[.slice none 0 0, .int .i64 (n : Int)] w fun e w' => ∃ v, e = .returned v ∧ w'.ownsRow w.heap.size 5 1 v 0 (cellsB []) ∧ Below w.heap.size w w' := by
  obtain ⟨G, w', hG, hG2, hr, hO, hB⟩ := run_zerosH w 53 n h0 hn
  have h1 : ¬ (n : Int) < 0 := by omega
  have h2 : (n : Int) > 0 := by omega
  have HO : Hid (w'.ownsRow w.heap.size 5 1 (.slice (some ⟨w.heap.size, 0, none⟩) 0 G) 0 (cellsB []) ∧ Below w.heap.size w w') := ⟨hO, hB⟩
  clear hO hB h0
  go_enter Tryz.func88, Tryz.ntmps88
  go_wp2_with (at_builtin; refine Lib.wpList_append_run _ rfl _ _ _ _ rfl _ _ rfl rfl _ _ hr ?_)
  all_goals go_ret
  all_goals exact ⟨_, rfl, HO.out.1, HO.out.2⟩
set_option maxRecDepth 20000 in
set_option maxHeartbeats 2000000 in
theorem scat_any (B : Nat) (a1 a2 : Option Addr) (l1 l2 : List UInt8) (n1 c1 n2 c2 : Nat) (e1 : n1 = l1.length) (e2 : n2 = l2.length) (w : World) (hB : Lies w B #[.slice a1 n1 c1, .slice a2 n2 c2] 53) (h1 : Bts a1 l1 w) (h2 : Bts a2 l2 w) (m1 : a1 = none → c1 = 0) (m2 : a2 = none → c2 = 0) (h0 : 0 < n1) (hn : n1 + n2 ≤ 1099511627776) :
    Calls Tryz.prog 54 #[.slice (some ⟨B, 0, none⟩) 2 2] w fun e w' => ∃ v, e = .returned v ∧ w'.ownsRow w.heap.size 5 1 v (n1 + n2) (cellsB (l1 ++ l2)) ∧ Below w.heap.size w w' := by
  have HG : Hid (Calls Tryz.prog 88 #[.slice none 0 0, .int .i64 ((n1 : Int) + (n2 : Int))] w fun e w' => ∃ v, e = .returned v ∧ w'.ownsRow w.heap.size 5 1 v 0 (cellsB []) ∧ Below w.heap.size w w') := by have := sgrowH_some (n1 + n2) (by omega) hn w; rw [Int.natCast_add] at this; exact this
  have HB : Hid (Lies w B #[.slice a1 n1 c1, .slice a2 n2 c2] 53) := hB
  have b0 : w.cell? ⟨B, 0, none⟩ = some (.slice a1 n1 c1) := hB.cell 0
  have b1 : w.cell? ⟨B, 1, none⟩ = some (.slice a2 n2 c2) := hB.cell 1
  have HY1 : Hid (∀ wx, Below w.heap.size w wx → Bts a1 l1 wx) := fun wx hb => h1.below hb
  have HY2 : Hid (∀ wx, Below w.heap.size w wx → Bts a2 l2 wx) := fun wx hb => h2.below hb
  have hw1 : IntKind.i64.wrap (n1 : Int) = (n1 : Int) := by rw [IntKind.wrap_i64]; omega
  have hw2 : IntKind.i64.wrap ((n1 : Int) + (n2 : Int)) = (n1 : Int) + (n2 : Int) := by rw [IntKind.wrap_i64]; omega
  have hp1 : ¬ (n1 : Int) < 0 := by omega
  have hp2 : ¬ (n1 : Int) + (n2 : Int) < 0 := by omega
  have HN : Hid (n1 + n2 ≤ 1099511627776 ∧ n1 = l1.length ∧ n2 = l2.length) := ⟨hn, e1, e2⟩
  have HM : Hid ((a1 = none → c1 = 0) ∧ (a2 = none → c2 = 0)) := ⟨m1, m2⟩
  clear hB h1 h2 hn e1 e2 m1 m2
  go_enter Tryz.func54, Tryz.ntmps54
  go_wp2_with fail
  go_loopw [3, 5, 11] (fun sv _ iv wr => Hid (wr = w ∧ ((iv = .int .i64 0 ∧ sv = .int .i64 0) ∨ (iv = .int .i64 1 ∧ sv = .int .i64 (n1 : Int)) ∨ (iv = .int .i64 2 ∧ sv = .int .i64 ((n1 : Int) + (n2 : Int)))))) (fun _ _ iv _ => 2 - (intOf iv).toNat)
  case atStart => exact ⟨rfl, .inl ⟨rfl, rfl⟩⟩
  case round =>
    obtain ⟨hww, hrr⟩ := hrel.out
    obtain rfl := hww.symm
    clear hrel
    obtain ⟨rfl, rfl⟩ | ⟨rfl, rfl⟩ | ⟨rfl, rfl⟩ := hrr
    · go_wp2_with fail
      go_roundw
      case rel => exact ⟨trivial, .inr (.inl ⟨rfl, rfl⟩)⟩
      case measure => simp [intOf]
    · go_wp2_with fail
      go_roundw
      case rel => exact ⟨trivial, .inr (.inr ⟨rfl, rfl⟩)⟩
      case measure => simp [intOf]
    · go_wp2_with (go_at_call 88; refine HG.out.mono ?_; clear HG; rintro e w1 ⟨v0, rfl, hO1, hB1⟩; have HO1 : Hid (w1.ownsRow w.heap.size 5 1 v0 0 (cellsB [])) := hO1; have HB1 : Hid (Below w.heap.size w w1) := hB1; clear hO1 hB1)
      go_loopw [6, 8, 27] (fun v _ iv wz => Hid (Below w.heap.size w wz ∧ ((iv = .int .i64 0 ∧ Hid (wz.ownsRow w.heap.size 5 1 v 0 (cellsB []))) ∨ (iv = .int .i64 1 ∧ Hid (wz.ownsRow w.heap.size 5 1 v n1 (cellsB l1))) ∨ (iv = .int .i64 2 ∧ Hid (wz.ownsRow w.heap.size 5 1 v (n1 + n2) (cellsB (l1 ++ l2))))))) (fun _ _ iv _ => 2 - (intOf iv).toNat)
      case atStart => exact ⟨HB1.out, .inl ⟨rfl, HO1.out⟩⟩
      case round =>
        clear HO1 HB1
        obtain ⟨hBz, hr2⟩ := hrel.out
        have HBZ : Hid (Below w.heap.size w wr) := hBz
        clear hBz hrel
        rcases hr2 with ⟨rfl, HO⟩ | ⟨rfl, HO⟩ | ⟨rfl, HO⟩
        · have c0 := (HBZ.out.cell (p := ⟨B, 0, none⟩) HB.out.lt).trans b0
          go_wp2_with (at_builtin; refine wpList_append_keep rfl _ _ rfl w.heap.size _ 0 [] rfl HO.out a1 l1 n1 c1 rfl HN.out.2.1 (HY1.out _ HBZ.out) HM.out.1 (by have := HN.out.1; omega) HBZ.out.size ?_; intro v3 w3 hO3 hG3)
          have HB3 : Hid (Below w.heap.size w w3) := HBZ.out.grown hG3 HBZ.out.size (fun q hq => (HO.out.lt q hq).1)
          have HO3 : Hid (w3.ownsRow w.heap.size 5 1 v3 n1 (cellsB l1)) := by
            show World.ownsRow _ _ _ _ _ _ _
            simpa using hO3
          clear hO3 hG3 HO HBZ c0
          go_roundw
          case rel => exact ⟨HB3.out, .inr (.inl ⟨rfl, HO3⟩)⟩
          case measure => simp [intOf]
        · have c0 := (HBZ.out.cell (p := ⟨B, 1, none⟩) HB.out.lt).trans b1
          go_wp2_with (at_builtin; refine wpList_append_keep rfl _ _ rfl w.heap.size _ n1 l1 rfl HO.out a2 l2 n2 c2 rfl HN.out.2.2 (HY2.out _ HBZ.out) HM.out.2 (by have := HN.out.1; omega) HBZ.out.size ?_; intro v3 w3 hO3 hG3)
          have HB3 : Hid (Below w.heap.size w w3) := HBZ.out.grown hG3 HBZ.out.size (fun q hq => (HO.out.lt q hq).1)
          have HO3 : Hid (w3.ownsRow w.heap.size 5 1 v3 (n1 + n2) (cellsB (l1 ++ l2))) := hO3
          clear hO3 hG3 HO HBZ c0
          go_roundw
          case rel => exact ⟨HB3.out, .inr (.inr ⟨rfl, HO3⟩)⟩
          case measure => simp [intOf]
        · go_wp2_with fail
          go_ret
          exact ⟨_, rfl, HO.out, HBZ.out⟩
end Go.Proofs.YthkoionigdnhgabGreatDoor
/-
  What came in, as the walks have it; what the bound on it gives.
-/
namespace Go.Proofs.YthkoionigdnhgabGreatDoor
open Go.ChangeShapes Go.WideShapes Go.ChangeAt Go.RowKit

theorem bytes5 : Tryz.prog.bytesOf 5 = 1 := by kernel_rfl

theorem open_bytes {H : Type} {enc : TypeId × Value → H} {W : World} {a : Option Addr} {len cap : Nat} {d : DataW H} {p : List MemPlace}
    (h : DataW.Trod enc Tryz.prog W 0 (fun _ => true) true 53 (.slice a len cap) d p) :
    ∃ l : List UInt8, l.length = len ∧ Bts a l W ∧ len ≤ cap ∧ ((∃ el sp, d = .slice el sp ∧ el.length = len) ∨ (d = .nil ∧ len = 0)) := by
  obtain ⟨fuel, hf⟩ := h
  rcases open_ints Tryz.underlying53 Tryz.underlying5 (by kernel_rfl) hf with ⟨hcs, hx⟩ | ⟨x, l, c, zs, hcs, _, hl, hm, hz, hx, hcell, hwz⟩
  · simp [Value.cells] at hcs
    obtain ⟨rfl, rfl, rfl⟩ := hcs
    simp only [Prod.mk.injEq] at hx
    exact ⟨[], rfl, .inl rfl, Nat.le_refl _, .inr ⟨hx.1, rfl⟩⟩
  · simp [Value.cells] at hcs
    obtain ⟨rfl, rfl, rfl⟩ := hcs
    simp only [Prod.mk.injEq] at hx
    have hz' : zs.length = cap := by simpa using hz
    have hlen : ((zs.take len).map fun n => UInt8.ofNat n.toNat).length = len := by
      rw [List.length_map, List.length_take]
      omega
    refine ⟨(zs.take len).map fun n => UInt8.ofNat n.toNat, hlen, ?_, by omega, .inl ⟨_, _, hx.1, ?_⟩⟩
    · by_cases h0 : len = 0
      · left
        exact List.eq_nil_of_length_eq_zero (hlen.trans h0)
      · right
        obtain ⟨b, off, spot⟩ := x
        have hc := hcell 0 (by omega)
        have hspot : spot = none := by simpa [Addr.add] using World.cell?_spot hc
        subst hspot
        refine ⟨b, off, rfl, ?_, fun j hj => ?_⟩
        · have := World.block_lt_of_cell? W _ hc
          simpa [Addr.add_lit] using this
        have hj' : j < len := by omega
        have h1 := hcell j (by omega)
        rw [Addr.add_lit] at h1
        rw [h1]
        have hjz : j < zs.length := by omega
        have hw := hwz zs[j] (List.getElem_mem hjz)
        obtain ⟨q0, q1⟩ := bounds_u8 hw
        have e1 : zs.getD j 0 = zs[j] := by simp [List.getD_eq_getElem?_getD, List.getElem?_eq_getElem hjz]
        rw [e1]
        have e2 : ((zs.take len).map fun n => UInt8.ofNat n.toNat)[j]'hj = UInt8.ofNat (zs[j]).toNat := by simp
        rw [e2]
        congr 2
        simp
        omega
    · simp [lits]
      omega
/-- A list that is not there has no room. -/
theorem open_none {H : Type} {enc : TypeId × Value → H} {W : World} {a : Option Addr} {len cap : Nat} {d : DataW H} {p : List MemPlace}
    (h : DataW.Trod enc Tryz.prog W 0 (fun _ => true) true 53 (.slice a len cap) d p) : a = none → cap = 0 := by
  obtain ⟨fuel, hf⟩ := h
  rcases open_ints Tryz.underlying53 Tryz.underlying5 (by kernel_rfl) hf with ⟨hcs, _⟩ | ⟨x, l, c, zs, hcs, _⟩
  · simp [Value.cells] at hcs
    exact fun _ => hcs.2.2
  · simp [Value.cells] at hcs
    intro e
    rw [e] at hcs
    cases hcs.1
theorem open_cap {H : Type} {enc : TypeId × Value → H} {W : World} {a : Option Addr} {len cap : Nat} {d : DataW H} {p : List MemPlace}
    (h : DataW.Trod enc Tryz.prog W 0 (fun _ => true) true 53 (.slice a len cap) d p) : cap ≤ 9223372036854775807 := by
  obtain ⟨fuel, hf⟩ := h
  rcases open_ints Tryz.underlying53 Tryz.underlying5 (by kernel_rfl) hf with ⟨hcs, _⟩ | ⟨x, l, c, zs, hcs, _, _, hm, _⟩
  · simp [Value.cells] at hcs
    omega
  · simp [Value.cells] at hcs
    unfold maxLen at hm
    omega
theorem bulk_pos {H : Type} (d : DataW H) : 0 < Rows.uptoBulk d := by
  cases d <;> first | (rename_i l; cases l <;> simp [Rows.uptoBulk]) | simp [Rows.uptoBulk]
theorem bulk_len {H : Type} : ∀ l : List (DataW H), l.length ≤ Rows.uptoBulkAll l
  | [] => Nat.zero_le _
  | d :: r => by
    have h1 := bulk_pos d
    have h2 := bulk_len r
    simp only [Rows.uptoBulkAll, List.length_cons]
    omega
theorem bulk_mem {H : Type} {d : DataW H} : ∀ {l : List (DataW H)}, d ∈ l → Rows.uptoBulk d ≤ Rows.uptoBulkAll l
  | x :: r, h => by
    simp only [Rows.uptoBulkAll]
    rcases List.mem_cons.1 h with rfl | h
    · omega
    · have := bulk_mem h
      omega
theorem bulk_slice {H : Type} {el sp l : List (DataW H)} (hk : Rows.uptoSmall H l = true) (h : DataW.slice el sp ∈ l) : el.length ≤ 1048576 := by
  have h1 : Rows.uptoBulkAll l ≤ 1048576 := of_decide_eq_true hk
  have h2 := bulk_mem h
  have h3 := bulk_len el
  simp only [Rows.uptoBulk] at h2
  omega
theorem bulk_string {H : Type} {s : ByteArray} {l : List (DataW H)} (hk : Rows.uptoSmall H l = true) (h : DataW.lit (.string s.data.toList) ∈ l) : s.size ≤ 1048576 := by
  have h1 : Rows.uptoBulkAll l ≤ 1048576 := of_decide_eq_true hk
  have h2 := bulk_mem h
  simp only [Rows.uptoBulk, Array.length_toList] at h2
  have h3 : s.data.size = s.size := rfl
  omega
end Go.Proofs.YthkoionigdnhgabGreatDoor
