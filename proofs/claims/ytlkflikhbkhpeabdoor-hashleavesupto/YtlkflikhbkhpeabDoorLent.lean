/-
  Rows with spare room behind them; bytes compared as strings.
-/
import Derived.Test.YtlkflikhbkhpeabDoorKeep
import Derived.Test.YtlkflikhbkhpeabDoorRMac
namespace Go.Proofs.YtlkflikhbkhpeabDoor
open Go.RowKit

/-- A block holds a row of bytes, and room behind it. -/
structure Rw (w : World) (g cap : Nat) (l : List UInt8) : Prop where
  ex : ∃ cur, w.heap[g]? = some (.cells cur 5 (0, 0)) ∧ l.length ≤ cap ∧ cur.size = cap ∧ cur.toList.take l.length = cellsB l
theorem Rw.of {w w' : World} {g cap : Nat} {l : List UInt8} (h : Rw w g cap l) (e : w'.heap[g]? = w.heap[g]?) : Rw w' g cap l := by
  obtain ⟨cur, h1, h2⟩ := h.ex
  exact ⟨cur, e.trans h1, h2⟩
theorem Rw.lt {w : World} {g cap : Nat} {l : List UInt8} (h : Rw w g cap l) : g < w.heap.size := by
  obtain ⟨cur, h1, _⟩ := h.ex
  exact (Array.getElem?_eq_some_iff.1 h1).1
theorem Rw.cap {w : World} {g cap : Nat} {l : List UInt8} (h : Rw w g cap l) : l.length ≤ cap := by
  obtain ⟨cur, _, h1, _⟩ := h.ex
  exact h1
theorem Rw.below {w w' : World} {g cap : Nat} {l : List UInt8} (h : Rw w g cap l) (hb : Below w.heap.size w w') : Rw w' g cap l := h.of (hb.block g h.lt)
theorem Rw.cell {w : World} {g cap : Nat} {l : List UInt8} (h : Rw w g cap l) (k : Nat) (hk : k < l.length) : w.cell? ⟨g, k, none⟩ = some (.int .u8 (l[k].toNat : Int)) := by
  obtain ⟨cur, h1, h2, h3, h4⟩ := h.ex
  have e := congrArg (fun x => x[k]?) h4
  simp only [List.getElem?_take, if_pos hk, cellsB_at l k hk, Array.getElem?_toList] at e
  exact (Lies.cell h1 k).trans e
theorem Rw.frozen {w : World} {g cap : Nat} {l : List UInt8} (h : Rw w g cap l) (k : Nat) : w.frozen? ⟨g, k, none⟩ = false := by
  obtain ⟨cur, h1, _⟩ := h.ex
  exact Lies.frozen h1 k
theorem Rw.bts {w : World} {g cap : Nat} {l : List UInt8} (h : Rw w g cap l) (k : Nat) : Bts (some ⟨g, 0, none⟩) (l.take k) w := by
  refine .inr ⟨g, 0, rfl, h.lt, fun j hj => ?_⟩
  rw [Nat.zero_add]
  have hj' : j < l.length := by rw [List.length_take] at hj; omega
  rw [List.getElem_take]
  exact h.cell j hj'
theorem Rw.all {w : World} {g cap : Nat} {l : List UInt8} (h : Rw w g cap l) : Bts (some ⟨g, 0, none⟩) l w := by
  have := h.bts l.length
  rwa [List.take_length] at this
theorem Rw.fore {w : World} {g cap : Nat} {l m : List UInt8} (h : Rw w g cap (l ++ m)) : Bts (some ⟨g, 0, none⟩) l w := by
  have := h.bts l.length
  rwa [List.take_left] at this
theorem Rw.set {w : World} {g cap : Nat} {l : List UInt8} (h : Rw w g cap l) (k : Nat) (x : UInt8) : Rw (w.setCell ⟨g, k, none⟩ (.int .u8 (x.toNat : Int))) g cap (l.set k x) := by
  obtain ⟨cur, h1, h2, h3, h4⟩ := h.ex
  refine ⟨cur.setIfInBounds k (.int .u8 (x.toNat : Int)), Lies.set h1 k _, by rw [List.length_set]; exact h2, by rw [Array.size_setIfInBounds]; exact h3, ?_⟩
  rw [List.length_set, Array.toList_setIfInBounds, List.take_set, h4]
  simp [cellsB]
theorem Rw.other {w : World} {g q cap : Nat} {l : List UInt8} (h : Rw w g cap l) (hne : g ≠ q) (k : Nat) (v : Value) : Rw (w.setCell ⟨q, k, none⟩ v) g cap l := h.of (Below.heap_setCell _ _ _ _ hne)
theorem own_rw {w : World} {B n : Nat} {v : Value} {l : List UInt8} (h : w.ownsRow B 5 1 v n (cellsB l)) (h0 : 0 < n) : ∃ g cap, v = .slice (some ⟨g, 0, none⟩) n cap ∧ B ≤ g ∧ Rw w g cap l := by
  obtain ⟨h1, h2⟩ := h
  have hl : l.length = n := by rw [cellsB_length] at h1; omega
  rcases h2 with ⟨_, e⟩ | ⟨g, cap, cur, rfl, hb, hg, hcap, _, hs, ht⟩
  · omega
  · exact ⟨g, cap, rfl, hb, cur, hg, by omega, by omega, by rw [hl]; simpa using ht⟩
/-- A hash is no row of bytes. -/
theorem HashAt.off {w : World} {g q cap : Nat} {t l : List UInt8} (h : HashAt w g t) (hr : Rw w q cap l) : q ≠ g := by
  intro e
  subst e
  obtain ⟨row, _, _, hl⟩ := h.ex
  obtain ⟨cur, h1, _⟩ := hr.ex
  exact absurd (lies_kind hl h1) (by decide)

/-- The marks behind the bytes. -/
def mark (i : Nat) : UInt8 := UInt8.ofNat (161 + i)
def marks (k : Nat) : List UInt8 := (List.range k).map mark
theorem marks_next (k : Nat) : marks (k + 1) = marks k ++ [mark k] := by simp [marks, List.range_succ]
theorem marks_length (k : Nat) : (marks k).length = k := by simp [marks]

set_option maxRecDepth 100000 in
theorem lent_any (a : Option Addr) (l : List UInt8) (cap : Nat) (w : World) (hb : Bts a l w) (hl : l.length ≤ 1048576) :
    Calls Tryd.prog 10 #[.slice a l.length cap] w fun e w' => ∃ g c, e = .returned (.slice (some ⟨g, 0, none⟩) (l.length + 200) c) ∧ w.heap.size ≤ g ∧ Rw w' g c (l ++ marks 200) ∧ Below w.heap.size w w' := by
  obtain ⟨n, hn⟩ : ∃ n, n = l.length := ⟨_, rfl⟩
  have hcop := copied_any a l cap w hb (by omega)
  rw [← hn] at hcop hl ⊢
  have HCOP : Hid _ := hcop
  have HN : Hid (n = l.length) := hn
  clear hb hcop hn
  go_enter Tryd.func10, Tryd.ntmps10
  go_wp2_with fail
  refine Calls.mono HCOP.out ?_
  rintro e w1 ⟨u, rfl, hown, hb1⟩
  have HO1 : Hid (w1.ownsRow w.heap.size 5 1 u (n + 0) (cellsB (l ++ marks 0))) := by
    show World.ownsRow _ _ _ _ _ _ _
    rw [show marks 0 = [] from rfl, List.append_nil]
    exact hown
  have HB1 : Hid (Below w.heap.size w w1) := hb1
  clear hown hb1 HCOP
  go_wp2_with fail
  go_loopw [3, 4] (fun x i wr => ∃ k : Nat, k ≤ 200 ∧ i = .int .i64 k ∧ Hid (wr.ownsRow w.heap.size 5 1 x (n + k) (cellsB (l ++ marks k))) ∧ Hid (Below w.heap.size w wr)) (fun _ i _ => 200 - (intOf i).toNat)
  case atStart => exact ⟨0, by omega, rfl, HO1, HB1⟩
  case round =>
    obtain ⟨k, hk, rfl, HO, HB⟩ := hrel
    clear HO1 HB1
    by_cases hlt : k < 200
    · have HM : Hid (l ++ marks (k + 1) = (l ++ marks k) ++ [mark k]) := by
        show _ = _
        rw [marks_next, List.append_assoc]
      have HV : Hid ((161 + (k : Int)) % 256 = ((mark k).toNat : Int)) := by
        show _ = _
        simp [mark]
      go_wp2_with (at_builtin; refine wpList_append_byte rfl _ _ rfl w.heap.size _ (n + k) (l ++ marks k) rfl (HO.out.alloc _) wr (mark k) _ HV.out rfl 1 rfl (by omega) HB.out.size ?_; intro v3 w3 hown3 hbel3; have HO3 : Hid (w3.ownsRow w.heap.size 5 1 v3 (n + (k + 1)) (cellsB (l ++ marks (k + 1)))) := (by rw [HM.out]; exact hown3); have HB3 : Hid (Below w.heap.size w w3) := hbel3 _ _ HB.out (Nat.le_refl _); clear hown3 hbel3 HO HB HV HM)
      go_round
      case rel => exact ⟨k + 1, by omega, by go_num, HO3, HB3⟩
      case measure => simp [intOf]; omega
    · obtain rfl : k = 200 := by omega
      obtain ⟨g, c, e3, hg, hr⟩ := own_rw HO.out (by omega)
      subst e3
      have HR : Hid (Rw wr g c (l ++ marks 200)) := hr
      clear hr HO
      go_wp2
      go_ret
      exact ⟨g, c, rfl, hg, HR.out, HB.out⟩

theorem bts_back {a : Option Addr} {l : List UInt8} {w : World} (h : Bts a l w) (c : Nat) : (convert 22 9 (.slice a l.length c)).run Tryd.prog w = .ok (.string ⟨l.toArray⟩) w := by
  cases a with
  | none =>
    obtain rfl := bts_none h
    exact run_convert_bytes_nil w 22 5 Tryd.underlying22 Tryd.underlying5 0 c 9 Tryd.underlying9
  | some ad =>
    refine run_convert_bytes_back (P := Tryd.prog) w 22 9 5 ad c l Tryd.underlying22 Tryd.underlying5 Tryd.underlying9 (fun j hj => ?_)
    have := bts_news h j (.int .u8 (l[j].toNat : Int)) (cellsB_at l j hj)
    simpa using this
set_option maxRecDepth 100000 in
theorem same_any (a1 a2 : Option Addr) (l : List UInt8) (c1 c2 : Nat) (w : World) (h1 : Bts a1 l w) (h2 : Bts a2 l w) :
    Calls Tryd.prog 15 #[.slice a1 l.length c1, .slice a2 l.length c2] w fun e w' => e = .returned (.bool true) ∧ w' = w := by
  have b1 := bts_back h1 c1
  have b2 := bts_back h2 c2
  clear h1 h2
  generalize l.length = n at b1 b2 ⊢
  go_enter Tryd.func15, Tryd.ntmps15
  go_wp2
  go_ret
  exact ⟨rfl, rfl⟩
end Go.Proofs.YtlkflikhbkhpeabDoor
