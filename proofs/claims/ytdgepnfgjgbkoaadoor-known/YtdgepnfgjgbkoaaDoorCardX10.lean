/-
  The words of a text, gone through byte by byte.
-/
import Derived.Test.YtdgepnfgjgbkoaaDoorWdP
import Derived.Test.YtdgepnfgjgbkoaaDoorLate
import Derived.Test.YtdgepnfgjgbkoaaDoorRows
import Derived.Test.YtdgepnfgjgbkoaaDoorCards
import Derived.Test.YtdgepnfgjgbkoaaDoorTie
import Derived.ProofKit
import Derived.OpenShut
import Derived.Lib.LaidTab
import Derived.Deep.DeepHandedRow
import Derived.ShutString
import Derived.SizedLaws
import Derived.ChangeOld
namespace Go.Proofs.YtdgepnfgjgbkoaaDoor

/-- The words of what is left, when a word that began at f goes on at k. -/
def scan (f k : Nat) : List UInt8 → List (Nat × Nat)
  | [] => if f < k then [(f, k)] else []
  | c :: t => if blk c = true then (if f < k then (f, k) :: scan (k + 1) (k + 1) t else scan (k + 1) (k + 1) t) else scan f (k + 1) t
theorem scan_nil (f k : Nat) : scan f k [] = if f < k then [(f, k)] else [] := rfl
theorem scan_cons (f k : Nat) (c : UInt8) (t : List UInt8) : scan f k (c :: t) = if blk c = true then (if f < k then (f, k) :: scan (k + 1) (k + 1) t else scan (k + 1) (k + 1) t) else scan f (k + 1) t := rfl
theorem wds_suc (l : List UInt8) (k : Nat) : wds l (k + 1) = if stopAt l k = true ∧ frm l k < k then wds l k ++ [(frm l k, k)] else wds l k := rfl
theorem frm_suc (l : List UInt8) (k : Nat) : frm l (k + 1) = if stopAt l k = true then k + 1 else frm l k := rfl
theorem wds_scan (l : List UInt8) : ∀ (n k : Nat), k + n = l.length → wdsA l = wds l k ++ scan (frm l k) k (l.drop k)
  | 0, k, h => by
    obtain rfl : k = l.length := by omega
    unfold wdsA
    rw [wds_suc, List.drop_length, scan]
    have hs : stopAt l l.length = true := by unfold stopAt; simp
    rw [hs]
    by_cases hf : frm l l.length < l.length
    · rw [if_pos ⟨rfl, hf⟩, if_pos hf]
    · rw [if_neg (by rintro ⟨_, h⟩; exact hf h), if_neg hf, List.append_nil]
  | n + 1, k, h => by
    have hk : k < l.length := by omega
    rw [wds_scan l n (k + 1) (by omega), wds_suc, frm_suc, List.drop_eq_getElem_cons hk, scan]
    have hs : stopAt l k = blk l[k] := by unfold stopAt; rw [List.getElem?_eq_getElem hk]
    rw [hs]
    by_cases hb : blk l[k] = true
    · rw [if_pos hb, if_pos hb]
      by_cases hf : frm l k < k
      · rw [if_pos ⟨hb, hf⟩, if_pos hf, List.append_assoc]
        rfl
      · rw [if_neg (by rintro ⟨_, h⟩; exact hf h), if_neg hf]
    · rw [if_neg (by rintro ⟨h, _⟩; exact hb h), if_neg hb, if_neg hb]
theorem wdsA_scan (l : List UInt8) : wdsA l = scan 0 0 l := by
  rw [wds_scan l l.length 0 (by omega)]
  rfl
/-- Words in their order. -/
def ordW (m : Nat) : Nat → List (Nat × Nat) → Prop
  | _, [] => True
  | n, (f, t) :: r => n ≤ f ∧ f < t ∧ t ≤ m ∧ ordW m t r
theorem ordW_le {m : Nat} : ∀ {n k : Nat} {r : List (Nat × Nat)}, ordW m n r → k ≤ n → ordW m k r
  | _, _, [], _, _ => trivial
  | _, _, (_, _) :: _, h, hk => ⟨Nat.le_trans hk h.1, h.2⟩
theorem scan_ord (m : Nat) : ∀ (l : List UInt8) (f k : Nat), f ≤ k → k + l.length ≤ m → ordW m f (scan f k l)
  | [], f, k, h, hm => by
    unfold scan
    split
    · rename_i hf
      simp only [List.length_nil] at hm
      exact ⟨Nat.le_refl _, hf, by omega, trivial⟩
    · trivial
  | c :: t, f, k, h, hm => by
    simp only [List.length_cons] at hm
    unfold scan
    split
    · split
      · rename_i hf
        exact ⟨Nat.le_refl _, hf, by omega, ordW_le (scan_ord m t (k + 1) (k + 1) (Nat.le_refl _) (by omega)) (by omega)⟩
      · exact ordW_le (scan_ord m t (k + 1) (k + 1) (Nat.le_refl _) (by omega)) (by omega)
    · exact scan_ord m t f (k + 1) (by omega) (by omega)
theorem wdsA_ord (l : List UInt8) : ordW l.length 0 (wdsA l) := by
  rw [wdsA_scan]
  exact scan_ord _ l 0 0 (Nat.le_refl _) (by omega)
/-- A text behind a blank is gone through by itself. -/
theorem scan_app (y : List UInt8) (c : UInt8) (hc : blk c = true) : ∀ (x : List UInt8) (f k : Nat), scan f k (x ++ c :: y) = scan f k x ++ scan (k + x.length + 1) (k + x.length + 1) y
  | [], f, k => by
    simp only [List.nil_append, List.length_nil, Nat.add_zero]
    rw [scan_cons, if_pos hc, scan_nil]
    split <;> simp
  | a :: x, f, k => by
    rw [List.cons_append, scan, scan, List.length_cons, scan_app y c hc x, scan_app y c hc x, show k + 1 + x.length + 1 = k + (x.length + 1) + 1 by omega]
    split
    · split <;> simp
    · rfl
theorem scan_word : ∀ (x : List UInt8) (f k : Nat), (∀ c ∈ x, blk c = false) → scan f k x = if f < k + x.length then [(f, k + x.length)] else []
  | [], f, k, _ => by simp [scan]
  | a :: x, f, k, h => by
    rw [scan, if_neg (by rw [h a (by simp)]; simp), scan_word x f (k + 1) (fun c hc => h c (by simp [hc])), List.length_cons, show k + 1 + x.length = k + (x.length + 1) by omega]
theorem scan_shift (d : Nat) : ∀ (x : List UInt8) (f k : Nat), scan (f + d) (k + d) x = (scan f k x).map fun p => (p.1 + d, p.2 + d)
  | [], f, k => by
    unfold scan
    by_cases h : f < k
    · rw [if_pos h, if_pos (by omega)]
      rfl
    · rw [if_neg h, if_neg (by omega)]
      rfl
  | a :: x, f, k => by
    have h1 := scan_shift d x (k + 1) (k + 1)
    have h2 := scan_shift d x f (k + 1)
    rw [show k + 1 + d = k + d + 1 by omega] at h1 h2
    rw [scan, scan]
    by_cases hb : blk a = true
    · rw [if_pos hb, if_pos hb]
      by_cases h : f < k
      · rw [if_pos h, if_pos (by omega), h1]
        rfl
      · rw [if_neg h, if_neg (by omega), h1]
    · rw [if_neg hb, if_neg hb, h2]
end Go.Proofs.YtdgepnfgjgbkoaaDoor
/-
  What a row's list and the world's shape give the walks; a world for the witnesses.
-/
namespace Go.Proofs.YtdgepnfgjgbkoaaDoor
open Go.ChangeShapes Go.WideShapes Go.ChangeAt Go.RowKit

theorem gCl : Tryd.prog.globalNamed "posthorn/octet.classes" = some 1 := by kernel_rfl
theorem tCl : (Tryd.prog.globals[(1 : Nat)]?).map (·.type) = some 119 := by kernel_rfl
theorem cellsCl : Tryd.prog.cellsOf 119 = 15 := by kernel_rfl
theorem cellsStr : Tryd.prog.cellsOf 9 = 1 := by kernel_rfl

theorem laid_rows : (Rows.laid_posthorn_octet_classes : DataW Unit) = .agg (classRows.map fun l => .lit (.string l)) := rfl

theorem table_of_trod {enc : TypeId × Value → Unit} {W : World} {base : Nat} {sp : Nat → Bool} {held : Bool} {cs : Array Value} {fuel : Nat} {p : List MemPlace}
    (hv : W.var? Tryd.prog "posthorn/octet.classes" = some cs)
    (hd : DataW.trod enc Tryd.prog W base sp held fuel 119 cs.toList = some (Rows.laid_posthorn_octet_classes, p)) : Table W := by
  obtain ⟨xs, m, _, hx, hlen, hn, hel⟩ := DataW.trod_array Tryd.underlying119 hd
  rw [laid_rows] at hx
  simp only [Prod.mk.injEq, DataW.agg.injEq] at hx
  obtain ⟨hx, -⟩ := hx
  intro c hc
  have h1 := hel c hc
  have hxc : c < xs.length := by omega
  rw [List.getElem?_eq_getElem hxc] at h1
  obtain ⟨s, e1, e2, _⟩ := DataW.trod_string Tryd.underlying9 h1
  have h2 := congrArg (fun l => l[c]?) hx
  simp only [List.getElem?_map, List.getElem?_eq_getElem hxc, Option.map_some, e2] at h2
  have hcl : c < classRows.length := hc
  rw [List.getElem?_eq_getElem hcl] at h2
  simp only [Option.map_some, Option.some.injEq, DataW.lit.injEq, Lit.string.injEq] at h2
  have h3 := World.var?_cell gCl hv c
  rw [h3]
  rw [cellsStr, Nat.mul_one] at e1
  have h4 := congrArg (fun l => l[0]?) e1
  simp only [List.getElem?_take, List.getElem?_drop] at h4
  have h5 : cs[c]? = some (.string s) := by simpa using h4
  rw [h5]
  have h6 : classRows.getD c [] = s.data.toList := by
    rw [List.getD_eq_getElem?_getD, List.getElem?_eq_getElem hcl, Option.getD_some, h2]
  rw [h6]

/-- The table stands first on the list. -/
theorem table_of_head {W : World} {rest : List (String × DataW Unit)} (h : laidMet Tryd.prog (("posthorn/octet.classes", Rows.laid_posthorn_octet_classes) :: rest) W) : Table W := by
  obtain ⟨ps, ⟨g, t, cs, fuel, p, q, hg, ht, hv, hd, _, _⟩, _⟩ := h
  obtain rfl := Option.some.inj (gCl.symm.trans hg)
  obtain rfl := Option.some.inj (tCl.symm.trans ht)
  exact table_of_trod hv hd

theorem own : ownKnob Tryd.prog.godebug = none := by kernel_rfl

/-- A table's data as cells. -/
def datCells : DataW Unit → Array Value
  | .agg l => (l.map fun
    | .lit (.int k z) => Value.int k z
    | .lit (.string b) => Value.string ⟨b.toArray⟩
    | _ => Value.int .i64 0).toArray
  | _ => #[]

def layCells (d : DataW Unit) : Obj → Obj
  | .cells _ t frozen => .cells (datCells d) t frozen
  | o => o

theorem laidOut : laidOutB Tryd.prog = true := by kernel_rfl
noncomputable def laidWorld (os : Os) : World :=
  { World.holding Tryd.prog os ⟨#[], #[], []⟩ with heap := (World.holding Tryd.prog os ⟨#[], #[], []⟩).heap.modify 1 (layCells Rows.laid_posthorn_octet_classes) }
theorem cell_lt {w : World} {g k : Nat} {v : Value} (h : w.cell? ⟨g, k, none⟩ = some v) : g < w.heap.size := by
  rcases Nat.lt_or_ge g w.heap.size with h' | h'
  · exact h'
  · simp [World.cell?, Array.getElem?_eq_none h'] at h
theorem tabsX_of {W : World} {rest : List (String × DataW Unit)} (h : laidMet Tryd.prog (("posthorn/octet.classes", Rows.laid_posthorn_octet_classes) :: rest) W) (_ : W.ShapedOpen Tryd.prog) : Table W := table_of_head h
theorem bulk_mem {H : Type} {d : DataW H} : ∀ {l : List (DataW H)}, d ∈ l → Rows.uptoBulk d ≤ Rows.uptoBulkAll l
  | x :: r, h => by
    simp only [Rows.uptoBulkAll]
    rcases List.mem_cons.1 h with rfl | h
    · omega
    · have := bulk_mem h
      omega
theorem bulk_string {H : Type} {s : ByteArray} {l : List (DataW H)} (hk : Rows.uptoSmall H l = true) (h : DataW.lit (.string s.data.toList) ∈ l) : s.size ≤ 1048576 := by
  have h1 : Rows.uptoBulkAll l ≤ 1048576 := of_decide_eq_true hk
  have h2 := bulk_mem h
  simp only [Rows.uptoBulk, Array.length_toList] at h2
  have h3 : s.data.size = s.size := rfl
  omega
end Go.Proofs.YtdgepnfgjgbkoaaDoor
