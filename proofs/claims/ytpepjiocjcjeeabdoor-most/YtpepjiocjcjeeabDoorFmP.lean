/-
  What a row's list and the world's shape give the walks; a world for the witnesses.
-/
import Derived.Test.YtpepjiocjcjeeabDoorSpan4
import Derived.Test.YtpepjiocjcjeeabDoorRows
import Derived.Test.YtpepjiocjcjeeabDoorCards
import Derived.Test.YtpepjiocjcjeeabDoorTie
import Derived.ProofKit
import Derived.OpenShut
import Derived.Lib.LaidTab
import Derived.Deep.DeepHandedRow
import Derived.ShutString
import Derived.SizedLaws
import Derived.ChangeOld
import Derived.Test.YtpepjiocjcjeeabDoorOpF16
import Derived.Test.YtpepjiocjcjeeabDoorDe16
import Derived.Test.YtpepjiocjcjeeabDoorPr16
import Derived.Test.YtpepjiocjcjeeabDoorPbqP
namespace Go.Proofs.YtpepjiocjcjeeabDoor
open Go.ChangeShapes Go.WideShapes Go.ChangeAt Go.RowKit

theorem gCl : Tryd.prog.globalNamed "posthorn/octet.classes" = some 0 := by kernel_rfl
theorem tCl : (Tryd.prog.globals[(0 : Nat)]?).map (·.type) = some 88 := by kernel_rfl
theorem cellsCl : Tryd.prog.cellsOf 88 = 15 := by kernel_rfl
theorem cellsStr : Tryd.prog.cellsOf 9 = 1 := by kernel_rfl

theorem laid_rows : (Rows.laid_posthorn_octet_classes : DataW Unit) = .agg (classRows.map fun l => .lit (.string l)) := rfl

theorem table_of_trod {enc : TypeId × Value → Unit} {W : World} {base : Nat} {sp : Nat → Bool} {held : Bool} {cs : Array Value} {fuel : Nat} {p : List MemPlace}
    (hv : W.var? Tryd.prog "posthorn/octet.classes" = some cs)
    (hd : DataW.trod enc Tryd.prog W base sp held fuel 88 cs.toList = some (Rows.laid_posthorn_octet_classes, p)) : Table W := by
  obtain ⟨xs, m, _, hx, hlen, hn, hel⟩ := DataW.trod_array Tryd.underlying88 hd
  rw [laid_rows] at hx
  simp only [Prod.mk.injEq, DataW.agg.injEq] at hx
  obtain ⟨hx, -⟩ := hx
  intro c hc
  have h1 := hel c hc
  have hxc : c < xs.length := by omega
  rw [List.getElem?_eq_getElem hxc] at h1
  obtain ⟨s, e1, e2, _⟩ := DataW.trod_string Tryd.underlying9 h1
  have h2 := congrArg (fun l => l[c]?) hx
  simp only [List.getElem?_map, List.getElem?_eq_getElem hxc, Option.map_some, e2] at h2
  have hcl : c < classRows.length := hc
  rw [List.getElem?_eq_getElem hcl] at h2
  simp only [Option.map_some, Option.some.injEq, DataW.lit.injEq, Lit.string.injEq] at h2
  have h3 := World.var?_cell gCl hv c
  rw [h3]
  rw [cellsStr, Nat.mul_one] at e1
  have h4 := congrArg (fun l => l[0]?) e1
  simp only [List.getElem?_take, List.getElem?_drop] at h4
  have h5 : cs[c]? = some (.string s) := by simpa using h4
  rw [h5]
  have h6 : classRows.getD c [] = s.data.toList := by
    rw [List.getD_eq_getElem?_getD, List.getElem?_eq_getElem hcl, Option.getD_some, h2]
  rw [h6]

/-- The table stands first on the list. -/
theorem table_of_head {W : World} {rest : List (String × DataW Unit)} (h : laidMet Tryd.prog (("posthorn/octet.classes", Rows.laid_posthorn_octet_classes) :: rest) W) : Table W := by
  obtain ⟨ps, ⟨g, t, cs, fuel, p, q, hg, ht, hv, hd, _, _⟩, _⟩ := h
  obtain rfl := Option.some.inj (gCl.symm.trans hg)
  obtain rfl := Option.some.inj (tCl.symm.trans ht)
  exact table_of_trod hv hd

theorem own : ownKnob Tryd.prog.godebug = none := by kernel_rfl

/-- A table's data as cells. -/
def datCells : DataW Unit → Array Value
  | .agg l => (l.map fun
    | .lit (.int k z) => Value.int k z
    | .lit (.string b) => Value.string ⟨b.toArray⟩
    | _ => Value.int .i64 0).toArray
  | _ => #[]

def layCells (d : DataW Unit) : Obj → Obj
  | .cells _ t frozen => .cells (datCells d) t frozen
  | o => o

theorem laidOut : laidOutB Tryd.prog = true := by kernel_rfl
noncomputable def laidWorld (os : Os) : World :=
  { World.holding Tryd.prog os ⟨#[], #[], []⟩ with heap := (World.holding Tryd.prog os ⟨#[], #[], []⟩).heap.modify 0 (layCells Rows.laid_posthorn_octet_classes) }
theorem cell_lt {w : World} {g k : Nat} {v : Value} (h : w.cell? ⟨g, k, none⟩ = some v) : g < w.heap.size := by
  rcases Nat.lt_or_ge g w.heap.size with h' | h'
  · exact h'
  · simp [World.cell?, Array.getElem?_eq_none h'] at h
theorem tabsX_of {W : World} {rest : List (String × DataW Unit)} (h : laidMet Tryd.prog (("posthorn/octet.classes", Rows.laid_posthorn_octet_classes) :: rest) W) (_ : W.ShapedOpen Tryd.prog) : Table W := table_of_head h
theorem bulk_mem {H : Type} {d : DataW H} : ∀ {l : List (DataW H)}, d ∈ l → Rows.uptoBulk d ≤ Rows.uptoBulkAll l
  | x :: r, h => by
    simp only [Rows.uptoBulkAll]
    rcases List.mem_cons.1 h with rfl | h
    · omega
    · have := bulk_mem h
      omega
theorem bulk_string {H : Type} {s : ByteArray} {l : List (DataW H)} (hk : Rows.uptoSmall H l = true) (h : DataW.lit (.string s.data.toList) ∈ l) : s.size ≤ 1048576 := by
  have h1 : Rows.uptoBulkAll l ≤ 1048576 := of_decide_eq_true hk
  have h2 := bulk_mem h
  simp only [Rows.uptoBulk, Array.length_toList] at h2
  have h3 : s.data.size = s.size := rfl
  omega
end Go.Proofs.YtpepjiocjcjeeabDoor
/-
  Fields that came in, in the second form: how many bytes they hold at all.
-/
namespace Go.Proofs.YtpepjiocjcjeeabDoor
open Go.ChangeShapes Go.WideShapes Go.ChangeAt Go.RowKit

theorem bulk_posF {H : Type} (d : DataW H) : 0 < Rows.uptoBulk d := by
  cases d <;> first | (rename_i l; cases l <;> simp [Rows.uptoBulk]) | simp [Rows.uptoBulk]
theorem bulk_lenF {H : Type} : ∀ l : List (DataW H), l.length ≤ Rows.uptoBulkAll l
  | [] => Nat.zero_le _
  | d :: r => by
    have h1 := bulk_posF d
    have h2 := bulk_lenF r
    simp only [Rows.uptoBulkAll, List.length_cons]
    omega
/-- How many bytes fields hold. -/
def totF (l : List Fd) : Nat := (l.map fun p => p.name.length + p.body.length).sum
theorem totF_cons (p : Fd) (r : List Fd) : totF (p :: r) = p.name.length + p.body.length + totF r := by simp [totF]
theorem totF_mem : ∀ (l : List Fd) (p : Fd), p ∈ l → p.name.length + p.body.length ≤ totF l
  | q :: r, p, h => by
    rw [totF_cons]
    rcases List.mem_cons.1 h with rfl | h
    · omega
    · have := totF_mem r p h
      omega
theorem bulk_totF {H : Type} : ∀ l : List Fd, totF l ≤ Rows.uptoBulkAll (l.map (dtF (H := H)))
  | [] => Nat.zero_le _
  | p :: r => by
    have h2 := bulk_totF (H := H) r
    rw [totF_cons, List.map_cons]
    simp only [Rows.uptoBulkAll, dtF, Rows.uptoBulk]
    omega
theorem fds_bulk {H : Type} {d : DataW H} {st : List Fd} (e : (st = [] ∧ d = .nil) ∨ ∃ sp, d = .slice (st.map dtF) sp) : st.length ≤ Rows.uptoBulk d ∧ totF st ≤ Rows.uptoBulk d := by
  rcases e with ⟨rfl, rfl⟩ | ⟨sp, rfl⟩
  · exact ⟨Nat.zero_le _, Nat.zero_le _⟩
  · have h1 := bulk_lenF (st.map (dtF (H := H)))
    have h2 := bulk_totF (H := H) st
    rw [List.length_map] at h1
    simp only [Rows.uptoBulk]
    constructor <;> omega
end Go.Proofs.YtpepjiocjcjeeabDoor
/-
  Print, its answer as one row; the document's beside it.
-/
namespace Go.Proofs.YtpepjiocjcjeeabDoor
open Go.RowKit

/-- What Print tells: the text, or none. -/
def prR (l : List Fd) : List UInt8 := if prE l = 0 then prL l else []
theorem prL_tot : ∀ l : List Fd, (prL l).length = totF l + 3 * l.length
  | [] => rfl
  | p :: r => by
    have ih := prL_tot r
    have e : prL (p :: r) = wrF p ++ prL r := rfl
    rw [e, List.length_append, ih, totF_cons, List.length_cons]
    unfold wrF
    simp
    omega
theorem prR_le (l : List Fd) (h1 : l.length ≤ 1048576) (h2 : totF l ≤ 1048576) : (prR l).length ≤ 4194304 := by
  unfold prR
  split
  · rw [prL_tot]; omega
  · simp
theorem prow {w' : World} {B : Nat} {v : Value} {l : List Fd} (h1 : prE l ≠ 0 → v = .slice none 0 0) (h2 : prE l = 0 → w'.ownsRow B 5 1 v (prL l).length (cellsB (prL l))) : w'.ownsRow B 5 1 v (prR l).length (cellsB (prR l)) := by
  unfold prR
  by_cases h : prE l = 0
  · rw [if_pos h]; exact h2 h
  · rw [if_neg h, h1 h]
    exact own_nil _ _
theorem fprint_row (a : Option Addr) (cap : Nat) (l : List Fd) (w : World) (ha : Fds a l w) (hl : l.length ≤ 1048576) (ht : totF l ≤ 1048576) (hT : Table w) :
    Calls Tryd.prog 11 #[.slice a l.length cap] w fun e w' => ∃ b c, e = .returned (.tuple #[.slice b (prR l).length c, .int .i64 (prE l : Int)]) ∧ Below w.heap.size w w' ∧ w'.ownsRow w.heap.size 5 1 (.slice b (prR l).length c) (prR l).length (cellsB (prR l)) := by
  refine (fprint_any a cap l w ha (by omega) (fun p hp => by have := totF_mem l p hp; omega) hT (fun _ => by rw [prL_tot]; omega)).mono ?_
  rintro e w' ⟨v, rfl, hb, h1, h2⟩
  have h3 := prow h1 h2
  obtain ⟨b, c, rfl, -⟩ := own_bts h3
  exact ⟨b, c, rfl, hb, h3⟩
theorem fds_fore {w : World} {B n c g : Nat} {l r : List Fd} (h : w.ownsRow B 32 2 (.slice (some ⟨g, 0, none⟩) n c) n (cellsF (l ++ r))) : Fds (some ⟨g, 0, none⟩) l w := .inr ⟨g, 0, rfl, (h.lt g rfl).2, fun j u hj => by
  have := h.cells rfl j u (by
    rw [cellsF_append, List.getElem?_append_left]
    · exact hj
    · rcases Nat.lt_or_ge j (cellsF l).length with h' | h'
      · exact h'
      · rw [List.getElem?_eq_none h'] at hj; cases hj)
  rw [Addr.add_lit] at this
  exact this⟩
theorem own_capT {w : World} {B n c t k : Nat} {a : Option Addr} {xs : List Value} (h : w.ownsRow B t k (.slice a n c) n xs) : c ≤ 9223372036854775807 := by
  obtain ⟨_, ⟨h1, _⟩ | ⟨g, cap, cur, hv, _, _, _, hcm, _⟩⟩ := h
  · injection h1 with _ _ e
    omega
  · injection hv with _ _ e
    unfold maxLen at hcm
    omega
theorem own_far {w w' : World} {B n t k : Nat} {v : Value} {xs : List Value} {row : Option Nat} (h : w.ownsRow B t k v n xs) (hg : w.grownBy w' row) (hn : ∀ j, v.ownBlock = some j → row ≠ some j) : w'.ownsRow B t k v n xs := ownT_keep h (fun j hj => hg.block j (h.lt j hj).2 (fun e => hn j hj e.symm))
end Go.Proofs.YtpepjiocjcjeeabDoor
/-
  4096 fields, and one more.
-/
namespace Go.Proofs.YtpepjiocjcjeeabDoor

/-- The field 'A', with no body, n times over. -/
def lA (n : Nat) : List Fd := List.replicate n ⟨[65], []⟩
theorem lA_len (n : Nat) : (lA n).length = n := List.length_replicate ..
theorem chk_A : chkF [65] [] = 0 := by
  have h1 : nmB [65] = true := by decide +kernel
  unfold chkF
  rw [h1, if_pos rfl, rws_off _ _ (by decide), rwE_end [] 0 (Nat.le_refl _), ckR, if_neg (by decide), if_pos rfl, ckR, if_neg (by decide)]
theorem err_A : ∀ n, errF (lA n) = 0
  | 0 => rfl
  | n + 1 => by
    rw [show lA (n + 1) = ⟨[65], []⟩ :: lA n from rfl, errF, if_pos chk_A]
    exact err_A n
theorem prL_A : ∀ n, (prL (lA n)).length = 4 * n
  | 0 => rfl
  | n + 1 => by
    rw [show prL (lA (n + 1)) = wrF ⟨[65], []⟩ ++ prL (lA n) from rfl, List.length_append, prL_A n]
    show 4 + 4 * n = _
    omega
theorem prE_A : prE (lA 4096) = 0 := by
  unfold prE
  rw [lA_len, if_neg (by decide), err_A]
theorem prE_B : prE (lA 4096 ++ [⟨[65], []⟩]) = 160 := by
  unfold prE
  rw [List.length_append, lA_len, if_pos (by decide)]
theorem prR_A : prR (lA 4096) = prL (lA 4096) := by
  unfold prR
  rw [if_pos prE_A]
/-- One more than may be. -/
theorem more_A : prsF (prL (lA 4096) ++ [65, 58, 13, 10]) = .error (160, 16384) := by
  obtain ⟨qs, h1, h2⟩ := print_in (lA 4096) [] [65, 58, 13, 10] [] (err_A _) (by rw [lA_len]; decide) (Pdt.zero _)
  rw [List.nil_append] at h1 h2
  rw [List.nil_append, List.length_nil, Nat.zero_add, prL_A] at h1
  have hq : qs.length = 4096 := by
    have := congrArg List.length h2
    rw [List.length_map, lA_len] at this
    exact this
  obtain ⟨k, hk⟩ := h1.st
  have hl : (prL (lA 4096)).length = 16384 := prL_A _
  generalize prL (lA 4096) = Y at *
  have hd : (Y ++ [65, 58, 13, 10]).drop 16384 = [65, 58, 13, 10] := List.drop_left' hl
  have hE : rwE (Y ++ [65, 58, 13, 10]) 16384 = 16386 := by
    unfold rwE
    rw [hd]
    rfl
  have ht : tkH (Y ++ [65, 58, 13, 10]) qs 16384 16386 = .error (160, 16384) := by
    have h0 : (Y ++ [65, 58, 13, 10])[16384]? = some 65 := by
      have := congrArg (·[0]?) hd
      simpa [List.getElem?_drop] using this
    have h01 : (Y ++ [65, 58, 13, 10])[16384 + 1]? = some 58 := by
      have := congrArg (·[1]?) hd
      simpa [List.getElem?_drop] using this
    have hs : stE (Y ++ [65, 58, 13, 10]) 16384 16386 = [65, 58] := by
      unfold stE
      rw [List.take_append, List.take_of_length_le (by omega), hl]
      exact List.drop_left' hl
    rw [tk_blank _ _ _ _ 65 h0 (by decide) (by
      rw [show (16386 : Nat) = 16384 + 2 from rfl, ← List.drop_drop, hd]
      rfl), if_neg (by decide)]
    have hb : badN 11 [65, 58] = 1 := by decide +kernel
    unfold begH
    rw [hs, hb]
    dsimp only
    rw [h01, hq]
    rfl
  exact hk.bad (by rw [List.length_append, hl]; decide) (by rw [hd]; rfl) (by rw [hE]; exact ht)
end Go.Proofs.YtpepjiocjcjeeabDoor
