/-
  A framer in memory: its cells, its liner, its body's reader.
-/
import Derived.Test.YthnjbnhmdjpfpaaFmP
import Derived.Test.YthnjbnhmdjpfpaaTk14
import Derived.Test.YthnjbnhmdjpfpaaHl13
import Derived.Test.YthnjbnhmdjpfpaaCl14
namespace Go.Proofs.Ythnjbnhmdjpfpaa
open Go.RowKit

/-- What takes the bytes now. -/
def tkV (b lb rb : Nat) : Fs → Value
  | .ln _ => .func (.func 48) #[.pointer (some ⟨lb, 0, none⟩)] #[]
  | .dt _ => .func (.func 39) #[.pointer (some ⟨rb, 0, none⟩)] #[]
  | .ch _ _ => .func (.func 49) #[.pointer (some ⟨b, 0, none⟩)] #[]
def bdV (rb : Nat) : Fs → Value
  | .dt _ => .pointer (some ⟨rb, 0, none⟩)
  | _ => .pointer none
def Fs.bg : Fs → Bool
  | .ln s => !s.isEmpty
  | _ => false
def Fs.cur : Fs → List UInt8
  | .ln s => s
  | _ => []
/-- A framer's cells. -/
def fmC (t a b lb rb : Nat) (wn rm : Int) (st : Fs) : List Value := [.int .i64 (t : Int), .int .i64 (a : Int), .int .i64 (st.md : Int), tkV b lb rb st, .pointer (some ⟨lb, 0, none⟩), .bool st.bg, bdV rb st, .int .i64 wn, .int .i64 rm]
/-- What is beside the cells. -/
def Fs.has (w : World) (F : Nat → Prop) (t a rb : Nat) (wn rm : Int) : Fs → Prop
  | .ln _ => True
  | .dt d => F rb ∧ Rd w rb t a d ∧ 1 ≤ d.p ∧ d.p ≤ 6
  | .ch n r => wn = (n : Int) ∧ rm = (r : Int) ∧ n ≤ 9223372036854775807 ∧ r ≤ 9223372036854775807
structure Fm (w : World) (F : Nat → Prop) (b m t a : Nat) (st : Fs) : Prop where
  ex : ∃ lb rb wn rm, Lies w b (fmC t a b lb rb wn rm st).toArray 41 ∧ Ln w F lb m st.cur ∧ st.has w F t a rb wn rm
  fb : F b
  fl : ∀ k, F k → k < w.heap.size
  t1 : 1 ≤ t
  t2 : t ≤ 16777216
  a1 : 1 ≤ a
  a2 : a ≤ 16777216
/-- How much a body's reader has counted. -/
def Fs.le (B : Nat) : Fs → Prop
  | .dt d => d.size ≤ B ∧ d.row ≤ B
  | _ => True
theorem LnC.away {w w' : World} {F : Nat → Prop} {lb m : Nat} {t : List UInt8} {h : Bool} {y : Int} (x : LnC w F lb m t h y) {b : Nat} {cs : Array Value} {T : Nat} (hl : Lies w b cs T) (h1 : T ≠ 93) (h2 : T ≠ 5) (hk : ∀ k, k < w.heap.size → k ≠ b → w'.heap[k]? = w.heap[k]?) : LnC w' F lb m t h y := by
  obtain ⟨v, k1, k2, k3⟩ := x.ex
  have hap := own_apart k2 hl h2
  exact ⟨⟨v, (hk lb k1.lt (fun e => h1 (by subst e; exact lies_kind hl k1))).trans k1, own_keep k2 (fun k e => hk k (k2.lt k e).2 (hap k e)), k3⟩, x.fb, x.lo, x.hi, x.le⟩
theorem fmC_cells {w : World} {t a b lb rb : Nat} {wn rm : Int} {st : Fs} (hl : Lies w b (fmC t a b lb rb wn rm st).toArray 41) : w.cell? ⟨b, 0, none⟩ = some (.int .i64 (t : Int)) ∧ w.cell? ⟨b, 1, none⟩ = some (.int .i64 (a : Int)) ∧ w.cell? ⟨b, 2, none⟩ = some (.int .i64 (st.md : Int)) ∧ w.cell? ⟨b, 3, none⟩ = some (tkV b lb rb st) ∧ w.cell? ⟨b, 4, none⟩ = some (.pointer (some ⟨lb, 0, none⟩)) ∧ w.cell? ⟨b, 5, none⟩ = some (.bool st.bg) ∧ w.cell? ⟨b, 6, none⟩ = some (bdV rb st) ∧ w.cell? ⟨b, 7, none⟩ = some (.int .i64 wn) ∧ w.cell? ⟨b, 8, none⟩ = some (.int .i64 rm) := ⟨hl.cell 0, hl.cell 1, hl.cell 2, hl.cell 3, hl.cell 4, hl.cell 5, hl.cell 6, hl.cell 7, hl.cell 8⟩
theorem fmC_frozen {w : World} {t a b lb rb : Nat} {wn rm : Int} {st : Fs} (hl : Lies w b (fmC t a b lb rb wn rm st).toArray 41) : w.frozen? ⟨b, 2, none⟩ = false ∧ w.frozen? ⟨b, 3, none⟩ = false ∧ w.frozen? ⟨b, 5, none⟩ = false ∧ w.frozen? ⟨b, 6, none⟩ = false ∧ w.frozen? ⟨b, 7, none⟩ = false ∧ w.frozen? ⟨b, 8, none⟩ = false := ⟨hl.frozen 2, hl.frozen 3, hl.frozen 5, hl.frozen 6, hl.frozen 7, hl.frozen 8⟩
theorem Fm.lt {w : World} {F : Nat → Prop} {b m t a : Nat} {st : Fs} (x : Fm w F b m t a st) : b < w.heap.size := x.fl b x.fb
/-- A framer whose blocks are left as they are. -/
theorem Fm.keep {w w' : World} {F : Nat → Prop} {b m t a : Nat} {st : Fs} (x : Fm w F b m t a st) (hs : w.heap.size ≤ w'.heap.size) (hk : ∀ k, F k → w'.heap[k]? = w.heap[k]?) : Fm w' F b m t a st := by
  obtain ⟨lb, rb, wn, rm, h1, h2, h3⟩ := x.ex
  refine ⟨⟨lb, rb, wn, rm, (hk b x.fb).trans h1, LnC.keep h2 (fun k hf _ => hk k hf), ?_⟩, x.fb, fun k hf => Nat.lt_of_lt_of_le (x.fl k hf) hs, x.t1, x.t2, x.a1, x.a2⟩
  cases st with
  | ln s => trivial
  | dt d => exact ⟨h3.1, h3.2.1.keep (hk rb h3.1), h3.2.2⟩
  | ch n r => exact h3
theorem Fm.below {w w' : World} {F : Nat → Prop} {b m t a : Nat} {st : Fs} (x : Fm w F b m t a st) (hb : Below w.heap.size w w') : Fm w' F b m t a st := x.keep hb.size (fun k hf => hb.block k (x.fl k hf))
theorem Fm.chg {w w' : World} {F G : Nat → Prop} {b m t a : Nat} {st : Fs} (x : Fm w F b m t a st) (hc : Chg G w w') (hn : ∀ k, F k → ¬ G k) : Fm w' F b m t a st := x.keep hc.size (fun k hf => hc.block k (x.fl k hf) (hn k hf))
/-- Items. -/
def fiK : Fi → Int
  | .no => 0
  | .line _ => 1
  | .bad _ => 2
  | .body _ => 3
  | .fin _ _ => 4
def fiT : Fi → List UInt8
  | .line l => l
  | _ => []
def fiB : Fi → List UInt8
  | .body l => l
  | _ => []
def fiY : Fi → Int
  | .bad y => y
  | .fin y _ => y
  | _ => 0
def fiH : Fi → Bool
  | .fin _ h => h
  | _ => false
def fiC (i : Fi) (v : Value) : Array Value := #[.int .i64 (fiK i), .string ⟨(fiT i).toArray⟩, v, .int .i64 (fiY i), .bool (fiH i)]
def fiV (i : Fi) (v : Value) : Value := .agg (fiC i v)
theorem itV_fi (i : It) : itV i = fiV (.ofIt i) (.slice none 0 0) := by cases i <;> rfl
theorem fiB_it (i : It) : fiB (.ofIt i) = [] := by cases i <;> rfl
theorem imV_fi (i : Im) (v : Value) : imV i v = fiV (.ofIm i) v := by cases i <;> rfl
theorem fiB_im (i : Im) : fiB (.ofIm i) = imB i := by cases i <;> rfl
/-- What a Take leaves behind. -/
structure Tkd (w : World) (F : Nat → Prop) (b m t a : Nat) (i : Fi) (s : Fs) (v : Value) (G : Nat → Prop) (w' : World) : Prop where
  ow : w'.ownsRow 0 5 1 v (fiB i).length (cellsB (fiB i))
  nw : ∀ k, v.ownBlock = some k → w.heap.size ≤ k ∧ ¬ G k
  fm : Fm w' G b m t a s
  gr : ∀ k, G k → F k ∨ w.heap.size ≤ k
  ch : Chg F w w'
end Go.Proofs.Ythnjbnhmdjpfpaa
