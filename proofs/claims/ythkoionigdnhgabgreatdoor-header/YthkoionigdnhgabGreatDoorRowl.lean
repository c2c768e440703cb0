/-
  The contract of octet.Upper: for every text it answers the text in capitals, in new memory, and nothing old has turned.
-/
import Derived.Test.YthkoionigdnhgabGreatDoorProg
import Derived.Test.YthkoionigdnhgabGreatDoorPureUp
import Derived.WalkKit
import Derived.WalkSpells
import Derived.Below
import Derived.Laws.IdiomStrings
import Derived.Deep.WholeRow
import Derived.Deep.MidRow
import Derived.Laws.ResultCell
import Derived.Deep.QuietTactic
import Derived.BigQuiet
namespace Go.Proofs.YthkoionigdnhgabGreatDoor
open Go.RowKit

/-- The bytes in the new row, when k of them are done. -/
structure UpRel (s : ByteArray) (B : Nat) (w : World) (k : Nat) (wr : World) : Prop where
  cell : ∀ j, j < s.size → wr.cell? ⟨B, j, none⟩ = some (.int .u8 ((upAt s.data.toList k j).toNat : Int))
  free : ∀ j, j < s.size → wr.frozen? ⟨B, j, none⟩ = false
  below : Below B w wr

theorem UpRel.same {s : ByteArray} {B : Nat} {w wr : World} {k : Nat} (h : UpRel s B w k wr) (hn : ¬ (97 ≤ (s.data.toList.getD k 0).toNat ∧ (s.data.toList.getD k 0).toNat ≤ 122)) : UpRel s B w (k + 1) wr := by
  refine ⟨fun j hj => ?_, h.free, h.below⟩
  rw [h.cell j hj]
  by_cases e : j = k
  · subst e
    rw [upAt_self, upAt_step, upB_no _ hn]
  · rw [upAt_other _ _ _ e]

theorem UpRel.put {s : ByteArray} {B : Nat} {w wr : World} {k : Nat} (h : UpRel s B w k wr) (hk : k < s.size) (h1 : 97 ≤ (s.data.toList.getD k 0).toNat) (h2 : (s.data.toList.getD k 0).toNat ≤ 122) :
    UpRel s B w (k + 1) (wr.setCell ⟨B, k, none⟩ (.int .u8 (((s.data.toList.getD k 0).toNat : Int) - 97 + 65))) := by
  refine ⟨fun j hj => ?_, fun j hj => ?_, h.below.setCell (Nat.le_refl _) _⟩
  · by_cases e : j = k
    · subst e
      rw [World.cell?_setCell_same _ _ _ (h.cell j hj), upAt_step, upB_yes _ h1 h2]
      congr 2
      omega
    · rw [World.cell?_setCell_other _ _ _ _ (by intro h'; injection h' with _ h'; omega), h.cell j hj, upAt_other _ _ _ e]
  · rw [World.frozen?_setCell]
    exact h.free j hj

theorem bytes_lt (s : ByteArray) (cap : Nat) : s.data.size ≤ (bytesRow s cap).size := by
  simp [bytesRow]

theorem UpRel.start (s : ByteArray) (w : World) (cap : Nat) (n : Nat) (hn : n = (bytesRow s cap).size) : UpRel s w.heap.size w 0 (w.alloc (.cells (bytesRow s cap) 5 (n, n + 1))).drew := by
  refine ⟨fun j hj => ?_, fun j hj => ?_, ((Below.refl _ _).alloc (Nat.le_refl _) _).drew⟩
  · have := World.cell?_alloc_mark w (bytesRow s cap) 5 (n, n + 1) j
    rw [bytesRow_at s cap j hj] at this
    rw [upAt_zero]
    refine Eq.trans this ?_
    rw [List.getD_eq_getElem?_getD, Array.getElem?_toList, Array.getElem?_eq_getElem hj, Option.getD_some]
  · have := World.frozen?_alloc_mark w (bytesRow s cap) 5 n (n + 1) j
    refine Eq.trans this ?_
    have h2 := bytes_lt s cap
    have h3 : s.size = s.data.size := rfl
    rw [decide_eq_false (by omega), Bool.false_and]

theorem UpRel.back {s : ByteArray} {B : Nat} {w wr : World} (h : UpRel s B w s.size wr) (cap : Nat) :
    (convert 53 9 (.slice (some ⟨B, 0, none⟩) s.size cap)).run Tryz.prog wr = .ok (.string (upS s)) wr := by
  have hl : (upL s.data.toList).length = s.size := by rw [upL, List.length_map, Array.length_toList]; rfl
  have := run_convert_bytes_back (P := Tryz.prog) wr 53 9 5 ⟨B, 0, none⟩ cap (upL s.data.toList) Tryz.underlying53 Tryz.underlying5 Tryz.underlying9 (fun j hj => by
    have hj' : j < s.size := by omega
    have he : (⟨B, 0, none⟩ : Addr).add j = ⟨B, j, none⟩ := by rw [Addr.add_lit, Nat.zero_add]
    rw [he, h.cell j hj']
    rw [upAt_all s.data.toList s.size j (by rw [Array.length_toList]; rfl) hj])
  rw [hl] at this
  exact this

set_option maxRecDepth 100000 in
set_option maxHeartbeats 400000 in
theorem upper_any (s : ByteArray) (w : World) (hs : s.size ≤ maxLen) :
    Calls Tryz.prog 32 #[.string s] w fun e w' => e = .returned (.string (upS s)) ∧ Below w.heap.size w w' := by
  unfold maxLen at hs
  have hconv := run_bytes_of_string (P := Tryz.prog) w 9 53 5 s Tryz.underlying9 Tryz.underlying53 Tryz.underlying5
  obtain ⟨cap, hcap⟩ : ∃ c, c = grownCap w s.size 0 5 := ⟨_, rfl⟩
  rw [← hcap] at hconv
  obtain ⟨n, hn⟩ : ∃ n, n = (bytesRow s cap).size := ⟨_, rfl⟩
  rw [← hn] at hconv
  have HR : Hid (UpRel s w.heap.size w 0 (w.alloc (.cells (bytesRow s cap) 5 (n, n + 1))).drew) := UpRel.start s w cap n hn
  clear hcap hn
  go_enter Tryz.func32, Tryz.ntmps32
  go_wp2
  go_loopw [10] (fun i wr => ∃ k : Nat, k ≤ s.size ∧ i = .int .i64 k ∧ Hid (UpRel s w.heap.size w k wr)) (fun i _ => s.size - (intOf i).toNat)
  case atStart => exact ⟨0, Nat.zero_le _, rfl, HR⟩
  case round =>
    obtain ⟨k, hk, rfl, HK⟩ := hrel
    by_cases hlt : k < s.size
    · have hc := HK.out.cell k hlt
      have hf := HK.out.free k hlt
      rw [upAt_self] at hc
      obtain ⟨x, hx⟩ : ∃ x : UInt8, x = s.data.toList.getD k 0 := ⟨_, rfl⟩
      rw [← hx] at hc
      have HX : Hid (x = s.data.toList.getD k 0) := hx
      clear hx
      have hx1 : x.toNat < 256 := x.toNat_lt
      by_cases h1 : 97 ≤ x.toNat
      · by_cases h2 : x.toNat ≤ 122
        · have HN : Hid (UpRel s w.heap.size w (k + 1) (wr.setCell ⟨w.heap.size, k, none⟩ (.int .u8 ((x.toNat : Int) - 97 + 65)))) := by
            have := HK.out.put hlt (by rw [← HX.out]; exact h1) (by rw [← HX.out]; exact h2)
            rw [← HX.out] at this
            exact this
          clear HK
          go_wp2
          go_roundw
          case rel => exact ⟨k + 1, by omega, by go_num, HN⟩
          case measure => simp [intOf]; omega
        · have HN : Hid (UpRel s w.heap.size w (k + 1) wr) := HK.out.same (by rw [← HX.out]; omega)
          clear HK
          go_wp2
          go_roundw
          case rel => exact ⟨k + 1, by omega, by go_num, HN⟩
          case measure => simp [intOf]; omega
      · have HN : Hid (UpRel s w.heap.size w (k + 1) wr) := HK.out.same (by rw [← HX.out]; omega)
        clear HK
        go_wp2
        go_roundw
        case rel => exact ⟨k + 1, by omega, by go_num, HN⟩
        case measure => simp [intOf]; omega
    · have he : k = s.size := by omega
      subst he
      have hback := HK.out.back cap
      have HB : Hid (Below w.heap.size w wr) := HK.out.below
      clear HK
      go_wp2
      go_ret
      exact ⟨rfl, HB.out⟩
end Go.Proofs.YthkoionigdnhgabGreatDoor
/-
  The contract of octet.Same.
-/
namespace Go.Proofs.YthkoionigdnhgabGreatDoor
open Go.RowKit

/-- Two texts are the same but for capitals. -/
def sameB (a b : ByteArray) : Bool := (upS a).toList == (upS b).toList

set_option maxHeartbeats 400000 in
theorem same_any (a b : ByteArray) (w : World) (ha : a.size ≤ maxLen) (hb : b.size ≤ maxLen) :
    Calls Tryz.prog 17 #[.string a, .string b] w fun e w' => e = .returned (.bool (sameB a b)) ∧ Below w.heap.size w w' := by
  go_enter Tryz.func17, Tryz.ntmps17
  go_wp2_with fail
  refine (upper_any a _ ha).mono ?_
  rintro e w1 ⟨rfl, hb1⟩
  go_wp2_with fail
  refine (upper_any b _ hb).mono ?_
  rintro e w2 ⟨rfl, hb2⟩
  go_wp2
  go_ret
  exact ⟨rfl, hb1.trans (hb2.mono hb1.size)⟩
end Go.Proofs.YthkoionigdnhgabGreatDoor
/-
  Whole rows of numbers, out of and into blocks.
-/
namespace Go.Proofs.YthkoionigdnhgabGreatDoor
open Go.RowKit

/-- The block g holds the row cs. -/
def Lies (w : World) (g : Nat) (cs : Array Value) (t : TypeId) : Prop := w.heap[g]? = some (.cells cs t (0, 0))

theorem Lies.lt {w : World} {g : Nat} {cs : Array Value} {t : TypeId} (h : Lies w g cs t) : g < w.heap.size := (Array.getElem?_eq_some_iff.1 h).1
theorem Lies.new (w : World) (cs : Array Value) (t : TypeId) : Lies (w.alloc (.cells cs t)) w.heap.size cs t := heap_alloc_last w _
theorem Lies.alloc {w : World} {g : Nat} {cs : Array Value} {t : TypeId} (h : Lies w g cs t) (o : Obj) : Lies (w.alloc o) g cs t :=
  (Below.heap_alloc w o g h.lt).trans h
theorem Lies.below {w w' : World} {g B : Nat} {cs : Array Value} {t : TypeId} (h : Lies w g cs t) (hb : Below B w w') (hg : g < B) : Lies w' g cs t := (hb.block g hg).trans h
theorem Lies.drew {w : World} {g : Nat} {cs : Array Value} {t : TypeId} (h : Lies w g cs t) : Lies w.drew g cs t := h
theorem Lies.drewN {w : World} {g : Nat} {cs : Array Value} {t : TypeId} (h : Lies w g cs t) (n : Nat) : Lies (w.drewN n) g cs t := h
theorem Lies.set {w : World} {g : Nat} {cs : Array Value} {t : TypeId} (h : Lies w g cs t) (k : Nat) (v : Value) : Lies (w.setCell ⟨g, k, none⟩ v) g (cs.setIfInBounds k v) t := by
  have hlt := h.lt
  have hv : w.heap[g] = .cells cs t (0, 0) := (Array.getElem?_eq_some_iff.1 h).2
  unfold Lies World.setCell
  rw [Array.getElem?_eq_getElem (by simpa using hlt), Array.getElem_modify]
  simp [hv]
theorem Lies.set_other {w : World} {g : Nat} {cs : Array Value} {t : TypeId} (h : Lies w g cs t) {a : Addr} (hne : g ≠ a.block) (v : Value) : Lies (w.setCell a v) g cs t :=
  (Below.heap_setCell w a v g hne).trans h
theorem Lies.row {w : World} {g : Nat} {cs : Array Value} {t : TypeId} (h : Lies w g cs t) (ds : Array Value) : Lies (w.setRow g ds) g ds t := setRow_heap w g cs ds t (0, 0) h
theorem Lies.row_other {w : World} {g k : Nat} {cs : Array Value} {t : TypeId} (h : Lies w g cs t) (hne : g ≠ k) (ds : Array Value) : Lies (w.setRow k ds) g cs t :=
  (setRow_other w k g ds hne).trans h
theorem Lies.cell {w : World} {g : Nat} {cs : Array Value} {t : TypeId} (h : Lies w g cs t) (k : Nat) : w.cell? ⟨g, k, none⟩ = cs[k]? := cell_of_row w g k cs t (0, 0) h
theorem Lies.frozen {w : World} {g : Nat} {cs : Array Value} {t : TypeId} (h : Lies w g cs t) (k : Nat) : w.frozen? ⟨g, k, none⟩ = false := frozen_of_row w g k cs t h
theorem below_row {B : Nat} {a w : World} (h : Below B a w) {g : Nat} (hg : B ≤ g) (cs : Array Value) : Below B a (w.setRow g cs) :=
  h.trans ⟨rfl, rfl, rfl, by simp [World.setRow], fun k hk => setRow_other w g k cs (by omega)⟩

theorem wpList_load_row {P : Program} {ops : Array Oper} {rest : List Oper} {op : Oper} {a : Act} {w : World} {Q : Exit → Act → World → Prop} (hgd : op.guard = none) (ty : TypeId) (x : Operand) (ho : op.op = .load ty x)
    (g : Nat) (hx : a.eval x = .pointer (some ⟨g, 0, none⟩)) (cs : Array Value) (t : TypeId) (d : TypeDesc) (hc : Lies w g cs t)
    (hu : P.underlying ty = some d) (hd : (match d with | .struct _ | .array _ _ => true | _ => false) = true) (hi : (P.info? ty).map (·.size) = some cs.size)
    (h : wpList P ops Q rest (a.put op.dst (.agg cs)) w) : wpList P ops Q (op :: rest) a w :=
  wpList_plain hgd fun _ hK => by
    unfold Oper.wp execOp
    simp only [ho, hx, Instr.loadAt, Instr.sureAddr, Sem.run_bind, Sem.run_pure, Result.andThen_ok, run_loadVar_row w g t ty cs (0, 0) d hc hu hd hi]
    exact hK _ _ h

theorem wpList_store_row {P : Program} {ops : Array Oper} {rest : List Oper} {op : Oper} {a : Act} {w : World} {Q : Exit → Act → World → Prop} (hgd : op.guard = none) (ty : TypeId) (x y : Operand) (ho : op.op = .store ty x y)
    (g : Nat) (hx : a.eval x = .pointer (some ⟨g, 0, none⟩)) (old cs : Array Value) (hy : a.eval y = .agg cs) (t : TypeId) (hc : Lies w g old t)
    (hi : (P.info? ty).map (·.size) = some cs.size) (hs : old.size = cs.size) (h1 : cs.all (·.oneCell') = true) (hdst : op.dst = none)
    (h : wpList P ops Q rest a (w.setRow g cs)) : wpList P ops Q (op :: rest) a w :=
  wpList_plain hgd fun _ hK => by
    unfold Oper.wp execOp
    simp only [ho, hx, hy, Instr.storeAt, Instr.sureAddr, Sem.run_bind, Sem.run_pure, Result.andThen_ok, run_storeVar_row w g t ty old cs hc hi hs h1]
    have e : a.put op.dst undef = a := by rw [hdst]; rfl
    exact hK _ _ (by rw [e]; exact h)


/-- The first places of a row are those of another. -/
structure Upto (k : Nat) (c d : Array Value) : Prop where
  size : c.size = d.size
  same : ∀ j, j < k → c[j]? = d[j]?

theorem Upto.next {k : Nat} {c d : Array Value} (h : Upto k c d) {v : Value} (hv : d[k]? = some v) : Upto (k + 1) (c.setIfInBounds k v) d :=
  ⟨by rw [Array.size_setIfInBounds]; exact h.size, fun j hj => by
    have hk : k < c.size := by rw [h.size]; exact (Array.getElem?_eq_some_iff.1 hv).1
    rw [Array.getElem?_setIfInBounds]
    by_cases e : k = j
    · subst e
      rw [if_pos rfl, if_pos hk, hv]
    · rw [if_neg e]
      exact h.same j (by omega)⟩
theorem Upto.all {n : Nat} {c d : Array Value} (h : Upto n c d) (hd : d.size = n) : c = d := by
  apply Array.ext_getElem?
  intro i
  rcases Nat.lt_or_ge i n with hi | hi
  · exact h.same i hi
  · rw [Array.getElem?_eq_none (by rw [h.size, hd]; exact hi), Array.getElem?_eq_none (by rw [hd]; exact hi)]
theorem new_one (w : World) (a : Obj) (cs : Array Value) (t : TypeId) : Lies ((w.alloc a).alloc (.cells cs t)) (w.heap.size + 1) cs t := by
  simpa using Lies.new (w.alloc a) cs t
theorem new_two (w : World) (a b : Obj) (cs : Array Value) (t : TypeId) : Lies (((w.alloc a).alloc b).alloc (.cells cs t)) (w.heap.size + 2) cs t := by
  simpa using Lies.new ((w.alloc a).alloc b) cs t
theorem Lies.range {w : World} {g : Nat} {cs : Array Value} {t : TypeId} (h : Lies w g cs t) : w.rangeAt g 0 cs.toList :=
  fun j v hv => by rw [Nat.zero_add, h.cell j, ← hv, Array.getElem?_toList]
end Go.Proofs.YthkoionigdnhgabGreatDoor
