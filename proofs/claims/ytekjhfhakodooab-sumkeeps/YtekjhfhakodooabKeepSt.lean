/-
  What the statement on what is kept holds in its hands, from call to call.
-/
import Derived.Test.YtekjhfhakodooabRoomy
import Derived.Test.YtekjhfhakodooabStream
import Derived.Laws.CopyOwn
namespace Go.Proofs.Ytekjhfhakodooab
open Go.RowKit

/-- A row of bytes of the call's own, in block g. -/
def OwnB (w : World) (B g n cp : Nat) (l : List UInt8) : Prop := w.ownsRow B 5 1 (.slice (some ⟨g, 0, none⟩) n cp) n (cellsB l)

theorem OwnB.of {w w' : World} {B g n cp : Nat} {l : List UInt8} (h : OwnB w B g n cp l) (hb : w'.heap[g]? = w.heap[g]?) : OwnB w' B g n cp l := by
  obtain ⟨h1, h2⟩ := h
  refine ⟨h1, ?_⟩
  rcases h2 with ⟨h', _⟩ | ⟨g', cap, cur, h', hB, hg, hr⟩
  · cases h'
  · have e : g' = g := by injection h' with e1; injection e1 with e2; injection e2 with e3; exact e3.symm
    subst e
    exact .inr ⟨g', cap, cur, h', hB, by rw [hb]; exact hg, hr⟩
theorem OwnB.ge {w : World} {B g n cp : Nat} {l : List UInt8} (h : OwnB w B g n cp l) : B ≤ g := (World.ownsRow.lt h g rfl).1
theorem OwnB.lt {w : World} {B g n cp : Nat} {l : List UInt8} (h : OwnB w B g n cp l) : g < w.heap.size := (World.ownsRow.lt h g rfl).2
theorem OwnB.len {w : World} {B g n cp : Nat} {l : List UInt8} (h : OwnB w B g n cp l) : l.length = n := by
  have := h.1
  rw [cellsB_length] at this
  omega
theorem OwnB.bts {w : World} {B g n cp : Nat} {l : List UInt8} (h : OwnB w B g n cp l) : Bts (some ⟨g, 0, none⟩) l w := by
  have h' : w.ownsRow B 5 1 (.slice (some ⟨g, 0, none⟩) n cp) l.length (cellsB l) := by rw [h.len]; exact h
  obtain ⟨a, c, e, hb⟩ := own_bts h'
  injection e with e1 e2 e3
  rw [e1]
  exact hb
theorem OwnB.below {w w' : World} {B g n cp : Nat} {l : List UInt8} (h : OwnB w B g n cp l) (hb : Below w.heap.size w w') : OwnB w' B g n cp l := h.of (hb.block g h.lt)
theorem OwnB.but {w w' : World} {B g n cp k : Nat} {l : List UInt8} (h : OwnB w B g n cp l) (hb : But k w w') (hne : g ≠ k) : OwnB w' B g n cp l := h.of (hb.block g h.lt hne)
theorem OwnB.cells {w : World} {B g n cp : Nat} {l : List UInt8} (h : OwnB w B g n cp l) : ∃ cur : Array Value, Lies w g cur 5 ∧ cur.size = cp ∧ n ≤ cp ∧ cur.toList.take n = cellsB l := by
  obtain ⟨h1, h2⟩ := h
  rcases h2 with ⟨h', _⟩ | ⟨g', cap, cur, h', hB, hg, hn, hm, hs, ht⟩
  · cases h'
  · injection h' with e1 _ e3
    injection e1 with e2
    injection e2 with e4
    subst e3 e4
    exact ⟨cur, hg, by omega, hn, by simpa using ht⟩
/-- Bytes written over the first ones. -/
theorem OwnB.copied {w : World} {B g n cp : Nat} {l : List UInt8} (h : OwnB w B g n cp l) (cur : Array Value) (hc : Lies w g cur 5) (cs : List UInt8) (hk : cs.length ≤ n) :
    OwnB (w.setRow g (cur.toList.take 0 ++ (cellsB cs ++ cur.toList.drop (0 + (cellsB cs).length))).toArray) B g n cp (cs ++ l.drop cs.length) := by
  have hl := h.len
  obtain ⟨h1, h2⟩ := h
  rcases h2 with ⟨h', _⟩ | ⟨g', cap, cur', h', hB, hg, hn, hm, hs, ht⟩
  · cases h'
  · injection h' with e1 _ e3
    injection e1 with e2
    injection e2 with e4
    subst e3 e4
    have hcur : cur' = cur := by
      have := hg.symm.trans hc
      injection this with e; injection e
    subst hcur
    have hsz : cur'.size = cp := by omega
    refine ⟨by rw [cellsB_length]; simp; omega, .inr ⟨g, cp, _, rfl, hB, hc.row _, hn, hm, ?_, ?_⟩⟩
    · simp [cellsB]
      omega
    · rw [List.take_zero, List.nil_append, Nat.zero_add, cellsB_length, Nat.mul_one, cellsB_append]
      have e5 : cellsB (l.drop cs.length) = (cur'.toList.drop cs.length).take (n - cs.length) := by
        have : cellsB (l.drop cs.length) = (cellsB l).drop cs.length := by simp [cellsB, List.map_drop]
        rw [this, ← ht, Nat.mul_one, List.drop_take]
      rw [e5, List.toList_toArray, List.take_append, cellsB_length, List.take_of_length_le (by rw [cellsB_length]; exact hk)]
/-- One byte written. -/
theorem OwnB.stored {w : World} {B g n cp : Nat} {l : List UInt8} (h : OwnB w B g n cp l) (j : Nat) (x : UInt8) :
    OwnB (w.setCell ⟨g, j, none⟩ (.int .u8 (x.toNat : Int))) B g n cp (l.set j x) := by
  have := (World.ownsRow.stored h j (.int .u8 (x.toNat : Int))).1
  have e : (cellsB l).set j (.int .u8 (x.toNat : Int)) = cellsB (l.set j x) := by simp [cellsB, List.map_set]
  rw [e] at this
  exact this
theorem own_new {w : World} {B n : Nat} {v : Value} {l : List UInt8} (h : w.ownsRow B 5 1 v n (cellsB l)) (hn : 0 < n) : ∃ g cp, v = .slice (some ⟨g, 0, none⟩) n cp ∧ n ≤ cp ∧ OwnB w B g n cp l := by
  rcases id h.2 with ⟨rfl, h0⟩ | ⟨g, cp, cur, rfl, _, _, hcp, _⟩
  · omega
  · exact ⟨g, cp, rfl, hcp, h⟩
/-- A row of the call's own, whether it is there or not. -/
theorem own_slice {w : World} {B n : Nat} {v : Value} {l : List UInt8} (h : w.ownsRow B 5 1 v n (cellsB l)) :
    ∃ a c, v = .slice a n c ∧ (a = none → c = 0) ∧ Bts a l w ∧ ∀ ad, a = some ad → B ≤ ad.block ∧ ad.block < w.heap.size := by
  have hl : l.length = n := by have := h.1; rw [cellsB_length] at this; omega
  have h' : w.ownsRow B 5 1 v l.length (cellsB l) := by rw [hl]; exact h
  obtain ⟨a, c, e, hb⟩ := own_bts h'
  subst e
  refine ⟨a, c, by rw [hl], ?_, hb, fun ad e => ?_⟩
  · rcases id h.2 with ⟨e, _⟩ | ⟨g, cp, cur, e, _⟩
    · injection e with _ _ e3
      exact fun _ => e3
    · injection e with e1
      intro e2
      rw [e1] at e2
      cases e2
  · subst e
    exact World.ownsRow.lt h ad.block rfl
theorem room_pre (l : List UInt8) : (room l).take l.length = l := by simp [room]
theorem bts_pre {w : World} {B g n cp : Nat} {l : List UInt8} (h : OwnB w B g n cp (room l)) : Bts (some ⟨g, 0, none⟩) l w := by
  have := h.bts.take l.length
  rw [room_pre] at this
  exact this
theorem of_len (a : Option Addr) (l : List UInt8) (n cap : Nat) (w : World) (h : Bts a l w) (hn : l.length = n) (hl : n ≤ maxLen) :
    Calls Try.prog 8 #[.slice a n cap] w fun e w' => e = .returned (.int .u32 (more 0#32 l).toNat) ∧ w' = w := by subst hn; exact of_any a l cap w h hl
theorem rof_len (a : Option Addr) (l : List UInt8) (n cap : Nat) (w : World) (h : Bts a l w) (hn : l.length = n) (hl : n ≤ maxLen) :
    Calls Try.prog 11 #[.slice a n cap] w fun e w' => e = .returned (.int .u32 (more 0#32 l).toNat) ∧ w' = w := by subst hn; exact rof_any a l cap w h hl
theorem more_len (s : BitVec 32) (a : Option Addr) (l : List UInt8) (n cap : Nat) (w : World) (h : Bts a l w) (hn : l.length = n) (hl : n ≤ maxLen) :
    Calls Try.prog 12 #[.int .u32 s.toNat, .slice a n cap] w fun e w' => e = .returned (.int .u32 (more s l).toNat) ∧ w' = w := by subst hn; exact more_any s a l cap w h hl
theorem rmore_len (s : BitVec 32) (a : Option Addr) (l : List UInt8) (n cap : Nat) (w : World) (h : Bts a l w) (hn : l.length = n) (hl : n ≤ maxLen) :
    Calls Try.prog 13 #[.int .u32 s.toNat, .slice a n cap] w fun e w' => e = .returned (.int .u32 (more s l).toNat) ∧ w' = w := by subst hn; exact rmore_any s a l cap w h hl
theorem roomy_len (a : Option Addr) (l : List UInt8) (n cap : Nat) (w : World) (h : Bts a l w) (hn : l.length = n) (hl : n ≤ 140737488351232) (hz : a = none → cap = 0) :
    Calls Try.prog 9 #[.slice a n cap] w fun e w' => ∃ g cp, e = .returned (.slice (some ⟨g, 0, none⟩) (n + 80) cp) ∧ n + 80 ≤ cp ∧ OwnB w' w.heap.size g (n + 80) cp (room l) ∧ Below w.heap.size w w' := by
  subst hn
  refine (roomy_any a l cap w h hl hz).mono ?_
  rintro e w' ⟨v, rfl, ho, hb⟩
  rw [room_length] at ho
  obtain ⟨g, cp, rfl, hcp, ho⟩ := own_new ho (by omega)
  exact ⟨g, cp, rfl, hcp, ho, hb⟩
theorem equal_len (a b : Option Addr) (l : List UInt8) (n ca cb : Nat) (w : World) (ha : Bts a l w) (hb : Bts b l w) (hn : l.length = n) (hl : n ≤ maxLen) :
    Calls Try.prog 15 #[.slice a n ca, .slice b n cb] w fun e w' => e = .returned (.bool true) ∧ Below w.heap.size w w' := by subst hn; exact equal_any a b l ca cb w ha hb hl
theorem write_len (g : Nat) (x : BitVec 32) (m : Int) (a : Option Addr) (l : List UInt8) (n cap : Nat) (w : World) (h : Lies w g (strm true x m) 42) (hb : Bts a l w) (hn : l.length = n) (hl : n ≤ maxLen)
    (h0 : 0 ≤ m) (hm : m + n < 9223372036854775808) :
    Calls Try.prog 14 #[.pointer (some ⟨g, 0, none⟩), .slice a n cap] w fun e w' => e = .returned (.int .i64 0) ∧ Lies w' g (strm true (more x l) (m + n)) 42 ∧ But g w w' := by subst hn; exact write_any g x m a l cap w h hb hl h0 hm
end Go.Proofs.Ytekjhfhakodooab
