/-
  The contract of domain.small: for every text it answers the text in small letters, in new memory, and nothing old has turned.
-/
import Derived.Test.YthkoionigdnhgabGreatDoorDmP
import Derived.Test.YthkoionigdnhgabGreatDoorRowl
import Derived.Test.YthkoionigdnhgabGreatDoorRcP
import Derived.Test.YthkoionigdnhgabGreatDoorGa8
import Derived.Laws.Concat
import Derived.Test.YthkoionigdnhgabGreatDoorFh8
import Derived.Deep.DeepCutAuto
import Derived.Test.YthkoionigdnhgabGreatDoorPureUp
namespace Go.Proofs.YthkoionigdnhgabGreatDoor
open Go.RowKit

def smS (s : ByteArray) : ByteArray := ⟨(sml s.data.toList).toArray⟩
theorem smB_no (b : UInt8) (h : ¬ (65 ≤ b.toNat ∧ b.toNat ≤ 90)) : smB b = b := if_neg h
theorem smB_yes (b : UInt8) (h1 : 65 ≤ b.toNat) (h2 : b.toNat ≤ 90) : (smB b).toNat = b.toNat + 32 := by
  unfold smB
  rw [if_pos ⟨h1, h2⟩]
  simp
  omega
/-- The first k bytes in small letters, the others as they are: the byte at j. -/
def smAt (l : List UInt8) (k j : Nat) : UInt8 := if j < k then smB (l.getD j 0) else l.getD j 0
theorem smAt_zero (l : List UInt8) (j : Nat) : smAt l 0 j = l.getD j 0 := by simp [smAt]
theorem smAt_self (l : List UInt8) (k : Nat) : smAt l k k = l.getD k 0 := by simp [smAt]
theorem smAt_step (l : List UInt8) (k : Nat) : smAt l (k + 1) k = smB (l.getD k 0) := by simp [smAt]
theorem smAt_other (l : List UInt8) (k j : Nat) (h : j ≠ k) : smAt l (k + 1) j = smAt l k j := by
  unfold smAt
  by_cases h1 : j < k
  · rw [if_pos h1, if_pos (by omega)]
  · rw [if_neg h1, if_neg (by omega)]
theorem smAt_all (l : List UInt8) (n j : Nat) (hn : n = l.length) (h : j < (sml l).length) : smAt l n j = (sml l)[j] := by
  have h' : j < l.length := by simpa [sml] using h
  subst hn
  simp [smAt, sml, h', List.getD_eq_getElem?_getD]
/-- The bytes in the new row, when k of them are done. -/
structure SmRel (s : ByteArray) (B : Nat) (w : World) (k : Nat) (wr : World) : Prop where
  cell : ∀ j, j < s.size → wr.cell? ⟨B, j, none⟩ = some (.int .u8 ((smAt s.data.toList k j).toNat : Int))
  free : ∀ j, j < s.size → wr.frozen? ⟨B, j, none⟩ = false
  below : Below B w wr

theorem SmRel.same {s : ByteArray} {B : Nat} {w wr : World} {k : Nat} (h : SmRel s B w k wr) (hn : ¬ (65 ≤ (s.data.toList.getD k 0).toNat ∧ (s.data.toList.getD k 0).toNat ≤ 90)) : SmRel s B w (k + 1) wr := by
  refine ⟨fun j hj => ?_, h.free, h.below⟩
  rw [h.cell j hj]
  by_cases e : j = k
  · subst e
    rw [smAt_self, smAt_step, smB_no _ hn]
  · rw [smAt_other _ _ _ e]

theorem SmRel.put {s : ByteArray} {B : Nat} {w wr : World} {k : Nat} (h : SmRel s B w k wr) (hk : k < s.size) (h1 : 65 ≤ (s.data.toList.getD k 0).toNat) (h2 : (s.data.toList.getD k 0).toNat ≤ 90) :
    SmRel s B w (k + 1) (wr.setCell ⟨B, k, none⟩ (.int .u8 (((s.data.toList.getD k 0).toNat : Int) - 65 + 97))) := by
  refine ⟨fun j hj => ?_, fun j hj => ?_, h.below.setCell (Nat.le_refl _) _⟩
  · by_cases e : j = k
    · subst e
      rw [World.cell?_setCell_same _ _ _ (h.cell j hj), smAt_step, smB_yes _ h1 h2]
      congr 2
      omega
    · rw [World.cell?_setCell_other _ _ _ _ (by intro h'; injection h' with _ h'; omega), h.cell j hj, smAt_other _ _ _ e]
  · rw [World.frozen?_setCell]
    exact h.free j hj

theorem SmRel.start (s : ByteArray) (w : World) (cap : Nat) (n : Nat) (hn : n = (bytesRow s cap).size) : SmRel s w.heap.size w 0 (w.alloc (.cells (bytesRow s cap) 5 (n, n + 1))).drew := by
  refine ⟨fun j hj => ?_, fun j hj => ?_, ((Below.refl _ _).alloc (Nat.le_refl _) _).drew⟩
  · have := World.cell?_alloc_mark w (bytesRow s cap) 5 (n, n + 1) j
    rw [bytesRow_at s cap j hj] at this
    rw [smAt_zero]
    refine Eq.trans this ?_
    rw [List.getD_eq_getElem?_getD, Array.getElem?_toList, Array.getElem?_eq_getElem hj, Option.getD_some]
  · have := World.frozen?_alloc_mark w (bytesRow s cap) 5 n (n + 1) j
    refine Eq.trans this ?_
    have h2 := bytes_lt s cap
    have h3 : s.size = s.data.size := rfl
    rw [decide_eq_false (by omega), Bool.false_and]

theorem SmRel.back {s : ByteArray} {B : Nat} {w wr : World} (h : SmRel s B w s.size wr) (cap : Nat) :
    (convert 53 9 (.slice (some ⟨B, 0, none⟩) s.size cap)).run Tryz.prog wr = .ok (.string (smS s)) wr := by
  have hl : (sml s.data.toList).length = s.size := by rw [sml, List.length_map, Array.length_toList]; rfl
  have := run_convert_bytes_back (P := Tryz.prog) wr 53 9 5 ⟨B, 0, none⟩ cap (sml s.data.toList) Tryz.underlying53 Tryz.underlying5 Tryz.underlying9 (fun j hj => by
    have hj' : j < s.size := by omega
    have he : (⟨B, 0, none⟩ : Addr).add j = ⟨B, j, none⟩ := by rw [Addr.add_lit, Nat.zero_add]
    rw [he, h.cell j hj']
    rw [smAt_all s.data.toList s.size j (by rw [Array.length_toList]; rfl) hj])
  rw [hl] at this
  exact this

end Go.Proofs.YthkoionigdnhgabGreatDoor
/-
  The document's Sixth and Tagged.
-/
namespace Go.Proofs.YthkoionigdnhgabGreatDoor
open Go.RowKit

theorem b_eq (c : UInt8) (n : UInt8) (m : Int) (hm : m = (n.toNat : Int)) : ((c.toNat : Int) == m) = decide (c = n) ∧ ((c.toNat : Int) != m) = !decide (c = n) := by
  have : ((c.toNat : Int) == m) = decide (c = n) := by
    subst hm
    rw [Bool.eq_iff_iff, beq_iff_eq, decide_eq_true_eq, Int.natCast_inj, UInt8.toNat_inj]
  refine ⟨this, ?_⟩
  rw [bne, this]
/-- The first k bytes are of a label. -/
def AllF (f : UInt8 → Bool) (t : ByteArray) (a k : Nat) : Prop := ∀ j (h : j < t.size), a ≤ j → j < k → f t[j] = true
theorem AllF.step {f : UInt8 → Bool} {t : ByteArray} {a k : Nat} (h : AllF f t a k) (hk : k < t.size) (hc : f t[k] = true) : AllF f t a (k + 1) := fun j hj h1 h2 => by
  rcases Nat.lt_or_ge j k with h' | h'
  · exact h j hj h1 h'
  · obtain rfl : j = k := by omega
    exact hc
theorem AllF.none (f : UInt8 → Bool) (t : ByteArray) (a : Nat) : AllF f t a a := fun j _ h1 h2 => absurd h1 (by omega)
theorem get_list (t : ByteArray) (k : Nat) (h : k < t.data.toList.length) : t.data.toList[k] = t[k]'(by rw [len_list] at h; exact h) := rfl
theorem AllF.sp {f : UInt8 → Bool} {t : ByteArray} {k : Nat} (h : AllF f t 0 k) (hk : k ≤ t.size) (hs : ∀ h : k < t.size, f t[k] = false) : spB f t.data.toList = k :=
  spB_eq f _ k (by rw [len_list]; exact hk) (fun j hj h' => by rw [get_list]; exact h j _ (Nat.zero_le _) h') (fun hj => by rw [get_list]; exact hs _)
end Go.Proofs.YthkoionigdnhgabGreatDoor
/-
  The document's isAtom, row, plain.
-/
namespace Go.Proofs.YthkoionigdnhgabGreatDoor
open Go.RowKit

/-- How far the search for a row of atoms has come: at the end of an atom, and within one. -/
structure RwE (s : ByteArray) (R a e : Nat) : Prop where
  ge : a ≤ e
  le : e ≤ s.size
  is : R = rowG e e (decide (a < e)) (s.data.toList.drop e)
  no : a < e → ∀ h : e < s.size, atB s[e] = false
structure RwK (s : ByteArray) (R e f k : Nat) : Prop where
  fk : f ≤ k
  le : k ≤ s.size
  is : (k = f ∧ R = rowG e f false (s.data.toList.drop f)) ∨ (f < k ∧ R = rowG k k true (s.data.toList.drop k))
theorem drop_at (s : ByteArray) (k : Nat) (h : k < s.size) : s.data.toList.drop k = s[k] :: s.data.toList.drop (k + 1) := by
  rw [List.drop_eq_getElem_cons (by rw [len_list]; exact h), get_list]
theorem drop_past (s : ByteArray) (k : Nat) (h : s.size ≤ k) : s.data.toList.drop k = [] := List.drop_eq_nil_of_le (by rw [len_list]; exact h)
theorem RwE.start (s : ByteArray) (a : Nat) (ha : a ≤ s.size) : RwE s (a + rowL (s.data.toList.drop a)) a a :=
  ⟨Nat.le_refl _, ha, by
    have := rowG_shift a (s.data.toList.drop a) 0 0 false
    rw [decide_eq_false (Nat.lt_irrefl a)]
    rw [Nat.zero_add] at this
    unfold rowL
    omega, fun h => absurd h (Nat.lt_irrefl a)⟩
theorem RwE.stop {s : ByteArray} {R a e : Nat} (h : RwE s R a e) (hae : a < e) (hc : ∀ h : e < s.size, s[e] ≠ 46) : R = e := by
  have h1 := h.is
  rw [decide_eq_true hae] at h1
  rcases Nat.lt_or_ge e s.size with hl | hl
  · rw [drop_at s e hl, rowG, if_neg (by rw [h.no hae hl]; decide), if_neg (fun x => hc hl x.1)] at h1
    exact h1
  · rw [drop_past s e hl, rowG] at h1
    exact h1
theorem RwE.dot {s : ByteArray} {R a e : Nat} (h : RwE s R a e) (hae : a < e) (hl : e < s.size) (hc : s[e] = 46) : RwK s R e (e + 1) (e + 1) :=
  ⟨Nat.le_refl _, hl, .inl ⟨rfl, by
    have h1 := h.is
    rw [decide_eq_true hae, drop_at s e hl, rowG, if_neg (by rw [h.no hae hl]; decide), if_pos ⟨hc, rfl⟩] at h1
    exact h1⟩⟩
theorem RwE.first {s : ByteArray} {R a : Nat} (h : RwE s R a a) : RwK s R a a a :=
  ⟨Nat.le_refl _, h.le, .inl ⟨rfl, by
    have h1 := h.is
    rw [decide_eq_false (Nat.lt_irrefl a)] at h1
    exact h1⟩⟩
theorem RwK.step {s : ByteArray} {R e f k : Nat} (h : RwK s R e f k) (hl : k < s.size) (hc : atB s[k] = true) : RwK s R e f (k + 1) :=
  ⟨by have := h.fk; omega, hl, .inr ⟨by have := h.fk; omega, by
    rcases h.is with ⟨rfl, h1⟩ | ⟨_, h1⟩
    · rw [drop_at s k hl, rowG, if_pos hc] at h1
      exact h1
    · rw [drop_at s k hl, rowG, if_pos hc] at h1
      exact h1⟩⟩
theorem RwK.none {s : ByteArray} {R e f : Nat} (h : RwK s R e f f) (hc : ∀ h : f < s.size, atB s[f] = false) : R = e := by
  rcases h.is with ⟨_, h1⟩ | ⟨h0, _⟩
  · rcases Nat.lt_or_ge f s.size with hl | hl
    · rw [drop_at s f hl, rowG, if_neg (by rw [hc hl]; decide), if_neg (by simp)] at h1
      exact h1
    · rw [drop_past s f hl, rowG] at h1
      exact h1
  · exact absurd h0 (Nat.lt_irrefl f)
theorem RwK.out {s : ByteArray} {R a e f k : Nat} (h : RwK s R e f k) (ha : a ≤ e) (he : e ≤ f) (hk : f < k) (hc : ∀ h : k < s.size, atB s[k] = false) : RwE s R a k :=
  ⟨by omega, h.le, by
    rw [decide_eq_true (by omega)]
    rcases h.is with ⟨h0, _⟩ | ⟨_, h1⟩
    · omega
    · exact h1, fun _ => hc⟩

end Go.Proofs.YthkoionigdnhgabGreatDoor
/-
  The document's WriteLocal.
-/
namespace Go.Proofs.YthkoionigdnhgabGreatDoor
open Go.RowKit

/-- A text of bytes. -/
def txt (l : List UInt8) : ByteArray := ⟨l.toArray⟩
theorem txt_size (l : List UInt8) : (txt l).size = l.length := List.size_toArray ..
theorem txt_cat (x y : List UInt8) : txt x ++ txt y = txt (x ++ y) := by
  apply ByteArray.ext
  rw [ByteArray.data_append]
  show x.toArray ++ y.toArray = (x ++ y).toArray
  simp
theorem txt_back (s : ByteArray) : txt s.data.toList = s := by
  show (⟨s.data.toList.toArray⟩ : ByteArray) = s
  rw [Array.toArray_toList]
theorem txt_list (l : List UInt8) : (txt l).data.toList = l := by simp [txt]
end Go.Proofs.YthkoionigdnhgabGreatDoor
/-
  The document's quoted.
-/
namespace Go.Proofs.YthkoionigdnhgabGreatDoor
open Go.RowKit

theorem conv_own {w : World} {B : Nat} {v : Value} {l : List UInt8} (h : w.ownsRow B 5 1 v l.length (cellsB l)) : (convert 53 9 v).run Tryz.prog w = .ok (.string (txt l)) w := by
  obtain ⟨a, cap, rfl, hb, _⟩ := own_bts h
  exact bts_back hb cap
end Go.Proofs.YthkoionigdnhgabGreatDoor
