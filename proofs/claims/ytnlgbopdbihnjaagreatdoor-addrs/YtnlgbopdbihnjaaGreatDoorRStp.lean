/-
  The document's Within and PrintV6 in plain words; no Go in sight.
-/
import Derived.Test.YtnlgbopdbihnjaaGreatDoorUtfE
import Derived.Test.YtnlgbopdbihnjaaGreatDoorRc8
import Derived.Test.YtnlgbopdbihnjaaGreatDoorClo
import Derived.Test.YtnlgbopdbihnjaaGreatDoorDmP
import Derived.Test.YtnlgbopdbihnjaaGreatDoorWst
import Derived.Test.YtnlgbopdbihnjaaGreatDoorBase2
import Derived.Test.YtnlgbopdbihnjaaGreatDoorREnc
import Derived.Lib.SlBytesConst
namespace Go.Proofs.YtnlgbopdbihnjaaGreatDoor

/-- A number's digits, as the document writes them. -/
def digF : Nat → Nat → Nat → List UInt8
  | 0, b, n => [hexC (n % b)]
  | f + 1, b, n => if n < b then [hexC (n % b)] else digF f b (n / b) ++ [hexC (n % b)]
theorem digF_hex : ∀ f n, digF f 16 n = hexF f n
  | 0, n => rfl
  | f + 1, n => by
    rw [digF, hexF]
    split
    · rw [Nat.mod_eq_of_lt (by assumption)]
    · rw [digF_hex f]
theorem digF_dec : ∀ n : Fin 256, digF 16 10 n.val = decD n.val := by decide +kernel
theorem hexD_nought (n : Nat) (hn : n < 65536) : hexD n = [48] ↔ n = 0 := by
  constructor
  · intro h
    unfold hexD at h
    rw [hexF] at h
    split at h
    · rename_i h16
      have : ∀ m : Fin 16, [hexC m.val] = [48] → m.val = 0 := by decide +kernel
      exact this ⟨n, h16⟩ h
    · have h1 : ∀ f m, (hexF f m).length ≠ 0 := by
        intro f m
        cases f with
        | zero => simp [hexF]
        | succ f => rw [hexF]; split <;> simp
      have h2 := congrArg List.length h
      rw [List.length_append] at h2
      simp at h2
      exact absurd (by rw [h2]; rfl) (h1 15 (n / 16))
  · rintro rfl
    decide +kernel

/-- The row of noughts that is left out, as the program and as the document seek it. -/
def zrB : Nat → Nat → Nat → Nat → List Bool → Nat × Nat
  | _, _, f, t, [] => (f, t)
  | i, b, f, t, x :: r =>
    if i + 1 - (if x = true then b else i + 1) > t - f then zrB (i + 1) (if x = true then b else i + 1) (if x = true then b else i + 1) (i + 1) r
    else zrB (i + 1) (if x = true then b else i + 1) f t r
theorem zr_zrB : ∀ (L : List (List UInt8)) (i b f t : Nat), zrGo i b f t L = zrB i b f t (L.map fun x => decide (x = [48]))
  | [], _, _, _, _ => rfl
  | x :: r, i, b, f, t => by
    rw [zrGo, List.map_cons, zrB]
    have e : (if x ≠ [48] then i + 1 else b) = (if decide (x = [48]) = true then b else i + 1) := by
      by_cases h : x = [48]
      · rw [if_neg (fun h' => h' h), if_pos (decide_eq_true h)]
      · rw [if_pos h, if_neg (by rw [decide_eq_true_eq]; exact h)]
    rw [e, zr_zrB r, zr_zrB r]
def fndA (P : List Bool) (n : Nat) : Nat → Nat → Option (Nat × Nat)
  | 0, _ => none
  | c + 1, at' => if ((P.drop at').take n).all id = true then some (at', n) else fndA P n c (at' + 1)
def fndN (P : List Bool) : Nat → Nat → Option (Nat × Nat)
  | 0, _ => none
  | c + 1, n => match fndA P n (9 - n) 0 with
    | some r => some r
    | none => fndN P c (n - 1)
/-- The first of the longest rows, two of them at least. -/
def fnd (P : List Bool) : Option (Nat × Nat) := fndN P 7 8
theorem zr_fnd8 : ∀ a b c d e f g h : Bool, fnd [a, b, c, d, e, f, g, h] = (if (zrB 0 0 0 0 [a, b, c, d, e, f, g, h]).2 - (zrB 0 0 0 0 [a, b, c, d, e, f, g, h]).1 < 2 then none else some ((zrB 0 0 0 0 [a, b, c, d, e, f, g, h]).1, (zrB 0 0 0 0 [a, b, c, d, e, f, g, h]).2 - (zrB 0 0 0 0 [a, b, c, d, e, f, g, h]).1)) ∧ (zrB 0 0 0 0 [a, b, c, d, e, f, g, h]).1 ≤ (zrB 0 0 0 0 [a, b, c, d, e, f, g, h]).2 := by decide +kernel
theorem zr_fnd (P : List Bool) (hP : P.length = 8) : fnd P = (if (zrB 0 0 0 0 P).2 - (zrB 0 0 0 0 P).1 < 2 then none else some ((zrB 0 0 0 0 P).1, (zrB 0 0 0 0 P).2 - (zrB 0 0 0 0 P).1)) ∧ (zrB 0 0 0 0 P).1 ≤ (zrB 0 0 0 0 P).2 := by
  match P, hP with
  | [a, b, c, d, e, f, g, h], _ => exact zr_fnd8 a b c d e f g h
/-- The document's PrintV6 of groups. -/
def pr6D (l : List Nat) : List UInt8 := match fnd (l.map fun n => decide (n = 0)) with
  | none => joinL [58] (l.map hexD)
  | some (at', n) => joinL [58] ((l.take at').map hexD) ++ [58, 58] ++ joinL [58] ((l.drop (at' + n)).map hexD)
theorem grpsOf_len : ∀ a : List Nat, (grpsOf a).length = a.length / 2
  | [] => rfl
  | [_] => by simp [grpsOf]
  | a :: b :: r => by rw [grpsOf, List.length_cons, grpsOf_len r]; simp; omega
theorem grpsOf_lt : ∀ a : List Nat, (∀ x ∈ a, x < 256) → ∀ n ∈ grpsOf a, n < 65536
  | [], _, n, h => by cases h
  | [_], _, n, h => by cases h
  | a :: b :: r, ha, n, h => by
    rw [grpsOf, List.mem_cons] at h
    rcases h with rfl | h
    · have := ha a (by simp)
      have := ha b (by simp)
      omega
    · exact grpsOf_lt r (fun x hx => ha x (by simp [hx])) n h
theorem pr6D_is (a : List Nat) (ha : a.length = 16) (la : ∀ x ∈ a, x < 256) : pr6D (grpsOf a) = print6 a := by
  have hl : (grpsOf a).length = 8 := by rw [grpsOf_len, ha]
  have he : (grpsOf a).map (fun n => decide (n = 0)) = ((grpsOf a).map hexD).map fun x => decide (x = [48]) := by
    rw [List.map_map]
    refine List.map_congr_left fun n hn => ?_
    show decide (n = 0) = decide (hexD n = [48])
    rw [Bool.eq_iff_iff, decide_eq_true_eq, decide_eq_true_eq, hexD_nought n (grpsOf_lt a la n hn)]
  have hz : zeros ((grpsOf a).map hexD) = zrB 0 0 0 0 ((grpsOf a).map fun n => decide (n = 0)) := by
    unfold zeros
    rw [zr_zrB, ← he]
  obtain ⟨h1, h2⟩ := zr_fnd ((grpsOf a).map fun n => decide (n = 0)) (by rw [List.length_map, hl])
  unfold pr6D print6
  rw [h1, hz]
  generalize zrB 0 0 0 0 ((grpsOf a).map fun n => decide (n = 0)) = z at h2 ⊢
  obtain ⟨f, t⟩ := z
  dsimp only at h2 ⊢
  by_cases hlt : t - f < 2
  · rw [if_pos hlt, if_pos hlt]
  · rw [if_neg hlt, if_neg hlt]
    dsimp only
    rw [show f + (t - f) = t from by omega, List.map_take, List.map_drop]
end Go.Proofs.YtnlgbopdbihnjaaGreatDoor
/-
  The document's Wide and bit.
-/
namespace Go.Proofs.YtnlgbopdbihnjaaGreatDoor
open Go.RowKit

end Go.Proofs.YtnlgbopdbihnjaaGreatDoor
/-
  The places of the wide runes, put in one by one: no Go in sight.
-/
namespace Go.Proofs.YtnlgbopdbihnjaaGreatDoor

/-- Of two places the one that comes first. -/
def Rw2 (l : List Int) (a b : Nat) : Prop := rn l a < rn l b ∨ (rn l a = rn l b ∧ a < b)
theorem sorted_eq {R : Nat → Nat → Prop} (hirr : ∀ a, ¬ R a a) (hasym : ∀ a b, R a b → R b a → False) : ∀ (a b : List Nat), a.Pairwise R → b.Pairwise R → (∀ x, x ∈ a ↔ x ∈ b) → a = b
  | [], [], _, _, _ => rfl
  | [], y :: b, _, _, h => by have := (h y).2 (by simp); cases this
  | x :: a, [], _, _, h => by have := (h x).1 (by simp); cases this
  | x :: a, y :: b, ha, hb, h => by
    rw [List.pairwise_cons] at ha hb
    have e : x = y := by
      have h1 := (h x).1 (by simp)
      have h2 := (h y).2 (by simp)
      rw [List.mem_cons] at h1 h2
      rcases h1 with h1 | h1
      · exact h1
      · rcases h2 with h2 | h2
        · exact h2.symm
        · exact absurd (hb.1 x h1) (fun h' => hasym _ _ h' (ha.1 y h2))
    subst e
    congr 1
    refine sorted_eq hirr hasym a b ha.2 hb.2 (fun z => ?_)
    have hz := h z
    rw [List.mem_cons, List.mem_cons] at hz
    constructor
    · intro hm
      rcases hz.1 (.inr hm) with e | e
      · subst e; exact absurd (ha.1 z hm) (hirr z)
      · exact e
    · intro hm
      rcases hz.2 (.inr hm) with e | e
      · subst e; exact absurd (hb.1 z hm) (hirr z)
      · exact e
/-- What stands in the list by place k. -/
structure OrdOk (l : List Int) (k : Nat) (S : List Nat) : Prop where
  sorted : S.Pairwise (Rw2 l)
  mem : ∀ x, x ∈ S ↔ x ∈ wideK l k
theorem OrdOk.done {l : List Int} {S : List Nat} (h : OrdOk l l.length S) : S = ordW l := by
  refine sorted_eq (R := Rw2 l) (fun a h => ?_) (fun a b h1 h2 => ?_) S (ordW l) h.sorted (pairwise_ord l) (fun x => ?_)
  · unfold Rw2 at h; omega
  · unfold Rw2 at h1 h2; omega
  · rw [h.mem x]
    unfold ordW
    rw [List.mem_mergeSort]
theorem OrdOk.small {l : List Int} {k : Nat} {S : List Nat} (h : OrdOk l k S) (hr : ¬ 128 ≤ rn l k) : OrdOk l (k + 1) S :=
  ⟨h.sorted, fun x => by rw [wideK_succ, if_neg hr, List.append_nil]; exact h.mem x⟩
theorem OrdOk.lt {l : List Int} {k : Nat} {S : List Nat} (h : OrdOk l k S) {x : Nat} (hx : x ∈ S) : x < k ∧ 128 ≤ rn l x := wideK_lt ((h.mem x).1 hx)
theorem OrdOk.put {l : List Int} {k at' : Nat} {S : List Nat} (h : OrdOk l k S) (hr : 128 ≤ rn l k) (ha : at' ≤ S.length) (hhi : ∀ j (hj : j < S.length), at' ≤ j → rn l k < rn l S[j]) (hlo : at' = 0 ∨ ∃ hj : at' - 1 < S.length, rn l S[at' - 1] ≤ rn l k) :
    OrdOk l (k + 1) (S.take at' ++ [k] ++ S.drop at') := by
  have hlow : ∀ x ∈ S.take at', rn l x ≤ rn l k := by
    intro x hx
    obtain ⟨j, hj, rfl⟩ := List.getElem_of_mem hx
    rw [List.length_take] at hj
    rw [List.getElem_take]
    rcases hlo with h0 | ⟨hj', hle⟩
    · omega
    · rcases Nat.lt_or_ge j (at' - 1) with h1 | h1
      · have := List.pairwise_iff_getElem.1 h.sorted j (at' - 1) (by omega) hj' h1
        unfold Rw2 at this
        omega
      · have e : j = at' - 1 := by omega
        subst e
        exact hle
  have hhigh : ∀ x ∈ S.drop at', rn l k < rn l x := by
    intro x hx
    obtain ⟨j, hj, rfl⟩ := List.getElem_of_mem hx
    rw [List.length_drop] at hj
    rw [List.getElem_drop]
    exact hhi _ _ (by omega)
  have hS := h.sorted
  rw [← List.take_append_drop at' S, List.pairwise_append] at hS
  refine ⟨?_, fun x => ?_⟩
  · rw [List.append_assoc, List.pairwise_append]
    refine ⟨hS.1, ?_, ?_⟩
    · rw [List.singleton_append, List.pairwise_cons]
      exact ⟨fun x hx => .inl (hhigh x hx), hS.2.1⟩
    · intro x hx y hy
      rw [List.singleton_append, List.mem_cons] at hy
      rcases hy with rfl | hy
      · have := hlow x hx
        have := (h.lt (List.mem_of_mem_take hx)).1
        unfold Rw2
        omega
      · exact hS.2.2 x hx y hy
  · rw [wideK_succ, if_pos hr, List.mem_append, List.mem_append, List.mem_append, ← h.mem x]
    conv => rhs; rw [← List.take_append_drop at' S, List.mem_append]
    constructor
    · rintro ((h | h) | h)
      · exact .inl (.inl h)
      · exact .inr h
      · exact .inl (.inr h)
    · rintro ((h | h) | h)
      · exact .inl (.inl h)
      · exact .inr h
      · exact .inl (.inr h)
end Go.Proofs.YtnlgbopdbihnjaaGreatDoor
/-
  Punycode read backwards, as a recursion over the bytes: what both sides reckon.
-/
namespace Go.Proofs.YtnlgbopdbihnjaaGreatDoor

/-- Wide runes are put to their places, one behind the other. -/
def insAll (base : List Int) (ps : List (Int × Nat)) : List Int := ps.foldl (fun L x => L.insertIdx x.2 x.1) base
/-- Each place is within the list as it is by then. -/
def PsOk (h : Nat) : List (Int × Nat) → Prop
  | [] => True
  | x :: t => x.2 ≤ h ∧ 128 ≤ x.1 ∧ x.1 ≤ 1114111 ∧ PsOk (h + 1) t
end Go.Proofs.YtnlgbopdbihnjaaGreatDoor
/-
  The program's reading of a step, and the place of the last mark.
-/
namespace Go.Proofs.YtnlgbopdbihnjaaGreatDoor
open Go.RowKit

end Go.Proofs.YtnlgbopdbihnjaaGreatDoor
/-
  The document's bound, Bias, worth and step.
-/
namespace Go.Proofs.YtnlgbopdbihnjaaGreatDoor
open Go.RowKit

end Go.Proofs.YtnlgbopdbihnjaaGreatDoor
/-
  The document's step.
-/
namespace Go.Proofs.YtnlgbopdbihnjaaGreatDoor
open Go.RowKit

end Go.Proofs.YtnlgbopdbihnjaaGreatDoor
