/-
  The places of the wide runes, put in one by one: no Go in sight.
-/
import Derived.Test.YtedgimkffkflbabGreatDoorPunS
import Derived.Test.YtedgimkffkflbabGreatDoorUtfE
namespace Go.Proofs.YtedgimkffkflbabGreatDoor

/-- Of two places the one that comes first. -/
def Rw2 (l : List Int) (a b : Nat) : Prop := rn l a < rn l b ∨ (rn l a = rn l b ∧ a < b)
theorem sorted_eq {R : Nat → Nat → Prop} (hirr : ∀ a, ¬ R a a) (hasym : ∀ a b, R a b → R b a → False) : ∀ (a b : List Nat), a.Pairwise R → b.Pairwise R → (∀ x, x ∈ a ↔ x ∈ b) → a = b
  | [], [], _, _, _ => rfl
  | [], y :: b, _, _, h => by have := (h y).2 (by simp); cases this
  | x :: a, [], _, _, h => by have := (h x).1 (by simp); cases this
  | x :: a, y :: b, ha, hb, h => by
    rw [List.pairwise_cons] at ha hb
    have e : x = y := by
      have h1 := (h x).1 (by simp)
      have h2 := (h y).2 (by simp)
      rw [List.mem_cons] at h1 h2
      rcases h1 with h1 | h1
      · exact h1
      · rcases h2 with h2 | h2
        · exact h2.symm
        · exact absurd (hb.1 x h1) (fun h' => hasym _ _ h' (ha.1 y h2))
    subst e
    congr 1
    refine sorted_eq hirr hasym a b ha.2 hb.2 (fun z => ?_)
    have hz := h z
    rw [List.mem_cons, List.mem_cons] at hz
    constructor
    · intro hm
      rcases hz.1 (.inr hm) with e | e
      · subst e; exact absurd (ha.1 z hm) (hirr z)
      · exact e
    · intro hm
      rcases hz.2 (.inr hm) with e | e
      · subst e; exact absurd (hb.1 z hm) (hirr z)
      · exact e
/-- What stands in the list by place k. -/
structure OrdOk (l : List Int) (k : Nat) (S : List Nat) : Prop where
  sorted : S.Pairwise (Rw2 l)
  mem : ∀ x, x ∈ S ↔ x ∈ wideK l k
theorem ordOk_start (l : List Int) : OrdOk l 0 [] := ⟨List.Pairwise.nil, fun x => by simp [wideK]⟩
theorem OrdOk.done {l : List Int} {S : List Nat} (h : OrdOk l l.length S) : S = ordW l := by
  refine sorted_eq (R := Rw2 l) (fun a h => ?_) (fun a b h1 h2 => ?_) S (ordW l) h.sorted (pairwise_ord l) (fun x => ?_)
  · unfold Rw2 at h; omega
  · unfold Rw2 at h1 h2; omega
  · rw [h.mem x]
    unfold ordW
    rw [List.mem_mergeSort]
theorem OrdOk.small {l : List Int} {k : Nat} {S : List Nat} (h : OrdOk l k S) (hr : ¬ 128 ≤ rn l k) : OrdOk l (k + 1) S :=
  ⟨h.sorted, fun x => by rw [wideK_succ, if_neg hr, List.append_nil]; exact h.mem x⟩
theorem OrdOk.lt {l : List Int} {k : Nat} {S : List Nat} (h : OrdOk l k S) {x : Nat} (hx : x ∈ S) : x < k ∧ 128 ≤ rn l x := wideK_lt ((h.mem x).1 hx)
theorem OrdOk.put {l : List Int} {k at' : Nat} {S : List Nat} (h : OrdOk l k S) (hr : 128 ≤ rn l k) (ha : at' ≤ S.length) (hhi : ∀ j (hj : j < S.length), at' ≤ j → rn l k < rn l S[j]) (hlo : at' = 0 ∨ ∃ hj : at' - 1 < S.length, rn l S[at' - 1] ≤ rn l k) :
    OrdOk l (k + 1) (S.take at' ++ [k] ++ S.drop at') := by
  have hlow : ∀ x ∈ S.take at', rn l x ≤ rn l k := by
    intro x hx
    obtain ⟨j, hj, rfl⟩ := List.getElem_of_mem hx
    rw [List.length_take] at hj
    rw [List.getElem_take]
    rcases hlo with h0 | ⟨hj', hle⟩
    · omega
    · rcases Nat.lt_or_ge j (at' - 1) with h1 | h1
      · have := List.pairwise_iff_getElem.1 h.sorted j (at' - 1) (by omega) hj' h1
        unfold Rw2 at this
        omega
      · have e : j = at' - 1 := by omega
        subst e
        exact hle
  have hhigh : ∀ x ∈ S.drop at', rn l k < rn l x := by
    intro x hx
    obtain ⟨j, hj, rfl⟩ := List.getElem_of_mem hx
    rw [List.length_drop] at hj
    rw [List.getElem_drop]
    exact hhi _ _ (by omega)
  have hS := h.sorted
  rw [← List.take_append_drop at' S, List.pairwise_append] at hS
  refine ⟨?_, fun x => ?_⟩
  · rw [List.append_assoc, List.pairwise_append]
    refine ⟨hS.1, ?_, ?_⟩
    · rw [List.singleton_append, List.pairwise_cons]
      exact ⟨fun x hx => .inl (hhigh x hx), hS.2.1⟩
    · intro x hx y hy
      rw [List.singleton_append, List.mem_cons] at hy
      rcases hy with rfl | hy
      · have := hlow x hx
        have := (h.lt (List.mem_of_mem_take hx)).1
        unfold Rw2
        omega
      · exact hS.2.2 x hx y hy
  · rw [wideK_succ, if_pos hr, List.mem_append, List.mem_append, List.mem_append, ← h.mem x]
    conv => rhs; rw [← List.take_append_drop at' S, List.mem_append]
    constructor
    · rintro ((h | h) | h)
      · exact .inl (.inl h)
      · exact .inr h
      · exact .inl (.inr h)
    · rintro ((h | h) | h)
      · exact .inl (.inl h)
      · exact .inr h
      · exact .inl (.inr h)
end Go.Proofs.YtedgimkffkflbabGreatDoor
/-
  The document's reading of a rune: the rune whose bytes these are.
-/
namespace Go.Proofs.YtedgimkffkflbabGreatDoor

/-- What the first byte of n has at its top. -/
def leadN (n : Nat) : Int := if n = 2 then 192 else if n = 3 then 224 else if n = 4 then 240 else 0
def addX (x : Int) (c : UInt8) : Int := 64 * x + (c.toNat : Int) - 128
/-- The number that bytes make. -/
def mkX : List UInt8 → Int
  | [] => 0
  | c :: t => t.foldl addX ((c.toNat : Int) - leadN (t.length + 1))
/-- Are bytes those of a rune? -/
def okX (b : List UInt8) : Prop := isR (mkX b) ∧ Lib.encodeRune (mkX b) = b
instance (b : List UInt8) : Decidable (okX b) := by unfold okX; infer_instance
theorem mkX_enc (r : Int) (h : isR r) : mkX (Lib.encodeRune r) = r := by
  obtain ⟨h0, h1, h2⟩ := h
  unfold Lib.encodeRune
  by_cases c1 : r ≤ 127
  · rw [Lib.encodeRuneZ_one h0 c1]
    simp only [List.map_cons, List.map_nil, mkX, List.foldl_nil, List.length_nil, leadN, u8_of r h0 (by omega)]
    simp
    omega
  by_cases c2 : r ≤ 2047
  · rw [Lib.encodeRuneZ_two (by omega) c2]
    have a1 := u8_of (192 + r / 64) (by omega) (by omega)
    have a2 := u8_of (128 + r % 64) (by omega) (by omega)
    simp only [List.map_cons, List.map_nil, mkX, List.foldl_cons, List.foldl_nil, List.length_cons, List.length_nil, addX, a1, a2, leadN]
    simp
    omega
  by_cases c3 : r ≤ 65535
  · rw [Lib.encodeRuneZ_three (by omega)]
    have a1 := u8_of (224 + r / 4096) (by omega) (by omega)
    have a2 := u8_of (128 + r / 64 % 64) (by omega) (by omega)
    have a3 := u8_of (128 + r % 64) (by omega) (by omega)
    simp only [List.map_cons, List.map_nil, mkX, List.foldl_cons, List.foldl_nil, List.length_cons, List.length_nil, addX, a1, a2, a3, leadN]
    simp
    omega
  · rw [Lib.encodeRuneZ_four (by omega) (by omega)]
    have a1 := u8_of (240 + r / 262144) (by omega) (by omega)
    have a2 := u8_of (128 + r / 4096 % 64) (by omega) (by omega)
    have a3 := u8_of (128 + r / 64 % 64) (by omega) (by omega)
    have a4 := u8_of (128 + r % 64) (by omega) (by omega)
    simp only [List.map_cons, List.map_nil, mkX, List.foldl_cons, List.foldl_nil, List.length_cons, List.length_nil, addX, a1, a2, a3, a4, leadN]
    simp
    omega
theorem okX_one {l : List UInt8} {n : Nat} (hn : n ≤ l.length) (h : okX (l.take n)) : oneN l = some (mkX (l.take n), n) := by
  obtain ⟨h1, h2⟩ := h
  have := oneN_enc (mkX (l.take n)) h1 (l.drop n)
  rw [h2, List.take_append_drop, List.length_take, Nat.min_eq_left hn] at this
  exact this
theorem one_okX {l : List UInt8} {r : Int} {n : Nat} (h : oneN l = some (r, n)) : n ≤ l.length ∧ 1 ≤ n ∧ n ≤ 4 ∧ okX (l.take n) ∧ mkX (l.take n) = r := by
  obtain ⟨h1, h2, h3⟩ := oneN_is h
  obtain ⟨h4, h5, _⟩ := oneN_run l r n h
  have e : l.take n = Lib.encodeRune r := by
    conv => lhs; rw [h3]
    rw [h2, List.take_left]
  have h6 := (Lib.runeCells_le r).2
  rw [Lib.runeCells_length] at h6
  have h7 := mkX_enc r h1
  refine ⟨h4, h5, by omega, ⟨?_, ?_⟩, by rw [e, h7]⟩
  · rw [e, h7]; exact h1
  · rw [e, h7]
theorem mkX_range (b : List UInt8) (h : b.length ≤ 4) : -100000000 ≤ mkX b ∧ mkX b ≤ 100000000 := by
  match b, h with
  | [], _ => simp [mkX]
  | [a], _ => have := a.toNat_lt; simp [mkX, leadN]; omega
  | [a, b], _ => have := a.toNat_lt; have := b.toNat_lt; simp [mkX, leadN, addX]; omega
  | [a, b, c], _ => have := a.toNat_lt; have := b.toNat_lt; have := c.toNat_lt; simp [mkX, leadN, addX]; omega
  | [a, b, c, d], _ => have := a.toNat_lt; have := b.toNat_lt; have := c.toNat_lt; have := d.toNat_lt; simp [mkX, leadN, addX]; omega
end Go.Proofs.YtedgimkffkflbabGreatDoor
