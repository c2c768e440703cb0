/-
  The document's reading of a rune: the rune whose bytes these are.
-/
import Derived.Test.YtedgimkffkflbaaDoorUtfE
import Derived.Test.YtedgimkffkflbaaDoorChk2
namespace Go.Proofs.YtedgimkffkflbaaDoor

/-- What the first byte of n has at its top. -/
def leadN (n : Nat) : Int := if n = 2 then 192 else if n = 3 then 224 else if n = 4 then 240 else 0
def addX (x : Int) (c : UInt8) : Int := 64 * x + (c.toNat : Int) - 128
/-- The number that bytes make. -/
def mkX : List UInt8 → Int
  | [] => 0
  | c :: t => t.foldl addX ((c.toNat : Int) - leadN (t.length + 1))
/-- Are bytes those of a rune? -/
def okX (b : List UInt8) : Prop := isR (mkX b) ∧ Lib.encodeRune (mkX b) = b
instance (b : List UInt8) : Decidable (okX b) := by unfold okX; infer_instance
theorem mkX_enc (r : Int) (h : isR r) : mkX (Lib.encodeRune r) = r := by
  obtain ⟨h0, h1, h2⟩ := h
  unfold Lib.encodeRune
  by_cases c1 : r ≤ 127
  · rw [Lib.encodeRuneZ_one h0 c1]
    simp only [List.map_cons, List.map_nil, mkX, List.foldl_nil, List.length_nil, leadN, u8_of r h0 (by omega)]
    simp
    omega
  by_cases c2 : r ≤ 2047
  · rw [Lib.encodeRuneZ_two (by omega) c2]
    have a1 := u8_of (192 + r / 64) (by omega) (by omega)
    have a2 := u8_of (128 + r % 64) (by omega) (by omega)
    simp only [List.map_cons, List.map_nil, mkX, List.foldl_cons, List.foldl_nil, List.length_cons, List.length_nil, addX, a1, a2, leadN]
    simp
    omega
  by_cases c3 : r ≤ 65535
  · rw [Lib.encodeRuneZ_three (by omega)]
    have a1 := u8_of (224 + r / 4096) (by omega) (by omega)
    have a2 := u8_of (128 + r / 64 % 64) (by omega) (by omega)
    have a3 := u8_of (128 + r % 64) (by omega) (by omega)
    simp only [List.map_cons, List.map_nil, mkX, List.foldl_cons, List.foldl_nil, List.length_cons, List.length_nil, addX, a1, a2, a3, leadN]
    simp
    omega
  · rw [Lib.encodeRuneZ_four (by omega) (by omega)]
    have a1 := u8_of (240 + r / 262144) (by omega) (by omega)
    have a2 := u8_of (128 + r / 4096 % 64) (by omega) (by omega)
    have a3 := u8_of (128 + r / 64 % 64) (by omega) (by omega)
    have a4 := u8_of (128 + r % 64) (by omega) (by omega)
    simp only [List.map_cons, List.map_nil, mkX, List.foldl_cons, List.foldl_nil, List.length_cons, List.length_nil, addX, a1, a2, a3, a4, leadN]
    simp
    omega
theorem okX_one {l : List UInt8} {n : Nat} (hn : n ≤ l.length) (h : okX (l.take n)) : oneN l = some (mkX (l.take n), n) := by
  obtain ⟨h1, h2⟩ := h
  have := oneN_enc (mkX (l.take n)) h1 (l.drop n)
  rw [h2, List.take_append_drop, List.length_take, Nat.min_eq_left hn] at this
  exact this
theorem one_okX {l : List UInt8} {r : Int} {n : Nat} (h : oneN l = some (r, n)) : n ≤ l.length ∧ 1 ≤ n ∧ n ≤ 4 ∧ okX (l.take n) ∧ mkX (l.take n) = r := by
  obtain ⟨h1, h2, h3⟩ := oneN_is h
  obtain ⟨h4, h5, _⟩ := oneN_run l r n h
  have e : l.take n = Lib.encodeRune r := by
    conv => lhs; rw [h3]
    rw [h2, List.take_left]
  have h6 := (Lib.runeCells_le r).2
  rw [Lib.runeCells_length] at h6
  have h7 := mkX_enc r h1
  refine ⟨h4, h5, by omega, ⟨?_, ?_⟩, by rw [e, h7]⟩
  · rw [e, h7]; exact h1
  · rw [e, h7]
theorem mkX_range (b : List UInt8) (h : b.length ≤ 4) : -100000000 ≤ mkX b ∧ mkX b ≤ 100000000 := by
  match b, h with
  | [], _ => simp [mkX]
  | [a], _ => have := a.toNat_lt; simp [mkX, leadN]; omega
  | [a, b], _ => have := a.toNat_lt; have := b.toNat_lt; simp [mkX, leadN, addX]; omega
  | [a, b, c], _ => have := a.toNat_lt; have := b.toNat_lt; have := c.toNat_lt; simp [mkX, leadN, addX]; omega
  | [a, b, c, d], _ => have := a.toNat_lt; have := b.toNat_lt; have := c.toNat_lt; have := d.toNat_lt; simp [mkX, leadN, addX]; omega
end Go.Proofs.YtedgimkffkflbaaDoor
/-
  What bytes may still become: the plain mathematics of UTF-8's beginnings, no Go in sight.
-/
namespace Go.Proofs.YtedgimkffkflbaaDoor

/-- All that may be due. -/
def qs8 : List Q := [(0, 0, 0), (1, 128, 191), (2, 160, 191), (2, 128, 191), (2, 128, 159), (3, 144, 191), (3, 128, 191), (3, 128, 143)]
theorem begQ_mem {b : Nat} {q : Q} (h : begQ b = some q) : q ∈ qs8 := by
  unfold begQ at h
  repeat' (split at h)
  all_goals (first | (injection h with h; subst h; decide) | cases h)
theorem stepQ_mem {q q' : Q} {b : Nat} (hq : q ∈ qs8) (h : stepQ q b = some q') : q' ∈ qs8 := by
  have h3 : q.1 ≤ 3 := by
    have : ∀ q ∈ qs8, q.1 ≤ 3 := by decide
    exact this q hq
  unfold stepQ at h
  split at h
  · exact begQ_mem h
  · rename_i h0
    split at h
    · cases h
    · split at h
      · injection h with h; subst h; decide
      · rename_i h1
        injection h with h
        subst h
        have : q.1 = 2 ∨ q.1 = 3 := by omega
        rcases this with e | e
        · rw [e]; decide
        · rw [e]; decide
theorem runQ_mem : ∀ (l : List UInt8) (q q' : Q), q ∈ qs8 → runQ q l = some q' → q' ∈ qs8
  | [], q, q', hq, h => by
    simp only [runQ] at h
    injection h with h
    rw [← h]
    exact hq
  | b :: t, q, q', hq, h => by
    simp only [runQ, Option.bind_eq_some_iff] at h
    obtain ⟨q1, h1, h2⟩ := h
    exact runQ_mem t q1 q' (stepQ_mem hq h1) h2

theorem badUA_whole : ∀ (l : List UInt8) (q : Q) (n w : Nat), l ≠ [] → w ≤ n → (badUA q n w l = n + l.length ↔ ∃ q', runQ q l = some q' ∧ q'.1 = 0)
  | [], _, _, _, h, _ => absurd rfl h
  | b :: t, q, n, w, _, hw => by
    simp only [badUA, runQ]
    cases hs : stepQ q b.toNat with
    | none =>
      simp only [Option.bind_none, List.length_cons]
      constructor
      · intro h; omega
      · intro ⟨q', h, _⟩; cases h
    | some q1 =>
      simp only [Option.bind_some, List.length_cons]
      cases t with
      | nil =>
        simp only [badUA, runQ, List.length_nil]
        constructor
        · intro h
          refine ⟨q1, rfl, ?_⟩
          by_cases h0 : q1.1 = 0
          · exact h0
          · rw [if_neg h0] at h; omega
        · intro ⟨q', h, h0⟩
          injection h with h
          subst h
          rw [if_pos h0]
      | cons c t =>
        have := badUA_whole (c :: t) q1 (n + 1) (if q1.1 = 0 then n + 1 else w) (by simp) (by split <;> omega)
        rw [← this]
        constructor <;> intro h <;> omega
/-- Bytes are well-formed where the machine ends whole. -/
theorem badU_whole (l : List UInt8) : badU l = l.length ↔ ∃ q', runQ q0 l = some q' ∧ q'.1 = 0 := by
  cases l with
  | nil => exact ⟨fun _ => ⟨q0, rfl, rfl⟩, fun _ => rfl⟩
  | cons b t =>
    have := badUA_whole (b :: t) q0 0 0 (by simp) (Nat.le_refl _)
    rw [Nat.zero_add] at this
    exact this
theorem whole_bad (l : List UInt8) : wholeM (runM (some q0) l) = decide (badU l = l.length) := by
  have := badU_whole l
  show wholeM (runQ q0 l) = _
  cases h : runQ q0 l with
  | none =>
    rw [h] at this
    have hn : ¬ badU l = l.length := fun e => by obtain ⟨q', h1, _⟩ := this.1 e; cases h1
    rw [decide_eq_false hn]
    rfl
  | some q =>
    rw [h] at this
    by_cases h0 : q.1 = 0
    · rw [decide_eq_true (this.2 ⟨q, rfl, h0⟩)]
      simp [wholeM, h0]
    · have hn : ¬ badU l = l.length := fun e => by
        obtain ⟨q', h1, h2⟩ := this.1 e
        injection h1 with h1
        subst h1
        exact h0 h2
      rw [decide_eq_false hn]
      simp [wholeM, h0]

/-- The rows of k bytes out of four. -/
def waysK : Nat → List (List UInt8)
  | 0 => [[]]
  | k + 1 => (waysK k).flatMap fun w => [w ++ [128], w ++ [144], w ++ [160], w ++ [191]]
def wh (b m : List UInt8) : Bool := decide (badU (b ++ m) = (b ++ m).length)
theorem wh_run (b m : List UInt8) : wh b m = wholeM (runM (runM (some q0) b) m) := by
  unfold wh
  rw [← whole_bad, runM_append]
def allW : List (List UInt8) := waysK 0 ++ waysK 1 ++ waysK 2 ++ waysK 3
theorem qs8_all : ∀ q ∈ qs8, (allW.any fun m => wholeM (runM (some q) m)) = true := by decide +kernel
/-- Some of these ends fits just where bytes are a beginning. -/
theorem ways_ok (b : List UInt8) : (allW.any fun m => wh b m) = okM (runM (some q0) b) := by
  simp only [wh_run]
  cases h : runM (some q0) b with
  | none =>
    simp only [runM_none]
    rw [List.any_eq_false.2 (fun x _ => by simp [wholeM])]
    rfl
  | some q =>
    have hm : q ∈ qs8 := runQ_mem b q0 q (by decide) h
    rw [qs8_all q hm]
    rfl
end Go.Proofs.YtedgimkffkflbaaDoor
