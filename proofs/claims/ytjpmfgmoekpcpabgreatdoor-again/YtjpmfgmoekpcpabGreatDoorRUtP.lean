/-
  The document's reading of a rune: the rune whose bytes these are.
-/
import Derived.Test.YtjpmfgmoekpcpabGreatDoorUtfE
namespace Go.Proofs.YtjpmfgmoekpcpabGreatDoor

/-- What the first byte of n has at its top. -/
def leadN (n : Nat) : Int := if n = 2 then 192 else if n = 3 then 224 else if n = 4 then 240 else 0
def addX (x : Int) (c : UInt8) : Int := 64 * x + (c.toNat : Int) - 128
/-- The number that bytes make. -/
def mkX : List UInt8 → Int
  | [] => 0
  | c :: t => t.foldl addX ((c.toNat : Int) - leadN (t.length + 1))
/-- Are bytes those of a rune? -/
def okX (b : List UInt8) : Prop := isR (mkX b) ∧ Lib.encodeRune (mkX b) = b
instance (b : List UInt8) : Decidable (okX b) := by unfold okX; infer_instance
theorem mkX_enc (r : Int) (h : isR r) : mkX (Lib.encodeRune r) = r := by
  obtain ⟨h0, h1, h2⟩ := h
  unfold Lib.encodeRune
  by_cases c1 : r ≤ 127
  · rw [Lib.encodeRuneZ_one h0 c1]
    simp only [List.map_cons, List.map_nil, mkX, List.foldl_nil, List.length_nil, leadN, u8_of r h0 (by omega)]
    simp
    omega
  by_cases c2 : r ≤ 2047
  · rw [Lib.encodeRuneZ_two (by omega) c2]
    have a1 := u8_of (192 + r / 64) (by omega) (by omega)
    have a2 := u8_of (128 + r % 64) (by omega) (by omega)
    simp only [List.map_cons, List.map_nil, mkX, List.foldl_cons, List.foldl_nil, List.length_cons, List.length_nil, addX, a1, a2, leadN]
    simp
    omega
  by_cases c3 : r ≤ 65535
  · rw [Lib.encodeRuneZ_three (by omega)]
    have a1 := u8_of (224 + r / 4096) (by omega) (by omega)
    have a2 := u8_of (128 + r / 64 % 64) (by omega) (by omega)
    have a3 := u8_of (128 + r % 64) (by omega) (by omega)
    simp only [List.map_cons, List.map_nil, mkX, List.foldl_cons, List.foldl_nil, List.length_cons, List.length_nil, addX, a1, a2, a3, leadN]
    simp
    omega
  · rw [Lib.encodeRuneZ_four (by omega) (by omega)]
    have a1 := u8_of (240 + r / 262144) (by omega) (by omega)
    have a2 := u8_of (128 + r / 4096 % 64) (by omega) (by omega)
    have a3 := u8_of (128 + r / 64 % 64) (by omega) (by omega)
    have a4 := u8_of (128 + r % 64) (by omega) (by omega)
    simp only [List.map_cons, List.map_nil, mkX, List.foldl_cons, List.foldl_nil, List.length_cons, List.length_nil, addX, a1, a2, a3, a4, leadN]
    simp
    omega
theorem okX_one {l : List UInt8} {n : Nat} (hn : n ≤ l.length) (h : okX (l.take n)) : oneN l = some (mkX (l.take n), n) := by
  obtain ⟨h1, h2⟩ := h
  have := oneN_enc (mkX (l.take n)) h1 (l.drop n)
  rw [h2, List.take_append_drop, List.length_take, Nat.min_eq_left hn] at this
  exact this
theorem one_okX {l : List UInt8} {r : Int} {n : Nat} (h : oneN l = some (r, n)) : n ≤ l.length ∧ 1 ≤ n ∧ n ≤ 4 ∧ okX (l.take n) ∧ mkX (l.take n) = r := by
  obtain ⟨h1, h2, h3⟩ := oneN_is h
  obtain ⟨h4, h5, _⟩ := oneN_run l r n h
  have e : l.take n = Lib.encodeRune r := by
    conv => lhs; rw [h3]
    rw [h2, List.take_left]
  have h6 := (Lib.runeCells_le r).2
  rw [Lib.runeCells_length] at h6
  have h7 := mkX_enc r h1
  refine ⟨h4, h5, by omega, ⟨?_, ?_⟩, by rw [e, h7]⟩
  · rw [e, h7]; exact h1
  · rw [e, h7]
theorem mkX_range (b : List UInt8) (h : b.length ≤ 4) : -100000000 ≤ mkX b ∧ mkX b ≤ 100000000 := by
  match b, h with
  | [], _ => simp [mkX]
  | [a], _ => have := a.toNat_lt; simp [mkX, leadN]; omega
  | [a, b], _ => have := a.toNat_lt; have := b.toNat_lt; simp [mkX, leadN, addX]; omega
  | [a, b, c], _ => have := a.toNat_lt; have := b.toNat_lt; have := c.toNat_lt; simp [mkX, leadN, addX]; omega
  | [a, b, c, d], _ => have := a.toNat_lt; have := b.toNat_lt; have := c.toNat_lt; have := d.toNat_lt; simp [mkX, leadN, addX]; omega
end Go.Proofs.YtjpmfgmoekpcpabGreatDoor
