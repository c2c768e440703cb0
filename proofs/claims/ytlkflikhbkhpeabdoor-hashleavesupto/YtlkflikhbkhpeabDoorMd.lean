/-
  The digest's own arithmetic, without the model: words of 32 bits, rows of 64 bytes, the register.
-/
import Derived.Laws.BitsAllLaws
import Derived.KernelRfl
namespace Go.Proofs.YtlkflikhbkhpeabDoor

/-- The register's four words. -/
structure Rg where
  a : BitVec 32
  b : BitVec 32
  c : BitVec 32
  d : BitVec 32

def kL : List Nat := [
  0xd76aa478, 0xe8c7b756, 0x242070db, 0xc1bdceee, 0xf57c0faf, 0x4787c62a, 0xa8304613, 0xfd469501,
  0x698098d8, 0x8b44f7af, 0xffff5bb1, 0x895cd7be, 0x6b901122, 0xfd987193, 0xa679438e, 0x49b40821,
  0xf61e2562, 0xc040b340, 0x265e5a51, 0xe9b6c7aa, 0xd62f105d, 0x02441453, 0xd8a1e681, 0xe7d3fbc8,
  0x21e1cde6, 0xc33707d6, 0xf4d50d87, 0x455a14ed, 0xa9e3e905, 0xfcefa3f8, 0x676f02d9, 0x8d2a4c8a,
  0xfffa3942, 0x8771f681, 0x6d9d6122, 0xfde5380c, 0xa4beea44, 0x4bdecfa9, 0xf6bb4b60, 0xbebfbc70,
  0x289b7ec6, 0xeaa127fa, 0xd4ef3085, 0x04881d05, 0xd9d4d039, 0xe6db99e5, 0x1fa27cf8, 0xc4ac5665,
  0xf4292244, 0x432aff97, 0xab9423a7, 0xfc93a039, 0x655b59c3, 0x8f0ccc92, 0xffeff47d, 0x85845dd1,
  0x6fa87e4f, 0xfe2ce6e0, 0xa3014314, 0x4e0811a1, 0xf7537e82, 0xbd3af235, 0x2ad7d2bb, 0xeb86d391]
def sL : List Nat := [7, 12, 17, 22, 5, 9, 14, 20, 4, 11, 16, 23, 6, 10, 15, 21]
/-- The table's word of step i. -/
def kk (i : Nat) : BitVec 32 := BitVec.ofNat 32 (kL.getD i 0)
/-- By how much step i turns. -/
def ss (i : Nat) : Nat := sL.getD (i / 16 * 4 + i % 4) 0
/-- What step i takes of b, c, d. -/
def ff (i : Nat) (b c d : BitVec 32) : BitVec 32 :=
  if i < 16 then (b &&& c) ||| (~~~ b &&& d) else if i < 32 then (d &&& b) ||| (~~~ d &&& c) else if i < 48 then b ^^^ c ^^^ d else c ^^^ (b ||| ~~~ d)
/-- Which word step i takes of the row. -/
def gg (i : Nat) : Nat := if i < 16 then i else if i < 32 then (5 * i + 1) % 16 else if i < 48 then (3 * i + 5) % 16 else 7 * i % 16
def stp (m : Nat → BitVec 32) (i : Nat) (r : Rg) : Rg := ⟨r.d, r.b + (r.a + (ff i r.b r.c r.d + kk i + m (gg i))).rotateLeft (ss i), r.b, r.c⟩
def stps (m : Nat → BitVec 32) : Nat → Rg → Rg
  | 0, r => r
  | n + 1, r => stp m n (stps m n r)
def addR (r x : Rg) : Rg := ⟨r.a + x.a, r.b + x.b, r.c + x.c, r.d + x.d⟩
/-- The register behind a row. -/
def blk (r : Rg) (m : Nat → BitVec 32) : Rg := addR r (stps m 64 r)

/-- The word that begins at a place. -/
def wdN (l : List UInt8) (p : Nat) : Nat := (l.getD p 0).toNat + 256 * ((l.getD (p + 1) 0).toNat + 256 * ((l.getD (p + 2) 0).toNat + 256 * (l.getD (p + 3) 0).toNat))
def wd (l : List UInt8) (p : Nat) : BitVec 32 := BitVec.ofNat 32 (wdN l p)
theorem wdN_lt (l : List UInt8) (p : Nat) : wdN l p < 4294967296 := by
  unfold wdN
  have h0 := (l.getD p 0).toNat_lt
  have h1 := (l.getD (p + 1) 0).toNat_lt
  have h2 := (l.getD (p + 2) 0).toNat_lt
  have h3 := (l.getD (p + 3) 0).toNat_lt
  omega
theorem wd_toNat (l : List UInt8) (p : Nat) : (wd l p).toNat = wdN l p := by
  rw [wd, BitVec.toNat_ofNat]
  exact Nat.mod_eq_of_lt (wdN_lt l p)

def rg0 : Rg := ⟨0x67452301#32, 0xefcdab89#32, 0x98badcfe#32, 0x10325476#32⟩
/-- The register behind the first n rows of l. -/
def eat (l : List UInt8) : Nat → Rg
  | 0 => rg0
  | n + 1 => blk (eat l n) (fun j => wd l (64 * n + 4 * j))

/-! A step takes words of its row alone. -/
theorem gg_lt (i : Nat) : gg i < 16 := by
  unfold gg
  repeat' split
  all_goals omega
theorem stps_congr {m m' : Nat → BitVec 32} (h : ∀ j, j < 16 → m j = m' j) : ∀ n, n ≤ 64 → ∀ r, stps m n r = stps m' n r
  | 0, _, _ => rfl
  | n + 1, hn, r => by
    show stp m n (stps m n r) = stp m' n (stps m' n r)
    rw [stps_congr h n (by omega) r]
    unfold stp
    rw [h _ (gg_lt n)]
theorem blk_congr {m m' : Nat → BitVec 32} (h : ∀ j, j < 16 → m j = m' j) (r : Rg) : blk r m = blk r m' := by
  unfold blk
  rw [stps_congr h 64 (Nat.le_refl _)]
theorem getD_append {l m : List UInt8} {p : Nat} (h : p < l.length) : (l ++ m).getD p 0 = l.getD p 0 := by
  simp [List.getD_eq_getElem?_getD, List.getElem?_append_left h]
theorem getD_drop (l : List UInt8) (o p : Nat) : (l.drop o).getD p 0 = l.getD (o + p) 0 := by
  simp [List.getD_eq_getElem?_getD, List.getElem?_drop]
theorem wd_append {l m : List UInt8} {p : Nat} (h : p + 4 ≤ l.length) : wd (l ++ m) p = wd l p := by
  unfold wd wdN
  rw [getD_append (by omega), getD_append (by omega), getD_append (by omega), getD_append (by omega)]
theorem wd_drop (l : List UInt8) (o p : Nat) : wd (l.drop o) p = wd l (o + p) := by
  unfold wd wdN
  rw [getD_drop, getD_drop, getD_drop, getD_drop]
  rfl
theorem getD_take (l : List UInt8) (n p : Nat) (h : p < n) : (l.take n).getD p 0 = l.getD p 0 := by
  simp [List.getD_eq_getElem?_getD, h]
theorem wd_take (l : List UInt8) (n p : Nat) (h : p + 4 ≤ n) : wd (l.take n) p = wd l p := by
  unfold wd wdN
  rw [getD_take _ _ _ (by omega), getD_take _ _ _ (by omega), getD_take _ _ _ (by omega), getD_take _ _ _ (by omega)]
theorem eat_append (l m : List UInt8) : ∀ n, 64 * n ≤ l.length → eat (l ++ m) n = eat l n
  | 0, _ => rfl
  | n + 1, h => by
    show blk (eat (l ++ m) n) _ = blk (eat l n) _
    rw [eat_append l m n (by omega)]
    exact blk_congr (fun j hj => wd_append (by omega)) _
/-- One row more. -/
theorem eat_next (l row : List UInt8) (n : Nat) (hr : row = (l.drop (64 * n)).take 64) : eat l (n + 1) = blk (eat l n) (fun j => wd row (4 * j)) := by
  subst hr
  refine blk_congr (fun j hj => ?_) _
  show wd l (64 * n + 4 * j) = _
  rw [wd_take _ _ _ (by omega), wd_drop]

/-! The digest. -/
/-- Byte i of a word, the lowest first. -/
def byt (x : BitVec 32) (i : Nat) : UInt8 := UInt8.ofNat (x.toNat / 256 ^ i)
def Rg.at (r : Rg) : Nat → BitVec 32
  | 0 => r.a
  | 1 => r.b
  | 2 => r.c
  | _ => r.d
/-- The register as bytes. -/
def dig (r : Rg) : List UInt8 := (List.range 16).map fun i => byt (r.at (i / 4)) (i % 4)
theorem dig_length (r : Rg) : (dig r).length = 16 := by simp [dig]
theorem dig_at (r : Rg) (i : Nat) (h' : i < (dig r).length) : (dig r)[i] = byt (r.at (i / 4)) (i % 4) := by simp [dig]

/-- How many noughts stand behind n bytes. -/
def nou (n : Nat) : Nat := (119 - n % 64) % 64
/-- Eight bytes that say how many bits n bytes have. -/
def lenB (n : Nat) : List UInt8 := (List.range 8).map fun i => UInt8.ofNat (n * 8 / 256 ^ i)
/-- What stands behind n bytes. -/
def tailB (n : Nat) : List UInt8 := 128 :: List.replicate (nou n) 0 ++ lenB n
def pad (l : List UInt8) : List UInt8 := l ++ tailB l.length
theorem lenB_length (n : Nat) : (lenB n).length = 8 := by simp [lenB]
theorem tailB_length (n : Nat) : (tailB n).length = nou n + 9 := by simp [tailB, lenB_length]
theorem pad_length (l : List UInt8) : (pad l).length = l.length + nou l.length + 9 := by simp [pad, tailB_length]; omega
theorem pad_rows (l : List UInt8) : (pad l).length % 64 = 0 := by
  rw [pad_length]
  unfold nou
  omega
/-- The digest of bytes. -/
def md5 (l : List UInt8) : List UInt8 := dig (eat (pad l) ((pad l).length / 64))
theorem md5_length (l : List UInt8) : (md5 l).length = 16 := dig_length _

/-! The keyed digest. -/
def keyB (key : List UInt8) : List UInt8 := if key.length ≤ 64 then key else md5 key
def keyRow (key : List UInt8) : List UInt8 := keyB key ++ List.replicate (64 - (keyB key).length) 0
theorem keyB_length (key : List UInt8) : (keyB key).length ≤ 64 := by
  unfold keyB
  split
  · assumption
  · rw [md5_length]; omega
theorem keyRow_length (key : List UInt8) : (keyRow key).length = 64 := by
  have := keyB_length key
  simp [keyRow]
  omega
/-- A row with each byte xor x. -/
def laid (x : UInt8) (l : List UInt8) : List UInt8 := l.map (· ^^^ x)
theorem laid_length (x : UInt8) (l : List UInt8) : (laid x l).length = l.length := by simp [laid]
def mac (key l : List UInt8) : List UInt8 := md5 (laid 0x5c (keyRow key) ++ md5 (laid 0x36 (keyRow key) ++ l))
theorem mac_length (key l : List UInt8) : (mac key l).length = 16 := md5_length _

theorem keyRow_short (key : List UInt8) (h : key.length < 64) : keyRow (key ++ [0]) = keyRow key := by
  have h1 : keyB key = key := by unfold keyB; rw [if_pos (by omega)]
  have h2 : keyB (key ++ [0]) = key ++ [0] := by unfold keyB; rw [if_pos (by simp; omega)]
  unfold keyRow
  rw [h1, h2, List.append_assoc]
  congr 1
  rw [List.length_append, List.length_singleton, show 64 - key.length = (64 - (key.length + 1)) + 1 by omega, List.replicate_succ]
  rfl
theorem keyRow_long (key : List UInt8) (h : 64 < key.length) : keyRow (md5 key) = keyRow key := by
  have h1 : keyB key = md5 key := by unfold keyB; rw [if_neg (by omega)]
  have h2 : keyB (md5 key) = md5 key := by unfold keyB; rw [if_pos (by rw [md5_length]; omega)]
  unfold keyRow
  rw [h1, h2]
theorem mac_short (key l : List UInt8) (h : key.length < 64) : mac (key ++ [0]) l = mac key l := by
  unfold mac
  rw [keyRow_short key h]
theorem mac_long (key l : List UInt8) (h : 64 < key.length) : mac (md5 key) l = mac key l := by
  unfold mac
  rw [keyRow_long key h]

/-! A word turned, bit by bit. -/
theorem rot_succ (x : BitVec 32) (k : Nat) (h : k < 31) : (x.rotateLeft k).rotateLeft 1 = x.rotateLeft (k + 1) := by
  apply BitVec.eq_of_getLsbD_eq
  intro i hi
  rw [BitVec.getLsbD_rotateLeft, BitVec.getLsbD_rotateLeft, BitVec.getLsbD_rotateLeft, BitVec.getLsbD_rotateLeft]
  rw [Nat.mod_eq_of_lt (show k < 32 by omega), Nat.mod_eq_of_lt (show k + 1 < 32 by omega), Nat.mod_eq_of_lt (show 1 < 32 by omega)]
  by_cases h1 : i < 1
  · obtain rfl : i = 0 := by omega
    rw [decide_eq_true h1, decide_eq_true (show 0 < k + 1 by omega), decide_eq_false (show ¬ 32 - 1 + 0 < k by omega), show 32 - 1 + 0 - k = 32 - (k + 1) + 0 by omega]
    simp
  · rw [decide_eq_false h1]
    by_cases h2 : i - 1 < k
    · rw [decide_eq_true h2, decide_eq_true (show i < k + 1 by omega), show 32 - k + (i - 1) = 32 - (k + 1) + i by omega]
      simp [hi]
    · rw [decide_eq_false h2, decide_eq_false (show ¬ i < k + 1 by omega), show i - 1 - k = i - (k + 1) by omega, decide_eq_true (show i - 1 < 32 by omega)]
      simp
theorem rot_one (x : BitVec 32) : (x.rotateLeft 1).toNat = 2 * x.toNat % 4294967296 + 2 * x.toNat / 4294967296 := by
  have hx := x.isLt
  rw [BitVec.rotateLeft_def, Nat.mod_eq_of_lt (show 1 < 32 by omega), BitVec.toNat_or, BitVec.toNat_shiftLeft, BitVec.toNat_ushiftRight, Nat.shiftLeft_eq, Nat.shiftRight_eq_div_pow]
  have e1 : x.toNat * 2 ^ 1 % 2 ^ 32 = (2 * (x.toNat % 2147483648)) := by omega
  have e2 : x.toNat / 2 ^ (32 - 1) = 2 * x.toNat / 4294967296 := by omega
  rw [e1, e2]
  have h3 : 2 * x.toNat / 4294967296 < 2 := by omega
  have e3 : 2 * (x.toNat % 2147483648) ||| 2 * x.toNat / 4294967296 = 2 * (x.toNat % 2147483648) + 2 * x.toNat / 4294967296 := by
    have := Nat.two_pow_add_eq_or_of_lt (i := 1) (b := 2 * x.toNat / 4294967296) (by omega) (x.toNat % 2147483648)
    rw [Nat.pow_one] at this
    exact this.symm
  rw [e3]
  omega
theorem rot_zero (x : BitVec 32) : x.rotateLeft 0 = x := by
  apply BitVec.eq_of_getLsbD_eq
  intro i hi
  rw [BitVec.getLsbD_rotateLeft]
  simp [hi]
theorem ss_lt (i : Nat) (h : i < 64) : ss i < 24 := by
  have : ∀ j : Fin 64, ss j.val < 24 := by decide
  exact this ⟨i, h⟩
end Go.Proofs.YtlkflikhbkhpeabDoor
