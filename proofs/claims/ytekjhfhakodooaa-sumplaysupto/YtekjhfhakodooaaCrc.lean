/-
  Numbers of 32 bits that go down by one bit: the sum's own arithmetic, without the model.
-/
import Derived.Laws.BitsAllLaws
import Derived.KernelRfl
namespace Go.Proofs.Ytekjhfhakodooaa

/-- What is laid over a number where a 1 falls out of it. -/
def pol : BitVec 32 := 0x82F63B78#32
/-- A number moved by one bit. -/
def dn (x : BitVec 32) : BitVec 32 := (x >>> 1) ^^^ (if x.getLsbD 0 then pol else 0#32)
/-- A number moved by many bits. -/
def dnN : Nat → BitVec 32 → BitVec 32
  | 0, x => x
  | n + 1, x => dnN n (dn x)

/-- A map that keeps exclusive or. -/
structure Lin (L : BitVec 32 → BitVec 32) : Prop where
  xor : ∀ x y, L (x ^^^ y) = L x ^^^ L y

theorem Lin.zero {L : BitVec 32 → BitVec 32} (h : Lin L) : L 0#32 = 0#32 := by
  have := h.xor 0#32 0#32
  rw [BitVec.xor_self, BitVec.xor_self] at this
  exact this
theorem Lin.comp {L M : BitVec 32 → BitVec 32} (h : Lin L) (k : Lin M) : Lin (fun x => L (M x)) := ⟨fun x y => by rw [k.xor, h.xor]⟩
theorem Lin.id : Lin (fun x => x) := ⟨fun _ _ => rfl⟩

theorem dn_lin : Lin dn := ⟨fun x y => by
  unfold dn
  rw [BitVec.ushiftRight_xor_distrib, BitVec.getLsbD_xor]
  cases x.getLsbD 0 <;> cases y.getLsbD 0 <;> simp
  · ac_rfl
  · ac_rfl
  · have : x >>> 1 ^^^ pol ^^^ (y >>> 1 ^^^ pol) = x >>> 1 ^^^ y >>> 1 ^^^ (pol ^^^ pol) := by ac_rfl
    rw [this, BitVec.xor_self, BitVec.xor_zero]⟩
theorem dnN_lin : ∀ n, Lin (dnN n)
  | 0 => Lin.id
  | n + 1 => (dnN_lin n).comp dn_lin
theorem dnN_add (m : Nat) : ∀ (n : Nat) (x : BitVec 32), dnN (n + m) x = dnN m (dnN n x)
  | 0, x => by rw [Nat.zero_add]; rfl
  | n + 1, x => by
    rw [show n + 1 + m = (n + m) + 1 by omega]
    exact dnN_add m n (dn x)
theorem dnN_comm (m n : Nat) (x : BitVec 32) : dnN m (dnN n x) = dnN n (dnN m x) := by rw [← dnN_add, ← dnN_add, Nat.add_comm]
theorem dnN_succ (n : Nat) (x : BitVec 32) : dnN (n + 1) x = dn (dnN n x) := dnN_add 1 n x

theorem dn_zero {x : BitVec 32} (h : dn x = 0#32) : x = 0#32 := by
  have h31 : (dn x).getLsbD 31 = x.getLsbD 0 := by
    unfold dn
    rw [BitVec.getLsbD_xor, BitVec.getLsbD_ushiftRight, BitVec.getLsbD_of_ge x (1 + 31) (by omega), Bool.false_xor]
    cases x.getLsbD 0 <;> rfl
  rw [h] at h31
  have h0 : x.getLsbD 0 = false := by rw [← h31]; rfl
  have h1 : x >>> 1 = 0#32 := by
    unfold dn at h
    rw [h0] at h
    simpa using h
  apply BitVec.eq_of_getLsbD_eq
  intro i hi
  rcases i with _ | i
  · rw [h0]; rfl
  · have := congrArg (fun z => z.getLsbD i) h1
    simp only [BitVec.getLsbD_ushiftRight] at this
    rw [Nat.add_comm, this]
    simp
theorem dnN_zero : ∀ (n : Nat) {x : BitVec 32}, dnN n x = 0#32 → x = 0#32
  | 0, _, h => h
  | n + 1, _, h => dn_zero (dnN_zero n h)

/-- A byte as a number of 32 bits. -/
def bv (b : UInt8) : BitVec 32 := BitVec.ofNat 32 b.toNat
theorem bv_toNat (b : UInt8) : (bv b).toNat = b.toNat := by
  have := b.toNat_lt
  rw [bv, BitVec.toNat_ofNat, Nat.mod_eq_of_lt (by omega)]

/-- What the register comes to. -/
def crc (r : BitVec 32) (l : List UInt8) : BitVec 32 := l.foldl (fun r b => dnN 8 (r ^^^ bv b)) r
theorem crc_nil (r : BitVec 32) : crc r [] = r := rfl
theorem crc_cons (r : BitVec 32) (b : UInt8) (l : List UInt8) : crc r (b :: l) = crc (dnN 8 (r ^^^ bv b)) l := rfl
theorem crc_append (r : BitVec 32) (l m : List UInt8) : crc r (l ++ m) = crc (crc r l) m := List.foldl_append
theorem crc_snoc (r : BitVec 32) (l : List UInt8) (b : UInt8) : crc r (l ++ [b]) = dnN 8 (crc r l ^^^ bv b) := crc_append r l [b]

theorem crc_xor (l : List UInt8) : ∀ r s : BitVec 32, crc (r ^^^ s) l = crc r l ^^^ dnN (8 * l.length) s := by
  induction l with
  | nil => intro r s; rfl
  | cons b l ih =>
    intro r s
    rw [crc_cons, crc_cons, show r ^^^ s ^^^ bv b = (r ^^^ bv b) ^^^ s by ac_rfl, (dnN_lin 8).xor, ih, ← dnN_add]
    congr 2
    rw [List.length_cons]
    omega

/-- The sum behind a sum. -/
def more (s : BitVec 32) (l : List UInt8) : BitVec 32 := ~~~ (crc (~~~ s) l)
theorem more_nil (s : BitVec 32) : more s [] = s := by rw [more, crc_nil, BitVec.not_not]
theorem more_append (s : BitVec 32) (l m : List UInt8) : more s (l ++ m) = more (more s l) m := by
  unfold more
  rw [crc_append, BitVec.not_not]
/-- Two numbers joined. -/
def join (a b : BitVec 32) (n : Nat) : BitVec 32 := dnN (8 * n) a ^^^ b
theorem not_xor (x : BitVec 32) : ~~~ x = x ^^^ 0xFFFFFFFF#32 := by
  apply BitVec.eq_of_getLsbD_eq
  intro i hi
  rw [BitVec.getLsbD_not, BitVec.getLsbD_xor]
  have : (0xFFFFFFFF#32).getLsbD i = true := by
    have h : ∀ j : Fin 32, (0xFFFFFFFF#32).getLsbD j.val = true := by decide
    exact h ⟨i, hi⟩
  rw [this]
  simp [hi]
theorem more_join (s : BitVec 32) (l : List UInt8) : more s l = join s (more 0#32 l) l.length := by
  unfold more join
  rw [show ~~~ s = ~~~ (0#32) ^^^ s by rw [not_xor s, not_xor, BitVec.zero_xor]; ac_rfl, crc_xor, not_xor, not_xor (crc _ l)]
  ac_rfl
theorem more_lin (s : BitVec 32) (l : List UInt8) : more s l = more 0#32 l ^^^ dnN (8 * l.length) s := by
  rw [more_join]
  exact BitVec.xor_comm _ _

theorem join_order (a b c : BitVec 32) (n m : Nat) : join (join a b n) c m = join a (join b c m) (n + m) := by
  unfold join
  rw [(dnN_lin _).xor, ← dnN_add, show 8 * n + 8 * m = 8 * (n + m) by omega]
  ac_rfl
theorem join_none (a : BitVec 32) : join a 0#32 0 = a := by
  show a ^^^ 0#32 = a
  rw [BitVec.xor_zero]

/-! The walks' own spellings. -/
theorem bits_xor (x y : BitVec 32) : bits .xor .u32 (x.toNat : Int) (y.toNat : Int) = ((x ^^^ y).toNat : Int) := by
  rw [u32_xor_nat _ _ x.isLt y.isLt, BitVec.toNat_xor]
theorem bits_and (x y : BitVec 32) : bits .and .u32 (x.toNat : Int) (y.toNat : Int) = ((x &&& y).toNat : Int) := by
  rw [u32_and_nat _ _ x.isLt y.isLt, BitVec.toNat_and]
theorem half (x : BitVec 32) : (x.toNat : Int) / (2 : Int) = ((x >>> 1).toNat : Int) := by
  rw [BitVec.toNat_ushiftRight, Nat.shiftRight_eq_div_pow]
  omega
theorem low_bit (x : BitVec 32) : x.getLsbD 0 = decide (x.toNat % 2 = 1) := by
  rw [BitVec.getLsbD, Nat.testBit_zero]
/-- All of a number, or none of it. -/
theorem masked (m y : BitVec 32) : bits .and .u32 (m.toNat : Int) (-bits .and .u32 (y.toNat : Int) 1 % 4294967296) = ((if y.getLsbD 0 then m else 0#32).toNat : Int) := by
  have h1 : bits .and .u32 (y.toNat : Int) 1 = ((y.toNat % 2 : Nat) : Int) := by
    have := u32_and_nat y.toNat 1 y.isLt (by omega)
    rw [Nat.and_one_is_mod] at this
    exact this
  rw [h1, low_bit]
  rcases Nat.mod_two_eq_zero_or_one y.toNat with h | h
  · rw [h]
    have := u32_and_nat m.toNat 0 m.isLt (by omega)
    simpa using this
  · rw [h]
    have := u32_and_nat m.toNat 4294967295 m.isLt (by omega)
    rw [show ((-((1 : Nat) : Int)) % 4294967296 : Int) = ((4294967295 : Nat) : Int) by decide, this]
    have e : m.toNat &&& 4294967295 = m.toNat := by
      have h2 := Nat.and_two_pow_sub_one_eq_mod m.toNat 32
      rw [Nat.mod_eq_of_lt m.isLt] at h2
      exact h2
    rw [e]
    simp
theorem dn_spelt (x : BitVec 32) : bits .xor .u32 ((x.toNat : Int) / 2) (bits .and .u32 2197175160 (-bits .and .u32 (x.toNat : Int) 1 % 4294967296)) = ((dn x).toNat : Int) := by
  rw [half, show (2197175160 : Int) = (pol.toNat : Int) by rfl, masked, bits_xor]
  rfl
theorem dn_odd (x : BitVec 32) (h : ((x.toNat : Int) % 2 == 1) = true) : bits .xor .u32 ((x.toNat : Int) / 2) 2197175160 = ((dn x).toNat : Int) := by
  have h' : x.toNat % 2 = 1 := by have : (x.toNat : Int) % 2 = 1 := by simpa using h
                                  omega
  rw [half, show (2197175160 : Int) = (pol.toNat : Int) by rfl, bits_xor, dn, low_bit, h']
  rfl
theorem dn_even (x : BitVec 32) (h : ((x.toNat : Int) % 2 == 1) = false) : (x.toNat : Int) / 2 = ((dn x).toNat : Int) := by
  have h' : ¬ x.toNat % 2 = 1 := by have : ¬ (x.toNat : Int) % 2 = 1 := by simpa using h
                                    omega
  rw [half, dn, low_bit, decide_eq_false h']
  simp
theorem not_spelt (x : BitVec 32) : bits .xor .u32 4294967295 (x.toNat : Int) = ((~~~ x).toNat : Int) := by
  rw [not_xor, BitVec.xor_comm]
  exact bits_xor 0xFFFFFFFF#32 x
end Go.Proofs.Ytekjhfhakodooaa
