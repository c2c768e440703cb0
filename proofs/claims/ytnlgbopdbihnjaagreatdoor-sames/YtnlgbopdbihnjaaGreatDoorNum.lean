/-
  A rune's bytes and the first rune of a row of bytes: one is the other's way back. And what is made of a whole row.
-/
import Derived.Test.YtnlgbopdbihnjaaGreatDoorDmP
import Derived.Test.YtnlgbopdbihnjaaGreatDoorBase2
import Derived.Laws.OwnMore
namespace Go.Proofs.YtnlgbopdbihnjaaGreatDoor

theorem u8_of (x : Int) (h0 : 0 ≤ x) (h1 : x < 256) : (x.toNat.toUInt8).toNat = x.toNat := by
  have : x.toNat < 256 := by omega
  simp
  omega
theorem u8_eq {x : Int} {b : UInt8} (h : x = (b.toNat : Int)) : x.toNat.toUInt8 = b := by
  subst h
  simp

theorem oneN_enc (r : Int) (h : isR r) (t : List UInt8) : oneN (Lib.encodeRune r ++ t) = some (r, (Lib.encodeRune r).length) := by
  obtain ⟨h0, h1, h2⟩ := h
  unfold Lib.encodeRune
  by_cases c1 : r ≤ 127
  · rw [Lib.encodeRuneZ_one h0 c1]
    simp only [List.map_cons, List.map_nil, List.cons_append, List.nil_append, oneN, u8_of r h0 (by omega), List.length_cons, List.length_nil]
    rw [if_pos (by omega)]
    simp; omega
  by_cases c2 : r ≤ 2047
  · rw [Lib.encodeRuneZ_two (by omega) c2]
    have a1 := u8_of (192 + r / 64) (by omega) (by omega)
    have a2 := u8_of (128 + r % 64) (by omega) (by omega)
    simp only [List.map_cons, List.map_nil, List.cons_append, List.nil_append, oneN, a1, a2, List.length_cons, List.length_nil]
    rw [if_neg (by omega), if_pos (by omega)]
    simp; omega
  by_cases c3 : r ≤ 65535
  · rw [Lib.encodeRuneZ_three (by omega)]
    have a1 := u8_of (224 + r / 4096) (by omega) (by omega)
    have a2 := u8_of (128 + r / 64 % 64) (by omega) (by omega)
    have a3 := u8_of (128 + r % 64) (by omega) (by omega)
    simp only [List.map_cons, List.map_nil, List.cons_append, List.nil_append, oneN, a1, a2, a3, List.length_cons, List.length_nil]
    rw [if_neg (by omega), if_neg (by omega), if_pos (by omega)]
    simp; omega
  · rw [Lib.encodeRuneZ_four (by omega) (by omega)]
    have a1 := u8_of (240 + r / 262144) (by omega) (by omega)
    have a2 := u8_of (128 + r / 4096 % 64) (by omega) (by omega)
    have a3 := u8_of (128 + r / 64 % 64) (by omega) (by omega)
    have a4 := u8_of (128 + r % 64) (by omega) (by omega)
    simp only [List.map_cons, List.map_nil, List.cons_append, List.nil_append, oneN, a1, a2, a3, a4, List.length_cons, List.length_nil]
    rw [if_neg (by omega), if_neg (by omega), if_neg (by omega), if_pos (by omega)]
    simp; omega

theorem oneN_is {l : List UInt8} {r : Int} {n : Nat} (h : oneN l = some (r, n)) : isR r ∧ n = (Lib.encodeRune r).length ∧ l = Lib.encodeRune r ++ l.drop n := by
  unfold oneN at h
  match l with
  | [] => simp at h
  | a :: t =>
    have ua := a.toNat_lt
    simp only at h
    by_cases ha : a.toNat < 128
    · rw [if_pos ha] at h
      injection h with h; injection h with h1 h2
      subst h2
      have e := Lib.encodeRuneZ_one (r := r) (by omega) (by omega)
      refine ⟨⟨by omega, by omega, by omega⟩, by simp [Lib.encodeRune, e], ?_⟩
      simp [Lib.encodeRune, e]
      exact (u8_eq h1.symm).symm
    rw [if_neg ha] at h
    match t with
    | [] => simp at h
    | b :: t =>
      have ub := b.toNat_lt
      simp only at h
      by_cases hb : 194 ≤ a.toNat ∧ a.toNat ≤ 223 ∧ 128 ≤ b.toNat ∧ b.toNat ≤ 191
      · rw [if_pos hb] at h
        injection h with h; injection h with h1 h2
        subst h2
        have e := Lib.encodeRuneZ_two (r := r) (by omega) (by omega)
        refine ⟨⟨by omega, by omega, by omega⟩, by simp [Lib.encodeRune, e], ?_⟩
        simp only [Lib.encodeRune, e, List.map_cons, List.map_nil, List.cons_append, List.nil_append, List.drop_succ_cons, List.drop_zero]
        rw [u8_eq (b := a) (by omega), u8_eq (b := b) (by omega)]
      rw [if_neg hb] at h
      match t with
      | [] => simp at h
      | c :: t =>
        have uc := c.toNat_lt
        simp only at h
        by_cases hc : 224 ≤ a.toNat ∧ a.toNat ≤ 239 ∧ 128 ≤ b.toNat ∧ b.toNat ≤ 191 ∧ (a.toNat = 224 → 160 ≤ b.toNat) ∧ (a.toNat = 237 → b.toNat ≤ 159) ∧ 128 ≤ c.toNat ∧ c.toNat ≤ 191
        · rw [if_pos hc] at h
          injection h with h; injection h with h1 h2
          subst h2
          have e := Lib.encodeRuneZ_three (r := r) (by omega)
          refine ⟨⟨by omega, by omega, by omega⟩, by simp [Lib.encodeRune, e], ?_⟩
          simp only [Lib.encodeRune, e, List.map_cons, List.map_nil, List.cons_append, List.nil_append, List.drop_succ_cons, List.drop_zero]
          rw [u8_eq (b := a) (by omega), u8_eq (b := b) (by omega), u8_eq (b := c) (by omega)]
        rw [if_neg hc] at h
        match t with
        | [] => simp at h
        | d :: t =>
          have ud := d.toNat_lt
          simp only at h
          by_cases hd : 240 ≤ a.toNat ∧ a.toNat ≤ 244 ∧ 128 ≤ b.toNat ∧ b.toNat ≤ 191 ∧ (a.toNat = 240 → 144 ≤ b.toNat) ∧ (a.toNat = 244 → b.toNat ≤ 143) ∧ 128 ≤ c.toNat ∧ c.toNat ≤ 191 ∧ 128 ≤ d.toNat ∧ d.toNat ≤ 191
          · rw [if_pos hd] at h
            injection h with h; injection h with h1 h2
            subst h2
            have e := Lib.encodeRuneZ_four (r := r) (by omega) (by omega)
            refine ⟨⟨by omega, by omega, by omega⟩, by simp [Lib.encodeRune, e], ?_⟩
            simp only [Lib.encodeRune, e, List.map_cons, List.map_nil, List.cons_append, List.nil_append, List.drop_succ_cons, List.drop_zero]
            rw [u8_eq (b := a) (by omega), u8_eq (b := b) (by omega), u8_eq (b := c) (by omega), u8_eq (b := d) (by omega)]
          · rw [if_neg hd] at h
            cases h

/-- The bytes of runes. -/
def encL (l : List Int) : List UInt8 := l.flatMap Lib.encodeRune
/-- The runes of a row, as far as it is well-formed. -/
def decL (l : List UInt8) : List Int :=
  match _h : oneN l with
  | none => []
  | some (r, n) => r :: decL (l.drop n)
termination_by l.length
decreasing_by have := oneN_run l r n _h; simp; omega
theorem decL_some {l : List UInt8} {r : Int} {n : Nat} (h : oneN l = some (r, n)) : decL l = r :: decL (l.drop n) := by
  rw [decL]
  split
  · rename_i h'; rw [h] at h'; cases h'
  · rename_i r' n' h'; rw [h] at h'; cases h'; rfl
theorem decL_none {l : List UInt8} (h : oneN l = none) : decL l = [] := by
  rw [decL]
  split
  · rfl
  · rename_i r' n' h'; rw [h] at h'; cases h'

/-- All of it well-formed: written again it is the row. -/
theorem encL_decL (l : List UInt8) : encL (decL l) = l.take (badU l) := by
  induction hn : l.length using Nat.strongRecOn generalizing l with
  | _ n ih =>
    cases h : oneN l with
    | none => rw [decL_none h, badU_none h]; rfl
    | some p =>
      obtain ⟨r, k⟩ := p
      obtain ⟨h1, h2, _, _⟩ := oneN_run l r k h
      obtain ⟨h3, h4, h5⟩ := oneN_is h
      rw [decL_some h, badU_some h]
      have := ih (l.drop k).length (by simp; omega) (l.drop k) rfl
      show Lib.encodeRune r ++ encL (decL (l.drop k)) = _
      rw [this]
      conv => rhs; rw [h5]
      rw [h4, List.take_length_add_append, List.drop_left]
theorem decL_encL (l : List Int) (h : ∀ r ∈ l, isR r) : decL (encL l) = l ∧ badU (encL l) = (encL l).length := by
  induction l with
  | nil => exact ⟨decL_none rfl, rfl⟩
  | cons r t ih =>
    obtain ⟨i1, i2⟩ := ih (fun x hx => h x (List.mem_cons_of_mem _ hx))
    have e : encL (r :: t) = Lib.encodeRune r ++ encL t := rfl
    have o := oneN_enc r (h r List.mem_cons_self) (encL t)
    rw [e]
    have d : (Lib.encodeRune r ++ encL t).drop (Lib.encodeRune r).length = encL t := List.drop_left
    refine ⟨?_, ?_⟩
    · rw [decL_some o, d, i1]
    · rw [badU_some o, d, i2, List.length_append]
theorem decL_isR (l : List UInt8) : ∀ r ∈ decL l, isR r := by
  induction hn : l.length using Nat.strongRecOn generalizing l with
  | _ n ih =>
    cases h : oneN l with
    | none => rw [decL_none h]; intro r hr; cases hr
    | some p =>
      obtain ⟨r, k⟩ := p
      obtain ⟨h1, h2, _, _⟩ := oneN_run l r k h
      rw [decL_some h]
      intro x hx
      rcases List.mem_cons.1 hx with rfl | hx
      · exact (oneN_is h).1
      · exact ih (l.drop k).length (by simp; omega) (l.drop k) rfl x hx
theorem decL_length (l : List UInt8) : (decL l).length ≤ l.length := by
  induction hn : l.length using Nat.strongRecOn generalizing l with
  | _ n ih =>
    cases h : oneN l with
    | none => rw [decL_none h]; simp
    | some p =>
      obtain ⟨r, k⟩ := p
      obtain ⟨h1, h2, _, _⟩ := oneN_run l r k h
      rw [decL_some h]
      have := ih (l.drop k).length (by simp; omega) (l.drop k) rfl
      simp at this ⊢
      omega

/-- The model's reading of a rune, of numbers alone. -/
def decF (f : Nat → Nat) (g : Nat → Bool) : Nat × Nat :=
  if f 0 < 0x80 then (f 0, 1)
  else if f 0 / 32 == 6 && (g 1 && f 1 / 64 == 2) then
    if (f 0 % 32) * 64 + f 1 % 64 ≥ 0x80 then ((f 0 % 32) * 64 + f 1 % 64, 2) else (Utf8.runeError, 1)
  else if f 0 / 16 == 14 && (g 1 && f 1 / 64 == 2) && (g 2 && f 2 / 64 == 2) then
    if (f 0 % 16) * 4096 + (f 1 % 64) * 64 + f 2 % 64 ≥ 0x800 && Utf8.valid ((f 0 % 16) * 4096 + (f 1 % 64) * 64 + f 2 % 64 : Nat) then ((f 0 % 16) * 4096 + (f 1 % 64) * 64 + f 2 % 64, 3) else (Utf8.runeError, 1)
  else if f 0 / 8 == 30 && (g 1 && f 1 / 64 == 2) && (g 2 && f 2 / 64 == 2) && (g 3 && f 3 / 64 == 2) then
    if (f 0 % 8) * 262144 + (f 1 % 64) * 4096 + (f 2 % 64) * 64 + f 3 % 64 ≥ 0x10000 && Utf8.valid ((f 0 % 8) * 262144 + (f 1 % 64) * 4096 + (f 2 % 64) * 64 + f 3 % 64 : Nat) then ((f 0 % 8) * 262144 + (f 1 % 64) * 4096 + (f 2 % 64) * 64 + f 3 % 64, 4) else (Utf8.runeError, 1)
  else (Utf8.runeError, 1)
theorem decode_F (s : ByteArray) (i : Nat) : Utf8.decode s i = decF (fun k => (s.get! (i + k)).toNat) (fun k => decide (i + k < s.size)) := rfl
/-- What Go's range over a text tells at a place where a rune begins. -/
theorem decode_one (s : ByteArray) (pos : Nat) (r : Int) (n : Nat) (h : oneN (s.data.toList.drop pos) = some (r, n)) : Utf8.decode s pos = (r.toNat, n) := by
  have key : ∀ (k : Nat) (x : UInt8) (t : List UInt8), s.data.toList.drop (pos + k) = x :: t → (s.get! (pos + k)).toNat = x.toNat ∧ pos + k < s.size := by
    intro k x t e
    have hlt : pos + k < s.data.toList.length := by
      have : (s.data.toList.drop (pos + k)).length = t.length + 1 := by rw [e]; rfl
      rw [List.length_drop] at this; omega
    have hx : s.data.toList[pos + k]? = some x := by
      have : (s.data.toList.drop (pos + k))[0]? = some x := by rw [e]; rfl
      rw [List.getElem?_drop] at this
      simpa using this
    have hs : pos + k < s.size := by simpa using hlt
    refine ⟨?_, hs⟩
    have : s.get! (pos + k) = x := by
      show s.data[pos + k]! = x
      have h2 : s.data[pos + k]? = some x := by rw [← Array.getElem?_toList]; exact hx
      simp [getElem!_def, h2]
    rw [this]
  have dr : ∀ (k : Nat) (x : UInt8) (t : List UInt8), s.data.toList.drop (pos + k) = x :: t → s.data.toList.drop (pos + (k + 1)) = t := by
    intro k x t e
    have : (s.data.toList.drop (pos + k)).drop 1 = t := by rw [e]; rfl
    rw [List.drop_drop] at this
    exact this
  obtain ⟨l, hl⟩ : ∃ l, s.data.toList.drop pos = l := ⟨_, rfl⟩
  rw [hl] at h
  have E0 : s.data.toList.drop (pos + 0) = l := hl
  clear hl
  unfold oneN at h
  rw [decode_F]
  have key' : ∀ (k : Nat) (x : UInt8) (t : List UInt8), s.data.toList.drop (pos + k) = x :: t → (fun k => (s.get! (pos + k)).toNat) k = x.toNat ∧ (fun k => decide (pos + k < s.size)) k = true := fun k x t e => ⟨(key k x t e).1, decide_eq_true (key k x t e).2⟩
  generalize (fun k => (s.get! (pos + k)).toNat) = f at key' ⊢
  generalize (fun k => decide (pos + k < s.size)) = g at key' ⊢
  unfold decF
  match l with
  | [] => simp at h
  | a :: t =>
    have ua := a.toNat_lt
    obtain ⟨k0, _⟩ := key' 0 a t E0
    have E1 := dr 0 a t E0
    simp only [k0]
    simp only at h
    by_cases ha : a.toNat < 128
    · rw [if_pos ha] at h
      injection h with h; injection h with h1 h2
      subst h2
      rw [if_pos ha, ← h1]; simp
    rw [if_neg ha] at h ⊢
    match t with
    | [] => simp at h
    | b :: t =>
      have ub := b.toNat_lt
      obtain ⟨k1, s1⟩ := key' 1 b t E1
      have E2 := dr 1 b t E1
      simp only [k1, s1]
      simp only at h
      by_cases hb : 194 ≤ a.toNat ∧ a.toNat ≤ 223 ∧ 128 ≤ b.toNat ∧ b.toNat ≤ 191
      · rw [if_pos hb] at h
        injection h with h; injection h with h1 h2
        subst h2
        have c1 : a.toNat / 32 = 6 := by omega
        have c2 : b.toNat / 64 = 2 := by omega
        simp only [c1, c2, beq_self_eq_true, Bool.and_self, if_true]
        rw [if_pos (by omega)]
        congr 1; omega
      rw [if_neg hb] at h
      match t with
      | [] => simp at h
      | c :: t =>
        have uc := c.toNat_lt
        obtain ⟨k2, s2⟩ := key' 2 c t E2
        have E3 := dr 2 c t E2
        simp only [k2, s2]
        simp only at h
        by_cases hc : 224 ≤ a.toNat ∧ a.toNat ≤ 239 ∧ 128 ≤ b.toNat ∧ b.toNat ≤ 191 ∧ (a.toNat = 224 → 160 ≤ b.toNat) ∧ (a.toNat = 237 → b.toNat ≤ 159) ∧ 128 ≤ c.toNat ∧ c.toNat ≤ 191
        · rw [if_pos hc] at h
          injection h with h; injection h with h1 h2
          subst h2
          have c0 : (a.toNat / 32 == 6) = false := by simp; omega
          have c1 : a.toNat / 16 = 14 := by omega
          have c2 : b.toNat / 64 = 2 := by omega
          have c3 : c.toNat / 64 = 2 := by omega
          simp only [c0, c1, c2, c3, beq_self_eq_true, Bool.and_self, Bool.false_and, if_true, Bool.false_eq_true, if_false]
          have hv : Utf8.valid ((a.toNat % 16 * 4096 + b.toNat % 64 * 64 + c.toNat % 64 : Nat) : Int) = true := by
            unfold Utf8.valid
            simp
            omega
          have hg : (decide (a.toNat % 16 * 4096 + b.toNat % 64 * 64 + c.toNat % 64 ≥ 2048) && true) = true := by rw [Bool.and_true]; exact decide_eq_true (by omega)
          rw [hv, hg, if_pos rfl]
          refine Prod.ext ?_ rfl
          show a.toNat % 16 * 4096 + b.toNat % 64 * 64 + c.toNat % 64 = r.toNat
          omega
        rw [if_neg hc] at h
        match t with
        | [] => simp at h
        | d :: t =>
          have ud := d.toNat_lt
          obtain ⟨k3, s3⟩ := key' 3 d t E3
          simp only [k3, s3]
          simp only at h
          by_cases hd : 240 ≤ a.toNat ∧ a.toNat ≤ 244 ∧ 128 ≤ b.toNat ∧ b.toNat ≤ 191 ∧ (a.toNat = 240 → 144 ≤ b.toNat) ∧ (a.toNat = 244 → b.toNat ≤ 143) ∧ 128 ≤ c.toNat ∧ c.toNat ≤ 191 ∧ 128 ≤ d.toNat ∧ d.toNat ≤ 191
          · rw [if_pos hd] at h
            injection h with h; injection h with h1 h2
            subst h2
            have c0 : (a.toNat / 32 == 6) = false := by simp; omega
            have c0' : (a.toNat / 16 == 14) = false := by simp; omega
            have c1 : a.toNat / 8 = 30 := by omega
            have c2 : b.toNat / 64 = 2 := by omega
            have c3 : c.toNat / 64 = 2 := by omega
            have c4 : d.toNat / 64 = 2 := by omega
            simp only [c0, c0', c1, c2, c3, c4, beq_self_eq_true, Bool.and_self, Bool.false_and, if_true, Bool.false_eq_true, if_false]
            have hv : Utf8.valid ((a.toNat % 8 * 262144 + b.toNat % 64 * 4096 + c.toNat % 64 * 64 + d.toNat % 64 : Nat) : Int) = true := by
              unfold Utf8.valid
              simp
              omega
            have hg : (decide (a.toNat % 8 * 262144 + b.toNat % 64 * 4096 + c.toNat % 64 * 64 + d.toNat % 64 ≥ 65536) && true) = true := by rw [Bool.and_true]; exact decide_eq_true (by omega)
            rw [hv, hg, if_pos rfl]
            refine Prod.ext ?_ rfl
            show a.toNat % 8 * 262144 + b.toNat % 64 * 4096 + c.toNat % 64 * 64 + d.toNat % 64 = r.toNat
            omega
          · rw [if_neg hd] at h
            cases h
end Go.Proofs.YtnlgbopdbihnjaaGreatDoor
/-
  The document's reading of a rune: the rune whose bytes these are.
-/
namespace Go.Proofs.YtnlgbopdbihnjaaGreatDoor

/-- What the first byte of n has at its top. -/
def leadN (n : Nat) : Int := if n = 2 then 192 else if n = 3 then 224 else if n = 4 then 240 else 0
def addX (x : Int) (c : UInt8) : Int := 64 * x + (c.toNat : Int) - 128
/-- The number that bytes make. -/
def mkX : List UInt8 → Int
  | [] => 0
  | c :: t => t.foldl addX ((c.toNat : Int) - leadN (t.length + 1))
/-- Are bytes those of a rune? -/
def okX (b : List UInt8) : Prop := isR (mkX b) ∧ Lib.encodeRune (mkX b) = b
instance (b : List UInt8) : Decidable (okX b) := by unfold okX; infer_instance
theorem mkX_enc (r : Int) (h : isR r) : mkX (Lib.encodeRune r) = r := by
  obtain ⟨h0, h1, h2⟩ := h
  unfold Lib.encodeRune
  by_cases c1 : r ≤ 127
  · rw [Lib.encodeRuneZ_one h0 c1]
    simp only [List.map_cons, List.map_nil, mkX, List.foldl_nil, List.length_nil, leadN, u8_of r h0 (by omega)]
    simp
    omega
  by_cases c2 : r ≤ 2047
  · rw [Lib.encodeRuneZ_two (by omega) c2]
    have a1 := u8_of (192 + r / 64) (by omega) (by omega)
    have a2 := u8_of (128 + r % 64) (by omega) (by omega)
    simp only [List.map_cons, List.map_nil, mkX, List.foldl_cons, List.foldl_nil, List.length_cons, List.length_nil, addX, a1, a2, leadN]
    simp
    omega
  by_cases c3 : r ≤ 65535
  · rw [Lib.encodeRuneZ_three (by omega)]
    have a1 := u8_of (224 + r / 4096) (by omega) (by omega)
    have a2 := u8_of (128 + r / 64 % 64) (by omega) (by omega)
    have a3 := u8_of (128 + r % 64) (by omega) (by omega)
    simp only [List.map_cons, List.map_nil, mkX, List.foldl_cons, List.foldl_nil, List.length_cons, List.length_nil, addX, a1, a2, a3, leadN]
    simp
    omega
  · rw [Lib.encodeRuneZ_four (by omega) (by omega)]
    have a1 := u8_of (240 + r / 262144) (by omega) (by omega)
    have a2 := u8_of (128 + r / 4096 % 64) (by omega) (by omega)
    have a3 := u8_of (128 + r / 64 % 64) (by omega) (by omega)
    have a4 := u8_of (128 + r % 64) (by omega) (by omega)
    simp only [List.map_cons, List.map_nil, mkX, List.foldl_cons, List.foldl_nil, List.length_cons, List.length_nil, addX, a1, a2, a3, a4, leadN]
    simp
    omega
theorem okX_one {l : List UInt8} {n : Nat} (hn : n ≤ l.length) (h : okX (l.take n)) : oneN l = some (mkX (l.take n), n) := by
  obtain ⟨h1, h2⟩ := h
  have := oneN_enc (mkX (l.take n)) h1 (l.drop n)
  rw [h2, List.take_append_drop, List.length_take, Nat.min_eq_left hn] at this
  exact this
theorem one_okX {l : List UInt8} {r : Int} {n : Nat} (h : oneN l = some (r, n)) : n ≤ l.length ∧ 1 ≤ n ∧ n ≤ 4 ∧ okX (l.take n) ∧ mkX (l.take n) = r := by
  obtain ⟨h1, h2, h3⟩ := oneN_is h
  obtain ⟨h4, h5, _⟩ := oneN_run l r n h
  have e : l.take n = Lib.encodeRune r := by
    conv => lhs; rw [h3]
    rw [h2, List.take_left]
  have h6 := (Lib.runeCells_le r).2
  rw [Lib.runeCells_length] at h6
  have h7 := mkX_enc r h1
  refine ⟨h4, h5, by omega, ⟨?_, ?_⟩, by rw [e, h7]⟩
  · rw [e, h7]; exact h1
  · rw [e, h7]
theorem mkX_range (b : List UInt8) (h : b.length ≤ 4) : -100000000 ≤ mkX b ∧ mkX b ≤ 100000000 := by
  match b, h with
  | [], _ => simp [mkX]
  | [a], _ => have := a.toNat_lt; simp [mkX, leadN]; omega
  | [a, b], _ => have := a.toNat_lt; have := b.toNat_lt; simp [mkX, leadN, addX]; omega
  | [a, b, c], _ => have := a.toNat_lt; have := b.toNat_lt; have := c.toNat_lt; simp [mkX, leadN, addX]; omega
  | [a, b, c, d], _ => have := a.toNat_lt; have := b.toNat_lt; have := c.toNat_lt; have := d.toNat_lt; simp [mkX, leadN, addX]; omega
end Go.Proofs.YtnlgbopdbihnjaaGreatDoor
/-
  Worlds that have grown, one behind the other.
-/
namespace Go.Proofs.YtnlgbopdbihnjaaGreatDoor
open Go.RowKit

theorem grown_on {w w1 w2 : World} {row row2 : Option Nat} (h1 : w.grownBy w1 row) (h2 : w1.grownBy w2 row2) (h : ∀ k, row2 = some k → some k = row ∨ w.heap.size ≤ k) : w.grownBy w2 row :=
  ⟨h2.os.trans h1.os, h2.tape.trans h1.tape, h2.output.trans h1.output, Nat.le_trans h1.size h2.size, fun k hk hne => (h2.block k (Nat.lt_of_lt_of_le hk h1.size) (fun e => by
    rcases h k e.symm with h' | h'
    · exact hne h'
    · omega)).trans (h1.block k hk hne)⟩
theorem two_alloc {w w' : World} (a b : Obj) {r : Option Nat} (h : ((w.alloc a).alloc b).grownBy w' r) : w.grownBy w' r :=
  grown_on (grown_on (World.grownBy_alloc w a r) (World.grownBy_alloc _ b r) (fun _ h => .inl h.symm)) h (fun _ h => .inl h.symm)
theorem base_le {w : World} {base base' e size n : Nat} {v : Value} {xs : List Value} (h : w.ownsRow base e size v n xs) (hb : base' ≤ base) : w.ownsRow base' e size v n xs := by
  obtain ⟨h1, h2⟩ := h
  refine ⟨h1, ?_⟩
  rcases h2 with h2 | ⟨g, cap, cur, hv, hg, r⟩
  · exact .inl h2
  · exact .inr ⟨g, cap, cur, hv, by omega, r⟩
theorem bcell {W w1 : World} (hb : Below W.heap.size W w1) : (∀ b o, b < W.heap.size → w1.cell? ⟨b, o, none⟩ = W.cell? ⟨b, o, none⟩) ∧ (∀ b o, b < W.heap.size → w1.frozen? ⟨b, o, none⟩ = W.frozen? ⟨b, o, none⟩) :=
  ⟨fun b o h => hb.cell (p := ⟨b, o, none⟩) h, fun b o h => hb.frozen (p := ⟨b, o, none⟩) h⟩
theorem own_conv {w : World} {base n : Nat} {v : Value} {l : List UInt8} (h : w.ownsRow base 5 1 v n (cellsB l)) : (convert 88 9 v).run Tryz.prog w = .ok (.string ⟨l.toArray⟩) w := by
  obtain ⟨a, cap, rfl, hb, hl, _⟩ := own_bts h
  subst hl
  exact bts_back hb cap
end Go.Proofs.YtnlgbopdbihnjaaGreatDoor
/-
  Rows of numbers in memory, of any kind of whole numbers, and such rows that a call makes for itself.
-/
namespace Go.Proofs.YtnlgbopdbihnjaaGreatDoor
open Go.RowKit

/-- Numbers as cells. -/
def cellsN (k : IntKind) (l : List Int) : List Value := l.map fun x => Value.int k x
theorem cellsN_length (k : IntKind) (l : List Int) : (cellsN k l).length = l.length := by simp [cellsN]
theorem cellsN_append (k : IntKind) (l r : List Int) : cellsN k (l ++ r) = cellsN k l ++ cellsN k r := by simp [cellsN]
theorem cellsN_at (k : IntKind) (l : List Int) (j : Nat) (h : j < l.length) : (cellsN k l)[j]? = some (.int k l[j]) := by simp [cellsN, List.getElem?_eq_getElem h]
theorem cellsN_one (k : IntKind) (l : List Int) : ∀ v ∈ cellsN k l, v.oneCell' = true := by
  intro v hv
  simp only [cellsN, List.mem_map] at hv
  obtain ⟨b, _, rfl⟩ := hv
  rfl
/-- A list's address and the numbers that lie there. -/
def Nts (k : IntKind) (a : Option Addr) (l : List Int) (w : World) : Prop := l = [] ∨ ∃ g o, a = some ⟨g, o, none⟩ ∧ g < w.heap.size ∧ ∀ j, (h : j < l.length) → w.cell? ⟨g, o + j, none⟩ = some (.int k l[j])
theorem Nts.below {k : IntKind} {a : Option Addr} {l : List Int} {w w' : World} (h : Nts k a l w) (hb : Below w.heap.size w w') : Nts k a l w' := by
  rcases h with h | ⟨g, o, e, hg, hr⟩
  · exact .inl h
  · exact .inr ⟨g, o, e, Nat.lt_of_lt_of_le hg hb.size, fun j hj => (hb.cell (p := ⟨g, o + j, none⟩) hg).trans (hr j hj)⟩
theorem Nts.cell {k : IntKind} {a : Option Addr} {l : List Int} {w : World} (h : Nts k a l w) (j : Nat) (hj : j < l.length) : ∃ g o, a = some ⟨g, o, none⟩ ∧ g < w.heap.size ∧ w.cell? ⟨g, o + j, none⟩ = some (.int k l[j]) := by
  rcases h with rfl | ⟨g, o, e, hg, hr⟩
  · simp at hj
  · exact ⟨g, o, e, hg, hr j hj⟩
theorem Nts.but {k : IntKind} {g : Nat} {a : Option Addr} {l : List Int} {w w' : World} (hb : Nts k a l w) (h : But g w w') (hne : ∀ ad, a = some ad → ad.block ≠ g) : Nts k a l w' := by
  rcases hb with hb | ⟨b, o, e, hb, hr⟩
  · exact .inl hb
  · exact .inr ⟨b, o, e, Nat.lt_of_lt_of_le hb h.size, fun j hj => (World.cell?_of_block (w := w) (a := ⟨b, o + j, none⟩) (h.block b hb (hne _ e))).trans (hr j hj)⟩
theorem nts_none {k : IntKind} {l : List Int} {w : World} (h : Nts k none l w) : l = [] := by
  rcases h with h | ⟨g, o, e, _⟩
  · exact h
  · cases e
theorem nts_news {k : IntKind} {ad : Addr} {l : List Int} {w : World} (h : Nts k (some ad) l w) : ∀ j u, (cellsN k l)[j]? = some u → w.cell? (ad.add j) = some u := by
  intro j u hu
  have hj : j < l.length := by
    have := (List.getElem?_eq_some_iff.1 hu).1
    simpa [cellsN] using this
  obtain ⟨g, o, e, _, hc⟩ := h.cell j hj
  injection e with e
  subst e
  rw [Addr.add_lit, hc, ← hu, cellsN_at k l j hj]
/-- A row that the call made, as a list of numbers. -/
theorem own_nts {w : World} {k : IntKind} {base n e : Nat} {v : Value} {l : List Int} (h : w.ownsRow base e 1 v n (cellsN k l)) : ∃ a cap, v = .slice a n cap ∧ Nts k a l w ∧ l.length = n ∧ (a = none → cap = 0) ∧ n ≤ cap ∧ ∀ ad, a = some ad → base ≤ ad.block ∧ ad.block < w.heap.size ∧ ad.off = 0 ∧ ad.spot = none := by
  obtain ⟨h1, h2⟩ := id h
  have hl : l.length = n := by rw [cellsN_length] at h1; omega
  rcases h2 with ⟨rfl, h0⟩ | ⟨g, cap, cur, rfl, hb, hg, hcap, _⟩
  · exact ⟨none, 0, by rw [h0], .inl (List.eq_nil_of_length_eq_zero (hl.trans h0)), hl, fun _ => rfl, by omega, fun ad e => by cases e⟩
  · refine ⟨_, cap, rfl, .inr ⟨g, 0, rfl, (Array.getElem?_eq_some_iff.1 hg).1, fun j hj => ?_⟩, hl, (fun e => by cases e), hcap, fun ad e => ?_⟩
    · have := h.cellAt j (by omega)
      rw [Nat.zero_add, this, cellsN_at k l j hj]
    · injection e with e
      subst e
      exact ⟨hb, (Array.getElem?_eq_some_iff.1 hg).1, rfl, rfl⟩
theorem ownN_keep {w w' : World} {B n e m : Nat} {v : Value} {xs : List Value} (h : w.ownsRow B e m v n xs) (hb : ∀ k, v.ownBlock = some k → w'.heap[k]? = w.heap[k]?) : w'.ownsRow B e m v n xs := by
  obtain ⟨h1, h2⟩ := h
  refine ⟨h1, ?_⟩
  rcases h2 with h2 | ⟨g, cap, cur, rfl, hB, hg, hr⟩
  · exact .inl h2
  · exact .inr ⟨g, cap, cur, rfl, hB, by rw [hb g rfl]; exact hg, hr⟩
theorem ownN_below {w w' : World} {B n e m : Nat} {v : Value} {xs : List Value} (h : w.ownsRow B e m v n xs) (hb : Below w.heap.size w w') : w'.ownsRow B e m v n xs := ownN_keep h (fun k hk => hb.block k (h.lt k hk).2)
theorem ownN_apart {w : World} {B n e m g t : Nat} {v : Value} {xs : List Value} {cs : Array Value} (h : w.ownsRow B e m v n xs) (hl : Lies w g cs t) (ht : t ≠ e) : ∀ k, v.ownBlock = some k → k ≠ g := by
  intro k hk e
  subst e
  rcases h.2 with ⟨rfl, _⟩ | ⟨g', cap, cur, rfl, hB, hg, _⟩
  · cases hk
  · injection hk with hk
    subst hk
    exact ht (lies_kind hl hg)
theorem ownN_shape {w : World} {base n e m : Nat} {v : Value} {xs : List Value} (h : w.ownsRow base e m v n xs) : ∃ a cap, v = .slice a n cap := by
  rcases h.2 with ⟨rfl, h0⟩ | ⟨g, cap, cur, hv, _⟩
  · exact ⟨none, 0, by rw [h0]⟩
  · exact ⟨_, _, hv⟩
/-- One number that has just been laid. -/
theorem one_nts (w : World) (t : TypeId) (k : IntKind) (x : Int) : Nts k (some ⟨w.heap.size, 0, none⟩) [x] (w.alloc (.cells #[.int k x] t)) :=
  .inr ⟨w.heap.size, 0, rfl, by simp, fun j hj => by
    obtain rfl : j = 0 := by simpa using hj
    simp⟩
/-- One number more behind a row of the call's own. -/
theorem wpList_append_num {ops : Array Oper} {rest : List Oper} {o : Oper} {a : Act} {w : World} {Q : Exit → Act → World → Prop} (hgd : o.guard = none) (s x : Operand) (T e by' : Nat) (k : IntKind)
    (hT : Tryz.prog.underlying T = some (.slice e)) (hI : (Tryz.prog.info? e).map (fun i => (i.zero, i.size, i.bytes)) = some (some (.int k 0), 1, by')) (hby : 0 < by')
    (ho : o.op = .call { callee := .builtin .append, args := #[s, x], argTypes := #[T, T] }) (base : Nat) (v : Value) (n : Nat) (xs : List Int) (hs : a.eval s = v) (hown : w.ownsRow base e 1 v n (cellsN k xs))
    (ad : Addr) (y : Int) (c : Nat) (hx : a.eval x = .slice (some ad) 1 c) (hb : Nts k (some ad) [y] w) (hbytes : (n + 1) * by' ≤ 140737488355328) (hbase : base ≤ w.heap.size)
    (h : ∀ v' w', w'.ownsRow base e 1 v' (n + 1) (cellsN k (xs ++ [y])) → w.grownBy w' v.ownBlock → wpList Tryz.prog ops Q rest (a.put o.dst v') w') : wpList Tryz.prog ops Q (o :: rest) a w := by
  obtain ⟨i0, hi, hz0, hz1, hz2⟩ := info_parts hI
  have hn : n + 1 ≤ 140737488355328 := Nat.le_trans (Nat.le_mul_of_pos_right _ hby) hbytes
  refine wpList_append_own _ hgd s x T ho base e i0 (.int k 0) 1 by' hT hi hz0 hz1 hz2 rfl (by decide) v n _ hs hown ad 1 c (cellsN k [y]) hx (by rw [cellsN_length]; rfl) (nts_news hb) (cellsN_one k _) (by unfold maxLen; omega) hbytes hbase ?_
  intro v' w' hown' hgrow _
  exact h v' w' (by rw [cellsN_append]; exact hown') hgrow
theorem own_nilN (w : World) (B e : Nat) (k : IntKind) : w.ownsRow B e 1 (.slice none 0 0) 0 (cellsN k []) := ⟨rfl, .inl ⟨rfl, rfl⟩⟩
theorem madeN (k : IntKind) (n : Nat) : (madeCells #[Value.int k 0] n).toList = cellsN k (List.replicate n 0) := by
  apply List.ext_getElem?
  intro i
  by_cases h : i < n
  · simp [madeCells, cellsN, h, Nat.mod_one]
  · rw [List.getElem?_eq_none (by simp [madeCells]; omega), List.getElem?_eq_none (by simp [cellsN]; omega)]
/-- A row of noughts with room behind it. -/
theorem make_roomN (w : World) (T e by' : Nat) (k : IntKind) (hT : Tryz.prog.underlying T = some (.slice e)) (hI : (Tryz.prog.info? e).map (fun i => (i.zero, i.size, i.bytes)) = some (some (.int k 0), 1, by')) (hby : 0 < by')
    (n c : Nat) (x y : Int) (hx : x = (n : Int)) (hy : y = (c : Int)) (hc : n ≤ c) (hl : by' * c ≤ 281474976710656) (base : Nat) (hb : base ≤ w.heap.size) :
    ∃ w', (Instr.makeSlice T (.int .i64 x) (.int .i64 y)).run Tryz.prog w = .ok (.slice (some ⟨w.heap.size, 0, none⟩) n c) w' ∧
      w'.ownsRow base e 1 (.slice (some ⟨w.heap.size, 0, none⟩) n c) n (cellsN k (List.replicate n 0)) ∧ Below w.heap.size w w' ∧ w'.heap.size = w.heap.size + 1 := by
  subst hx hy
  obtain ⟨i0, hi, hz0, hz1, hz2⟩ := info_parts hI
  have hcl : c ≤ 281474976710656 := Nat.le_trans (Nat.le_mul_of_pos_left _ hby) hl
  have hr := run_make (P := Tryz.prog) w T e i0 (.int k 0) hT hi hz0 .i64 .i64 n c (by omega) (by omega) (by rw [hz2]; first | omega | exact (by exact_mod_cast hl) | (rw [Nat.mul_comm]; exact (by exact_mod_cast hl))) (by omega)
  rw [hz1, Nat.mul_one, Int.toNat_natCast, Int.toNat_natCast] at hr
  refine ⟨_, hr, ?_, (Below.refl _ _).alloc (Nat.le_refl _) _, by simp⟩
  refine ⟨by rw [cellsN_length]; simp, .inr ⟨w.heap.size, c, _, rfl, hb, heap_alloc_last w _, hc, by unfold maxLen; omega, by rw [size_madeCells, Nat.mul_one], ?_⟩⟩
  show ((madeCells #[Value.int k 0] c).toList).take (n * 1) = _
  rw [madeN, Nat.mul_one]
  simp [cellsN, Nat.min_eq_left hc]

theorem infoR : (Tryz.prog.info? 21).map (fun i => (i.zero, i.size, i.bytes)) = some (some (.int .i32 0), 1, 4) := by kernel_rfl
theorem infoI : (Tryz.prog.info? 3).map (fun i => (i.zero, i.size, i.bytes)) = some (some (.int .i64 0), 1, 8) := by kernel_rfl
end Go.Proofs.YtnlgbopdbihnjaaGreatDoor
