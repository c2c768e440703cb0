/-
  A rune's bytes and the first rune of a row of bytes: one is the other's way back. And what is made of a whole row.
-/
import Derived.Test.YtdgepnfgjgbkoaaDoorUtfP
namespace Go.Proofs.YtdgepnfgjgbkoaaDoor

theorem u8_of (x : Int) (h0 : 0 ≤ x) (h1 : x < 256) : (x.toNat.toUInt8).toNat = x.toNat := by
  have : x.toNat < 256 := by omega
  simp
  omega
theorem u8_eq {x : Int} {b : UInt8} (h : x = (b.toNat : Int)) : x.toNat.toUInt8 = b := by
  subst h
  simp

theorem oneN_enc (r : Int) (h : isR r) (t : List UInt8) : oneN (Lib.encodeRune r ++ t) = some (r, (Lib.encodeRune r).length) := by
  obtain ⟨h0, h1, h2⟩ := h
  unfold Lib.encodeRune
  by_cases c1 : r ≤ 127
  · rw [Lib.encodeRuneZ_one h0 c1]
    simp only [List.map_cons, List.map_nil, List.cons_append, List.nil_append, oneN, u8_of r h0 (by omega), List.length_cons, List.length_nil]
    rw [if_pos (by omega)]
    simp; omega
  by_cases c2 : r ≤ 2047
  · rw [Lib.encodeRuneZ_two (by omega) c2]
    have a1 := u8_of (192 + r / 64) (by omega) (by omega)
    have a2 := u8_of (128 + r % 64) (by omega) (by omega)
    simp only [List.map_cons, List.map_nil, List.cons_append, List.nil_append, oneN, a1, a2, List.length_cons, List.length_nil]
    rw [if_neg (by omega), if_pos (by omega)]
    simp; omega
  by_cases c3 : r ≤ 65535
  · rw [Lib.encodeRuneZ_three (by omega)]
    have a1 := u8_of (224 + r / 4096) (by omega) (by omega)
    have a2 := u8_of (128 + r / 64 % 64) (by omega) (by omega)
    have a3 := u8_of (128 + r % 64) (by omega) (by omega)
    simp only [List.map_cons, List.map_nil, List.cons_append, List.nil_append, oneN, a1, a2, a3, List.length_cons, List.length_nil]
    rw [if_neg (by omega), if_neg (by omega), if_pos (by omega)]
    simp; omega
  · rw [Lib.encodeRuneZ_four (by omega) (by omega)]
    have a1 := u8_of (240 + r / 262144) (by omega) (by omega)
    have a2 := u8_of (128 + r / 4096 % 64) (by omega) (by omega)
    have a3 := u8_of (128 + r / 64 % 64) (by omega) (by omega)
    have a4 := u8_of (128 + r % 64) (by omega) (by omega)
    simp only [List.map_cons, List.map_nil, List.cons_append, List.nil_append, oneN, a1, a2, a3, a4, List.length_cons, List.length_nil]
    rw [if_neg (by omega), if_neg (by omega), if_neg (by omega), if_pos (by omega)]
    simp; omega

theorem oneN_is {l : List UInt8} {r : Int} {n : Nat} (h : oneN l = some (r, n)) : isR r ∧ n = (Lib.encodeRune r).length ∧ l = Lib.encodeRune r ++ l.drop n := by
  unfold oneN at h
  match l with
  | [] => simp at h
  | a :: t =>
    have ua := a.toNat_lt
    simp only at h
    by_cases ha : a.toNat < 128
    · rw [if_pos ha] at h
      injection h with h; injection h with h1 h2
      subst h2
      have e := Lib.encodeRuneZ_one (r := r) (by omega) (by omega)
      refine ⟨⟨by omega, by omega, by omega⟩, by simp [Lib.encodeRune, e], ?_⟩
      simp [Lib.encodeRune, e]
      exact (u8_eq h1.symm).symm
    rw [if_neg ha] at h
    match t with
    | [] => simp at h
    | b :: t =>
      have ub := b.toNat_lt
      simp only at h
      by_cases hb : 194 ≤ a.toNat ∧ a.toNat ≤ 223 ∧ 128 ≤ b.toNat ∧ b.toNat ≤ 191
      · rw [if_pos hb] at h
        injection h with h; injection h with h1 h2
        subst h2
        have e := Lib.encodeRuneZ_two (r := r) (by omega) (by omega)
        refine ⟨⟨by omega, by omega, by omega⟩, by simp [Lib.encodeRune, e], ?_⟩
        simp only [Lib.encodeRune, e, List.map_cons, List.map_nil, List.cons_append, List.nil_append, List.drop_succ_cons, List.drop_zero]
        rw [u8_eq (b := a) (by omega), u8_eq (b := b) (by omega)]
      rw [if_neg hb] at h
      match t with
      | [] => simp at h
      | c :: t =>
        have uc := c.toNat_lt
        simp only at h
        by_cases hc : 224 ≤ a.toNat ∧ a.toNat ≤ 239 ∧ 128 ≤ b.toNat ∧ b.toNat ≤ 191 ∧ (a.toNat = 224 → 160 ≤ b.toNat) ∧ (a.toNat = 237 → b.toNat ≤ 159) ∧ 128 ≤ c.toNat ∧ c.toNat ≤ 191
        · rw [if_pos hc] at h
          injection h with h; injection h with h1 h2
          subst h2
          have e := Lib.encodeRuneZ_three (r := r) (by omega)
          refine ⟨⟨by omega, by omega, by omega⟩, by simp [Lib.encodeRune, e], ?_⟩
          simp only [Lib.encodeRune, e, List.map_cons, List.map_nil, List.cons_append, List.nil_append, List.drop_succ_cons, List.drop_zero]
          rw [u8_eq (b := a) (by omega), u8_eq (b := b) (by omega), u8_eq (b := c) (by omega)]
        rw [if_neg hc] at h
        match t with
        | [] => simp at h
        | d :: t =>
          have ud := d.toNat_lt
          simp only at h
          by_cases hd : 240 ≤ a.toNat ∧ a.toNat ≤ 244 ∧ 128 ≤ b.toNat ∧ b.toNat ≤ 191 ∧ (a.toNat = 240 → 144 ≤ b.toNat) ∧ (a.toNat = 244 → b.toNat ≤ 143) ∧ 128 ≤ c.toNat ∧ c.toNat ≤ 191 ∧ 128 ≤ d.toNat ∧ d.toNat ≤ 191
          · rw [if_pos hd] at h
            injection h with h; injection h with h1 h2
            subst h2
            have e := Lib.encodeRuneZ_four (r := r) (by omega) (by omega)
            refine ⟨⟨by omega, by omega, by omega⟩, by simp [Lib.encodeRune, e], ?_⟩
            simp only [Lib.encodeRune, e, List.map_cons, List.map_nil, List.cons_append, List.nil_append, List.drop_succ_cons, List.drop_zero]
            rw [u8_eq (b := a) (by omega), u8_eq (b := b) (by omega), u8_eq (b := c) (by omega), u8_eq (b := d) (by omega)]
          · rw [if_neg hd] at h
            cases h

/-- The bytes of runes. -/
def encL (l : List Int) : List UInt8 := l.flatMap Lib.encodeRune
/-- The runes of a row, as far as it is well-formed. -/
def decL (l : List UInt8) : List Int :=
  match _h : oneN l with
  | none => []
  | some (r, n) => r :: decL (l.drop n)
termination_by l.length
decreasing_by have := oneN_run l r n _h; simp; omega
theorem decL_some {l : List UInt8} {r : Int} {n : Nat} (h : oneN l = some (r, n)) : decL l = r :: decL (l.drop n) := by
  rw [decL]
  split
  · rename_i h'; rw [h] at h'; cases h'
  · rename_i r' n' h'; rw [h] at h'; cases h'; rfl
theorem decL_none {l : List UInt8} (h : oneN l = none) : decL l = [] := by
  rw [decL]
  split
  · rfl
  · rename_i r' n' h'; rw [h] at h'; cases h'

/-- All of it well-formed: written again it is the row. -/
theorem encL_decL (l : List UInt8) : encL (decL l) = l.take (badU l) := by
  induction hn : l.length using Nat.strongRecOn generalizing l with
  | _ n ih =>
    cases h : oneN l with
    | none => rw [decL_none h, badU_none h]; rfl
    | some p =>
      obtain ⟨r, k⟩ := p
      obtain ⟨h1, h2, _, _⟩ := oneN_run l r k h
      obtain ⟨h3, h4, h5⟩ := oneN_is h
      rw [decL_some h, badU_some h]
      have := ih (l.drop k).length (by simp; omega) (l.drop k) rfl
      show Lib.encodeRune r ++ encL (decL (l.drop k)) = _
      rw [this]
      conv => rhs; rw [h5]
      rw [h4, List.take_length_add_append, List.drop_left]
theorem decL_encL (l : List Int) (h : ∀ r ∈ l, isR r) : decL (encL l) = l ∧ badU (encL l) = (encL l).length := by
  induction l with
  | nil => exact ⟨decL_none rfl, rfl⟩
  | cons r t ih =>
    obtain ⟨i1, i2⟩ := ih (fun x hx => h x (List.mem_cons_of_mem _ hx))
    have e : encL (r :: t) = Lib.encodeRune r ++ encL t := rfl
    have o := oneN_enc r (h r List.mem_cons_self) (encL t)
    rw [e]
    have d : (Lib.encodeRune r ++ encL t).drop (Lib.encodeRune r).length = encL t := List.drop_left
    refine ⟨?_, ?_⟩
    · rw [decL_some o, d, i1]
    · rw [badU_some o, d, i2, List.length_append]
theorem decL_isR (l : List UInt8) : ∀ r ∈ decL l, isR r := by
  induction hn : l.length using Nat.strongRecOn generalizing l with
  | _ n ih =>
    cases h : oneN l with
    | none => rw [decL_none h]; intro r hr; cases hr
    | some p =>
      obtain ⟨r, k⟩ := p
      obtain ⟨h1, h2, _, _⟩ := oneN_run l r k h
      rw [decL_some h]
      intro x hx
      rcases List.mem_cons.1 hx with rfl | hx
      · exact (oneN_is h).1
      · exact ih (l.drop k).length (by simp; omega) (l.drop k) rfl x hx
theorem decL_length (l : List UInt8) : (decL l).length ≤ l.length := by
  induction hn : l.length using Nat.strongRecOn generalizing l with
  | _ n ih =>
    cases h : oneN l with
    | none => rw [decL_none h]; simp
    | some p =>
      obtain ⟨r, k⟩ := p
      obtain ⟨h1, h2, _, _⟩ := oneN_run l r k h
      rw [decL_some h]
      have := ih (l.drop k).length (by simp; omega) (l.drop k) rfl
      simp at this ⊢
      omega

/-- The model's reading of a rune, of numbers alone. -/
def decF (f : Nat → Nat) (g : Nat → Bool) : Nat × Nat :=
  if f 0 < 0x80 then (f 0, 1)
  else if f 0 / 32 == 6 && (g 1 && f 1 / 64 == 2) then
    if (f 0 % 32) * 64 + f 1 % 64 ≥ 0x80 then ((f 0 % 32) * 64 + f 1 % 64, 2) else (Utf8.runeError, 1)
  else if f 0 / 16 == 14 && (g 1 && f 1 / 64 == 2) && (g 2 && f 2 / 64 == 2) then
    if (f 0 % 16) * 4096 + (f 1 % 64) * 64 + f 2 % 64 ≥ 0x800 && Utf8.valid ((f 0 % 16) * 4096 + (f 1 % 64) * 64 + f 2 % 64 : Nat) then ((f 0 % 16) * 4096 + (f 1 % 64) * 64 + f 2 % 64, 3) else (Utf8.runeError, 1)
  else if f 0 / 8 == 30 && (g 1 && f 1 / 64 == 2) && (g 2 && f 2 / 64 == 2) && (g 3 && f 3 / 64 == 2) then
    if (f 0 % 8) * 262144 + (f 1 % 64) * 4096 + (f 2 % 64) * 64 + f 3 % 64 ≥ 0x10000 && Utf8.valid ((f 0 % 8) * 262144 + (f 1 % 64) * 4096 + (f 2 % 64) * 64 + f 3 % 64 : Nat) then ((f 0 % 8) * 262144 + (f 1 % 64) * 4096 + (f 2 % 64) * 64 + f 3 % 64, 4) else (Utf8.runeError, 1)
  else (Utf8.runeError, 1)
theorem decode_F (s : ByteArray) (i : Nat) : Utf8.decode s i = decF (fun k => (s.get! (i + k)).toNat) (fun k => decide (i + k < s.size)) := rfl
/-- What Go's range over a text tells at a place where a rune begins. -/
theorem decode_one (s : ByteArray) (pos : Nat) (r : Int) (n : Nat) (h : oneN (s.data.toList.drop pos) = some (r, n)) : Utf8.decode s pos = (r.toNat, n) := by
  have key : ∀ (k : Nat) (x : UInt8) (t : List UInt8), s.data.toList.drop (pos + k) = x :: t → (s.get! (pos + k)).toNat = x.toNat ∧ pos + k < s.size := by
    intro k x t e
    have hlt : pos + k < s.data.toList.length := by
      have : (s.data.toList.drop (pos + k)).length = t.length + 1 := by rw [e]; rfl
      rw [List.length_drop] at this; omega
    have hx : s.data.toList[pos + k]? = some x := by
      have : (s.data.toList.drop (pos + k))[0]? = some x := by rw [e]; rfl
      rw [List.getElem?_drop] at this
      simpa using this
    have hs : pos + k < s.size := by simpa using hlt
    refine ⟨?_, hs⟩
    have : s.get! (pos + k) = x := by
      show s.data[pos + k]! = x
      have h2 : s.data[pos + k]? = some x := by rw [← Array.getElem?_toList]; exact hx
      simp [getElem!_def, h2]
    rw [this]
  have dr : ∀ (k : Nat) (x : UInt8) (t : List UInt8), s.data.toList.drop (pos + k) = x :: t → s.data.toList.drop (pos + (k + 1)) = t := by
    intro k x t e
    have : (s.data.toList.drop (pos + k)).drop 1 = t := by rw [e]; rfl
    rw [List.drop_drop] at this
    exact this
  obtain ⟨l, hl⟩ : ∃ l, s.data.toList.drop pos = l := ⟨_, rfl⟩
  rw [hl] at h
  have E0 : s.data.toList.drop (pos + 0) = l := hl
  clear hl
  unfold oneN at h
  rw [decode_F]
  have key' : ∀ (k : Nat) (x : UInt8) (t : List UInt8), s.data.toList.drop (pos + k) = x :: t → (fun k => (s.get! (pos + k)).toNat) k = x.toNat ∧ (fun k => decide (pos + k < s.size)) k = true := fun k x t e => ⟨(key k x t e).1, decide_eq_true (key k x t e).2⟩
  generalize (fun k => (s.get! (pos + k)).toNat) = f at key' ⊢
  generalize (fun k => decide (pos + k < s.size)) = g at key' ⊢
  unfold decF
  match l with
  | [] => simp at h
  | a :: t =>
    have ua := a.toNat_lt
    obtain ⟨k0, _⟩ := key' 0 a t E0
    have E1 := dr 0 a t E0
    simp only [k0]
    simp only at h
    by_cases ha : a.toNat < 128
    · rw [if_pos ha] at h
      injection h with h; injection h with h1 h2
      subst h2
      rw [if_pos ha, ← h1]; simp
    rw [if_neg ha] at h ⊢
    match t with
    | [] => simp at h
    | b :: t =>
      have ub := b.toNat_lt
      obtain ⟨k1, s1⟩ := key' 1 b t E1
      have E2 := dr 1 b t E1
      simp only [k1, s1]
      simp only at h
      by_cases hb : 194 ≤ a.toNat ∧ a.toNat ≤ 223 ∧ 128 ≤ b.toNat ∧ b.toNat ≤ 191
      · rw [if_pos hb] at h
        injection h with h; injection h with h1 h2
        subst h2
        have c1 : a.toNat / 32 = 6 := by omega
        have c2 : b.toNat / 64 = 2 := by omega
        simp only [c1, c2, beq_self_eq_true, Bool.and_self, if_true]
        rw [if_pos (by omega)]
        congr 1; omega
      rw [if_neg hb] at h
      match t with
      | [] => simp at h
      | c :: t =>
        have uc := c.toNat_lt
        obtain ⟨k2, s2⟩ := key' 2 c t E2
        have E3 := dr 2 c t E2
        simp only [k2, s2]
        simp only at h
        by_cases hc : 224 ≤ a.toNat ∧ a.toNat ≤ 239 ∧ 128 ≤ b.toNat ∧ b.toNat ≤ 191 ∧ (a.toNat = 224 → 160 ≤ b.toNat) ∧ (a.toNat = 237 → b.toNat ≤ 159) ∧ 128 ≤ c.toNat ∧ c.toNat ≤ 191
        · rw [if_pos hc] at h
          injection h with h; injection h with h1 h2
          subst h2
          have c0 : (a.toNat / 32 == 6) = false := by simp; omega
          have c1 : a.toNat / 16 = 14 := by omega
          have c2 : b.toNat / 64 = 2 := by omega
          have c3 : c.toNat / 64 = 2 := by omega
          simp only [c0, c1, c2, c3, beq_self_eq_true, Bool.and_self, Bool.false_and, if_true, Bool.false_eq_true, if_false]
          have hv : Utf8.valid ((a.toNat % 16 * 4096 + b.toNat % 64 * 64 + c.toNat % 64 : Nat) : Int) = true := by
            unfold Utf8.valid
            simp
            omega
          have hg : (decide (a.toNat % 16 * 4096 + b.toNat % 64 * 64 + c.toNat % 64 ≥ 2048) && true) = true := by rw [Bool.and_true]; exact decide_eq_true (by omega)
          rw [hv, hg, if_pos rfl]
          refine Prod.ext ?_ rfl
          show a.toNat % 16 * 4096 + b.toNat % 64 * 64 + c.toNat % 64 = r.toNat
          omega
        rw [if_neg hc] at h
        match t with
        | [] => simp at h
        | d :: t =>
          have ud := d.toNat_lt
          obtain ⟨k3, s3⟩ := key' 3 d t E3
          simp only [k3, s3]
          simp only at h
          by_cases hd : 240 ≤ a.toNat ∧ a.toNat ≤ 244 ∧ 128 ≤ b.toNat ∧ b.toNat ≤ 191 ∧ (a.toNat = 240 → 144 ≤ b.toNat) ∧ (a.toNat = 244 → b.toNat ≤ 143) ∧ 128 ≤ c.toNat ∧ c.toNat ≤ 191 ∧ 128 ≤ d.toNat ∧ d.toNat ≤ 191
          · rw [if_pos hd] at h
            injection h with h; injection h with h1 h2
            subst h2
            have c0 : (a.toNat / 32 == 6) = false := by simp; omega
            have c0' : (a.toNat / 16 == 14) = false := by simp; omega
            have c1 : a.toNat / 8 = 30 := by omega
            have c2 : b.toNat / 64 = 2 := by omega
            have c3 : c.toNat / 64 = 2 := by omega
            have c4 : d.toNat / 64 = 2 := by omega
            simp only [c0, c0', c1, c2, c3, c4, beq_self_eq_true, Bool.and_self, Bool.false_and, if_true, Bool.false_eq_true, if_false]
            have hv : Utf8.valid ((a.toNat % 8 * 262144 + b.toNat % 64 * 4096 + c.toNat % 64 * 64 + d.toNat % 64 : Nat) : Int) = true := by
              unfold Utf8.valid
              simp
              omega
            have hg : (decide (a.toNat % 8 * 262144 + b.toNat % 64 * 4096 + c.toNat % 64 * 64 + d.toNat % 64 ≥ 65536) && true) = true := by rw [Bool.and_true]; exact decide_eq_true (by omega)
            rw [hv, hg, if_pos rfl]
            refine Prod.ext ?_ rfl
            show a.toNat % 8 * 262144 + b.toNat % 64 * 4096 + c.toNat % 64 * 64 + d.toNat % 64 = r.toNat
            omega
          · rw [if_neg hd] at h
            cases h
end Go.Proofs.YtdgepnfgjgbkoaaDoor
