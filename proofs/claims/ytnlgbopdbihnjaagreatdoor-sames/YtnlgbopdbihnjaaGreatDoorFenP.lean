/-
  The document's Within and PrintV6 in plain words; no Go in sight.
-/
import Derived.Test.YtnlgbopdbihnjaaGreatDoorDmN
import Derived.Test.YtnlgbopdbihnjaaGreatDoorRc8
namespace Go.Proofs.YtnlgbopdbihnjaaGreatDoor

/-- One bit of an address. -/
def bitN (a : List Nat) (i : Nat) : Nat := a.getD (i / 8) 0 / 2 ^ (7 - i % 8) % 2
theorem div_bits (x y : Nat) (hx : x < 256) (hy : y < 256) : ∀ m, m ≤ 8 → (x / 2 ^ (8 - m) = y / 2 ^ (8 - m) ↔ ∀ t, t < m → x / 2 ^ (7 - t) % 2 = y / 2 ^ (7 - t) % 2)
  | 0, _ => by
    rw [Nat.div_eq_of_lt (by simpa using hx), Nat.div_eq_of_lt (by simpa using hy)]
    simp
  | m + 1, hm => by
    have ih := div_bits x y hx hy m (by omega)
    have e : 2 ^ (8 - m) = 2 ^ (7 - m) * 2 := by rw [show 8 - m = 7 - m + 1 from by omega, Nat.pow_succ]
    rw [e, ← Nat.div_div_eq_div_mul, ← Nat.div_div_eq_div_mul] at ih
    rw [show 8 - (m + 1) = 7 - m from by omega]
    constructor
    · intro h t ht
      rcases Nat.lt_or_ge t m with h' | h'
      · exact ih.1 (by rw [h]) t h'
      · obtain rfl : t = m := by omega
        rw [h]
    · intro h
      have h1 := ih.2 fun t ht => h t (by omega)
      have h2 := h m (by omega)
      omega
theorem cutGo_iff : ∀ (a b : List Nat) (i : Nat) (bits : Int), a.length = b.length → (cutGo i bits a = cutGo i bits b ↔ ∀ j, j < a.length → cutB (i + j) bits (a.getD j 0) = cutB (i + j) bits (b.getD j 0))
  | [], [], i, bits, _ => by simp [cutGo]
  | [], y :: b, i, bits, h => by simp at h
  | x :: a, [], i, bits, h => by simp at h
  | x :: a, y :: b, i, bits, h => by
    have ih := cutGo_iff a b (i + 1) bits (by simpa using h)
    rw [cutGo, cutGo, List.cons_eq_cons, ih]
    constructor
    · rintro ⟨h1, h2⟩ j hj
      cases j with
      | zero => exact h1
      | succ j =>
        have := h2 j (by simpa using hj)
        rw [show i + 1 + j = i + (j + 1) from by omega] at this
        simpa using this
    · intro h
      refine ⟨by simpa using h 0 (by simp), fun j hj => ?_⟩
      have := h (j + 1) (by simpa using hj)
      rw [show i + 1 + j = i + (j + 1) from by omega]
      simpa using this
theorem getD_lt {a : List Nat} (ha : ∀ x ∈ a, x < 256) (j : Nat) : a.getD j 0 < 256 := by
  rw [List.getD_eq_getElem?_getD]
  cases h : a[j]? with
  | none => decide
  | some x => exact ha x (List.mem_of_getElem? h)
theorem bits_cut (a b : List Nat) (n : Nat) (ha : a.length = 16) (hb : b.length = 16) (la : ∀ x ∈ a, x < 256) (lb : ∀ x ∈ b, x < 256) (hn : n ≤ 128) : (∀ i, i < n → bitN a i = bitN b i) ↔ cutGo 0 n a = cutGo 0 n b := by
  rw [cutGo_iff a b 0 n (by rw [ha, hb])]
  constructor
  · intro h j hj
    rw [Nat.zero_add, cut_iff]
    refine (div_bits _ _ (getD_lt la j) (getD_lt lb j) _ (by omega)).2 fun t ht => ?_
    have := h (8 * j + t) (by omega)
    unfold bitN at this
    rw [show (8 * j + t) / 8 = j from by omega, show (8 * j + t) % 8 = t from by omega] at this
    exact this
  · intro h i hi
    have := h (i / 8) (by omega)
    rw [Nat.zero_add, cut_iff] at this
    exact (div_bits _ _ (getD_lt la _) (getD_lt lb _) _ (by omega)).1 this (i % 8) (by omega)

/-- A number's digits, as the document writes them. -/
def digF : Nat → Nat → Nat → List UInt8
  | 0, b, n => [hexC (n % b)]
  | f + 1, b, n => if n < b then [hexC (n % b)] else digF f b (n / b) ++ [hexC (n % b)]
theorem digF_hex : ∀ f n, digF f 16 n = hexF f n
  | 0, n => rfl
  | f + 1, n => by
    rw [digF, hexF]
    split
    · rw [Nat.mod_eq_of_lt (by assumption)]
    · rw [digF_hex f]
theorem digF_dec : ∀ n : Fin 256, digF 16 10 n.val = decD n.val := by decide +kernel
theorem hexD_nought (n : Nat) (hn : n < 65536) : hexD n = [48] ↔ n = 0 := by
  constructor
  · intro h
    unfold hexD at h
    rw [hexF] at h
    split at h
    · rename_i h16
      have : ∀ m : Fin 16, [hexC m.val] = [48] → m.val = 0 := by decide +kernel
      exact this ⟨n, h16⟩ h
    · have h1 : ∀ f m, (hexF f m).length ≠ 0 := by
        intro f m
        cases f with
        | zero => simp [hexF]
        | succ f => rw [hexF]; split <;> simp
      have h2 := congrArg List.length h
      rw [List.length_append] at h2
      simp at h2
      exact absurd (by rw [h2]; rfl) (h1 15 (n / 16))
  · rintro rfl
    decide +kernel

/-- The row of noughts that is left out, as the program and as the document seek it. -/
def zrB : Nat → Nat → Nat → Nat → List Bool → Nat × Nat
  | _, _, f, t, [] => (f, t)
  | i, b, f, t, x :: r =>
    if i + 1 - (if x = true then b else i + 1) > t - f then zrB (i + 1) (if x = true then b else i + 1) (if x = true then b else i + 1) (i + 1) r
    else zrB (i + 1) (if x = true then b else i + 1) f t r
theorem zr_zrB : ∀ (L : List (List UInt8)) (i b f t : Nat), zrGo i b f t L = zrB i b f t (L.map fun x => decide (x = [48]))
  | [], _, _, _, _ => rfl
  | x :: r, i, b, f, t => by
    rw [zrGo, List.map_cons, zrB]
    have e : (if x ≠ [48] then i + 1 else b) = (if decide (x = [48]) = true then b else i + 1) := by
      by_cases h : x = [48]
      · rw [if_neg (fun h' => h' h), if_pos (decide_eq_true h)]
      · rw [if_pos h, if_neg (by rw [decide_eq_true_eq]; exact h)]
    rw [e, zr_zrB r, zr_zrB r]
def fndA (P : List Bool) (n : Nat) : Nat → Nat → Option (Nat × Nat)
  | 0, _ => none
  | c + 1, at' => if ((P.drop at').take n).all id = true then some (at', n) else fndA P n c (at' + 1)
def fndN (P : List Bool) : Nat → Nat → Option (Nat × Nat)
  | 0, _ => none
  | c + 1, n => match fndA P n (9 - n) 0 with
    | some r => some r
    | none => fndN P c (n - 1)
/-- The first of the longest rows, two of them at least. -/
def fnd (P : List Bool) : Option (Nat × Nat) := fndN P 7 8
theorem zr_fnd8 : ∀ a b c d e f g h : Bool, fnd [a, b, c, d, e, f, g, h] = (if (zrB 0 0 0 0 [a, b, c, d, e, f, g, h]).2 - (zrB 0 0 0 0 [a, b, c, d, e, f, g, h]).1 < 2 then none else some ((zrB 0 0 0 0 [a, b, c, d, e, f, g, h]).1, (zrB 0 0 0 0 [a, b, c, d, e, f, g, h]).2 - (zrB 0 0 0 0 [a, b, c, d, e, f, g, h]).1)) ∧ (zrB 0 0 0 0 [a, b, c, d, e, f, g, h]).1 ≤ (zrB 0 0 0 0 [a, b, c, d, e, f, g, h]).2 := by decide +kernel
theorem zr_fnd (P : List Bool) (hP : P.length = 8) : fnd P = (if (zrB 0 0 0 0 P).2 - (zrB 0 0 0 0 P).1 < 2 then none else some ((zrB 0 0 0 0 P).1, (zrB 0 0 0 0 P).2 - (zrB 0 0 0 0 P).1)) ∧ (zrB 0 0 0 0 P).1 ≤ (zrB 0 0 0 0 P).2 := by
  match P, hP with
  | [a, b, c, d, e, f, g, h], _ => exact zr_fnd8 a b c d e f g h
/-- The document's PrintV6 of groups. -/
def pr6D (l : List Nat) : List UInt8 := match fnd (l.map fun n => decide (n = 0)) with
  | none => joinL [58] (l.map hexD)
  | some (at', n) => joinL [58] ((l.take at').map hexD) ++ [58, 58] ++ joinL [58] ((l.drop (at' + n)).map hexD)
theorem grpsOf_len : ∀ a : List Nat, (grpsOf a).length = a.length / 2
  | [] => rfl
  | [_] => by simp [grpsOf]
  | a :: b :: r => by rw [grpsOf, List.length_cons, grpsOf_len r]; simp; omega
theorem grpsOf_lt : ∀ a : List Nat, (∀ x ∈ a, x < 256) → ∀ n ∈ grpsOf a, n < 65536
  | [], _, n, h => by cases h
  | [_], _, n, h => by cases h
  | a :: b :: r, ha, n, h => by
    rw [grpsOf, List.mem_cons] at h
    rcases h with rfl | h
    · have := ha a (by simp)
      have := ha b (by simp)
      omega
    · exact grpsOf_lt r (fun x hx => ha x (by simp [hx])) n h
theorem pr6D_is (a : List Nat) (ha : a.length = 16) (la : ∀ x ∈ a, x < 256) : pr6D (grpsOf a) = print6 a := by
  have hl : (grpsOf a).length = 8 := by rw [grpsOf_len, ha]
  have he : (grpsOf a).map (fun n => decide (n = 0)) = ((grpsOf a).map hexD).map fun x => decide (x = [48]) := by
    rw [List.map_map]
    refine List.map_congr_left fun n hn => ?_
    show decide (n = 0) = decide (hexD n = [48])
    rw [Bool.eq_iff_iff, decide_eq_true_eq, decide_eq_true_eq, hexD_nought n (grpsOf_lt a la n hn)]
  have hz : zeros ((grpsOf a).map hexD) = zrB 0 0 0 0 ((grpsOf a).map fun n => decide (n = 0)) := by
    unfold zeros
    rw [zr_zrB, ← he]
  obtain ⟨h1, h2⟩ := zr_fnd ((grpsOf a).map fun n => decide (n = 0)) (by rw [List.length_map, hl])
  unfold pr6D print6
  rw [h1, hz]
  generalize zrB 0 0 0 0 ((grpsOf a).map fun n => decide (n = 0)) = z at h2 ⊢
  obtain ⟨f, t⟩ := z
  dsimp only at h2 ⊢
  by_cases hlt : t - f < 2
  · rw [if_pos hlt, if_pos hlt]
  · rw [if_neg hlt, if_neg hlt]
    dsimp only
    rw [show f + (t - f) = t from by omega, List.map_take, List.map_drop]
end Go.Proofs.YtnlgbopdbihnjaaGreatDoor
/-
  The document's Wide and bit.
-/
namespace Go.Proofs.YtnlgbopdbihnjaaGreatDoor
open Go.RowKit

def asc (l : List UInt8) : Bool := l.all fun c => decide (c.toNat < 128)
set_option maxHeartbeats 1000000 in
set_option maxRecDepth 100000 in
theorem rwide_any (s : ByteArray) (w : World) (hs : s.size ≤ maxLen) : Calls Tryz.prog 58 #[.string s] w fun e w' => e = .returned (.bool (!asc s.data.toList)) ∧ w' = w := by
  unfold maxLen at hs
  go_enter Tryz.func58, Tryz.ntmps58
  go_wp2_with fail
  go_loopw [3] (fun c wr => ∃ k : Nat, k ≤ s.size ∧ c = .int .i64 k ∧ Hid (AllF (fun c => decide (c.toNat < 128)) s 0 k) ∧ Hid (wr = w)) (fun c _ => s.size - (intOf c).toNat)
  case atStart => exact ⟨0, Nat.zero_le _, rfl, AllF.none _ _ _, rfl⟩
  case round =>
    obtain ⟨k, hk, rfl, HA, HV⟩ := hrel
    obtain rfl : w = wr := HV.out.symm
    clear HV
    by_cases hlt : k < s.size
    · have hlt' : (k : Int) < (s.size : Int) := by omega
      by_cases hc : s[k].toNat < 128
      · have HN : Hid (AllF (fun c => decide (c.toNat < 128)) s 0 (k + 1)) := HA.out.step hlt (decide_eq_true hc)
        have hc' : ¬ (127 : Int) < (s[k].toNat : Int) := by omega
        clear HA hc
        go_wp2_with fail
        go_roundw
        case rel => exact ⟨k + 1, by omega, by go_num, HN, trivial⟩
        case measure => simp [intOf]; omega
      · have HT : Hid (asc s.data.toList = false) := by
          show _ = _
          unfold asc
          rw [List.all_eq_false]
          exact ⟨s[k], by rw [← get_list s k (by rw [len_list]; exact hlt)]; exact List.getElem_mem _, by simpa using hc⟩
        have hc' : (127 : Int) < (s[k].toNat : Int) := by omega
        clear HA hc
        go_wp2_with fail
        go_ret
        exact ⟨by rw [HT.out]; rfl, rfl⟩
    · have hlt' : ¬ (k : Int) < (s.size : Int) := by omega
      have HT : Hid (asc s.data.toList = true) := by
        show _ = _
        unfold asc
        rw [List.all_eq_true]
        intro c hc
        obtain ⟨j, hj, rfl⟩ := List.getElem_of_mem hc
        rw [get_list]
        exact HA.out j _ (Nat.zero_le _) (by rw [len_list] at hj; omega)
      clear HA
      go_wp2_with fail
      go_ret
      exact ⟨by rw [HT.out]; rfl, rfl⟩
set_option maxHeartbeats 1000000 in
set_option maxRecDepth 100000 in
theorem rbit_any (a : List Nat) (i : Nat) (ha : a.length = 16) (hb : ∀ x ∈ a, x < 256) (hi : i < 128) (w : World) : Calls Tryz.prog 71 #[.agg (bytesV a), .int .i64 (i : Nat)] w fun e w' => e = .returned (.int .i64 (bitN a i : Nat)) ∧ Below w.heap.size w w' := by
  have HL : Hid (Lies (w.alloc (.cells (bytesV a) 26)) w.heap.size (bytesV a) 26) := Lies.new w _ _
  have HB : Hid (Below w.heap.size w (w.alloc (.cells (bytesV a) 26))) := (Below.refl _ _).alloc (Nat.le_refl _) _
  obtain ⟨q, hq⟩ : ∃ q, q = i / 8 := ⟨_, rfl⟩
  have hc : (w.alloc (.cells (bytesV a) 26)).cell? ⟨w.heap.size, q, none⟩ = some (.int .u8 (a.getD q 0 : Nat)) := by
    rw [HL.out.cell q]
    have : q < a.length := by omega
    rw [bytesV_at a q this, List.getD_eq_getElem?_getD, List.getElem?_eq_getElem this, Option.getD_some]
  have HX : Hid (bitN a i = a.getD q 0 / 2 ^ (7 - i % 8) % 2) := by rw [hq]; rfl
  have hx : a.getD q 0 < 256 := getD_lt hb q
  generalize a.getD q 0 = x at hc HX hx
  have h1 : (i : Int).tdiv 8 = (q : Int) := by rw [Int.tdiv_eq_ediv_of_nonneg (by omega)]; omega
  have hq2 : q < 16 := by omega
  have HV : Hid (((x : Int) / 2 ^ (7 - i % 8)).tmod 2 = ((x / 2 ^ (7 - i % 8) % 2 : Nat) : Int)) := by
    show _ = _
    rw [show (x : Int) / 2 ^ (7 - i % 8) = ((x / 2 ^ (7 - i % 8) : Nat) : Int) from by simp, Int.tmod_eq_emod_of_nonneg (Int.natCast_nonneg _)]
    rfl
  clear hq
  go_enter Tryz.func71, Tryz.ntmps71
  go_wp2_with fail
  go_ret
  exact ⟨by rw [HX.out, ← HV.out]; rfl, HB.out⟩
end Go.Proofs.YtnlgbopdbihnjaaGreatDoor
/-
  The plain mathematics of counting marked places by stretches: no Go in sight.
-/
namespace Go.Proofs.YtnlgbopdbihnjaaGreatDoor

/-- The lowest bit of a number. -/
def lowb (k : Nat) : Nat := if k = 0 then 0 else if k % 2 = 1 then 1 else 2 * lowb (k / 2)
termination_by k
decreasing_by omega
theorem lowb_zero : lowb 0 = 0 := by rw [lowb]; simp
theorem lowb_odd {k : Nat} (h : k % 2 = 1) : lowb k = 1 := by rw [lowb, if_neg (by omega), if_pos h]
theorem lowb_even {k : Nat} (h : k % 2 = 0) : lowb k = 2 * lowb (k / 2) := by
  by_cases h0 : k = 0
  · subst h0; simp [lowb_zero]
  · rw [lowb, if_neg h0, if_neg (by omega)]
theorem lowb_pos {k : Nat} (h : 0 < k) : 0 < lowb k := by
  induction k using Nat.strongRecOn with
  | _ k ih =>
    by_cases h1 : k % 2 = 1
    · rw [lowb_odd h1]; omega
    · rw [lowb_even (by omega)]
      have := ih (k / 2) (by omega) (by omega)
      omega
theorem lowb_le (k : Nat) : lowb k ≤ k := by
  induction k using Nat.strongRecOn with
  | _ k ih =>
    by_cases h0 : k = 0
    · subst h0; rw [lowb_zero]; omega
    by_cases h1 : k % 2 = 1
    · rw [lowb_odd h1]; omega
    · rw [lowb_even (by omega)]
      have := ih (k / 2) (by omega)
      omega
theorem lowb_add (c : Nat) : ∀ d, 0 < d → d < lowb c → lowb (c + d) = lowb d := by
  induction c using Nat.strongRecOn with
  | _ c ih =>
    intro d h0 h1
    by_cases hc0 : c = 0
    · subst hc0; rw [Nat.zero_add]
    by_cases hc : c % 2 = 1
    · rw [lowb_odd hc] at h1; omega
    · rw [lowb_even (by omega)] at h1
      by_cases hd : d % 2 = 1
      · rw [lowb_odd hd, lowb_odd (by omega)]
      · rw [lowb_even (k := d) (by omega), lowb_even (k := c + d) (by omega), show (c + d) / 2 = c / 2 + d / 2 from by omega, ih (c / 2) (by omega) (d / 2) (by omega) (by omega)]
theorem lowb_next {c : Nat} (h : 0 < c) : 2 * lowb c ≤ lowb (c + lowb c) := by
  induction c using Nat.strongRecOn with
  | _ c ih =>
    by_cases hc : c % 2 = 1
    · rw [lowb_odd hc, lowb_even (by omega)]
      have := lowb_pos (k := (c + 1) / 2) (by omega)
      omega
    · have e := lowb_even (k := c) (by omega)
      have := ih (c / 2) (by omega) (by omega)
      have e2 := lowb_even (k := c + lowb c) (by omega)
      rw [show (c + lowb c) / 2 = c / 2 + lowb (c / 2) from by omega] at e2
      omega
theorem lowb_pow (a : Nat) : ∀ n, 2 ^ (a + 1) ∣ n → lowb (n + 2 ^ a) = 2 ^ a := by
  induction a with
  | zero =>
    intro n h
    obtain ⟨q, rfl⟩ := h
    exact lowb_odd (by omega)
  | succ a ih =>
    intro n h
    obtain ⟨q, rfl⟩ := h
    have e1 : (2 : Nat) ^ (a + 1 + 1) = 2 * 2 ^ (a + 1) := by rw [Nat.pow_succ]; omega
    have e2 : (2 : Nat) ^ (a + 1) = 2 * 2 ^ a := by rw [Nat.pow_succ]; omega
    have e3 : 2 ^ (a + 1 + 1) * q + 2 ^ (a + 1) = 2 * (2 ^ (a + 1) * q + 2 ^ a) := by rw [e1, Nat.mul_assoc]; omega
    rw [e3, lowb_even (by omega), show 2 * (2 ^ (a + 1) * q + 2 ^ a) / 2 = 2 ^ (a + 1) * q + 2 ^ a from by omega, ih _ ⟨q, rfl⟩, e2]

/-- How many are marked ahead of a place. -/
def pre (f : Nat → Int) : Nat → Int
  | 0 => 0
  | n + 1 => pre f n + f n
def put1 (f : Nat → Int) (at' : Nat) (by' : Int) : Nat → Int := fun j => if j = at' then f j + by' else f j
theorem pre_put (f : Nat → Int) (at' : Nat) (by' : Int) (n : Nat) : pre (put1 f at' by') n = pre f n + (if at' < n then by' else 0) := by
  induction n with
  | zero => simp [pre]
  | succ n ih =>
    simp only [pre, ih, put1]
    by_cases h : n = at'
    · subst h
      simp; omega
    · rw [if_neg h]
      by_cases h2 : at' < n
      · rw [if_pos h2, if_pos (by omega)]; omega
      · rw [if_neg h2, if_neg (by omega)]; omega
/-- What the entry at k counts. -/
def ent (f : Nat → Int) (k : Nat) : Int := pre f k - pre f (k - lowb k)
theorem ent_cover (f : Nat → Int) (at' : Nat) (by' : Int) (k : Nat) (h1 : k - lowb k ≤ at') (h2 : at' < k) : ent (put1 f at' by') k = ent f k + by' := by
  simp only [ent, pre_put]
  rw [if_pos h2, if_neg (by omega)]; omega
theorem ent_other (f : Nat → Int) (at' : Nat) (by' : Int) (k : Nat) (h : k ≤ at' ∨ at' < k - lowb k) : ent (put1 f at' by') k = ent f k := by
  simp only [ent, pre_put]
  have := lowb_le k
  rcases h with h | h
  · rw [if_neg (by omega), if_neg (by omega)]; omega
  · rw [if_pos (by omega), if_pos (by omega)]; omega
theorem cover_start (j : Nat) : (j + 1) - lowb (j + 1) ≤ j ∧ j < j + 1 := by
  have := lowb_pos (k := j + 1) (by omega)
  omega
theorem cover_next {c j : Nat} (h1 : c - lowb c ≤ j) (h2 : j < c) : (c + lowb c) - lowb (c + lowb c) ≤ j ∧ j < c + lowb c := by
  have := lowb_next (c := c) (by omega)
  omega
theorem cover_between {c k j : Nat} (h2 : j < c) (h3 : c < k) (h4 : k < c + lowb c) : j < k - lowb k := by
  have := lowb_add c (k - c) (by omega) (by omega)
  rw [show c + (k - c) = k from by omega] at this
  have := lowb_le (k - c)
  omega

theorem pre_mono (f : Nat → Int) (h : ∀ j, 0 ≤ f j) {a b : Nat} (hab : a ≤ b) : pre f a ≤ pre f b := by
  induction b with
  | zero => rw [show a = 0 from by omega]; exact Int.le_refl _
  | succ b ih =>
    by_cases e : a = b + 1
    · rw [e]; exact Int.le_refl _
    · have := ih (by omega)
      have := h b
      simp only [pre]; omega
theorem pre_le (f : Nat → Int) (h : ∀ j, f j ≤ 1) (n : Nat) : pre f n ≤ n := by
  induction n with
  | zero => simp [pre]
  | succ n ih => have := h n; simp only [pre]; omega
theorem pre_ext (f g : Nat → Int) (n : Nat) (h : ∀ j, j < n → f j = g j) : pre f n = pre g n := by
  induction n with
  | zero => rfl
  | succ n ih => simp only [pre]; rw [ih (fun j hj => h j (by omega)), h n (by omega)]
theorem pre_one (n : Nat) : pre (fun _ => 1) n = n := by
  induction n with
  | zero => rfl
  | succ n ih => simp only [pre, ih]; omega
theorem pre_zero (n : Nat) : pre (fun _ => 0) n = 0 := by
  induction n with
  | zero => rfl
  | succ n ih => simp only [pre, ih]; omega
theorem ent_one (k : Nat) : ent (fun _ => 1) k = lowb k := by
  have := lowb_le k
  simp only [ent, pre_one]; omega
theorem ent_zero (k : Nat) : ent (fun _ => 0) k = 0 := by simp [ent, pre_zero]
theorem ent_range (f : Nat → Int) (h0 : ∀ j, 0 ≤ f j) (h1 : ∀ j, f j ≤ 1) (k : Nat) : 0 ≤ ent f k ∧ ent f k ≤ k := by
  have a := pre_mono f h0 (a := k - lowb k) (b := k) (by omega)
  have b := pre_le f h1 k
  have c := pre_mono f h0 (a := 0) (b := k - lowb k) (by omega)
  simp only [pre] at c
  simp only [ent]; omega

/-- The search goes down by halves. -/
def FindAt (f : Nat → Int) (N : Nat) (n0 : Int) (at' w : Nat) : Prop :=
  at' ≤ N ∧ pre f at' ≤ n0 ∧ ((w = 0 ∧ (N < at' + 1 ∨ n0 < pre f (at' + 1))) ∨ (∃ a, w = 2 ^ a ∧ 2 ^ (a + 1) ∣ at' ∧ (N < at' + 2 ^ (a + 1) ∨ n0 < pre f (at' + 2 ^ (a + 1)))))
theorem find_entry {f : Nat → Int} {N : Nat} {n0 : Int} {at' w : Nat} (h : FindAt f N n0 at' w) (hw : 0 < w) : ent f (at' + w) = pre f (at' + w) - pre f at' := by
  obtain ⟨_, _, ⟨h, _⟩ | ⟨a, rfl, hd, _⟩⟩ := h
  · omega
  · simp only [ent]
    rw [lowb_pow a at' hd, Nat.add_sub_cancel]
theorem find_go {f : Nat → Int} {N : Nat} {n0 : Int} {at' w : Nat} (h : FindAt f N n0 at' w) (hw : 0 < w) (hN : at' + w ≤ N) (hp : pre f (at' + w) ≤ n0) : FindAt f N n0 (at' + w) (w / 2) := by
  obtain ⟨_, _, ⟨h, _⟩ | ⟨a, rfl, hd, hl⟩⟩ := h
  · omega
  · have e : (2 : Nat) ^ (a + 1) = 2 * 2 ^ a := by rw [Nat.pow_succ]; omega
    refine ⟨hN, hp, ?_⟩
    cases a with
    | zero =>
      left
      refine ⟨by simp, ?_⟩
      simpa using hl
    | succ a =>
      right
      have e2 : (2 : Nat) ^ (a + 1) = 2 * 2 ^ a := by rw [Nat.pow_succ]; omega
      refine ⟨a, by omega, ?_, ?_⟩
      · exact Nat.dvd_add (Nat.dvd_trans (Nat.pow_dvd_pow 2 (by omega)) hd) (Nat.dvd_refl _)
      · rw [show at' + 2 ^ (a + 1) + 2 ^ (a + 1) = at' + 2 ^ (a + 1 + 1) from by omega]; exact hl
theorem find_stay {f : Nat → Int} {N : Nat} {n0 : Int} {at' w : Nat} (h : FindAt f N n0 at' w) (hw : 0 < w) (hp : N < at' + w ∨ n0 < pre f (at' + w)) : FindAt f N n0 at' (w / 2) := by
  obtain ⟨h1, h2, ⟨h, _⟩ | ⟨a, rfl, hd, hl⟩⟩ := h
  · omega
  · refine ⟨h1, h2, ?_⟩
    cases a with
    | zero => left; exact ⟨by simp, by simpa using hp⟩
    | succ a =>
      right
      have e2 : (2 : Nat) ^ (a + 1) = 2 * 2 ^ a := by rw [Nat.pow_succ]; omega
      exact ⟨a, by omega, Nat.dvd_trans (Nat.pow_dvd_pow 2 (by omega)) hd, hp⟩
theorem find_end {f : Nat → Int} {N : Nat} {n0 : Int} {at' : Nat} (h : FindAt f N n0 at' 0) (h1 : ∀ j, f j ≤ 1) (h0 : ∀ j, 0 ≤ f j) (hn : n0 < pre f N) : at' < N ∧ f at' = 1 ∧ pre f at' = n0 := by
  obtain ⟨g1, g2, ⟨_, g3⟩ | ⟨a, g, _⟩⟩ := h
  · have : at' < N := by
      by_cases e : at' = N
      · subst e; omega
      · omega
    have g4 : n0 < pre f (at' + 1) := by
      rcases g3 with g3 | g3
      · omega
      · exact g3
    simp only [pre] at g4
    have a1 := h1 at'
    have a0 := h0 at'
    exact ⟨this, by omega, by omega⟩
  · have : 0 < 2 ^ a := Nat.two_pow_pos a
    omega

/-- Places of which some are taken, the others filled from a list, in order. -/
def fill : List (Option Int) → List Int → List Int
  | [], _ => []
  | some r :: t, l => r :: fill t l
  | none :: t, x :: l => x :: fill t l
  | none :: t, [] => 0 :: fill t []
/-- Is a place free? -/
def free (s : List (Option Int)) (j : Nat) : Int := if s[j]? = some none then 1 else 0
theorem free_cons (o : Option Int) (s : List (Option Int)) (n : Nat) : pre (free (o :: s)) (n + 1) = (if o = none then 1 else 0) + pre (free s) n := by
  induction n with
  | zero => simp [pre, free]
  | succ n ih =>
    rw [pre, ih, pre]
    have : free (o :: s) (n + 1) = free s n := by simp [free]
    omega
theorem fill_insert (s : List (Option Int)) : ∀ (l : List Int) (p at' : Nat) (r : Int), p ≤ l.length → s[at']? = some none → pre (free s) at' = p → fill s (l.insertIdx p r) = fill (s.set at' (some r)) l := by
  induction s with
  | nil => intro l p at' r _ h _; simp at h
  | cons o s ih =>
    intro l p at' r hp h1 h2
    cases at' with
    | zero =>
      simp at h1
      subst h1
      simp only [pre] at h2
      have : p = 0 := by omega
      subst this
      simp [fill, List.insertIdx_zero]
    | succ at' =>
      rw [free_cons] at h2
      simp at h1
      cases o with
      | none =>
        simp at h2
        obtain ⟨p, rfl⟩ : ∃ q, p = q + 1 := ⟨p - 1, by
          have := pre_mono (free s) (fun j => by unfold free; split <;> omega) (a := 0) (b := at') (by omega)
          simp only [pre] at this
          omega⟩
        cases l with
        | nil => simp at hp
        | cons x l =>
          simp only [List.insertIdx_succ_cons, List.set_cons_succ, fill]
          rw [ih l p at' r (by simpa using hp) h1 (by omega)]
      | some y =>
        simp at h2
        simp only [List.set_cons_succ]
        cases hl : l.insertIdx p r with
        | nil =>
          have := congrArg List.length hl
          rw [List.length_insertIdx_of_le_length hp] at this
          simp at this
        | cons z zs =>
          simp only [fill]
          rw [← hl, ih l p at' r hp h1 (by omega)]
theorem free_set (s : List (Option Int)) (at' : Nat) (r : Int) (h : s[at']? = some none) : ∀ j, free (s.set at' (some r)) j = put1 (free s) at' (-1) j := by
  intro j
  unfold free put1
  by_cases e : j = at'
  · subst e
    have hlt := (List.getElem?_eq_some_iff.1 h).1
    rw [if_pos rfl, List.getElem?_set_self hlt, if_neg (by simp)]
    show 0 = (if s[j]? = some none then (1 : Int) else 0) + -1
    rw [h, if_pos rfl]
    omega
  · rw [if_neg e, List.getElem?_set_ne (Ne.symm e)]
theorem free_none (n j : Nat) (h : j < n) : free (List.replicate n none) j = 1 := by
  unfold free
  rw [List.getElem?_replicate, if_pos h, if_pos rfl]
theorem fill_none (l : List Int) : fill (List.replicate l.length none) l = l := by
  induction l with
  | nil => rfl
  | cons x l ih => simp only [List.length_cons, List.replicate_succ, fill, ih]
end Go.Proofs.YtnlgbopdbihnjaaGreatDoor
