/-
  The document's Within and PrintV6 in plain words; no Go in sight.
-/
import Derived.Test.YtnlgbopdbihnjaaGreatDoorUtfE
import Derived.Test.YtnlgbopdbihnjaaGreatDoorRc8
import Derived.Test.YtnlgbopdbihnjaaGreatDoorClo
import Derived.Test.YtnlgbopdbihnjaaGreatDoorChk
import Derived.Test.YtnlgbopdbihnjaaGreatDoorWst
import Derived.Test.YtnlgbopdbihnjaaGreatDoorPureBad
import Derived.Test.YtnlgbopdbihnjaaGreatDoorREnc
import Derived.Lib.SlBytesConst
namespace Go.Proofs.YtnlgbopdbihnjaaGreatDoor

/-- One bit of an address. -/
def bitN (a : List Nat) (i : Nat) : Nat := a.getD (i / 8) 0 / 2 ^ (7 - i % 8) % 2
theorem div_bits (x y : Nat) (hx : x < 256) (hy : y < 256) : ∀ m, m ≤ 8 → (x / 2 ^ (8 - m) = y / 2 ^ (8 - m) ↔ ∀ t, t < m → x / 2 ^ (7 - t) % 2 = y / 2 ^ (7 - t) % 2)
  | 0, _ => by
    rw [Nat.div_eq_of_lt (by simpa using hx), Nat.div_eq_of_lt (by simpa using hy)]
    simp
  | m + 1, hm => by
    have ih := div_bits x y hx hy m (by omega)
    have e : 2 ^ (8 - m) = 2 ^ (7 - m) * 2 := by rw [show 8 - m = 7 - m + 1 from by omega, Nat.pow_succ]
    rw [e, ← Nat.div_div_eq_div_mul, ← Nat.div_div_eq_div_mul] at ih
    rw [show 8 - (m + 1) = 7 - m from by omega]
    constructor
    · intro h t ht
      rcases Nat.lt_or_ge t m with h' | h'
      · exact ih.1 (by rw [h]) t h'
      · obtain rfl : t = m := by omega
        rw [h]
    · intro h
      have h1 := ih.2 fun t ht => h t (by omega)
      have h2 := h m (by omega)
      omega
theorem cutGo_iff : ∀ (a b : List Nat) (i : Nat) (bits : Int), a.length = b.length → (cutGo i bits a = cutGo i bits b ↔ ∀ j, j < a.length → cutB (i + j) bits (a.getD j 0) = cutB (i + j) bits (b.getD j 0))
  | [], [], i, bits, _ => by simp [cutGo]
  | [], y :: b, i, bits, h => by simp at h
  | x :: a, [], i, bits, h => by simp at h
  | x :: a, y :: b, i, bits, h => by
    have ih := cutGo_iff a b (i + 1) bits (by simpa using h)
    rw [cutGo, cutGo, List.cons_eq_cons, ih]
    constructor
    · rintro ⟨h1, h2⟩ j hj
      cases j with
      | zero => exact h1
      | succ j =>
        have := h2 j (by simpa using hj)
        rw [show i + 1 + j = i + (j + 1) from by omega] at this
        simpa using this
    · intro h
      refine ⟨by simpa using h 0 (by simp), fun j hj => ?_⟩
      have := h (j + 1) (by simpa using hj)
      rw [show i + 1 + j = i + (j + 1) from by omega]
      simpa using this
theorem getD_lt {a : List Nat} (ha : ∀ x ∈ a, x < 256) (j : Nat) : a.getD j 0 < 256 := by
  rw [List.getD_eq_getElem?_getD]
  cases h : a[j]? with
  | none => decide
  | some x => exact ha x (List.mem_of_getElem? h)
theorem bits_cut (a b : List Nat) (n : Nat) (ha : a.length = 16) (hb : b.length = 16) (la : ∀ x ∈ a, x < 256) (lb : ∀ x ∈ b, x < 256) (hn : n ≤ 128) : (∀ i, i < n → bitN a i = bitN b i) ↔ cutGo 0 n a = cutGo 0 n b := by
  rw [cutGo_iff a b 0 n (by rw [ha, hb])]
  constructor
  · intro h j hj
    rw [Nat.zero_add, cut_iff]
    refine (div_bits _ _ (getD_lt la j) (getD_lt lb j) _ (by omega)).2 fun t ht => ?_
    have := h (8 * j + t) (by omega)
    unfold bitN at this
    rw [show (8 * j + t) / 8 = j from by omega, show (8 * j + t) % 8 = t from by omega] at this
    exact this
  · intro h i hi
    have := h (i / 8) (by omega)
    rw [Nat.zero_add, cut_iff] at this
    exact (div_bits _ _ (getD_lt la _) (getD_lt lb _) _ (by omega)).1 this (i % 8) (by omega)

/-- A number's digits, as the document writes them. -/
def digF : Nat → Nat → Nat → List UInt8
  | 0, b, n => [hexC (n % b)]
  | f + 1, b, n => if n < b then [hexC (n % b)] else digF f b (n / b) ++ [hexC (n % b)]
theorem digF_hex : ∀ f n, digF f 16 n = hexF f n
  | 0, n => rfl
  | f + 1, n => by
    rw [digF, hexF]
    split
    · rw [Nat.mod_eq_of_lt (by assumption)]
    · rw [digF_hex f]
theorem digF_dec : ∀ n : Fin 256, digF 16 10 n.val = decD n.val := by decide +kernel
theorem hexD_nought (n : Nat) (hn : n < 65536) : hexD n = [48] ↔ n = 0 := by
  constructor
  · intro h
    unfold hexD at h
    rw [hexF] at h
    split at h
    · rename_i h16
      have : ∀ m : Fin 16, [hexC m.val] = [48] → m.val = 0 := by decide +kernel
      exact this ⟨n, h16⟩ h
    · have h1 : ∀ f m, (hexF f m).length ≠ 0 := by
        intro f m
        cases f with
        | zero => simp [hexF]
        | succ f => rw [hexF]; split <;> simp
      have h2 := congrArg List.length h
      rw [List.length_append] at h2
      simp at h2
      exact absurd (by rw [h2]; rfl) (h1 15 (n / 16))
  · rintro rfl
    decide +kernel

/-- The row of noughts that is left out, as the program and as the document seek it. -/
def zrB : Nat → Nat → Nat → Nat → List Bool → Nat × Nat
  | _, _, f, t, [] => (f, t)
  | i, b, f, t, x :: r =>
    if i + 1 - (if x = true then b else i + 1) > t - f then zrB (i + 1) (if x = true then b else i + 1) (if x = true then b else i + 1) (i + 1) r
    else zrB (i + 1) (if x = true then b else i + 1) f t r
theorem zr_zrB : ∀ (L : List (List UInt8)) (i b f t : Nat), zrGo i b f t L = zrB i b f t (L.map fun x => decide (x = [48]))
  | [], _, _, _, _ => rfl
  | x :: r, i, b, f, t => by
    rw [zrGo, List.map_cons, zrB]
    have e : (if x ≠ [48] then i + 1 else b) = (if decide (x = [48]) = true then b else i + 1) := by
      by_cases h : x = [48]
      · rw [if_neg (fun h' => h' h), if_pos (decide_eq_true h)]
      · rw [if_pos h, if_neg (by rw [decide_eq_true_eq]; exact h)]
    rw [e, zr_zrB r, zr_zrB r]
def fndA (P : List Bool) (n : Nat) : Nat → Nat → Option (Nat × Nat)
  | 0, _ => none
  | c + 1, at' => if ((P.drop at').take n).all id = true then some (at', n) else fndA P n c (at' + 1)
def fndN (P : List Bool) : Nat → Nat → Option (Nat × Nat)
  | 0, _ => none
  | c + 1, n => match fndA P n (9 - n) 0 with
    | some r => some r
    | none => fndN P c (n - 1)
/-- The first of the longest rows, two of them at least. -/
def fnd (P : List Bool) : Option (Nat × Nat) := fndN P 7 8
theorem zr_fnd8 : ∀ a b c d e f g h : Bool, fnd [a, b, c, d, e, f, g, h] = (if (zrB 0 0 0 0 [a, b, c, d, e, f, g, h]).2 - (zrB 0 0 0 0 [a, b, c, d, e, f, g, h]).1 < 2 then none else some ((zrB 0 0 0 0 [a, b, c, d, e, f, g, h]).1, (zrB 0 0 0 0 [a, b, c, d, e, f, g, h]).2 - (zrB 0 0 0 0 [a, b, c, d, e, f, g, h]).1)) ∧ (zrB 0 0 0 0 [a, b, c, d, e, f, g, h]).1 ≤ (zrB 0 0 0 0 [a, b, c, d, e, f, g, h]).2 := by decide +kernel
theorem zr_fnd (P : List Bool) (hP : P.length = 8) : fnd P = (if (zrB 0 0 0 0 P).2 - (zrB 0 0 0 0 P).1 < 2 then none else some ((zrB 0 0 0 0 P).1, (zrB 0 0 0 0 P).2 - (zrB 0 0 0 0 P).1)) ∧ (zrB 0 0 0 0 P).1 ≤ (zrB 0 0 0 0 P).2 := by
  match P, hP with
  | [a, b, c, d, e, f, g, h], _ => exact zr_fnd8 a b c d e f g h
/-- The document's PrintV6 of groups. -/
def pr6D (l : List Nat) : List UInt8 := match fnd (l.map fun n => decide (n = 0)) with
  | none => joinL [58] (l.map hexD)
  | some (at', n) => joinL [58] ((l.take at').map hexD) ++ [58, 58] ++ joinL [58] ((l.drop (at' + n)).map hexD)
theorem grpsOf_len : ∀ a : List Nat, (grpsOf a).length = a.length / 2
  | [] => rfl
  | [_] => by simp [grpsOf]
  | a :: b :: r => by rw [grpsOf, List.length_cons, grpsOf_len r]; simp; omega
theorem grpsOf_lt : ∀ a : List Nat, (∀ x ∈ a, x < 256) → ∀ n ∈ grpsOf a, n < 65536
  | [], _, n, h => by cases h
  | [_], _, n, h => by cases h
  | a :: b :: r, ha, n, h => by
    rw [grpsOf, List.mem_cons] at h
    rcases h with rfl | h
    · have := ha a (by simp)
      have := ha b (by simp)
      omega
    · exact grpsOf_lt r (fun x hx => ha x (by simp [hx])) n h
theorem pr6D_is (a : List Nat) (ha : a.length = 16) (la : ∀ x ∈ a, x < 256) : pr6D (grpsOf a) = print6 a := by
  have hl : (grpsOf a).length = 8 := by rw [grpsOf_len, ha]
  have he : (grpsOf a).map (fun n => decide (n = 0)) = ((grpsOf a).map hexD).map fun x => decide (x = [48]) := by
    rw [List.map_map]
    refine List.map_congr_left fun n hn => ?_
    show decide (n = 0) = decide (hexD n = [48])
    rw [Bool.eq_iff_iff, decide_eq_true_eq, decide_eq_true_eq, hexD_nought n (grpsOf_lt a la n hn)]
  have hz : zeros ((grpsOf a).map hexD) = zrB 0 0 0 0 ((grpsOf a).map fun n => decide (n = 0)) := by
    unfold zeros
    rw [zr_zrB, ← he]
  obtain ⟨h1, h2⟩ := zr_fnd ((grpsOf a).map fun n => decide (n = 0)) (by rw [List.length_map, hl])
  unfold pr6D print6
  rw [h1, hz]
  generalize zrB 0 0 0 0 ((grpsOf a).map fun n => decide (n = 0)) = z at h2 ⊢
  obtain ⟨f, t⟩ := z
  dsimp only at h2 ⊢
  by_cases hlt : t - f < 2
  · rw [if_pos hlt, if_pos hlt]
  · rw [if_neg hlt, if_neg hlt]
    dsimp only
    rw [show f + (t - f) = t from by omega, List.map_take, List.map_drop]
end Go.Proofs.YtnlgbopdbihnjaaGreatDoor
/-
  The document's Wide and bit.
-/
namespace Go.Proofs.YtnlgbopdbihnjaaGreatDoor
open Go.RowKit

def asc (l : List UInt8) : Bool := l.all fun c => decide (c.toNat < 128)
set_option maxHeartbeats 1000000 in
set_option maxRecDepth 100000 in
theorem rwide_any (s : ByteArray) (w : World) (hs : s.size ≤ maxLen) : Calls Tryz.prog 58 #[.string s] w fun e w' => e = .returned (.bool (!asc s.data.toList)) ∧ w' = w := by
  unfold maxLen at hs
  go_enter Tryz.func58, Tryz.ntmps58
  go_wp2_with fail
  go_loopw [3] (fun c wr => ∃ k : Nat, k ≤ s.size ∧ c = .int .i64 k ∧ Hid (AllF (fun c => decide (c.toNat < 128)) s 0 k) ∧ Hid (wr = w)) (fun c _ => s.size - (intOf c).toNat)
  case atStart => exact ⟨0, Nat.zero_le _, rfl, AllF.none _ _ _, rfl⟩
  case round =>
    obtain ⟨k, hk, rfl, HA, HV⟩ := hrel
    obtain rfl : w = wr := HV.out.symm
    clear HV
    by_cases hlt : k < s.size
    · have hlt' : (k : Int) < (s.size : Int) := by omega
      by_cases hc : s[k].toNat < 128
      · have HN : Hid (AllF (fun c => decide (c.toNat < 128)) s 0 (k + 1)) := HA.out.step hlt (decide_eq_true hc)
        have hc' : ¬ (127 : Int) < (s[k].toNat : Int) := by omega
        clear HA hc
        go_wp2_with fail
        go_roundw
        case rel => exact ⟨k + 1, by omega, by go_num, HN, trivial⟩
        case measure => simp [intOf]; omega
      · have HT : Hid (asc s.data.toList = false) := by
          show _ = _
          unfold asc
          rw [List.all_eq_false]
          exact ⟨s[k], by rw [← get_list s k (by rw [len_list]; exact hlt)]; exact List.getElem_mem _, by simpa using hc⟩
        have hc' : (127 : Int) < (s[k].toNat : Int) := by omega
        clear HA hc
        go_wp2_with fail
        go_ret
        exact ⟨by rw [HT.out]; rfl, rfl⟩
    · have hlt' : ¬ (k : Int) < (s.size : Int) := by omega
      have HT : Hid (asc s.data.toList = true) := by
        show _ = _
        unfold asc
        rw [List.all_eq_true]
        intro c hc
        obtain ⟨j, hj, rfl⟩ := List.getElem_of_mem hc
        rw [get_list]
        exact HA.out j _ (Nat.zero_le _) (by rw [len_list] at hj; omega)
      clear HA
      go_wp2_with fail
      go_ret
      exact ⟨by rw [HT.out]; rfl, rfl⟩
set_option maxHeartbeats 1000000 in
set_option maxRecDepth 100000 in
theorem rbit_any (a : List Nat) (i : Nat) (ha : a.length = 16) (hb : ∀ x ∈ a, x < 256) (hi : i < 128) (w : World) : Calls Tryz.prog 71 #[.agg (bytesV a), .int .i64 (i : Nat)] w fun e w' => e = .returned (.int .i64 (bitN a i : Nat)) ∧ Below w.heap.size w w' := by
  have HL : Hid (Lies (w.alloc (.cells (bytesV a) 26)) w.heap.size (bytesV a) 26) := Lies.new w _ _
  have HB : Hid (Below w.heap.size w (w.alloc (.cells (bytesV a) 26))) := (Below.refl _ _).alloc (Nat.le_refl _) _
  obtain ⟨q, hq⟩ : ∃ q, q = i / 8 := ⟨_, rfl⟩
  have hc : (w.alloc (.cells (bytesV a) 26)).cell? ⟨w.heap.size, q, none⟩ = some (.int .u8 (a.getD q 0 : Nat)) := by
    rw [HL.out.cell q]
    have : q < a.length := by omega
    rw [bytesV_at a q this, List.getD_eq_getElem?_getD, List.getElem?_eq_getElem this, Option.getD_some]
  have HX : Hid (bitN a i = a.getD q 0 / 2 ^ (7 - i % 8) % 2) := by rw [hq]; rfl
  have hx : a.getD q 0 < 256 := getD_lt hb q
  generalize a.getD q 0 = x at hc HX hx
  have h1 : (i : Int).tdiv 8 = (q : Int) := by rw [Int.tdiv_eq_ediv_of_nonneg (by omega)]; omega
  have hq2 : q < 16 := by omega
  have HV : Hid (((x : Int) / 2 ^ (7 - i % 8)).tmod 2 = ((x / 2 ^ (7 - i % 8) % 2 : Nat) : Int)) := by
    show _ = _
    rw [show (x : Int) / 2 ^ (7 - i % 8) = ((x / 2 ^ (7 - i % 8) : Nat) : Int) from by simp, Int.tmod_eq_emod_of_nonneg (Int.natCast_nonneg _)]
    rfl
  clear hq
  go_enter Tryz.func71, Tryz.ntmps71
  go_wp2_with fail
  go_ret
  exact ⟨by rw [HX.out, ← HV.out]; rfl, HB.out⟩
end Go.Proofs.YtnlgbopdbihnjaaGreatDoor
/-
  The places of the wide runes, put in one by one: no Go in sight.
-/
namespace Go.Proofs.YtnlgbopdbihnjaaGreatDoor

/-- Of two places the one that comes first. -/
def Rw2 (l : List Int) (a b : Nat) : Prop := rn l a < rn l b ∨ (rn l a = rn l b ∧ a < b)
theorem sorted_eq {R : Nat → Nat → Prop} (hirr : ∀ a, ¬ R a a) (hasym : ∀ a b, R a b → R b a → False) : ∀ (a b : List Nat), a.Pairwise R → b.Pairwise R → (∀ x, x ∈ a ↔ x ∈ b) → a = b
  | [], [], _, _, _ => rfl
  | [], y :: b, _, _, h => by have := (h y).2 (by simp); cases this
  | x :: a, [], _, _, h => by have := (h x).1 (by simp); cases this
  | x :: a, y :: b, ha, hb, h => by
    rw [List.pairwise_cons] at ha hb
    have e : x = y := by
      have h1 := (h x).1 (by simp)
      have h2 := (h y).2 (by simp)
      rw [List.mem_cons] at h1 h2
      rcases h1 with h1 | h1
      · exact h1
      · rcases h2 with h2 | h2
        · exact h2.symm
        · exact absurd (hb.1 x h1) (fun h' => hasym _ _ h' (ha.1 y h2))
    subst e
    congr 1
    refine sorted_eq hirr hasym a b ha.2 hb.2 (fun z => ?_)
    have hz := h z
    rw [List.mem_cons, List.mem_cons] at hz
    constructor
    · intro hm
      rcases hz.1 (.inr hm) with e | e
      · subst e; exact absurd (ha.1 z hm) (hirr z)
      · exact e
    · intro hm
      rcases hz.2 (.inr hm) with e | e
      · subst e; exact absurd (hb.1 z hm) (hirr z)
      · exact e
/-- What stands in the list by place k. -/
structure OrdOk (l : List Int) (k : Nat) (S : List Nat) : Prop where
  sorted : S.Pairwise (Rw2 l)
  mem : ∀ x, x ∈ S ↔ x ∈ wideK l k
theorem ordOk_start (l : List Int) : OrdOk l 0 [] := ⟨List.Pairwise.nil, fun x => by simp [wideK]⟩
theorem OrdOk.done {l : List Int} {S : List Nat} (h : OrdOk l l.length S) : S = ordW l := by
  refine sorted_eq (R := Rw2 l) (fun a h => ?_) (fun a b h1 h2 => ?_) S (ordW l) h.sorted (pairwise_ord l) (fun x => ?_)
  · unfold Rw2 at h; omega
  · unfold Rw2 at h1 h2; omega
  · rw [h.mem x]
    unfold ordW
    rw [List.mem_mergeSort]
theorem OrdOk.small {l : List Int} {k : Nat} {S : List Nat} (h : OrdOk l k S) (hr : ¬ 128 ≤ rn l k) : OrdOk l (k + 1) S :=
  ⟨h.sorted, fun x => by rw [wideK_succ, if_neg hr, List.append_nil]; exact h.mem x⟩
theorem OrdOk.lt {l : List Int} {k : Nat} {S : List Nat} (h : OrdOk l k S) {x : Nat} (hx : x ∈ S) : x < k ∧ 128 ≤ rn l x := wideK_lt ((h.mem x).1 hx)
theorem OrdOk.put {l : List Int} {k at' : Nat} {S : List Nat} (h : OrdOk l k S) (hr : 128 ≤ rn l k) (ha : at' ≤ S.length) (hhi : ∀ j (hj : j < S.length), at' ≤ j → rn l k < rn l S[j]) (hlo : at' = 0 ∨ ∃ hj : at' - 1 < S.length, rn l S[at' - 1] ≤ rn l k) :
    OrdOk l (k + 1) (S.take at' ++ [k] ++ S.drop at') := by
  have hlow : ∀ x ∈ S.take at', rn l x ≤ rn l k := by
    intro x hx
    obtain ⟨j, hj, rfl⟩ := List.getElem_of_mem hx
    rw [List.length_take] at hj
    rw [List.getElem_take]
    rcases hlo with h0 | ⟨hj', hle⟩
    · omega
    · rcases Nat.lt_or_ge j (at' - 1) with h1 | h1
      · have := List.pairwise_iff_getElem.1 h.sorted j (at' - 1) (by omega) hj' h1
        unfold Rw2 at this
        omega
      · have e : j = at' - 1 := by omega
        subst e
        exact hle
  have hhigh : ∀ x ∈ S.drop at', rn l k < rn l x := by
    intro x hx
    obtain ⟨j, hj, rfl⟩ := List.getElem_of_mem hx
    rw [List.length_drop] at hj
    rw [List.getElem_drop]
    exact hhi _ _ (by omega)
  have hS := h.sorted
  rw [← List.take_append_drop at' S, List.pairwise_append] at hS
  refine ⟨?_, fun x => ?_⟩
  · rw [List.append_assoc, List.pairwise_append]
    refine ⟨hS.1, ?_, ?_⟩
    · rw [List.singleton_append, List.pairwise_cons]
      exact ⟨fun x hx => .inl (hhigh x hx), hS.2.1⟩
    · intro x hx y hy
      rw [List.singleton_append, List.mem_cons] at hy
      rcases hy with rfl | hy
      · have := hlow x hx
        have := (h.lt (List.mem_of_mem_take hx)).1
        unfold Rw2
        omega
      · exact hS.2.2 x hx y hy
  · rw [wideK_succ, if_pos hr, List.mem_append, List.mem_append, List.mem_append, ← h.mem x]
    conv => rhs; rw [← List.take_append_drop at' S, List.mem_append]
    constructor
    · rintro ((h | h) | h)
      · exact .inl (.inl h)
      · exact .inr h
      · exact .inl (.inr h)
    · rintro ((h | h) | h)
      · exact .inl (.inl h)
      · exact .inr h
      · exact .inl (.inr h)
end Go.Proofs.YtnlgbopdbihnjaaGreatDoor
/-
  Punycode read backwards, as a recursion over the bytes: what both sides reckon.
-/
namespace Go.Proofs.YtnlgbopdbihnjaaGreatDoor

/-- What a byte says as a digit. -/
def wth (b : UInt8) : Option Nat :=
  if 48 ≤ b.toNat ∧ b.toNat ≤ 57 then some (b.toNat - 48 + 26)
  else if 97 ≤ b.toNat ∧ b.toNat ≤ 122 then some (b.toNat - 97)
  else if 65 ≤ b.toNat ∧ b.toNat ≤ 90 then some (b.toNat - 65)
  else none
theorem wth_lt {b : UInt8} {v : Nat} (h : wth b = some v) : v < 36 := by
  unfold wth at h
  split at h
  · injection h with h; omega
  · split at h
    · injection h with h; omega
    · split at h
      · injection h with h; omega
      · cases h
/-- A step is read: an error and its place, or the step and the place behind it. -/
def rdS (bias : Nat) : List UInt8 → Nat → Nat → Nat → Nat → (Nat × Nat) ⊕ (Nat × Nat)
  | [], _, at', _, _ => .inl (51, at')
  | b :: t, i, at', sum, wt => match wth b with
    | none => .inl (51, at')
    | some v =>
      if 2147483647 < sum + v * wt then .inl (52, at')
      else if v < bnd i bias then .inr (sum + v * wt, at' + 1)
      else rdS bias t (i + 1) (at' + 1) (sum + v * wt) (wt * (36 - bnd i bias))
theorem rdS_some {bias : Nat} : ∀ {l : List UInt8} {i at' sum wt s b : Nat}, rdS bias l i at' sum wt = .inr (s, b) → at' < b ∧ b ≤ at' + l.length ∧ s ≤ 2147483647
  | [], _, _, _, _, _, _, h => by simp [rdS] at h
  | c :: t, i, at', sum, wt, s, b, h => by
    unfold rdS at h
    split at h
    · cases h
    · rename_i v hv
      split at h
      · cases h
      · split at h
        · injection h with h
          injection h with h1 h2
          simp only [List.length_cons]
          omega
        · have := rdS_some h
          simp only [List.length_cons]
          omega
/-- The last mark ahead of a place; below 0: none. -/
def lastI (l : List UInt8) : Nat → Int
  | 0 => -1
  | k + 1 => if l[k]? = some 45 then k else lastI l k
theorem lastI_lt (l : List UInt8) : ∀ k, lastI l k < k ∧ -1 ≤ lastI l k
  | 0 => by simp [lastI]
  | k + 1 => by
    have := lastI_lt l k
    unfold lastI
    split <;> omega
/-- How many bytes stand ahead of the mark, and where the digits begin. -/
def mrkN (l : List UInt8) : Nat := if 0 < lastI l l.length then (lastI l l.length).toNat else 0
def mrkS (l : List UInt8) : Nat := if 0 < lastI l l.length then (lastI l l.length).toNat + 1 else 0
theorem mrkN_le (l : List UInt8) : mrkN l ≤ l.length := by
  have := lastI_lt l l.length
  unfold mrkN
  split <;> omega
theorem mrkS_le (l : List UInt8) : mrkS l ≤ l.length := by
  have := lastI_lt l l.length
  unfold mrkS
  split <;> omega
/-- The wide runes and their places, from a place on. -/
def unL (l : List UInt8) : Nat → Nat → Int → Nat → Nat → Nat → Bool → (Nat × Nat) ⊕ List (Int × Nat)
  | 0, _, _, _, _, _, _ => .inr []
  | fuel + 1, at', n, i, h, bias, first =>
    if l.length ≤ at' then .inr []
    else match rdS bias (l.drop at') 0 at' 0 1 with
      | .inl e => .inl e
      | .inr (s, b) =>
        if isR (n + ((i + s) / (h + 1) : Nat)) then
          match unL l fuel b (n + ((i + s) / (h + 1) : Nat)) ((i + s) % (h + 1) + 1) (h + 1) (biasB s (h + 1) first) false with
          | .inl e => .inl e
          | .inr ps => .inr ((n + ((i + s) / (h + 1) : Nat), (i + s) % (h + 1)) :: ps)
        else .inl (50, b - 1)
/-- The first byte that is not below 128. -/
def hiN : List UInt8 → Nat
  | [] => 0
  | b :: t => if b.toNat < 128 then hiN t + 1 else 0
theorem hiN_le (l : List UInt8) : hiN l ≤ l.length := by
  induction l with
  | nil => exact Nat.le_refl _
  | cons b t ih => simp only [hiN]; split <;> simp <;> omega
/-- Wide runes are put to their places, one behind the other. -/
def insAll (base : List Int) (ps : List (Int × Nat)) : List Int := ps.foldl (fun L x => L.insertIdx x.2 x.1) base
/-- Each place is within the list as it is by then. -/
def PsOk (h : Nat) : List (Int × Nat) → Prop
  | [] => True
  | x :: t => x.2 ≤ h ∧ 128 ≤ x.1 ∧ x.1 ≤ 1114111 ∧ PsOk (h + 1) t
def lowR (l : List UInt8) : List Int := l.map fun b => (b.toNat : Int)
/-- What Unpuny tells. -/
def unpD (l : List UInt8) : (Nat × Nat) ⊕ List (Int × Nat) := unL l l.length (mrkS l) 128 0 (mrkN l) 72 true
def unpT (l : List UInt8) : List Int := if hiN (l.take (mrkN l)) < mrkN l then [] else match unpD l with
  | .inl _ => []
  | .inr ps => insAll (lowR (l.take (mrkN l))) ps
def unpE (l : List UInt8) : Nat × Nat := if hiN (l.take (mrkN l)) < mrkN l then (51, hiN (l.take (mrkN l))) else match unpD l with
  | .inl e => e
  | .inr _ => (0, 0)
theorem unL_ok (l : List UInt8) : ∀ (fuel at' : Nat) (n : Int) (i h bias : Nat) (first : Bool) (ps : List (Int × Nat)), 128 ≤ n → unL l fuel at' n i h bias first = .inr ps → PsOk h ps ∧ ps.length ≤ l.length - at'
  | 0, at', n, i, h, bias, first, ps, hn, e => by
    simp only [unL] at e
    injection e with e
    subst e
    exact ⟨trivial, by simp⟩
  | fuel + 1, at', n, i, h, bias, first, ps, hn, e => by
    unfold unL at e
    split at e
    · injection e with e
      subst e
      exact ⟨trivial, by simp⟩
    · rename_i hlt
      split at e
      · cases e
      · rename_i s b hr
        split at e
        · rename_i hR
          split at e
          · cases e
          · rename_i ps' hu
            injection e with e
            subst e
            have h1 := rdS_some hr
            have hD : (0 : Int) ≤ (((i + s) / (h + 1) : Nat) : Int) := Int.natCast_nonneg _
            have hM := Nat.mod_lt (i + s) (show 0 < h + 1 by omega)
            generalize (i + s) / (h + 1) = D at *
            generalize (i + s) % (h + 1) = M at *
            obtain ⟨h2, h3⟩ := unL_ok l fuel b _ _ _ _ _ _ (by omega) hu
            rw [List.length_drop] at h1
            refine ⟨⟨?_, by simp only; omega, hR.2.1, h2⟩, ?_⟩
            · simp only
              omega
            · simp only [List.length_cons]
              omega
        · cases e
end Go.Proofs.YtnlgbopdbihnjaaGreatDoor
/-
  The program's reading of a step, and the place of the last mark.
-/
namespace Go.Proofs.YtnlgbopdbihnjaaGreatDoor
open Go.RowKit

theorem dig_is (c : UInt8) : isB 2 (c.toNat : Int) = decide (48 ≤ c.toNat ∧ c.toNat ≤ 57) := by
  have h : ∀ b : Fin 256, isB 2 (b.val : Int) = decide (48 ≤ b.val ∧ b.val ≤ 57) := by decide +kernel
  exact h ⟨c.toNat, c.toNat_lt⟩
def wthV (b : UInt8) : Nat := (wth b).getD 0
/-- What readStep tells. -/
def rdV (r : (Nat × Nat) ⊕ (Nat × Nat)) : Value := match r with
  | .inl (c, at') => .tuple #[.int .i64 0, .int .i64 0, .agg #[.int .i64 (c : Nat), .int .i64 (at' : Nat)]]
  | .inr (s, b) => .tuple #[.int .i64 (s : Nat), .int .i64 (b : Nat), .agg #[.int .i64 0, .int .i64 0]]
theorem rdS_drop (bias : Nat) (l : List UInt8) (i at' sum wt : Nat) (h : at' < l.length) :
    rdS bias (l.drop at') i at' sum wt = match wth l[at'] with
      | none => .inl (51, at')
      | some v => if 2147483647 < sum + v * wt then .inl (52, at') else if v < bnd i bias then .inr (sum + v * wt, at' + 1) else rdS bias (l.drop (at' + 1)) (i + 1) (at' + 1) (sum + v * wt) (wt * (36 - bnd i bias)) := by
  rw [List.drop_eq_getElem_cons h]
  rfl

end Go.Proofs.YtnlgbopdbihnjaaGreatDoor
/-
  The document's bound, Bias, worth and step.
-/
namespace Go.Proofs.YtnlgbopdbihnjaaGreatDoor
open Go.RowKit

set_option maxHeartbeats 1000000 in
set_option maxRecDepth 100000 in
theorem dbound_any (i bias : Nat) (hi : i ≤ 4294967296) (hb : bias ≤ 8589934592) (w : World) :
    Calls Tryz.prog 126 #[.int .i64 i, .int .i64 bias] w fun e w' => e = .returned (.int .i64 (bnd i bias)) ∧ w' = w := by
  have HB : Hid ((bnd i bias : Int) = min (max (36 * ((i : Int) + 1) - bias) 1) 26) := by
    show _ = _
    unfold bnd
    omega
  have hw : IntKind.i64.wrap (36 * ((i : Int) + 1) - bias) = 36 * ((i : Int) + 1) - bias := by rw [IntKind.wrap_i64]; omega
  by_cases h1 : 36 * ((i : Int) + 1) - bias < 1
  · go_enter Tryz.func126, Tryz.ntmps126
    go_wp2
    go_ret
    refine ⟨ret_i64 ?_, rfl⟩
    rw [HB.out]
    omega
  by_cases h2 : 26 < 36 * ((i : Int) + 1) - bias
  · go_enter Tryz.func126, Tryz.ntmps126
    go_wp2
    go_ret
    refine ⟨ret_i64 ?_, rfl⟩
    rw [HB.out]
    omega
  · go_enter Tryz.func126, Tryz.ntmps126
    go_wp2
    go_ret
    refine ⟨ret_i64 ?_, rfl⟩
    rw [HB.out]
    omega

set_option maxHeartbeats 1000000 in
set_option maxRecDepth 100000 in
theorem dbias_any (s h : Nat) (first : Bool) (hs : s ≤ 2147483647) (h0 : 0 < h) (hh : h ≤ 4294967296) (w : World) :
    Calls Tryz.prog 102 #[.int .i64 s, .int .i64 h, .bool first] w fun e w' => e = .returned (.int .i64 (biasB s h first)) ∧ w' = w := by
  have q2 : (s : Int).tdiv 2 = ((s / 2 : Nat) : Int) := by rw [Int.tdiv_eq_ediv_of_nonneg (by omega)]; omega
  have q7 : (s : Int).tdiv 700 = ((s / 700 : Nat) : Int) := by rw [Int.tdiv_eq_ediv_of_nonneg (by omega)]; omega
  have HB : Hid (biasB s h first = biasL ((if first then s / 700 else s / 2) + (if first then s / 700 else s / 2) / h) 0) := rfl
  generalize hB : biasB s h first = B at HB ⊢
  clear hB
  cases first
  · simp only [Bool.false_eq_true, if_false] at HB
    have hd2 : s / 2 ≤ 2147483647 := by omega
    generalize s / 2 = d at HB q2 hd2
    have qh : (d : Int).tdiv h = ((d / h : Nat) : Int) := by rw [Int.tdiv_eq_ediv_of_nonneg (by omega), Int.natCast_ediv]
    have hdh := Nat.div_le_self d h
    generalize d / h = dh at HB qh hdh
    go_enter Tryz.func102, Tryz.ntmps102
    go_wp2
    go_loop [7, 8] (fun dv kv => ∃ x k : Nat, dv = .int .i64 x ∧ kv = .int .i64 k ∧ x ≤ 4294967296 ∧ k + 36 * x ≤ 154618822656 ∧ Hid (B = biasL x k)) (fun dv _ => (intOf dv).toNat)
    case atStart => exact ⟨d + dh, 0, by go_num, rfl, by omega, by omega, HB⟩
    case round =>
      obtain ⟨x, k, rfl, rfl, hx, hk, HX⟩ := hrel
      by_cases hl : 455 < x
      · have q35 : (x : Int).tdiv 35 = ((x / 35 : Nat) : Int) := by rw [Int.tdiv_eq_ediv_of_nonneg (by omega)]; omega
        have HX2 : Hid (B = biasL (x / 35) (k + 36)) := by show _ = _; rw [HX.out, biasL_go hl]
        have hx35 : x / 35 < x := by omega
        have hk35 : k + 36 + 36 * (x / 35) ≤ 154618822656 := by omega
        generalize x / 35 = y at q35 HX2 hx35 hk35
        go_wp2
        go_round
        case rel => exact ⟨y, k + 36, by first | rfl | go_num, by go_num, by omega, hk35, HX2⟩
        case measure => simp [intOf]; omega
      · have qe : (36 * (x : Int)).tdiv ((x : Int) + 38) = ((36 * x / (x + 38) : Nat) : Int) := by rw [Int.tdiv_eq_ediv_of_nonneg (by omega), Int.natCast_ediv]; push_cast; rfl
        have HX2 : Hid (B = k + 36 * x / (x + 38)) := by show _ = _; rw [HX.out, biasL_end hl]
        have hle : 36 * x / (x + 38) ≤ 36 * x := Nat.div_le_self _ _
        generalize 36 * x / (x + 38) = y at qe HX2 hle
        go_wp2
        go_ret
        exact ⟨ret_i64 (by rw [HX2.out]; push_cast; rfl), rfl⟩
  · simp only [if_true] at HB
    have hd2 : s / 700 ≤ 2147483647 := by omega
    generalize s / 700 = d at HB q7 hd2
    have qh : (d : Int).tdiv h = ((d / h : Nat) : Int) := by rw [Int.tdiv_eq_ediv_of_nonneg (by omega), Int.natCast_ediv]
    have hdh := Nat.div_le_self d h
    generalize d / h = dh at HB qh hdh
    have hs2 : s / 2 ≤ 2147483647 := by omega
    generalize s / 2 = d2 at q2 hs2
    go_enter Tryz.func102, Tryz.ntmps102
    go_wp2
    go_loop [7, 8] (fun dv kv => ∃ x k : Nat, dv = .int .i64 x ∧ kv = .int .i64 k ∧ x ≤ 4294967296 ∧ k + 36 * x ≤ 154618822656 ∧ Hid (B = biasL x k)) (fun dv _ => (intOf dv).toNat)
    case atStart => exact ⟨d + dh, 0, by go_num, rfl, by omega, by omega, HB⟩
    case round =>
      obtain ⟨x, k, rfl, rfl, hx, hk, HX⟩ := hrel
      by_cases hl : 455 < x
      · have q35 : (x : Int).tdiv 35 = ((x / 35 : Nat) : Int) := by rw [Int.tdiv_eq_ediv_of_nonneg (by omega)]; omega
        have HX2 : Hid (B = biasL (x / 35) (k + 36)) := by show _ = _; rw [HX.out, biasL_go hl]
        have hx35 : x / 35 < x := by omega
        have hk35 : k + 36 + 36 * (x / 35) ≤ 154618822656 := by omega
        generalize x / 35 = y at q35 HX2 hx35 hk35
        go_wp2
        go_round
        case rel => exact ⟨y, k + 36, by first | rfl | go_num, by go_num, by omega, hk35, HX2⟩
        case measure => simp [intOf]; omega
      · have qe : (36 * (x : Int)).tdiv ((x : Int) + 38) = ((36 * x / (x + 38) : Nat) : Int) := by rw [Int.tdiv_eq_ediv_of_nonneg (by omega), Int.natCast_ediv]; push_cast; rfl
        have HX2 : Hid (B = k + 36 * x / (x + 38)) := by show _ = _; rw [HX.out, biasL_end hl]
        have hle : 36 * x / (x + 38) ≤ 36 * x := Nat.div_le_self _ _
        generalize 36 * x / (x + 38) = y at qe HX2 hle
        go_wp2
        go_ret
        exact ⟨ret_i64 (by rw [HX2.out]; push_cast; rfl), rfl⟩

/-- The digits' letters. -/
def dgL : List UInt8 := [97, 98, 99, 100, 101, 102, 103, 104, 105, 106, 107, 108, 109, 110, 111, 112, 113, 114, 115, 116, 117, 118, 119, 120, 121, 122, 48, 49, 50, 51, 52, 53, 54, 55, 56, 57]
/-- Does a byte stand for a letter of them? -/
def mtB (b c : UInt8) : Bool := b == c || (b + 32 == c && (decide (97 ≤ c.toNat) && decide (65 ≤ b.toNat)))
theorem mt_some : ∀ (b : Fin 256) (k : Fin 36), mtB (UInt8.ofNat b.val) (dgL[k.val]'k.isLt) = true → wth (UInt8.ofNat b.val) = some k.val := by decide +kernel
theorem mt_none : ∀ b : Fin 256, (dgL.all fun c => !mtB (UInt8.ofNat b.val) c) = true → wth (UInt8.ofNat b.val) = none := by decide +kernel
theorem wth_at (b : UInt8) (k : Nat) (hk : k < dgL.length) (h : mtB b dgL[k] = true) : wth b = some k := by
  have := mt_some ⟨b.toNat, b.toNat_lt⟩ ⟨k, hk⟩
  simp only [UInt8.ofNat_toNat] at this
  exact this h
theorem wth_no (b : UInt8) (h : ∀ k (hk : k < dgL.length), mtB b dgL[k] = false) : wth b = none := by
  have := mt_none ⟨b.toNat, b.toNat_lt⟩
  simp only [UInt8.ofNat_toNat] at this
  refine this (List.all_eq_true.2 fun c hc => ?_)
  obtain ⟨k, hk, rfl⟩ := List.getElem_of_mem hc
  rw [h k hk]
  rfl
def worN (b : UInt8) : Int := match wth b with | none => -1 | some v => (v : Int)

end Go.Proofs.YtnlgbopdbihnjaaGreatDoor
/-
  The document's step.
-/
namespace Go.Proofs.YtnlgbopdbihnjaaGreatDoor
open Go.RowKit

end Go.Proofs.YtnlgbopdbihnjaaGreatDoor
