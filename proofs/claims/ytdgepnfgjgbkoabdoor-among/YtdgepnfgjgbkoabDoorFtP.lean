/-
  A text that is written among others: the plain part.
-/
import Derived.Test.YtdgepnfgjgbkoabDoorBkP
import Derived.Lib.SplitLaws
import Derived.Lib.Strings
namespace Go.Proofs.YtdgepnfgjgbkoabDoor

theorem scan_in (m : Nat) : ∀ (l : List UInt8) (f k : Nat), f ≤ k → k + l.length ≤ m → ∀ p ∈ scan f k l, f ≤ p.1 ∧ p.1 < p.2 ∧ p.2 ≤ m
  | [], f, k, h, hm => by
    intro p hp
    rw [scan_nil] at hp
    simp only [List.length_nil] at hm
    split at hp
    · rw [List.mem_singleton] at hp
      subst hp
      dsimp only
      omega
    · cases hp
  | c :: t, f, k, h, hm => by
    intro p hp
    simp only [List.length_cons] at hm
    rw [scan_cons] at hp
    have h1 := scan_in m t (k + 1) (k + 1) (Nat.le_refl _) (by omega)
    split at hp
    · split at hp
      · rcases List.mem_cons.1 hp with rfl | hp
        · dsimp only; omega
        · have := h1 p hp; omega
      · have := h1 p hp; omega
    · exact scan_in m t f (k + 1) (by omega) (by omega) p hp
theorem cut_left (a r : List UInt8) (f t : Nat) (ht : t ≤ a.length) : cutW (a ++ r) f t = cutW a f t := by
  unfold cutW
  by_cases hf : f ≤ a.length
  · rw [List.drop_append_of_le_length hf, List.take_append_of_le_length (by rw [List.length_drop]; omega)]
  · rw [show t - f = 0 by omega]
    simp
theorem cut_right (a r : List UInt8) (f t : Nat) : cutW (a ++ r) (f + a.length) (t + a.length) = cutW r f t := by
  unfold cutW
  rw [Nat.add_comm f, ← List.drop_drop, List.drop_left, show t + a.length - (a.length + f) = t - f by omega]
theorem need_none {l : List UInt8} (h : needW l = false) : ∀ p ∈ scan 0 0 l, pW (cutW l p.1 p.2) = none := by
  intro p hp
  unfold needW at h
  simp only [Bool.or_eq_false_iff, List.any_eq_false] at h
  rw [wdsA_scan] at h
  have := h.2 p hp
  cases hx : pW (cutW l p.1 p.2) with
  | none => rfl
  | some x => rw [hx] at this; simp at this
theorem dc_skip (l : List UInt8) (R : List (Nat × Nat)) : ∀ (A : List (Nat × Nat)) (out : List UInt8) (done : Nat), (∀ p ∈ A, pW (cutW l p.1 p.2) = none) → dcS l (A ++ R) out done false = dcS l R out done false
  | [], _, _, _ => rfl
  | (f, t) :: A, out, done, h => by
    have h1 := h (f, t) (by simp)
    rw [List.cons_append, dcS, h1]
    exact dc_skip l R A out done (fun p hp => h p (by simp [hp]))
/-- What is written among others is read as it was. -/
theorem dec_among (a s b : List UInt8) (q : Bool) (ha : needW a = false) (hb : needW b = false) (hs : badU s = s.length) (hne : s ≠ []) : decW (a ++ 32 :: (wrT q s ++ 32 :: b)) = (a ++ 32 :: (s ++ 32 :: b), 0, 0) := by
  have hf := bsT_flat q s hs
  have hbs : bsT q s ≠ [] := fun e => by rw [e] at hf; exact hne hf.symm
  unfold decW
  rw [wdsA_scan, scan_app _ 32 (by decide), scan_app _ 32 (by decide)]
  generalize hL : a ++ 32 :: (wrT q s ++ 32 :: b) = L
  have hL1 : L = (a ++ [32]) ++ jnW ((bsT q s).map (wrd q)) ++ (32 :: b) := by rw [← hL, wrT_bs]; simp
  have hL2 : L = (a ++ [32] ++ wrT q s ++ [32]) ++ b := by rw [← hL]; simp
  have hA : ∀ p ∈ scan 0 0 a, pW (cutW L p.1 p.2) = none := fun p hp => by
    have h1 := scan_in a.length a 0 0 (Nat.le_refl _) (by omega) p hp
    rw [← hL, cut_left _ _ _ _ h1.2.2]
    exact need_none ha p hp
  have hB : ∀ p ∈ scan (0 + a.length + 1 + (wrT q s).length + 1) (0 + a.length + 1 + (wrT q s).length + 1) b, pW (cutW L p.1 p.2) = none := fun p hp => by
    have hd : 0 + a.length + 1 + (wrT q s).length + 1 = 0 + (a ++ [32] ++ wrT q s ++ [32]).length := by simp; omega
    rw [hd, scan_shift] at hp
    obtain ⟨p', hp', rfl⟩ := List.mem_map.1 hp
    rw [hL2]
    dsimp only
    rw [cut_right]
    exact need_none hb p' hp'
  rw [dc_skip L _ _ [] 0 hA]
  have hn : (a ++ [32] : List UInt8).length = 0 + a.length + 1 := by simp
  have := dc_bs q L (scan (0 + a.length + 1 + (wrT q s).length + 1) (0 + a.length + 1 + (wrT q s).length + 1) b) (32 :: b) (bsT q s) (a ++ [32]) hbs (fun x hx => (bsT_good q s x hx).1) hL1 [] 0 false
  rw [← wrT_bs, hn] at this
  rw [this, hf, dc_none L _ _ _ _ hB]
  have e1 : cutW L 0 (0 + a.length + 1) = a ++ [32] := by
    rw [hL1, List.append_assoc, ← hn, cut_left _ _ _ _ (Nat.le_refl _)]
    unfold cutW
    rw [List.drop_zero, Nat.sub_zero, List.take_length]
  have e2 : L.drop (0 + a.length + 1 + (wrT q s).length) = 32 :: b := by
    rw [hL1, ← wrT_bs, ← hn, ← List.length_append, List.drop_left]
  rw [e1, e2]
  simp
theorem dec_among_enc (a s b : List UInt8) (sh : Bool) (ha : needW a = false) (hb : needW b = false) (hs : badU s = s.length) (hne : s ≠ []) : decW (a ++ 32 :: (encW s sh ++ 32 :: b)) = (a ++ 32 :: (s ++ 32 :: b), 0, 0) := by
  unfold encW
  rw [if_neg (by omega)]
  split
  · exact dec_among a s b true ha hb hs hne
  · exact dec_among a s b false ha hb hs hne
end Go.Proofs.YtdgepnfgjgbkoabDoor
/-
  What is written may stand in a field: the plain part.
-/
namespace Go.Proofs.YtdgepnfgjgbkoabDoor

theorem bs_cnt (q : Bool) : ∀ (rs : List Int) (b : List UInt8), (bsS q b rs).length ≤ rs.length + 1
  | [], b => by unfold bsS; split <;> simp
  | r :: rs, b => by
    unfold bsS
    split
    · have := bs_cnt q rs (Lib.encodeRune r); simp only [List.length_cons]; omega
    · have := bs_cnt q rs (b ++ Lib.encodeRune r); simp only [List.length_cons]; omega
theorem wrT_len (q : Bool) (l : List UInt8) : (wrT q l).length ≤ 76 * (l.length + 1) := by
  have h1 := bs_cnt q (decL l) []
  have h2 := decL_length l
  have h3 := jn_len ((bsT q l).map (wrd q)) (fun x hx => by
    obtain ⟨b, hb, rfl⟩ := List.mem_map.1 hx
    exact wrd_len q b (bsT_good q l b hb).2)
  rw [wrT_bs]
  rw [List.length_map] at h3
  have : (bsT q l).length ≤ l.length + 1 := by show (bsS q [] (decL l)).length ≤ _; omega
  omega
theorem encW_len (l : List UInt8) (sh : Bool) : (encW l sh).length ≤ 76 * (l.length + 1) := by
  unfold encW
  split
  · simp
  · split
    · exact wrT_len _ _
    · exact wrT_len _ _
theorem enc_short (l : List UInt8) : (encW l true).length ≤ (encW l false).length := by
  unfold encW
  split
  · simp
  · split
    · rename_i h
      rw [if_neg (by simp)]
      omega
    · rw [if_neg (by simp)]
      exact Nat.le_refl _
theorem count_free : ∀ (x : List UInt8), (∀ c ∈ x, c ≠ 32) → Lib.count x [32] = 0
  | [], _ => Lib.count_miss (by decide)
  | a :: t, h => by rw [Lib.count_cons_ne a 32 t (h a (by simp)), count_free t (fun c hc => h c (by simp [hc]))]
theorem count_at (y : List UInt8) : ∀ (x : List UInt8), (∀ c ∈ x, c ≠ 32) → Lib.count (x ++ 32 :: y) [32] = 1 + Lib.count y [32]
  | [], _ => Lib.count_cons_eq 32 y
  | a :: t, h => by
    show Lib.count (a :: (t ++ 32 :: y)) [32] = _
    rw [Lib.count_cons_ne a 32 _ (h a (by simp)), count_at y t (fun c hc => h c (by simp [hc]))]
theorem jn_count : ∀ (L : List (List UInt8)), L ≠ [] → (∀ x ∈ L, ∀ c ∈ x, c ≠ 32) → Lib.count (jnW L) [32] + 1 = L.length
  | [x], _, h => by rw [show jnW [x] = x from rfl, count_free x (h x (by simp))]; rfl
  | x :: y :: t, _, h => by
    have ih := jn_count (y :: t) (by simp) (fun z hz => h z (by simp at hz ⊢; right; exact hz))
    rw [show jnW (x :: y :: t) = x ++ 32 :: jnW (y :: t) from rfl, count_at _ x (h x (by simp)), List.length_cons]
    omega
theorem jn_split : ∀ (L : List (List UInt8)), L ≠ [] → (∀ x ∈ L, ∀ c ∈ x, c ≠ 32) → Lib.splitK [32] 0 (L.length - 1) (jnW L) = L
  | [x], _, _ => rfl
  | x :: y :: t, _, h => by
    have ih := jn_split (y :: t) (by simp) (fun z hz => h z (by simp at hz ⊢; right; exact hz))
    have hm : (32 : UInt8) ∉ x := fun hc => h x (by simp) 32 hc rfl
    have hc := cutC_hit (c := 32) x (jnW (y :: t)) hm
    show Lib.splitK [32] 0 ((y :: t).length - 1 + 1) (x ++ 32 :: jnW (y :: t)) = _
    unfold Lib.splitK
    rw [index_cut, hc]
    dsimp only
    rw [if_neg (by simp)]
    have e1 : (x ++ 32 :: jnW (y :: t)).take ((x.length : Int).toNat + 0) = x := by simp
    have e2 : (x ++ 32 :: jnW (y :: t)).drop ((x.length : Int).toNat + [(32 : UInt8)].length) = jnW (y :: t) := by simp
    rw [e1, e2, ih]
theorem fit_split (s : ByteArray) (L : List (List UInt8)) (hL : L ≠ []) (hs : s.data.toList = jnW L) (hb : ∀ x ∈ L, ∀ c ∈ x, c ≠ 32) :
    Lib.countB s ⟨#[32]⟩ + 1 = L.length ∧ (Lib.splitB ⟨#[32]⟩ 0 (Lib.countB s ⟨#[32]⟩) s).map (·.data.toList) = L := by
  have h1 : Lib.countB s ⟨#[32]⟩ + 1 = L.length := by
    show Lib.count s.data.toList [32] + 1 = _
    rw [hs]
    exact jn_count L hL hb
  refine ⟨h1, ?_⟩
  rw [Lib.splitB_data, hs, show Lib.countB s ⟨#[32]⟩ = L.length - 1 from by omega]
  exact jn_split L hL hb
def pfx : List UInt8 := [61, 63, 85, 84, 70, 45, 56, 63]
theorem wrd_fix (q : Bool) (b : List UInt8) : Lib.hasPrefix (wrd q b) pfx = true ∧ Lib.hasSuffix (wrd q b) [63, 61] = true := by
  refine ⟨?_, ?_⟩
  · unfold Lib.hasPrefix pfx wrd
    cases q <;> simp
  · unfold Lib.hasSuffix wrd
    rw [List.isSuffixOf_iff_suffix]
    exact List.suffix_append _ _
theorem wrd_need (q : Bool) (b : List UInt8) : needW (wrd q b) = true := by
  have h := wrd_pos q b
  unfold needW
  rw [wdsA_scan, scan_word _ _ _ (fun c hc => (wrd_chr q b c hc).1), if_pos (by omega)]
  have e : cutW (wrd q b) 0 (wrd q b).length = wrd q b := by unfold cutW; simp
  simp [e, wrd_p]
/-- A text that may stand in a field. -/
structure Ft (t : List UInt8) : Prop where
  chr : ∀ c ∈ t, 32 ≤ c.toNat ∧ c.toNat ≤ 126
  spl : t ≠ [] → ∃ L : List (List UInt8), L ≠ [] ∧ t = jnW L ∧ ∀ x ∈ L, (∀ c ∈ x, c ≠ 32) ∧ x.length ≤ 75 ∧ Lib.hasPrefix x pfx = true ∧ Lib.hasSuffix x [63, 61] = true ∧ needW x = true
theorem ft_wrT (q : Bool) (l : List UInt8) : Ft (wrT q l) := by
  refine ⟨?_, fun hne => ?_⟩
  · rw [wrT_bs]
    refine jn_chr _ (fun c => 32 ≤ c.toNat ∧ c.toNat ≤ 126) (by decide) (fun x hx c hc => ?_)
    obtain ⟨b, _, rfl⟩ := List.mem_map.1 hx
    have := wrd_chr q b c hc
    exact ⟨by omega, this.2.2.1⟩
  · refine ⟨(bsT q l).map (wrd q), fun e => hne (by rw [wrT_bs, e]; rfl), wrT_bs q l, fun x hx => ?_⟩
    obtain ⟨b, hb, rfl⟩ := List.mem_map.1 hx
    exact ⟨fun c hc e => by have := wrd_chr q b c hc; rw [e] at this; exact absurd this.1 (by decide), wrd_len q b (bsT_good q l b hb).2, (wrd_fix q b).1, (wrd_fix q b).2, wrd_need q b⟩
theorem ft_nil : Ft [] := ⟨fun c h => (by cases h), fun h => (h rfl).elim⟩
theorem ft_enc (l : List UInt8) (sh : Bool) : Ft (encW l sh) := by
  unfold encW
  split
  · exact ft_nil
  · split
    · exact ft_wrT _ _
    · exact ft_wrT _ _
theorem wrT_nil (q : Bool) (l : List UInt8) (h : badU l = l.length) : wrT q l = [] ↔ l = [] := by
  refine ⟨fun e => ?_, fun e => by subst e; unfold wrT; rw [decL_none rfl]; rfl⟩
  have hf := bsT_flat q l h
  rw [wrT_bs] at e
  by_cases hb : bsT q l = []
  · rw [hb] at hf; exact hf.symm
  · have := jn_pos (L := (bsT q l).map (wrd q)) (by simpa using hb) (fun x hx => by obtain ⟨b, _, rfl⟩ := List.mem_map.1 hx; exact wrd_pos q b)
    rw [e] at this
    simp at this
/-- long is empty where it should be. -/
theorem enc_empty (l : List UInt8) : encW l false = [] ↔ (encE l ≠ 0 ∨ l = []) := by
  have hle := badU_le l
  unfold encW encE
  by_cases h : badU l < l.length
  · rw [if_pos h, if_pos h]; simp
  · rw [if_neg h, if_neg h, if_neg (by simp)]
    simp [wrT_nil false l (by omega)]
/-- One piece of a split text. -/
theorem ft_piece {s : ByteArray} (h : Ft s.data.toList) (hne : s.data.toList ≠ []) (j : Nat) (x : ByteArray) (hx : (Lib.splitB ⟨#[32]⟩ 0 (Lib.countB s ⟨#[32]⟩) s)[j]? = some x) :
    x.size ≤ 75 ∧ Lib.hasPrefix x.data.toList pfx = true ∧ Lib.hasSuffix x.data.toList [63, 61] = true ∧ needW x.data.toList = true := by
  obtain ⟨L, hL, hs, hall⟩ := h.spl hne
  have hm := (fit_split s L hL hs (fun x hx => (hall x hx).1)).2
  have h1 : L[j]? = some x.data.toList := by rw [← hm, List.getElem?_map, hx]; rfl
  have h2 := hall _ (List.mem_of_getElem? h1)
  have e : x.data.toList.length = x.size := by rw [Array.length_toList]; rfl
  exact ⟨by omega, h2.2.2⟩
end Go.Proofs.YtdgepnfgjgbkoabDoor
