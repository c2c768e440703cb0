/-
  What is written may stand in a field: the plain part.
-/
import Derived.Test.YtdgepnfgjgbkoaaDoorBkP
import Derived.Lib.SplitLaws
import Derived.Lib.Strings
namespace Go.Proofs.YtdgepnfgjgbkoaaDoor

theorem bs_cnt (q : Bool) : ∀ (rs : List Int) (b : List UInt8), (bsS q b rs).length ≤ rs.length + 1
  | [], b => by unfold bsS; split <;> simp
  | r :: rs, b => by
    unfold bsS
    split
    · have := bs_cnt q rs (Lib.encodeRune r); simp only [List.length_cons]; omega
    · have := bs_cnt q rs (b ++ Lib.encodeRune r); simp only [List.length_cons]; omega
theorem wrT_len (q : Bool) (l : List UInt8) : (wrT q l).length ≤ 76 * (l.length + 1) := by
  have h1 := bs_cnt q (decL l) []
  have h2 := decL_length l
  have h3 := jn_len ((bsT q l).map (wrd q)) (fun x hx => by
    obtain ⟨b, hb, rfl⟩ := List.mem_map.1 hx
    exact wrd_len q b (bsT_good q l b hb).2)
  rw [wrT_bs]
  rw [List.length_map] at h3
  have : (bsT q l).length ≤ l.length + 1 := by show (bsS q [] (decL l)).length ≤ _; omega
  omega
theorem encW_len (l : List UInt8) (sh : Bool) : (encW l sh).length ≤ 76 * (l.length + 1) := by
  unfold encW
  split
  · simp
  · split
    · exact wrT_len _ _
    · exact wrT_len _ _
theorem enc_short (l : List UInt8) : (encW l true).length ≤ (encW l false).length := by
  unfold encW
  split
  · simp
  · split
    · rename_i h
      rw [if_neg (by simp)]
      omega
    · rw [if_neg (by simp)]
      exact Nat.le_refl _
theorem count_free : ∀ (x : List UInt8), (∀ c ∈ x, c ≠ 32) → Lib.count x [32] = 0
  | [], _ => Lib.count_miss (by decide)
  | a :: t, h => by rw [Lib.count_cons_ne a 32 t (h a (by simp)), count_free t (fun c hc => h c (by simp [hc]))]
theorem count_at (y : List UInt8) : ∀ (x : List UInt8), (∀ c ∈ x, c ≠ 32) → Lib.count (x ++ 32 :: y) [32] = 1 + Lib.count y [32]
  | [], _ => Lib.count_cons_eq 32 y
  | a :: t, h => by
    show Lib.count (a :: (t ++ 32 :: y)) [32] = _
    rw [Lib.count_cons_ne a 32 _ (h a (by simp)), count_at y t (fun c hc => h c (by simp [hc]))]
theorem jn_count : ∀ (L : List (List UInt8)), L ≠ [] → (∀ x ∈ L, ∀ c ∈ x, c ≠ 32) → Lib.count (jnW L) [32] + 1 = L.length
  | [x], _, h => by rw [show jnW [x] = x from rfl, count_free x (h x (by simp))]; rfl
  | x :: y :: t, _, h => by
    have ih := jn_count (y :: t) (by simp) (fun z hz => h z (by simp at hz ⊢; right; exact hz))
    rw [show jnW (x :: y :: t) = x ++ 32 :: jnW (y :: t) from rfl, count_at _ x (h x (by simp)), List.length_cons]
    omega
theorem jn_split : ∀ (L : List (List UInt8)), L ≠ [] → (∀ x ∈ L, ∀ c ∈ x, c ≠ 32) → Lib.splitK [32] 0 (L.length - 1) (jnW L) = L
  | [x], _, _ => rfl
  | x :: y :: t, _, h => by
    have ih := jn_split (y :: t) (by simp) (fun z hz => h z (by simp at hz ⊢; right; exact hz))
    have hm : (32 : UInt8) ∉ x := fun hc => h x (by simp) 32 hc rfl
    have hc := cutC_hit (c := 32) x (jnW (y :: t)) hm
    show Lib.splitK [32] 0 ((y :: t).length - 1 + 1) (x ++ 32 :: jnW (y :: t)) = _
    unfold Lib.splitK
    rw [index_cut, hc]
    dsimp only
    rw [if_neg (by simp)]
    have e1 : (x ++ 32 :: jnW (y :: t)).take ((x.length : Int).toNat + 0) = x := by simp
    have e2 : (x ++ 32 :: jnW (y :: t)).drop ((x.length : Int).toNat + [(32 : UInt8)].length) = jnW (y :: t) := by simp
    rw [e1, e2, ih]
theorem fit_split (s : ByteArray) (L : List (List UInt8)) (hL : L ≠ []) (hs : s.data.toList = jnW L) (hb : ∀ x ∈ L, ∀ c ∈ x, c ≠ 32) :
    Lib.countB s ⟨#[32]⟩ + 1 = L.length ∧ (Lib.splitB ⟨#[32]⟩ 0 (Lib.countB s ⟨#[32]⟩) s).map (·.data.toList) = L := by
  have h1 : Lib.countB s ⟨#[32]⟩ + 1 = L.length := by
    show Lib.count s.data.toList [32] + 1 = _
    rw [hs]
    exact jn_count L hL hb
  refine ⟨h1, ?_⟩
  rw [Lib.splitB_data, hs, show Lib.countB s ⟨#[32]⟩ = L.length - 1 from by omega]
  exact jn_split L hL hb
def pfx : List UInt8 := [61, 63, 85, 84, 70, 45, 56, 63]
theorem wrd_fix (q : Bool) (b : List UInt8) : Lib.hasPrefix (wrd q b) pfx = true ∧ Lib.hasSuffix (wrd q b) [63, 61] = true := by
  refine ⟨?_, ?_⟩
  · unfold Lib.hasPrefix pfx wrd
    cases q <;> simp
  · unfold Lib.hasSuffix wrd
    rw [List.isSuffixOf_iff_suffix]
    exact List.suffix_append _ _
theorem wrd_need (q : Bool) (b : List UInt8) : needW (wrd q b) = true := by
  have h := wrd_pos q b
  unfold needW
  rw [wdsA_scan, scan_word _ _ _ (fun c hc => (wrd_chr q b c hc).1), if_pos (by omega)]
  have e : cutW (wrd q b) 0 (wrd q b).length = wrd q b := by unfold cutW; simp
  simp [e, wrd_p]
/-- A text that may stand in a field. -/
structure Ft (t : List UInt8) : Prop where
  chr : ∀ c ∈ t, 32 ≤ c.toNat ∧ c.toNat ≤ 126
  spl : t ≠ [] → ∃ L : List (List UInt8), L ≠ [] ∧ t = jnW L ∧ ∀ x ∈ L, (∀ c ∈ x, c ≠ 32) ∧ x.length ≤ 75 ∧ Lib.hasPrefix x pfx = true ∧ Lib.hasSuffix x [63, 61] = true ∧ needW x = true
theorem ft_wrT (q : Bool) (l : List UInt8) : Ft (wrT q l) := by
  refine ⟨?_, fun hne => ?_⟩
  · rw [wrT_bs]
    refine jn_chr _ (fun c => 32 ≤ c.toNat ∧ c.toNat ≤ 126) (by decide) (fun x hx c hc => ?_)
    obtain ⟨b, _, rfl⟩ := List.mem_map.1 hx
    have := wrd_chr q b c hc
    exact ⟨by omega, this.2.2.1⟩
  · refine ⟨(bsT q l).map (wrd q), fun e => hne (by rw [wrT_bs, e]; rfl), wrT_bs q l, fun x hx => ?_⟩
    obtain ⟨b, hb, rfl⟩ := List.mem_map.1 hx
    exact ⟨fun c hc e => by have := wrd_chr q b c hc; rw [e] at this; exact absurd this.1 (by decide), wrd_len q b (bsT_good q l b hb).2, (wrd_fix q b).1, (wrd_fix q b).2, wrd_need q b⟩
theorem ft_nil : Ft [] := ⟨fun c h => (by cases h), fun h => (h rfl).elim⟩
theorem ft_enc (l : List UInt8) (sh : Bool) : Ft (encW l sh) := by
  unfold encW
  split
  · exact ft_nil
  · split
    · exact ft_wrT _ _
    · exact ft_wrT _ _
theorem wrT_nil (q : Bool) (l : List UInt8) (h : badU l = l.length) : wrT q l = [] ↔ l = [] := by
  refine ⟨fun e => ?_, fun e => by subst e; unfold wrT; rw [decL_none rfl]; rfl⟩
  have hf := bsT_flat q l h
  rw [wrT_bs] at e
  by_cases hb : bsT q l = []
  · rw [hb] at hf; exact hf.symm
  · have := jn_pos (L := (bsT q l).map (wrd q)) (by simpa using hb) (fun x hx => by obtain ⟨b, _, rfl⟩ := List.mem_map.1 hx; exact wrd_pos q b)
    rw [e] at this
    simp at this
/-- long is empty where it should be. -/
theorem enc_empty (l : List UInt8) : encW l false = [] ↔ (encE l ≠ 0 ∨ l = []) := by
  have hle := badU_le l
  unfold encW encE
  by_cases h : badU l < l.length
  · rw [if_pos h, if_pos h]; simp
  · rw [if_neg h, if_neg h, if_neg (by simp)]
    simp [wrT_nil false l (by omega)]
/-- One piece of a split text. -/
theorem ft_piece {s : ByteArray} (h : Ft s.data.toList) (hne : s.data.toList ≠ []) (j : Nat) (x : ByteArray) (hx : (Lib.splitB ⟨#[32]⟩ 0 (Lib.countB s ⟨#[32]⟩) s)[j]? = some x) :
    x.size ≤ 75 ∧ Lib.hasPrefix x.data.toList pfx = true ∧ Lib.hasSuffix x.data.toList [63, 61] = true ∧ needW x.data.toList = true := by
  obtain ⟨L, hL, hs, hall⟩ := h.spl hne
  have hm := (fit_split s L hL hs (fun x hx => (hall x hx).1)).2
  have h1 : L[j]? = some x.data.toList := by rw [← hm, List.getElem?_map, hx]; rfl
  have h2 := hall _ (List.mem_of_getElem? h1)
  have e : x.data.toList.length = x.size := by rw [Array.length_toList]; rfl
  exact ⟨by omega, h2.2.2⟩
end Go.Proofs.YtdgepnfgjgbkoaaDoor
