/-
  The document's parts tile a text; what its Decode comes to: the plain part.
-/
import Derived.Test.YtdgepnfgjgbkoaaDoorNd17
import Derived.Test.YtdgepnfgjgbkoaaDoorWm17
import Derived.Test.YtdgepnfgjgbkoaaDoorVa17
namespace Go.Proofs.YtdgepnfgjgbkoaaDoor

/-- Parts from one place to another, words and gaps by turns. -/
def Tile (l : List UInt8) : Nat → List VPt → Nat → Prop
  | p, [], e => p = e
  | p, x :: r, e => (x.1 = p ∧ ptx x ≠ [] ∧ ptx x = cutW l p (p + (ptx x).length) ∧ (∀ c ∈ ptx x, blk c = x.2.2) ∧ ∀ y, r.head? = some y → y.2.2 ≠ x.2.2) ∧ Tile l (p + (ptx x).length) r e
theorem tile_snoc {l : List UInt8} {y : VPt} {q : Nat} (h1 : y.1 = q) (h2 : ptx y ≠ []) (h3 : ptx y = cutW l q (q + (ptx y).length)) (h4 : ∀ c ∈ ptx y, blk c = y.2.2) : ∀ (M : List VPt) (p : Nat), Tile l p M q → (∀ z, M.getLast? = some z → z.2.2 ≠ y.2.2) → Tile l p (M ++ [y]) (q + (ptx y).length)
  | [], p, h, _ => by
    have h : p = q := h
    subst h
    exact ⟨⟨h1, h2, h3, h4, fun z hz => by cases hz⟩, rfl⟩
  | [x], p, h, hl => by
    obtain ⟨⟨a1, a2, a3, a4, a5⟩, hr⟩ := h
    exact ⟨⟨a1, a2, a3, a4, fun z hz => by
      have hz : y = z := by simpa using hz
      subst hz
      exact (hl x rfl).symm⟩, tile_snoc h1 h2 h3 h4 [] _ hr (fun z hz => by cases hz)⟩
  | x :: x2 :: r, p, h, hl => by
    obtain ⟨⟨a1, a2, a3, a4, a5⟩, hr⟩ := h
    exact ⟨⟨a1, a2, a3, a4, fun z hz => a5 z (by simpa using hz)⟩, tile_snoc h1 h2 h3 h4 (x2 :: r) _ hr (fun z hz => hl z (by simpa using hz))⟩
theorem tile_un {l : List UInt8} {y : VPt} : ∀ (M : List VPt) (p e : Nat), Tile l p (M ++ [y]) e → ∃ q, Tile l p M q ∧ y.1 = q ∧ ptx y ≠ [] ∧ ptx y = cutW l q (q + (ptx y).length) ∧ (∀ c ∈ ptx y, blk c = y.2.2) ∧ e = q + (ptx y).length ∧ ∀ z, M.getLast? = some z → z.2.2 ≠ y.2.2
  | [], p, e, h => by
    obtain ⟨⟨a1, a2, a3, a4, a5⟩, hr⟩ := h
    exact ⟨p, rfl, a1, a2, a3, a4, hr.symm, fun z hz => by cases hz⟩
  | [x], p, e, h => by
    obtain ⟨⟨a1, a2, a3, a4, a5⟩, hr⟩ := h
    obtain ⟨q, b0, b1, b2, b3, b4, b5, b6⟩ := tile_un [] _ _ hr
    exact ⟨q, ⟨⟨a1, a2, a3, a4, fun z hz => by cases hz⟩, b0⟩, b1, b2, b3, b4, b5, fun z hz => by
      have hz : x = z := by simpa using hz
      subst hz
      exact (a5 y rfl).symm⟩
  | x :: x2 :: r, p, e, h => by
    obtain ⟨⟨a1, a2, a3, a4, a5⟩, hr⟩ := h
    obtain ⟨q, b0, b1, b2, b3, b4, b5, b6⟩ := tile_un (x2 :: r) _ _ hr
    exact ⟨q, ⟨⟨a1, a2, a3, a4, fun z hz => a5 z (by simpa using hz)⟩, b0⟩, b1, b2, b3, b4, b5, fun z hz => b6 z (by simpa using hz)⟩
/-- The document's parts tile the text. -/
theorem tile_vS (s : ByteArray) : ∀ k, k ≤ s.data.toList.length → Tile s.data.toList 0 (vS s k) k
  | 0, _ => rfl
  | k + 1, h => by
    have ih := tile_vS s k (by omega)
    have hk : k < s.data.toList.length := by omega
    have hx := ext_one hk
    have hv := vbk_at hk
    have new : vS s (k + 1) = vS s k ++ [(k, s.extract k (k + 1), vbk s k)] → (∀ z, (vS s k).getLast? = some z → z.2.2 ≠ vbk s k) → Tile s.data.toList 0 (vS s (k + 1)) (k + 1) := fun e hl => by
      rw [e]
      have hp : ptx (k, s.extract k (k + 1), vbk s k) = [s.data.toList[k]] := hx
      have := tile_snoc (l := s.data.toList) (y := (k, s.extract k (k + 1), vbk s k)) (q := k) rfl (by rw [hp]; simp) (by rw [hp]; exact (cutW_one hk).symm) (fun c hc => by rw [hp, List.mem_singleton] at hc; subst hc; exact hv.symm) (vS s k) 0 ih hl
      rw [hp] at this
      exact this
    rcases vS_cases s k with he | ⟨M, y, he⟩
    · exact new (vS_nil he) (fun z hz => by rw [he] at hz; cases hz)
    · by_cases hy : y.2.2 = vbk s k
      · rw [vS_on he hy]
        rw [he] at ih
        obtain ⟨q, b0, b1, b2, b3, b4, b5, b6⟩ := tile_un M 0 k ih
        have hpt : ptx (y.1, y.2.1 ++ s.extract k (k + 1), y.2.2) = ptx y ++ [s.data.toList[k]] := by
          show (y.2.1 ++ s.extract k (k + 1)).data.toList = _
          rw [← hx]
          simp [ptx]
        have hln : (ptx (y.1, y.2.1 ++ s.extract k (k + 1), y.2.2)).length = (ptx y).length + 1 := by rw [hpt]; simp
        have := tile_snoc (l := s.data.toList) (y := (y.1, y.2.1 ++ s.extract k (k + 1), y.2.2)) (q := q) b1 (by rw [hpt]; simp) (by
          rw [hln, hpt, ← Nat.add_assoc, ← b5, cutW_suc (by omega) hk]
          have b3' := b3
          rw [← b5] at b3'
          rw [← b3']) (fun c hc => by
          rw [hpt] at hc
          rcases List.mem_append.1 hc with hc | hc
          · exact b4 c hc
          · rw [List.mem_singleton] at hc
            subst hc
            rw [← hv]
            exact hy.symm) M 0 b0 b6
        rw [hln, ← Nat.add_assoc, ← b5] at this
        exact this
      · exact new (vS_new he hy) (fun z hz => by
          rw [he, List.getLast?_concat] at hz
          cases hz
          exact hy)
/-- Is a part an encoded word? -/
def isE (x : VPt) : Bool := (vP (ptx x)).isSome && !x.2.2
theorem isE_gap {x : VPt} (h : x.2.2 = true) : isE x = false := by unfold isE; rw [h]; simp
/-- What an encoded part means. -/
def mnV (x : VPt) : List UInt8 × Nat × Nat := match pW (ptx x) with
  | some p => mnW x.1 (x.1 + (ptx x).length) p
  | none => ([], 0, 0)
/-- Decode, part by part; pre: the part ahead is an encoded word. -/
def dd : Bool → List VPt → List UInt8 → List UInt8 × Nat × Nat
  | _, [], D => (D, 0, 0)
  | pre, x :: r, D =>
    if isE x = true then (if (mnV x).2.1 ≠ 0 then ([], (mnV x).2) else dd true r (D ++ (mnV x).1))
    else if (x.2.2 && pre && (r.head?.any isE)) = true then dd false r D else dd false r (D ++ ptx x)
theorem tile_le {l : List UInt8} : ∀ (L : List VPt) (p e : Nat), Tile l p L e → p ≤ e
  | [], p, e, h => Nat.le_of_eq h
  | x :: r, p, e, h => by have := tile_le r _ _ h.2; omega
theorem scan_gap {l : List UInt8} : ∀ (g r : List UInt8) (k : Nat), (∀ c ∈ g, blk c = true) → scan k k (g ++ r) = scan (k + g.length) (k + g.length) r
  | [], r, k, _ => rfl
  | c :: g, r, k, h => by
    rw [List.cons_append, scan_cons, if_pos (h c (by simp)), if_neg (Nat.lt_irrefl k), scan_gap (l := l) g r (k + 1) (fun c hc => h c (by simp [hc])), List.length_cons, show k + 1 + g.length = k + (g.length + 1) by omega]
theorem scan_wordG : ∀ (x r : List UInt8) (f k : Nat), (∀ c ∈ x, blk c = false) → f < k + x.length → (∀ c, r.head? = some c → blk c = true) → scan f k (x ++ r) = (f, k + x.length) :: scan (k + x.length) (k + x.length) r
  | [], [], f, k, _, hf, _ => by
    have hf : f < k := by simpa using hf
    rw [List.nil_append, scan_nil, scan_nil, if_pos hf, if_neg (by simp)]
    rfl
  | [], c :: r, f, k, _, hf, hr => by
    have hf : f < k := by simpa using hf
    have hc := hr c rfl
    rw [List.nil_append, scan_cons, if_pos hc, if_pos hf, scan_cons, if_pos hc, if_neg (Nat.lt_irrefl _)]
    rfl
  | a :: x, r, f, k, h, hf, hr => by
    rw [List.cons_append, scan_cons, if_neg (by rw [h a (by simp)]; simp), scan_wordG x r f (k + 1) (fun c hc => h c (by simp [hc])) (by simp only [List.length_cons] at hf; omega) hr, List.length_cons, show k + 1 + x.length = k + (x.length + 1) by omega]
theorem cut_cut {l : List UInt8} {d p e : Nat} (h1 : d ≤ p) (h2 : p ≤ e) : cutW l d p ++ cutW l p e = cutW l d e := by
  unfold cutW
  have : l.drop p = (l.drop d).drop (p - d) := by rw [List.drop_drop]; congr 1; omega
  rw [this]
  have e1 : e - d = (p - d) + (e - p) := by omega
  rw [e1, List.take_add]
theorem drop_cut (l : List UInt8) (p n : Nat) : l.drop p = cutW l p (p + n) ++ l.drop (p + n) := by
  unfold cutW
  rw [Nat.add_sub_cancel_left, ← List.drop_drop, List.take_append_drop]
theorem tile_head {l : List UInt8} {p : Nat} {L : List VPt} (h : Tile l p L l.length) {c : UInt8} (hc : (l.drop p).head? = some c) : ∃ y r, L = y :: r ∧ blk c = y.2.2 := by
  match L, h with
  | [], h =>
    have h : p = l.length := h
    subst h
    simp at hc
  | y :: r, h =>
    obtain ⟨⟨a1, a2, a3, a4, a5⟩, hr⟩ := h
    rw [drop_cut l p (ptx y).length, ← a3] at hc
    refine ⟨y, r, rfl, a4 c ?_⟩
    match hx : ptx y, a2 with
    | b :: t, _ => rw [hx] at hc; simp at hc; simp [hc]
/-- The document's Decode and the words. -/
theorem dd_dcS (l : List UInt8) : ∀ (L : List VPt) (p d : Nat) (o D : List UInt8) (j pre : Bool), Tile l p L l.length → d ≤ p →
    ((pre = true ∧ j = true ∧ d = p ∧ D = o ∧ ∀ y, L.head? = some y → y.2.2 = true) ∨
     (pre = false ∧ j = false ∧ D = o ++ cutW l d p) ∨
     (pre = false ∧ j = true ∧ (∀ y, L.head? = some y → y.2.2 = false) ∧ D = if L.head?.any isE = true then o else o ++ cutW l d p)) →
    dd pre L D = dcS l (scan p p (l.drop p)) o d j
  | [], p, d, o, D, j, pre, h, hd, hR => by
    have h : p = l.length := h
    subst h
    rw [List.drop_length, scan_nil, if_neg (Nat.lt_irrefl _), dcS]
    have e : cutW l d l.length = l.drop d := by
      unfold cutW
      rw [List.take_of_length_le (by rw [List.length_drop]; omega)]
    show (D, 0, 0) = _
    rcases hR with ⟨rfl, rfl, rfl, rfl, -⟩ | ⟨rfl, rfl, rfl⟩ | ⟨rfl, rfl, -, rfl⟩
    · simp
    · rw [e]
    · rw [if_neg (by simp), e]
  | x :: r, p, d, o, D, j, pre, h, hd, hR => by
    have hT := h
    obtain ⟨⟨a1, a2, a3, a4, a5⟩, hr⟩ := h
    have hle := tile_le _ _ _ hr
    have hdr := drop_cut l p (ptx x).length
    rw [← a3] at hdr
    have hpos : 0 < (ptx x).length := List.length_pos_iff.2 a2
    cases hg : x.2.2 with
    | true =>
      have hE := isE_gap hg
      rw [dd, if_neg (by rw [hE]; simp), hdr, scan_gap (l := l) _ _ _ (fun c hc => by rw [a4 c hc, hg])]
      have hnx : ∀ y, r.head? = some y → y.2.2 = false := fun y hy => by
        have := a5 y hy
        rw [hg] at this
        simpa using this
      rcases hR with ⟨rfl, rfl, rfl, rfl, -⟩ | ⟨rfl, rfl, rfl⟩ | ⟨rfl, rfl, hh, -⟩
      · by_cases hn : r.head?.any isE = true
        · rw [if_pos (by rw [hg, hn]; rfl)]
          exact dd_dcS l r _ _ _ _ true false hr (by omega) (.inr (.inr ⟨rfl, rfl, hnx, by rw [if_pos hn]⟩))
        · rw [if_neg (by rw [hg]; simpa using hn)]
          exact dd_dcS l r _ _ _ _ true false hr (by omega) (.inr (.inr ⟨rfl, rfl, hnx, by rw [if_neg hn, ← a3]⟩))
      · rw [if_neg (by simp)]
        exact dd_dcS l r _ _ _ _ false false hr (by omega) (.inr (.inl ⟨rfl, rfl, by rw [List.append_assoc]; congr 1; rw [← cut_cut hd (Nat.le_add_right p (ptx x).length), ← a3]⟩))
      · have := hh x rfl
        rw [hg] at this
        cases this
    | false =>
      have hws : ∀ c ∈ ptx x, blk c = false := fun c hc => by rw [a4 c hc, hg]
      have hnx : ∀ y, r.head? = some y → y.2.2 = true := fun y hy => by
        have := a5 y hy
        rw [hg] at this
        simpa using this
      rw [hdr, scan_wordG _ _ _ _ hws (by omega) (fun c hc => by
        obtain ⟨y, r', e1, e2⟩ := tile_head hr hc
        rw [e2]
        exact hnx y (by rw [e1]; rfl)), dcS, ← a3]
      have hpp := vP_pW hws
      have hD : D = if j = true ∧ isE x = true then o else o ++ cutW l d p := by
        rcases hR with ⟨rfl, rfl, rfl, rfl, hh⟩ | ⟨rfl, rfl, rfl⟩ | ⟨rfl, rfl, hh, rfl⟩
        · have := hh x rfl
          rw [hg] at this
          cases this
        · rw [if_neg (by simp)]
        · by_cases hq : isE x = true <;> simp [hq]
      cases hE : isE x with
      | true =>
        have h1 : (vP (ptx x)).isSome = true := by
          unfold isE at hE
          rw [hg] at hE
          simpa using hE
        obtain ⟨P, hP⟩ := Option.isSome_iff_exists.1 h1
        rw [hP, Option.map_some] at hpp
        have hm : mnV x = mnW p (p + (ptx x).length) (P.1, decide (upL P.2.1 = [81]), P.2.2) := by
          unfold mnV
          rw [hpp, a1]
        rw [dd, if_pos hE, hpp, hm]
        dsimp only
        by_cases he : (mnW p (p + (ptx x).length) (P.1, decide (upL P.2.1 = [81]), P.2.2)).2.1 ≠ 0
        · rw [if_pos he, if_pos he]
        · rw [if_neg he, if_neg he]
          have hD2 : (if j = true then o else o ++ cutW l d p) = D := by
            rw [hD, hE]
            cases j <;> simp
          rw [hD2]
          exact dd_dcS l r _ _ _ _ true true hr (Nat.le_refl _) (.inl ⟨rfl, rfl, rfl, rfl, hnx⟩)
      | false =>
        have h1 : vP (ptx x) = none := by
          unfold isE at hE
          rw [hg] at hE
          simpa using hE
        rw [h1, Option.map_none] at hpp
        rw [dd, if_neg (by rw [hE]; simp), if_neg (by rw [hg]; simp), hpp]
        dsimp only
        rw [hE] at hD
        rw [if_neg (by simp)] at hD
        exact dd_dcS l r _ _ _ _ false false hr (by omega) (.inr (.inl ⟨rfl, rfl, by rw [hD, List.append_assoc]; congr 1; rw [← cut_cut hd (Nat.le_add_right p (ptx x).length), ← a3]⟩))
/-- The document's Decode is the words' one. -/
theorem dd_dec (s : ByteArray) : dd false (vS s s.size) [] = decW s.data.toList := by
  have hl : s.data.toList.length = s.size := by rw [Array.length_toList]; rfl
  have hT := tile_vS s s.size (by omega)
  rw [← hl] at hT
  have := dd_dcS s.data.toList (vS s s.data.toList.length) 0 0 [] [] false false hT (Nat.le_refl _) (.inr (.inl ⟨rfl, rfl, by simp [cutW]⟩))
  rw [hl] at this
  rw [this, decW, wdsA_scan]
  rfl
theorem vP_len7 {l : List UInt8} {p : List UInt8 × List UInt8 × List UInt8} (h : vP l = some p) : l.length = p.1.length + p.2.2.length + 7 ∧ isBQ p.2.1 = true := by
  by_cases hg : l.all good33 = true
  · by_cases h4 : (mks 0 l).length = 4
    · obtain ⟨a, b, c, d, hM⟩ : ∃ a b c d, mks 0 l = [a, b, c, d] := by
        match hq : mks 0 l, h4 with
        | [a, b, c, d], _ => exact ⟨a, b, c, d, rfl⟩
      have ho := mks_four hM
      rw [vP_four hM hg] at h
      by_cases hc : a = 1 ∧ d + 2 = l.length ∧ l[0]? = some 61 ∧ l[l.length - 1]? = some 61 ∧ cutW l 2 b ≠ [] ∧ isBQ (cutW l (b + 1) c) = true
      · rw [if_pos hc] at h
        injection h with h
        subst h
        dsimp only
        have h1 : (cutW l (b + 1) c).length = 1 := by
          match hx : cutW l (b + 1) c, hc.2.2.2.2.2 with
          | [_], _ => rfl
          | [], hb => exact absurd hb (by decide)
          | _ :: _ :: _, hb => exact absurd hb (by simp [isBQ])
        have h2 := cutW_len l (b + 1) c (by omega)
        have h3 := cutW_len l 2 b (by omega)
        have h4 := cutW_len l (c + 1) d (by omega)
        have h5 : (cutW l 2 b).length ≠ 0 := fun e => hc.2.2.2.2.1 (List.eq_nil_of_length_eq_zero e)
        exact ⟨by omega, hc.2.2.2.2.2⟩
      · rw [if_neg hc] at h
        cases h
    · rw [vP_len h4] at h
      cases h
  · unfold vP at h
    rw [if_neg hg] at h
    cases h
theorem tile_mem {l : List UInt8} : ∀ (L : List VPt) (p e : Nat), Tile l p L e → ∀ x ∈ L, p ≤ x.1 ∧ x.1 + (ptx x).length ≤ e ∧ ∀ c ∈ ptx x, blk c = x.2.2
  | [], _, _, _, x, hx => by cases hx
  | y :: r, p, e, h, x, hx => by
    obtain ⟨⟨a1, a2, a3, a4, a5⟩, hr⟩ := h
    have hle := tile_le _ _ _ hr
    rcases List.mem_cons.1 hx with rfl | hx
    · exact ⟨by omega, by omega, a4⟩
    · have := tile_mem r _ _ hr x hx
      exact ⟨by omega, this.2.1, this.2.2⟩
/-- An encoded part, and what it means. -/
theorem mn_all (s : ByteArray) : ∀ x ∈ vS s s.size, x.1 + (ptx x).length ≤ s.size ∧ (isE x = true → ∃ P, vP (ptx x) = some P ∧ mnV x = mnW x.1 (x.1 + (ptx x).length) (P.1, decide (upL P.2.1 = [81]), P.2.2) ∧ (ptx x).length = P.1.length + P.2.2.length + 7 ∧ isBQ P.2.1 = true) := by
  intro x hx
  have hl : s.data.toList.length = s.size := by rw [Array.length_toList]; rfl
  have hm := tile_mem _ _ _ (tile_vS s s.size (by omega)) x hx
  refine ⟨hm.2.1, fun hE => ?_⟩
  have hg : x.2.2 = false := by
    cases h : x.2.2 with
    | false => rfl
    | true => rw [isE_gap h] at hE; cases hE
  have h1 : (vP (ptx x)).isSome = true := by
    unfold isE at hE
    rw [hg] at hE
    simpa using hE
  obtain ⟨P, hP⟩ := Option.isSome_iff_exists.1 h1
  have hpp := vP_pW (l := ptx x) (fun c hc => by rw [hm.2.2 c hc, hg])
  rw [hP, Option.map_some] at hpp
  have h7 := vP_len7 hP
  refine ⟨P, hP, ?_, h7.1, h7.2⟩
  unfold mnV
  rw [hpp]
end Go.Proofs.YtdgepnfgjgbkoaaDoor
