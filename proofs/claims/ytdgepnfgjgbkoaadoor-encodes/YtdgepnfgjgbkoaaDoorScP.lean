/-
  Written words: the plain mathematics of the loop.
-/
import Derived.Test.YtdgepnfgjgbkoaaDoorPcP
namespace Go.Proofs.YtdgepnfgjgbkoaaDoor

theorem qL_app (a b : List UInt8) : qL (a ++ b) = qL a ++ qL b := by simp [qL]
theorem qL_nil : qL [] = [] := rfl
theorem coW_app (q : Bool) (a b : List UInt8) : coW q (a ++ b) = coW q a + coW q b := by
  unfold coW
  cases q
  · simp
  · simp [qL_app]
theorem coW_nil (q : Bool) : coW q [] = 0 := by cases q <;> rfl
theorem qB_le (c : UInt8) : (qB c).length ≤ 3 ∧ 1 ≤ (qB c).length := by
  unfold qB
  split
  · simp
  · split
    · simp
    · simp [hexL]
theorem qL_le : ∀ l : List UInt8, (qL l).length ≤ 3 * l.length ∧ l.length ≤ (qL l).length
  | [] => by simp [qL]
  | c :: t => by
    have h1 := qB_le c
    have h2 := qL_le t
    simp only [qL, List.flatMap_cons, List.length_append, List.length_cons] at h2 ⊢
    omega
theorem coW_le (q : Bool) (l : List UInt8) : coW q l ≤ 3 * l.length ∧ l.length ≤ coW q l := by
  unfold coW
  cases q
  · simp; omega
  · simp only [if_true]
    exact qL_le l
theorem encR_len (r : Int) : 1 ≤ (Lib.encodeRune r).length ∧ (Lib.encodeRune r).length ≤ 4 := by
  have := Lib.encodeRuneZ_length r
  unfold Lib.encodeRune
  rw [List.length_map]
  exact this
theorem coW_rune (q : Bool) (r : Int) : coW q (Lib.encodeRune r) ≤ roW q := by
  have h := encR_len r
  have h2 := coW_le q (Lib.encodeRune r)
  unfold roW
  cases q
  · simp only [Bool.false_eq_true, if_false]
    omega
  · simp only [if_true]
    omega
theorem wrd_len (q : Bool) (b : List UInt8) (h : coW q b ≤ roW q) : (wrd q b).length ≤ 75 := by
  have e : (wrd q b).length = 12 + (txW q b).length := by
    unfold wrd
    simp only [List.length_append, List.length_cons, List.length_nil]
    omega
  rw [e]
  unfold txW
  unfold coW roW at h
  cases q
  · simp only [Bool.false_eq_true, if_false] at h ⊢
    rw [e64L_len]
    omega
  · simp only [if_true] at h ⊢
    omega
theorem jn_len : ∀ L : List (List UInt8), (∀ x ∈ L, x.length ≤ 75) → (jnW L).length ≤ 76 * L.length
  | [], _ => Nat.zero_le _
  | [x], h => by
    have := h x (by simp)
    simp only [jnW, List.length_cons, List.length_nil]
    omega
  | x :: y :: t, h => by
    have h1 := h x (by simp)
    have h2 := jn_len (y :: t) (fun z hz => h z (by simp at hz ⊢; right; exact hz))
    unfold jnW
    simp only [List.length_append, List.length_cons] at h2 ⊢
    omega
/-- How far write is: L words are written, the bytes B are taken. -/
structure Wst (q : Bool) (l : List UInt8) (pos : Nat) (L : List (List UInt8)) (B : List UInt8) : Prop where
  all : wrS q [] (decL l) = L ++ wrS q B (decL (l.drop pos))
  whole : badU (l.drop pos) = (l.drop pos).length
  room : coW q B ≤ roW q
  ln : L.length ≤ pos
  sh : ∀ x ∈ L, x.length ≤ 75
theorem Wst.start (q : Bool) (l : List UInt8) (h : badU l = l.length) : Wst q l 0 [] [] := ⟨rfl, h, by rw [coW_nil]; exact Nat.zero_le _, Nat.le_refl _, fun x h => by cases h⟩
theorem Wst.on {q : Bool} {l : List UInt8} {pos : Nat} {L : List (List UInt8)} {B : List UInt8} (h : Wst q l pos L B) {r : Int} {n : Nat} (ho : oneN (l.drop pos) = some (r, n)) (hc : ¬ roW q < coW q B + coW q (Lib.encodeRune r)) : Wst q l (pos + n) L (B ++ Lib.encodeRune r) := by
  have hw := h.whole
  have h1 := badU_some ho
  have h2 := (oneN_run _ r n ho)
  refine ⟨?_, ?_, ?_, ?_, h.sh⟩
  · rw [h.all, decL_some ho, List.drop_drop, wrS, if_neg hc]
  · have h3 := h2.1
    rw [hw] at h1
    rw [List.drop_drop] at h1
    have : (l.drop (pos + n)).length = (l.drop pos).length - n := by rw [List.length_drop, List.length_drop]; omega
    omega
  · rw [coW_app]
    omega
  · have := h.ln
    omega
theorem Wst.new {q : Bool} {l : List UInt8} {pos : Nat} {L : List (List UInt8)} {B : List UInt8} (h : Wst q l pos L B) {r : Int} {n : Nat} (ho : oneN (l.drop pos) = some (r, n)) (hc : roW q < coW q B + coW q (Lib.encodeRune r)) : Wst q l (pos + n) (L ++ [wrd q B]) (Lib.encodeRune r) := by
  have hw := h.whole
  have h1 := badU_some ho
  have h2 := (oneN_run _ r n ho)
  refine ⟨?_, ?_, coW_rune q r, ?_, fun x hx => ?_⟩
  · rw [h.all, decL_some ho, List.drop_drop, wrS, if_pos hc]
    simp
  · have h3 := h2.1
    rw [hw] at h1
    rw [List.drop_drop] at h1
    have : (l.drop (pos + n)).length = (l.drop pos).length - n := by rw [List.length_drop, List.length_drop]; omega
    omega
  · have := h.ln
    rw [List.length_append]
    have := h2.2.1
    simp only [List.length_cons, List.length_nil]
    omega
  · rcases List.mem_append.1 hx with hx | hx
    · exact h.sh x hx
    · rw [List.mem_singleton] at hx
      rw [hx]
      exact wrd_len q B h.room
theorem Wst.fin {q : Bool} {l : List UInt8} {pos : Nat} {L : List (List UInt8)} {B : List UInt8} (h : Wst q l pos L B) (hp : l.length ≤ pos) : wrS q [] (decL l) = if B = [] then L else L ++ [wrd q B] := by
  rw [h.all, List.drop_eq_nil_of_le hp, decL_none rfl, wrS]
  split <;> simp
theorem join_jn : ∀ L : List (List UInt8), List.intercalate [32] L = jnW L
  | [] => rfl
  | [x] => by simp [jnW, List.intercalate]
  | x :: y :: t => by
    have ih := join_jn (y :: t)
    unfold jnW
    rw [← ih]
    simp [List.intercalate]
end Go.Proofs.YtdgepnfgjgbkoaaDoor
/-
  The words of a text, gone through byte by byte.
-/
namespace Go.Proofs.YtdgepnfgjgbkoaaDoor

/-- The words of what is left, when a word that began at f goes on at k. -/
def scan (f k : Nat) : List UInt8 → List (Nat × Nat)
  | [] => if f < k then [(f, k)] else []
  | c :: t => if blk c = true then (if f < k then (f, k) :: scan (k + 1) (k + 1) t else scan (k + 1) (k + 1) t) else scan f (k + 1) t
theorem scan_nil (f k : Nat) : scan f k [] = if f < k then [(f, k)] else [] := rfl
theorem scan_cons (f k : Nat) (c : UInt8) (t : List UInt8) : scan f k (c :: t) = if blk c = true then (if f < k then (f, k) :: scan (k + 1) (k + 1) t else scan (k + 1) (k + 1) t) else scan f (k + 1) t := rfl
theorem wds_suc (l : List UInt8) (k : Nat) : wds l (k + 1) = if stopAt l k = true ∧ frm l k < k then wds l k ++ [(frm l k, k)] else wds l k := rfl
theorem frm_suc (l : List UInt8) (k : Nat) : frm l (k + 1) = if stopAt l k = true then k + 1 else frm l k := rfl
theorem wds_scan (l : List UInt8) : ∀ (n k : Nat), k + n = l.length → wdsA l = wds l k ++ scan (frm l k) k (l.drop k)
  | 0, k, h => by
    obtain rfl : k = l.length := by omega
    unfold wdsA
    rw [wds_suc, List.drop_length, scan]
    have hs : stopAt l l.length = true := by unfold stopAt; simp
    rw [hs]
    by_cases hf : frm l l.length < l.length
    · rw [if_pos ⟨rfl, hf⟩, if_pos hf]
    · rw [if_neg (by rintro ⟨_, h⟩; exact hf h), if_neg hf, List.append_nil]
  | n + 1, k, h => by
    have hk : k < l.length := by omega
    rw [wds_scan l n (k + 1) (by omega), wds_suc, frm_suc, List.drop_eq_getElem_cons hk, scan]
    have hs : stopAt l k = blk l[k] := by unfold stopAt; rw [List.getElem?_eq_getElem hk]
    rw [hs]
    by_cases hb : blk l[k] = true
    · rw [if_pos hb, if_pos hb]
      by_cases hf : frm l k < k
      · rw [if_pos ⟨hb, hf⟩, if_pos hf, List.append_assoc]
        rfl
      · rw [if_neg (by rintro ⟨_, h⟩; exact hf h), if_neg hf]
    · rw [if_neg (by rintro ⟨h, _⟩; exact hb h), if_neg hb, if_neg hb]
theorem wdsA_scan (l : List UInt8) : wdsA l = scan 0 0 l := by
  rw [wds_scan l l.length 0 (by omega)]
  rfl
/-- Words in their order. -/
def ordW (m : Nat) : Nat → List (Nat × Nat) → Prop
  | _, [] => True
  | n, (f, t) :: r => n ≤ f ∧ f < t ∧ t ≤ m ∧ ordW m t r
theorem ordW_le {m : Nat} : ∀ {n k : Nat} {r : List (Nat × Nat)}, ordW m n r → k ≤ n → ordW m k r
  | _, _, [], _, _ => trivial
  | _, _, (_, _) :: _, h, hk => ⟨Nat.le_trans hk h.1, h.2⟩
theorem scan_ord (m : Nat) : ∀ (l : List UInt8) (f k : Nat), f ≤ k → k + l.length ≤ m → ordW m f (scan f k l)
  | [], f, k, h, hm => by
    unfold scan
    split
    · rename_i hf
      simp only [List.length_nil] at hm
      exact ⟨Nat.le_refl _, hf, by omega, trivial⟩
    · trivial
  | c :: t, f, k, h, hm => by
    simp only [List.length_cons] at hm
    unfold scan
    split
    · split
      · rename_i hf
        exact ⟨Nat.le_refl _, hf, by omega, ordW_le (scan_ord m t (k + 1) (k + 1) (Nat.le_refl _) (by omega)) (by omega)⟩
      · exact ordW_le (scan_ord m t (k + 1) (k + 1) (Nat.le_refl _) (by omega)) (by omega)
    · exact scan_ord m t f (k + 1) (by omega) (by omega)
theorem wdsA_ord (l : List UInt8) : ordW l.length 0 (wdsA l) := by
  rw [wdsA_scan]
  exact scan_ord _ l 0 0 (Nat.le_refl _) (by omega)
/-- A text behind a blank is gone through by itself. -/
theorem scan_app (y : List UInt8) (c : UInt8) (hc : blk c = true) : ∀ (x : List UInt8) (f k : Nat), scan f k (x ++ c :: y) = scan f k x ++ scan (k + x.length + 1) (k + x.length + 1) y
  | [], f, k => by
    simp only [List.nil_append, List.length_nil, Nat.add_zero]
    rw [scan_cons, if_pos hc, scan_nil]
    split <;> simp
  | a :: x, f, k => by
    rw [List.cons_append, scan, scan, List.length_cons, scan_app y c hc x, scan_app y c hc x, show k + 1 + x.length + 1 = k + (x.length + 1) + 1 by omega]
    split
    · split <;> simp
    · rfl
theorem scan_word : ∀ (x : List UInt8) (f k : Nat), (∀ c ∈ x, blk c = false) → scan f k x = if f < k + x.length then [(f, k + x.length)] else []
  | [], f, k, _ => by simp [scan]
  | a :: x, f, k, h => by
    rw [scan, if_neg (by rw [h a (by simp)]; simp), scan_word x f (k + 1) (fun c hc => h c (by simp [hc])), List.length_cons, show k + 1 + x.length = k + (x.length + 1) by omega]
theorem scan_shift (d : Nat) : ∀ (x : List UInt8) (f k : Nat), scan (f + d) (k + d) x = (scan f k x).map fun p => (p.1 + d, p.2 + d)
  | [], f, k => by
    unfold scan
    by_cases h : f < k
    · rw [if_pos h, if_pos (by omega)]
      rfl
    · rw [if_neg h, if_neg (by omega)]
      rfl
  | a :: x, f, k => by
    have h1 := scan_shift d x (k + 1) (k + 1)
    have h2 := scan_shift d x f (k + 1)
    rw [show k + 1 + d = k + d + 1 by omega] at h1 h2
    rw [scan, scan]
    by_cases hb : blk a = true
    · rw [if_pos hb, if_pos hb]
      by_cases h : f < k
      · rw [if_pos h, if_pos (by omega), h1]
        rfl
      · rw [if_neg h, if_neg (by omega), h1]
    · rw [if_neg hb, if_neg hb, h2]
end Go.Proofs.YtdgepnfgjgbkoaaDoor
