/-
  The plain mathematics of base64, on: the document's way to ask whether a text goes on; line ends left out; pieces.
-/
import Derived.Test.YtdgepnfgjgbkoaaDoorB64
namespace Go.Proofs.YtdgepnfgjgbkoaaDoor

/-- The document's: does a text go on with its byte at i? -/
def onB (l : List UInt8) (i : Nat) : Bool :=
  (decide (i / 4 * 4 = 0) || decide (l[i / 4 * 4 - 1]? ≠ some 61)) && decide (okN 0 ((l.take (i + 1)).drop (i / 4 * 4)) = i + 1 - i / 4 * 4)

theorem on_iff (l : List UInt8) (i : Nat) (hi : i < l.length) (h : okN 0 (l.take i) = i) : onB l i = (nextD (stD 0 (l.take i)) l[i]).isSome := by
  have hk : i / 4 * 4 ≤ i := by omega
  generalize hK : i / 4 * 4 = K at hk
  have hKi : i < K + 4 := by omega
  have hK4 : K = 4 * (i / 4) := by omega
  have hl : (l.take i).length = i := by rw [List.length_take]; omega
  have hlK : (l.take K).length = K := by rw [List.length_take]; omega
  have e1 : l.take i = l.take K ++ (l.take i).drop K := by
    have : (l.take i).take K = l.take K := by rw [List.take_take, Nat.min_eq_left hk]
    rw [← this, List.take_append_drop]
  have hKok : okN 0 (l.take K) = (l.take K).length := by
    have := okN_pre 0 (l.take i) K (by rw [h]; exact hk)
    rwa [List.take_take, Nat.min_eq_left hk] at this
  have hst := st_whole (i / 4) (l.take K) (by rw [hlK]; exact hK4) hKok
  have hlast : (l.take K)[K - 1]? = if K = 0 then none else l[K - 1]? := by
    by_cases h0 : K = 0
    · subst h0; simp
    · rw [if_neg h0, List.getElem?_take, if_pos (by omega)]
  rw [hlK, hlast] at hst
  have e2 : (l.take (i + 1)).drop K = (l.take i).drop K ++ [l[i]] := by
    rw [List.take_succ_eq_append_getElem hi, List.drop_append_of_le_length (by omega)]
  have hmid : okN (stD 0 (l.take K)) ((l.take i).drop K) = i - K := by
    have := okN_append 0 (l.take K) ((l.take i).drop K) hKok
    rw [← e1, h, hlK] at this
    omega
  have hmst : stD 0 (l.take i) = stD (stD 0 (l.take K)) ((l.take i).drop K) := by
    have := stD_append 0 (l.take K) ((l.take i).drop K) hKok
    rwa [← e1] at this
  have hml : ((l.take i).drop K).length = i - K := by rw [List.length_drop, hl]
  unfold onB
  rw [hK]
  by_cases hp : K ≠ 0 ∧ l[K - 1]? = some 61
  · obtain ⟨h0, h1⟩ := hp
    rw [if_neg h0, h1, if_pos rfl] at hst
    rw [hst, okN_seven] at hmid
    have hnil : (l.take i).drop K = [] := List.eq_nil_of_length_eq_zero (by rw [hml]; omega)
    rw [hmst, hnil, hst]
    have h7 : nextD 7 l[i] = none := by
      unfold nextD
      split <;> simp
    simp [stD, h7, h0, h1]
  · have hst0 : stD 0 (l.take K) = 0 := by
      rw [hst]
      by_cases h0 : K = 0
      · subst h0; simp
      · rw [if_neg h0, if_neg (fun e => hp ⟨h0, e⟩)]
    rw [hst0] at hmid hmst
    have hfirst : (decide (K = 0) || decide (l[K - 1]? ≠ some 61)) = true := by
      simp
      by_cases h0 : K = 0
      · exact .inl h0
      · exact .inr (fun e => hp ⟨h0, e⟩)
    rw [hfirst, Bool.true_and, e2, okN_append 0 _ _ (by rw [hmid, hml]), hml, hmst]
    cases hn : nextD (stD 0 ((l.take i).drop K)) l[i] with
    | none => simp [okN, hn]; omega
    | some d' => simp [okN, hn]; omega

/-- Without line ends. -/
def noCr (l : List UInt8) : List UInt8 := l.filter fun c => !(c == 13 || c == 10)
theorem noCr_append (a b : List UInt8) : noCr (a ++ b) = noCr a ++ noCr b := List.filter_append ..
theorem noCr_le (a : List UInt8) : (noCr a).length ≤ a.length := List.length_filter_le ..
theorem noCr_snoc (l : List UInt8) (k : Nat) (h : k < l.length) : noCr (l.take (k + 1)) = if l[k] = 13 ∨ l[k] = 10 then noCr (l.take k) else noCr (l.take k) ++ [l[k]] := by
  rw [List.take_succ_eq_append_getElem h, noCr_append]
  by_cases e : l[k] = 13 ∨ l[k] = 10
  · rw [if_pos e]
    simp only [noCr, List.filter_cons, List.filter_nil]
    rcases e with e | e <;> simp [e]
  · rw [if_neg e]
    have e1 : l[k] ≠ 13 := fun x => e (.inl x)
    have e2 : l[k] ≠ 10 := fun x => e (.inr x)
    simp [noCr, e1, e2]

/-- What a reader that has taken the text t has taken behind a piece. -/
def rdT (t b : List UInt8) : List UInt8 := t ++ (noCr b).take (okN (stD 0 t) (noCr b))
/-- The error that then spoils it. -/
def rdE (t b : List UInt8) : Nat := if h : okN (stD 0 t) (noCr b) < (noCr b).length then errC (noCr b)[okN (stD 0 t) (noCr b)] else 0
/-- What is begun of a group. -/
def tailG (t : List UInt8) : List UInt8 := t.drop (t.length / 4 * 4)
/-- What it tells. -/
def rdL (t b : List UInt8) : List UInt8 := d64L (tailG t ++ (noCr b).take (okN (stD 0 t) (noCr b)))
theorem tailG_len (t : List UInt8) : (tailG t).length = t.length % 4 := by
  unfold tailG
  rw [List.length_drop]
  omega
theorem rdT_ok (t b : List UInt8) (h : okN 0 t = t.length) : okN 0 (rdT t b) = (rdT t b).length := by
  unfold rdT
  rw [okN_append 0 _ _ h, okN_take, List.length_append]
theorem rdL_dec (t b : List UInt8) : d64L (rdT t b) = d64L t ++ rdL t b := by
  unfold rdT rdL
  have hl : (t.take (t.length / 4 * 4)).length = 4 * (t.length / 4) := by rw [List.length_take]; omega
  have e : t = t.take (t.length / 4 * 4) ++ tailG t := (List.take_append_drop _ _).symm
  have hd : d64L t = d64L (t.take (t.length / 4 * 4)) := by
    conv => lhs; rw [e]
    rw [d64L_append _ _ _ hl, d64L_short (tailG t) (by rw [tailG_len]; omega), List.append_nil]
  rw [hd]
  generalize (noCr b).take (okN (stD 0 t) (noCr b)) = m
  have e3 : t ++ m = t.take (t.length / 4 * 4) ++ (tailG t ++ m) := by rw [← List.append_assoc, ← e]
  rw [e3, d64L_append _ _ _ hl]
theorem rdE_zero (t b : List UInt8) (h : rdE t b = 0) : (noCr b).length ≤ okN (stD 0 t) (noCr b) := by
  unfold rdE at h
  split at h
  · unfold errC at h
    split at h <;> omega
  · omega
theorem rdT_zero (t b : List UInt8) (h : rdE t b = 0) : rdT t b = t ++ noCr b := by
  unfold rdT
  rw [List.take_of_length_le (rdE_zero t b h)]
/-- A piece behind a piece that goes on is one piece. -/
theorem rd_join (t a b : List UInt8) (h : okN 0 t = t.length) (he : rdE t a = 0) : rdT (rdT t a) b = rdT t (a ++ b) ∧ rdE (rdT t a) b = rdE t (a ++ b) := by
  have hz := rdE_zero t a he
  have hle := okN_le (stD 0 t) (noCr a)
  have hall : okN (stD 0 t) (noCr a) = (noCr a).length := by omega
  have hT := rdT_zero t a he
  have hs : stD 0 (rdT t a) = stD (stD 0 t) (noCr a) := by rw [hT, stD_append _ _ _ h]
  have hn : okN (stD 0 t) (noCr (a ++ b)) = (noCr a).length + okN (stD (stD 0 t) (noCr a)) (noCr b) := by rw [noCr_append, okN_append _ _ _ hall]
  constructor
  · show rdT t a ++ (noCr b).take (okN (stD 0 (rdT t a)) (noCr b)) = t ++ (noCr (a ++ b)).take (okN (stD 0 t) (noCr (a ++ b)))
    rw [hs, hT, hn, noCr_append, List.take_length_add_append, List.append_assoc]
  · unfold rdE
    rw [hs]
    simp only [noCr_append] at hn ⊢
    simp only [hn, List.length_append]
    by_cases hlt : okN (stD (stD 0 t) (noCr a)) (noCr b) < (noCr b).length
    · rw [dif_pos hlt, dif_pos (by omega)]
      congr 1
      rw [List.getElem_append_right (by omega)]
      simp
    · rw [dif_neg hlt, dif_neg (by omega)]
theorem errC_pos (c : UInt8) : errC c ≠ 0 := by
  unfold errC
  split <;> omega
/-- A piece that does not go on is cut there, whatever stands behind. -/
theorem rd_cut (t a b : List UInt8) (he : rdE t a ≠ 0) : rdT t (a ++ b) = rdT t a ∧ rdE t (a ++ b) = rdE t a := by
  have hlt : okN (stD 0 t) (noCr a) < (noCr a).length := by
    rcases Nat.lt_or_ge (okN (stD 0 t) (noCr a)) (noCr a).length with h | h
    · exact h
    · unfold rdE at he
      rw [dif_neg (by omega)] at he
      exact absurd rfl he
  have hbad := okN_bad _ _ hlt
  have hpre : okN (stD 0 t) ((noCr a).take (okN (stD 0 t) (noCr a))) = okN (stD 0 t) (noCr a) := by
    rw [okN_take, List.length_take]
    omega
  have hn : okN (stD 0 t) (noCr a ++ noCr b) = okN (stD 0 t) (noCr a) := by
    refine okN_none _ _ _ (by rw [List.length_append]; omega) ?_ ?_
    · rw [List.take_append_of_le_length (by omega)]
      exact hpre
    · rw [List.take_append_of_le_length (by omega), List.getElem_append_left hlt]
      exact hbad
  constructor
  · unfold rdT
    rw [noCr_append, hn, List.take_append_of_le_length (by omega)]
  · unfold rdE
    simp only [noCr_append, hn]
    rw [dif_pos (by rw [List.length_append]; omega), dif_pos hlt, List.getElem_append_left hlt]

/-- How Unbase64's answer hangs on what a reader takes. -/
theorem rd_whole (b : List UInt8) : rdT [] b = (noCr b).take (okN 0 (noCr b)) ∧ (rdE [] b = if h : okN 0 (noCr b) < (noCr b).length then errC (noCr b)[okN 0 (noCr b)] else 0) := ⟨by simp [rdT, stD], rfl⟩
end Go.Proofs.YtdgepnfgjgbkoaaDoor
