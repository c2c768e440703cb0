/-
  Punycode there and back: the plain mathematics, no Go in sight.
-/
import Derived.Test.YtedgimkffkflbaaDoorROrdP
import Derived.Test.YtedgimkffkflbaaDoorLaiP
namespace Go.Proofs.YtedgimkffkflbaaDoor

/-- A letter made small. -/
def lowA (b : UInt8) : UInt8 := if 65 ≤ b.toNat ∧ b.toNat ≤ 90 then b + 32 else b
theorem dgt_all : ∀ v : Fin 36, wth (dgt v.val) = some v.val ∧ dgt v.val ≠ 45 := by decide +kernel
theorem low_all : ∀ b : Fin 256, (∀ v ∈ (wth (UInt8.ofNat b.val)).toList, dgt v = lowA (UInt8.ofNat b.val)) := by decide +kernel
theorem wth_dgt {b : UInt8} {v : Nat} (h : wth b = some v) : dgt v = lowA b := by
  have := low_all ⟨b.toNat, b.toNat_lt⟩ v
  simp only [UInt8.ofNat_toNat] at this
  exact this (by rw [h]; simp)

/-- A number's digits are read as the number. -/
theorem rdS_digs (bias q : Nat) : ∀ (i at' sum wt : Nat) (t : List UInt8), sum + q * wt ≤ 2147483647 → rdS bias (digs q i bias ++ t) i at' sum wt = .inr (sum + q * wt, at' + (digs q i bias).length) := by
  induction q using Nat.strongRecOn with
  | _ q ih =>
    intro i at' sum wt t hs
    have hb1 := bnd_pos i bias
    have hb2 := bnd_le i bias
    by_cases h : q < bnd i bias
    · rw [digs_last h]
      have hw := (dgt_all ⟨q, by omega⟩).1
      simp only at hw
      simp only [List.cons_append, List.nil_append, rdS, hw]
      rw [if_neg (by omega), if_pos h]
      rfl
    · have hm : (q - bnd i bias) % (36 - bnd i bias) < 36 - bnd i bias := Nat.mod_lt _ (by omega)
      have hl := digs_less h
      have hq := Nat.div_add_mod (q - bnd i bias) (36 - bnd i bias)
      rw [digs_more h]
      generalize hMD : (q - bnd i bias) % (36 - bnd i bias) = MD at *
      generalize hDV : (q - bnd i bias) / (36 - bnd i bias) = DV at *
      have hw := (dgt_all ⟨bnd i bias + MD, by omega⟩).1
      simp only at hw
      have e1 : DV * (wt * (36 - bnd i bias)) = (DV * (36 - bnd i bias)) * wt := by rw [Nat.mul_comm wt, Nat.mul_assoc]
      have e2 : q = (bnd i bias + MD) + DV * (36 - bnd i bias) := by rw [Nat.mul_comm DV]; omega
      have e3 : sum + (bnd i bias + MD) * wt + DV * (wt * (36 - bnd i bias)) = sum + q * wt := by
        rw [e1, Nat.add_assoc, ← Nat.add_mul, ← e2]
      have hle : sum + (bnd i bias + MD) * wt ≤ sum + q * wt := by rw [← e3]; exact Nat.le_add_right _ _
      simp only [List.cons_append, rdS, hw]
      rw [if_neg (by omega), if_neg (by omega), ih DV hl (i + 1) (at' + 1) _ _ t (by rw [e3]; exact hs), e3, List.length_cons]
      congr 2
      omega
/-- What is read as a number is its digits, but for capitals. -/
theorem rdS_back {bias : Nat} : ∀ {l : List UInt8} {i at' sum wt s b : Nat}, rdS bias l i at' sum wt = .inr (s, b) → ∃ q, s = sum + q * wt ∧ digs q i bias = (l.take (b - at')).map lowA
  | [], _, _, _, _, _, _, h => by simp [rdS] at h
  | c :: t, i, at', sum, wt, s, b, h => by
    unfold rdS at h
    split at h
    · cases h
    · rename_i v hv
      have hv36 := wth_lt hv
      have hb1 := bnd_pos i bias
      have hb2 := bnd_le i bias
      split at h
      · cases h
      · split at h
        · rename_i hvb
          injection h with h
          injection h with h1 h2
          refine ⟨v, h1.symm, ?_⟩
          rw [digs_last hvb, wth_dgt hv, show b - at' = 1 from by omega]
          rfl
        · rename_i hvb
          have hb := rdS_some h
          obtain ⟨q, h1, h2⟩ := rdS_back h
          have e1 : q * (wt * (36 - bnd i bias)) = (q * (36 - bnd i bias)) * wt := by rw [Nat.mul_comm wt, Nat.mul_assoc]
          refine ⟨v + q * (36 - bnd i bias), ?_, ?_⟩
          · rw [h1, e1, Nat.add_assoc, ← Nat.add_mul]
          · have hge : ¬ v + q * (36 - bnd i bias) < bnd i bias := by omega
            have e2 : v + q * (36 - bnd i bias) - bnd i bias = (v - bnd i bias) + (36 - bnd i bias) * q := by rw [Nat.mul_comm q]; omega
            rw [digs_more hge, e2, Nat.add_mul_mod_self_left, Nat.mod_eq_of_lt (by omega), Nat.add_mul_div_left _ _ (by omega), Nat.div_eq_of_lt (by omega), Nat.zero_add, h2, show bnd i bias + (v - bnd i bias) = v from by omega, wth_dgt hv, show b - at' = (b - (at' + 1)) + 1 from by omega, List.take_succ_cons, List.map_cons]

theorem digs_no45 (q : Nat) : ∀ i bias, ∀ x ∈ digs q i bias, x ≠ 45 := by
  induction q using Nat.strongRecOn with
  | _ q ih =>
    intro i bias x hx
    have hb1 := bnd_pos i bias
    have hb2 := bnd_le i bias
    by_cases h : q < bnd i bias
    · rw [digs_last h, List.mem_singleton] at hx
      rw [hx]
      exact (dgt_all ⟨q, by omega⟩).2
    · have hm : (q - bnd i bias) % (36 - bnd i bias) < 36 - bnd i bias := Nat.mod_lt _ (by omega)
      rw [digs_more h, List.mem_cons] at hx
      rcases hx with hx | hx
      · rw [hx]
        exact (dgt_all ⟨bnd i bias + (q - bnd i bias) % (36 - bnd i bias), by omega⟩).2
      · exact ih _ (digs_less h) (i + 1) bias x hx
theorem punL_no45 (l : List Int) : ∀ (rest : List Nat) (f : Nat → Int) (n : Int) (i h bias : Nat) (first : Bool) (d : List UInt8), punL l rest f n i h bias first = some d → ∀ x ∈ d, x ≠ 45
  | [], _, _, _, _, _, _, d, e, x, hx => by
    simp only [punL] at e
    injection e with e
    subst e
    cases hx
  | a :: rest, f, n, i, h, bias, first, d, e, x, hx => by
    simp only [punL] at e
    split at e
    · cases e
    · rw [Option.map_eq_some_iff] at e
      obtain ⟨d', e1, e2⟩ := e
      subst e2
      rw [List.mem_append] at hx
      rcases hx with hx | hx
      · exact digs_no45 _ _ _ x hx
      · exact punL_no45 l rest _ _ _ _ _ _ d' e1 x hx
theorem digs_pos (q i bias : Nat) : 0 < (digs q i bias).length := by
  by_cases h : q < bnd i bias
  · rw [digs_last h]; simp
  · rw [digs_more h]; simp

/-- The runes at marked places below k. -/
def sel (f : Nat → Int) (l : List Int) (k : Nat) : List Int := ((List.range k).filter fun j => decide (f j = 1)).map (rn l)
theorem sel_succ (f : Nat → Int) (l : List Int) (k : Nat) : sel f l (k + 1) = sel f l k ++ (if f k = 1 then [rn l k] else []) := by
  unfold sel
  rw [List.range_succ, List.filter_append, List.map_append]
  congr 1
  by_cases h : f k = 1
  · simp [h]
  · simp [h]
theorem sel_length {f : Nat → Int} (hf : F01 f) (l : List Int) (k : Nat) : ((sel f l k).length : Int) = pre f k := by
  induction k with
  | zero => rfl
  | succ k ih =>
    have h0 := hf.1 k
    have h1 := hf.2 k
    rw [sel_succ, List.length_append]
    push_cast
    rw [ih]
    show _ = pre f k + f k
    split
    · simp; omega
    · simp; omega
theorem sel_ext (f g : Nat → Int) (l : List Int) (k : Nat) (h : ∀ j, j < k → f j = g j) : sel f l k = sel g l k := by
  unfold sel
  congr 1
  apply List.filter_congr
  intro x hx
  rw [h x (List.mem_range.1 hx)]
theorem insIdx_app (X Y : List Int) (r : Int) : ∀ p, p ≤ X.length → (X ++ Y).insertIdx p r = X.insertIdx p r ++ Y := by
  induction X with
  | nil =>
    intro p hp
    have : p = 0 := by simpa using hp
    subst this
    simp
  | cons x t ih =>
    intro p hp
    cases p with
    | zero => simp
    | succ p =>
      have := ih p (by simpa using hp)
      simp only [List.cons_append, List.insertIdx_succ_cons, this]
theorem sel_put {f : Nat → Int} (hf : F01 f) (l : List Int) (a : Nat) (ha : f a = 0) (k : Nat) : sel (put1 f a 1) l k = if a < k then (sel f l k).insertIdx (pre f a).toNat (rn l a) else sel f l k := by
  induction k with
  | zero => rfl
  | succ k ih =>
    rw [sel_succ (put1 f a 1), ih]
    by_cases e : a = k
    · subst e
      have e1 : put1 f a 1 a = 1 := by unfold put1; rw [if_pos rfl]; omega
      rw [if_neg (show ¬ a < a by omega), if_pos (show a < a + 1 by omega), if_pos e1, sel_succ f, if_neg (show ¬ f a = 1 by omega), List.append_nil]
      have := sel_length hf l a
      rw [← this, Int.toNat_natCast]
      simp
    · have e1 : put1 f a 1 k = f k := by unfold put1; rw [if_neg (fun h => e h.symm)]
      rw [e1, sel_succ f]
      by_cases h : a < k
      · rw [if_pos h, if_pos (show a < k + 1 by omega), insIdx_app]
        have h1 := sel_length hf l k
        have h2 := pre_mono f hf.1 (Nat.le_of_lt h)
        omega
      · rw [if_neg h, if_neg (show ¬ a < k + 1 by omega)]
theorem sel_all (f : Nat → Int) (l : List Int) (h : ∀ j, j < l.length → f j = 1) : sel f l l.length = l := by
  unfold sel
  rw [List.filter_eq_self.2 (fun x hx => by simp [h x (List.mem_range.1 hx)])]
  apply List.ext_getElem
  · simp
  · intro j h1 h2
    rw [List.getElem_map, List.getElem_range, rn_get l j h2]

/-- What was written is read. -/
theorem punL_read (l : List Int) (hR : ∀ r ∈ l, isR r) (s : List UInt8) : ∀ (rest : List Nat) (f : Nat → Int) (n : Int) (i h bias : Nat) (first : Bool) (d : List UInt8) (at' fuel : Nat), PunOk l rest f n i h → (∀ j, j < l.length → f j = 1 ∨ j ∈ rest) → punL l rest f n i h bias first = some d → s.drop at' = d → d.length ≤ fuel →
    ∃ ps, unL s fuel at' n i h bias first = .inr ps ∧ insAll (sel f l l.length) ps = l
  | [], f, n, i, h, bias, first, d, at', fuel, hO, hA, e, hs, hfu => by
    simp only [punL] at e
    injection e with e
    subst e
    refine ⟨[], ?_, sel_all f l (fun j hj => (hA j hj).resolve_right (by simp))⟩
    cases fuel with
    | zero => rfl
    | succ fuel =>
      have := List.drop_eq_nil_iff.1 hs
      unfold unL
      rw [if_pos this]
  | a :: rest, f, n, i, h, bias, first, d, at', fuel, hO, hA, e, hs, hfu => by
    have h0 := hO.step0
    have h2 := hO.step
    obtain ⟨g1, g2, g3, g4, g5⟩ := hO.nxt a List.mem_cons_self
    have p0 := hO.pre0 a
    have p1 := hO.preh (Nat.le_of_lt g1)
    have hf := hO.f01
    simp only [punL] at e
    split at e
    · cases e
    · rename_i hov
      rw [Option.map_eq_some_iff] at e
      obtain ⟨d', e1, e2⟩ := e
      obtain ⟨P, hP⟩ := Int.eq_ofNat_of_zero_le p0
      obtain ⟨S, hS⟩ := Int.eq_ofNat_of_zero_le h0
      rw [hS, hP] at e1
      rw [hS] at e2
      rw [hP] at h2
      simp only [Int.toNat_natCast] at e1 e2 h2
      have hr : isR (rn l a) := by rw [rn_get l a g1]; exact hR _ (List.getElem_mem g1)
      obtain ⟨D, hD⟩ := Int.eq_ofNat_of_zero_le (show 0 ≤ rn l a - n by omega)
      have hN : i + S = P + (h + 1) * D := by
        unfold stp at hS
        rw [hP, hD] at hS
        have : ((i + S : Nat) : Int) = ((P + (h + 1) * D : Nat) : Int) := by
          push_cast
          rw [← hS, Int.mul_comm (D : Int)]
          omega
        omega
      have hdiv : (i + S) / (h + 1) = D := by
        rw [hN, Nat.add_mul_div_left _ _ (by omega), Nat.div_eq_of_lt (by omega), Nat.zero_add]
      have hmod : (i + S) % (h + 1) = P := by
        rw [hN, Nat.add_mul_mod_self_left, Nat.mod_eq_of_lt (by omega)]
      have hn : n + (D : Int) = rn l a := by omega
      have hA2 : ∀ j, j < l.length → put1 f a 1 j = 1 ∨ j ∈ rest := by
        intro j hj
        by_cases ej : j = a
        · subst ej
          left
          unfold put1
          rw [if_pos rfl]
          omega
        · rcases hA j hj with h' | h'
          · left
            unfold put1
            rw [if_neg ej]
            exact h'
          · rw [List.mem_cons] at h'
            exact .inr (h'.resolve_left ej)
      have hdp := digs_pos S 0 bias
      subst e2
      rw [List.length_append] at hfu
      cases fuel with
      | zero => omega
      | succ fuel =>
        have hs2 : s.drop (at' + (digs S 0 bias).length) = d' := by
          rw [← List.drop_drop, hs, List.drop_left]
        obtain ⟨ps, u1, u2⟩ := punL_read l hR s rest _ _ _ _ _ _ d' (at' + (digs S 0 bias).length) fuel h2 hA2 e1 hs2 (by omega)
        refine ⟨(rn l a, P) :: ps, ?_, ?_⟩
        · have hlt : ¬ s.length ≤ at' := by
            intro hle
            rw [List.drop_eq_nil_of_le hle] at hs
            have := congrArg List.length hs
            rw [List.length_append, List.length_nil] at this
            omega
          have hrd := rdS_digs bias S 0 at' 0 1 d' (by rw [hS] at hov; omega)
          rw [← hs, Nat.zero_add, Nat.mul_one] at hrd
          unfold unL
          rw [if_neg hlt, hrd]
          simp only
          rw [hdiv, hmod, hn, if_pos hr, u1]
        · have := sel_put hf l a g2 l.length
          rw [if_pos g1, hP, Int.toNat_natCast] at this
          rw [this] at u2
          exact u2

theorem lastI_at (s : List UInt8) (k : Nat) (hk : s[k]? = some 45) : ∀ m, k < m → (∀ j, k < j → j < m → s[j]? ≠ some 45) → lastI s m = k
  | 0, h, _ => by omega
  | m + 1, h, hn => by
    unfold lastI
    by_cases e : k = m
    · subst e
      rw [if_pos hk]
    · rw [if_neg (hn m (by omega) (by omega))]
      exact lastI_at s k hk m (by omega) (fun j h1 h2 => hn j h1 (by omega))
theorem lastI_no (s : List UInt8) : ∀ m, (∀ j, j < m → s[j]? ≠ some 45) → lastI s m = -1
  | 0, _ => rfl
  | m + 1, hn => by
    unfold lastI
    rw [if_neg (hn m (by omega))]
    exact lastI_no s m (fun j h => hn j (by omega))
theorem lastI_is (s : List UInt8) : ∀ m, 0 ≤ lastI s m → s[(lastI s m).toNat]? = some 45
  | 0, h => by simp [lastI] at h
  | m + 1, h => by
    unfold lastI at h ⊢
    by_cases e : s[m]? = some 45
    · rw [if_pos e]
      simpa using e
    · rw [if_neg e] at h ⊢
      exact lastI_is s m h
theorem hiN_fullT : ∀ l : List UInt8, (∀ b ∈ l, b.toNat < 128) → hiN l = l.length
  | [], _ => rfl
  | b :: t, h => by
    simp only [hiN]
    rw [if_pos (h b List.mem_cons_self), hiN_fullT t (fun c hc => h c (List.mem_cons_of_mem _ hc)), List.length_cons]
theorem hiN_low : ∀ l : List UInt8, hiN l = l.length → ∀ b ∈ l, b.toNat < 128
  | [], _, _, hb => by cases hb
  | c :: t, h, b, hb => by
    simp only [hiN, List.length_cons] at h
    split at h
    · rename_i hc
      rcases List.mem_cons.1 hb with e | e
      · rw [e]; exact hc
      · exact hiN_low t (by omega) b e
    · omega
theorem lowB_low (l : List Int) (h : ∀ r ∈ l, isR r) (k : Nat) : ∀ b ∈ lowB l k, b.toNat < 128 := by
  intro b hb
  unfold lowB at hb
  rw [List.mem_map] at hb
  obtain ⟨r, hr, e⟩ := hb
  rw [List.mem_filter] at hr
  have h1 := h r (List.mem_of_mem_take hr.1)
  have h2 : r < 128 := by simpa using hr.2
  have h3 := h1.1
  rw [← e, UInt8.toNat_ofNat']
  omega
theorem low_sel (l : List Int) (h : ∀ r ∈ l, isR r) : ∀ k, k ≤ l.length → lowR (lowB l k) = sel (lowF l l.length) l k
  | 0, _ => rfl
  | k + 1, hk => by
    have hr := rn_get l k (by omega)
    rw [sel_succ, ← low_sel l h k (by omega)]
    by_cases hlt : l[k] < 128
    · have h1 := h _ (List.getElem_mem (show k < l.length by omega))
      have h3 := h1.1
      have e1 : lowF l l.length k = 1 := by unfold lowF; rw [if_pos ⟨by omega, by omega⟩]
      rw [lowB_yes l k (by omega) hlt, e1, if_pos rfl, hr]
      unfold lowR
      rw [List.map_append, List.map_singleton, UInt8.toNat_ofNat']
      congr 2
      omega
    · have e1 : lowF l l.length k = 0 := by unfold lowF; rw [if_neg (by omega)]
      rw [lowB_no l k (by omega) hlt, e1, if_neg (by omega), List.append_nil]

/-- Punycode is read as it was written. -/
theorem puny_there (l : List Int) (h : ∀ r ∈ l, isR r) (d : List UInt8) (hd : punD l = some d) : unpT (punH l ++ d) = l ∧ unpE (punH l ++ d) = (0, 0) := by
  have h45 := punL_no45 l _ _ _ _ _ _ _ d hd
  have hO := punOk_start l h
  have hA : ∀ j, j < l.length → lowF l l.length j = 1 ∨ j ∈ ordW l := by
    intro j hj
    by_cases hlt : rn l j < 128
    · left
      unfold lowF
      rw [if_pos ⟨hj, hlt⟩]
    · right
      unfold ordW
      rw [List.mem_mergeSort]
      unfold wideK
      rw [List.mem_filter]
      exact ⟨List.mem_range.2 hj, by simp; omega⟩
  have hlow := lowB_low l h l.length
  have hsel := low_sel l h l.length (Nat.le_refl _)
  have key : mrkN (punH l ++ d) = (lowB l l.length).length ∧ mrkS (punH l ++ d) = (punH l).length ∧ (punH l ++ d).take (lowB l l.length).length = lowB l l.length := by
    unfold punH
    by_cases hL : lowB l l.length = []
    · rw [hL, if_pos rfl]
      simp only [List.append_nil, List.nil_append, List.length_nil, List.take_zero]
      have : lastI d d.length = -1 := lastI_no d d.length (fun j hj e => by
        rw [List.getElem?_eq_getElem hj] at e
        injection e with e
        exact h45 _ (List.getElem_mem hj) e)
      unfold mrkN mrkS
      rw [this]
      simp
    · rw [if_neg hL]
      have hp : 0 < (lowB l l.length).length := List.length_pos_iff.2 hL
      generalize lowB l l.length = L at *
      have : lastI ((L ++ [45]) ++ d) ((L ++ [45]) ++ d).length = L.length := by
        refine lastI_at _ _ (by simp) _ (by simp) (fun j h1 h2 e => ?_)
        rw [List.length_append, List.length_append, List.length_singleton] at h2
        rw [List.getElem?_append_right (by simp; omega)] at e
        obtain ⟨hj, e⟩ := List.getElem?_eq_some_iff.1 e
        exact h45 _ (List.getElem_mem hj) e
      unfold mrkN mrkS
      rw [this, if_pos (by omega), if_pos (by omega)]
      refine ⟨by omega, by simp, by simp⟩
  obtain ⟨k1, k2, k3⟩ := key
  obtain ⟨ps, u1, u2⟩ := punL_read l h (punH l ++ d) (ordW l) _ _ _ _ _ _ d (punH l).length (punH l ++ d).length hO hA hd (List.drop_left) (by simp)
  have hD : unpD (punH l ++ d) = .inr ps := by
    unfold unpD
    rw [k1, k2]
    exact u1
  unfold unpT unpE
  rw [k1, k3, hiN_fullT _ hlow, if_neg (by omega), if_neg (by omega), hD]
  simp only
  rw [hsel]
  exact ⟨u2, trivial⟩

/-- Where wide runes came to lie. -/
def Laid (u : List Int) : (Nat → Int) → List (Int × Nat) → List Nat → Prop
  | f, [], [] => ∀ j, j < u.length → f j = 1
  | f, x :: ps, q :: qs => q < u.length ∧ f q = 0 ∧ pre f q = (x.2 : Int) ∧ rn u q = x.1 ∧ Laid u (put1 f q 1) ps qs
  | _, _, _ => False
theorem pre_find {f : Nat → Int} (hf : F01 f) (p : Nat) : ∀ n, (p : Int) < pre f n → ∃ q, q < n ∧ f q = 1 ∧ pre f q = p
  | 0, h => by simp [pre] at h; omega
  | n + 1, h => by
    have h0 := hf.1 n
    have h1 := hf.2 n
    by_cases hlt : (p : Int) < pre f n
    · obtain ⟨q, a, b, c⟩ := pre_find hf p n hlt
      exact ⟨q, by omega, b, c⟩
    · have e : pre f (n + 1) = pre f n + f n := rfl
      exact ⟨n, by omega, by omega, by omega⟩
theorem laid_all : ∀ (ps : List (Int × Nat)) (cur : List Int), PsOk cur.length ps → ∃ f qs, F01 f ∧ (∀ j, (insAll cur ps).length ≤ j → f j = 0) ∧ sel f (insAll cur ps) (insAll cur ps).length = cur ∧ Laid (insAll cur ps) f ps qs
  | [], cur, _ => by
    refine ⟨fun j => if j < cur.length then 1 else 0, [], ⟨fun j => by simp only; split <;> omega, fun j => by simp only; split <;> omega⟩, fun j hj => if_neg (by have : (insAll cur []).length = cur.length := rfl; omega), sel_all _ cur (fun j hj => if_pos hj), fun j hj => if_pos hj⟩
  | x :: ps, cur, hp => by
    have hl : (cur.insertIdx x.2 x.1).length = cur.length + 1 := List.length_insertIdx_of_le_length hp.1 _
    obtain ⟨f', qs, hf, hz, hsel, hla⟩ := laid_all ps (cur.insertIdx x.2 x.1) (by rw [hl]; exact hp.2.2.2)
    have eU : insAll cur (x :: ps) = insAll (cur.insertIdx x.2 x.1) ps := rfl
    rw [eU]
    generalize insAll (cur.insertIdx x.2 x.1) ps = u at *
    have h1 := sel_length hf u u.length
    rw [hsel, hl] at h1
    obtain ⟨q, q1, q2, q3⟩ := pre_find hf x.2 u.length (by have := hp.1; omega)
    have hf0 : F01 (put1 f' q (-1)) := hf.put q (-1) (by omega) (by omega)
    have eq : put1 (put1 f' q (-1)) q 1 = f' := by
      funext j
      unfold put1
      by_cases e : j = q
      · subst e
        rw [if_pos rfl, if_pos rfl]
        omega
      · rw [if_neg e, if_neg e]
    have hq0 : put1 f' q (-1) q = 0 := by unfold put1; rw [if_pos rfl]; omega
    have hpre : pre (put1 f' q (-1)) q = (x.2 : Int) := by rw [pre_put, if_neg (by omega), q3]; omega
    have hs := sel_put hf0 u q hq0 u.length
    rw [eq, if_pos q1, hpre, Int.toNat_natCast, hsel] at hs
    have hlen : (sel (put1 f' q (-1)) u u.length).length = cur.length := by
      have h2 := sel_length hf0 u u.length
      rw [pre_put, if_pos q1] at h2
      omega
    have e1 : sel (put1 f' q (-1)) u u.length = cur := by
      have := congrArg (fun L => L.eraseIdx x.2) hs
      simp only [List.eraseIdx_insertIdx_self] at this
      exact this.symm
    have e2 : rn u q = x.1 := by
      have := congrArg (fun L => L[x.2]?) hs
      rw [List.getElem?_insertIdx_self, List.getElem?_insertIdx_self, if_pos hp.1, if_pos (by have := hp.1; omega)] at this
      injection this with this
      exact this.symm
    refine ⟨put1 f' q (-1), q :: qs, hf0, fun j hj => ?_, e1, q1, hq0, hpre, e2, by rw [eq]; exact hla⟩
    unfold put1
    rw [if_neg (by omega)]
    exact hz j hj

/-- What is read is written as it was, but for capitals. -/
theorem unL_write (s : List UInt8) (u : List Int) : ∀ (fuel at' : Nat) (n : Int) (i h bias : Nat) (first : Bool) (ps : List (Int × Nat)) (f : Nat → Int) (qs : List Nat), unL s fuel at' n i h bias first = .inr ps → Laid u f ps qs → F01 f → at' ≤ s.length → s.length - at' ≤ fuel →
    punL u qs f n i h bias first = some ((s.drop at').map lowA) ∧ qs.Pairwise (Rw2 u) ∧ (∀ q ∈ qs, n < rn u q ∨ (n = rn u q ∧ (i : Int) ≤ pre f q))
  | fuel, at', n, i, h, bias, first, [], f, qs, e, hla, hf, hat, hfu => by
    have hend : at' = s.length := by
      cases fuel with
      | zero => omega
      | succ fuel =>
        unfold unL at e
        split at e
        · omega
        · split at e
          · cases e
          · split at e
            · split at e
              · cases e
              · injection e with e
                cases e
            · cases e
    subst hend
    cases qs with
    | cons q qs => exact hla.elim
    | nil => exact ⟨by simp [punL], List.Pairwise.nil, fun q hq => by cases hq⟩
  | 0, at', n, i, h, bias, first, x :: ps, f, qs, e, hla, hf, hat, hfu => by
    simp only [unL] at e
    injection e with e
    cases e
  | fuel + 1, at', n, i, h, bias, first, x :: ps, f, qs, e, hla, hf, hat, hfu => by
    cases qs with
    | nil => exact hla.elim
    | cons q qs =>
      obtain ⟨l1, l2, l3, l4, l5⟩ := hla
      unfold unL at e
      split at e
      · injection e with e
        cases e
      · split at e
        · cases e
        · rename_i S b hrd
          have hb := rdS_some hrd
          obtain ⟨q', hq1, hq2⟩ := rdS_back hrd
          rw [Nat.zero_add, Nat.mul_one] at hq1
          subst hq1
          rw [List.length_drop] at hb
          split at e
          · rename_i hR
            split at e
            · cases e
            · rename_i ps' hu
              injection e with e
              injection e with e1 e2
              subst e1 e2
              simp only at l3 l4
              have hdm := Nat.div_add_mod (i + S) (h + 1)
              have hml := Nat.mod_lt (i + S) (show 0 < h + 1 by omega)
              generalize hD : (i + S) / (h + 1) = D at *
              generalize hM : (i + S) % (h + 1) = M at *
              have hf1 : F01 (put1 f q 1) := hf.put q 1 (by omega) (by omega)
              obtain ⟨r1, r2, r3⟩ := unL_write s u fuel b _ _ _ _ _ _ _ qs hu l5 hf1 (by omega) (by omega)
              have hstp : stp u f n i h q = (S : Int) := by
                unfold stp
                rw [l3, l4, show n + (D : Int) - n = (D : Int) from by omega]
                have : (((h + 1) * D + M : Nat) : Int) = ((i + S : Nat) : Int) := by rw [hdm]
                push_cast at this
                rw [Int.mul_comm (D : Int)]
                omega
              refine ⟨?_, List.pairwise_cons.2 ⟨fun p hp => ?_, r2⟩, fun p hp => ?_⟩
              · simp only [punL]
                rw [hstp, if_neg (by omega), l3, l4]
                simp only [Int.toNat_natCast]
                rw [r1, Option.map_some, hq2, ← List.map_append, show s.drop b = (s.drop at').drop (b - at') from by rw [List.drop_drop]; congr 1; omega, List.take_append_drop]
              · have := r3 p hp
                unfold Rw2
                rw [pre_put] at this
                by_cases hlt : q < p
                · omega
                · have := pre_mono f hf.1 (show p ≤ q by omega)
                  rw [if_neg hlt] at *
                  omega
              · have hDn : D = 0 → i ≤ M := by
                  intro e0
                  rw [e0, Nat.mul_zero] at hdm
                  omega
                rcases List.mem_cons.1 hp with e | e
                · subst e
                  rw [l3, l4]
                  omega
                · have := r3 p e
                  rw [pre_put] at this
                  have hple : (if q < p then (1 : Int) else 0) ≤ 1 := by split <;> omega
                  omega
          · cases e
termination_by fuel => fuel

theorem rdS_errT {bias : Nat} : ∀ {l : List UInt8} {i at' sum wt : Nat} {e : Nat × Nat}, rdS bias l i at' sum wt = .inl e → 50 ≤ e.1
  | [], _, _, _, _, _, h => by
    simp only [rdS] at h
    injection h with h
    rw [← h]
    simp
  | c :: t, i, at', sum, wt, e, h => by
    unfold rdS at h
    split at h
    · injection h with h
      rw [← h]
      simp
    · split at h
      · injection h with h
        rw [← h]
        simp
      · split at h
        · cases h
        · exact rdS_errT h
theorem unL_err (s : List UInt8) : ∀ (fuel at' : Nat) (n : Int) (i h bias : Nat) (first : Bool) (e : Nat × Nat), unL s fuel at' n i h bias first = .inl e → 50 ≤ e.1
  | 0, _, _, _, _, _, _, _, he => by simp [unL] at he
  | fuel + 1, at', n, i, h, bias, first, e, he => by
    unfold unL at he
    split at he
    · cases he
    · split at he
      · rename_i e' hr
        injection he with he
        rw [← he]
        exact rdS_errT hr
      · split at he
        · split at he
          · rename_i e' hu
            injection he with he
            rw [← he]
            exact unL_err s fuel _ _ _ _ _ _ _ hu
          · cases he
        · injection he with he
          rw [← he]
          simp
theorem unL_isR (s : List UInt8) : ∀ (fuel at' : Nat) (n : Int) (i h bias : Nat) (first : Bool) (ps : List (Int × Nat)), unL s fuel at' n i h bias first = .inr ps → ∀ x ∈ ps, isR x.1
  | 0, _, _, _, _, _, _, ps, he, x, hx => by
    simp only [unL] at he
    injection he with he
    subst he
    cases hx
  | fuel + 1, at', n, i, h, bias, first, ps, he, x, hx => by
    unfold unL at he
    split at he
    · injection he with he
      subst he
      cases hx
    · split at he
      · cases he
      · split at he
        · rename_i hR
          split at he
          · cases he
          · rename_i ps' hu
            injection he with he
            subst he
            rcases List.mem_cons.1 hx with e | e
            · rw [e]
              exact hR
            · exact unL_isR s fuel _ _ _ _ _ _ ps' hu x e
        · cases he
theorem insAll_mem : ∀ (ps : List (Int × Nat)) (cur : List Int), PsOk cur.length ps → ∀ r ∈ insAll cur ps, r ∈ cur ∨ ∃ x ∈ ps, x.1 = r
  | [], cur, _, r, hr => .inl hr
  | x :: ps, cur, hp, r, hr => by
    have hl : (cur.insertIdx x.2 x.1).length = cur.length + 1 := List.length_insertIdx_of_le_length hp.1 _
    rcases insAll_mem ps (cur.insertIdx x.2 x.1) (by rw [hl]; exact hp.2.2.2) r hr with h | ⟨y, h1, h2⟩
    · rw [List.mem_insertIdx hp.1] at h
      rcases h with h | h
      · exact .inr ⟨x, List.mem_cons_self, h.symm⟩
      · exact .inl h
    · exact .inr ⟨y, List.mem_cons_of_mem _ h1, h2⟩
/-- A text whose letters behind the mark are small. -/
def smallL (s : List UInt8) : List UInt8 := s.take (mrkN s) ++ (s.drop (mrkN s)).map lowA
theorem laid_wide (u : List Int) : ∀ (ps : List (Int × Nat)) (f : Nat → Int) (qs : List Nat), F01 f → (∀ x ∈ ps, 128 ≤ x.1) → Laid u f ps qs → (∀ j, j < u.length → (f j = 0 ↔ j ∈ qs)) ∧ ∀ q ∈ qs, q < u.length ∧ 128 ≤ rn u q
  | [], f, [], hf, _, h => ⟨fun j hj => by have := h j hj; simp; omega, fun q hq => by cases hq⟩
  | [], _, _ :: _, _, _, h => h.elim
  | _ :: _, _, [], _, _, h => h.elim
  | x :: ps, f, q :: qs, hf, hx, h => by
    obtain ⟨l1, l2, l3, l4, l5⟩ := h
    have hf1 : F01 (put1 f q 1) := hf.put q 1 (by omega) (by omega)
    obtain ⟨i1, i2⟩ := laid_wide u ps _ qs hf1 (fun y hy => hx y (List.mem_cons_of_mem _ hy)) l5
    refine ⟨fun j hj => ?_, fun p hp => ?_⟩
    · have hj1 := i1 j hj
      rw [List.mem_cons]
      by_cases e : j = q
      · subst e
        exact ⟨fun _ => .inl rfl, fun _ => l2⟩
      · unfold put1 at hj1
        rw [if_neg e] at hj1
        rw [hj1]
        exact ⟨fun h => .inr h, fun h => h.resolve_left e⟩
    · rcases List.mem_cons.1 hp with e | e
      · subst e
        exact ⟨l1, by rw [l4]; exact hx x List.mem_cons_self⟩
      · exact i2 p e

/-- What was read is written as it was, but for capitals. -/
theorem puny_back (s : List UInt8) (hE : (unpE s).1 = 0) : (∀ r ∈ unpT s, isR r) ∧ ∃ d, punD (unpT s) = some d ∧ punH (unpT s) ++ d = smallL s := by
  unfold unpE at hE
  by_cases hhi : hiN (s.take (mrkN s)) < mrkN s
  · rw [if_pos hhi] at hE
    simp at hE
  · rw [if_neg hhi] at hE
    have hmN := mrkN_le s
    have hlen : (s.take (mrkN s)).length = mrkN s := by rw [List.length_take]; omega
    have hlow : ∀ b ∈ s.take (mrkN s), b.toNat < 128 := hiN_low _ (by have := hiN_le (s.take (mrkN s)); omega)
    cases hU : unpD s with
    | inl e =>
      rw [hU] at hE
      simp only at hE
      have := unL_err s _ _ _ _ _ _ _ e hU
      omega
    | inr ps =>
      have hT : unpT s = insAll (lowR (s.take (mrkN s))) ps := by
        unfold unpT
        rw [if_neg hhi, hU]
      have hbl : (lowR (s.take (mrkN s))).length = mrkN s := by unfold lowR; rw [List.length_map, hlen]
      obtain ⟨hps, -⟩ := unL_ok s _ _ _ _ _ _ _ ps (by omega) hU
      have hps' : PsOk (lowR (s.take (mrkN s))).length ps := by rw [hbl]; exact hps
      have hb128 : ∀ r ∈ lowR (s.take (mrkN s)), 0 ≤ r ∧ r < 128 := by
        intro r hr
        unfold lowR at hr
        rw [List.mem_map] at hr
        obtain ⟨b, hb, e⟩ := hr
        have := hlow b hb
        omega
      have hp128 : ∀ x ∈ ps, 128 ≤ x.1 := by
        intro x hx
        obtain ⟨j, hj, e⟩ := List.getElem_of_mem hx
        have := PsOk_get hps j hj
        rw [e] at this
        exact this.2.1
      have hpR := unL_isR s _ _ _ _ _ _ _ ps hU
      have hmem := insAll_mem ps _ hps'
      obtain ⟨f, qs, hf, hz, hsel, hla⟩ := laid_all ps _ hps'
      have hunl := unL_write s (insAll (lowR (s.take (mrkN s))) ps) s.length (mrkS s) 128 0 (mrkN s) 72 true ps f qs hU hla hf (mrkS_le s) (by omega)
      rw [← hT] at hmem hz hsel hla hunl
      obtain ⟨w1, w2⟩ := laid_wide _ ps f qs hf hp128 hla
      obtain ⟨v1, v2, -⟩ := hunl
      generalize unpT s = u at *
      have hone : ∀ j, j < u.length → f j = 1 → rn u j < 128 := by
        intro j hj hj1
        have : rn u j ∈ sel f u u.length := by
          unfold sel
          rw [List.mem_map]
          exact ⟨j, by rw [List.mem_filter]; exact ⟨List.mem_range.2 hj, by simp [hj1]⟩, rfl⟩
        rw [hsel] at this
        exact (hb128 _ this).2
      have hiR : ∀ r ∈ u, isR r := by
        intro r hr
        rcases hmem r hr with h | ⟨x, h1, h2⟩
        · have := hb128 r h
          unfold isR
          omega
        · rw [← h2]
          exact hpR x h1
      have ef : lowF u u.length = f := by
        funext j
        unfold lowF
        by_cases hj : j < u.length
        · by_cases h0 : f j = 0
          · have := (w2 j ((w1 j hj).1 h0)).2
            rw [if_neg (by omega), h0]
          · have h1 : f j = 1 := by
              have := hf.1 j
              have := hf.2 j
              omega
            rw [if_pos ⟨hj, hone j hj h1⟩, h1]
        · rw [if_neg (by omega), hz j (by omega)]
      have eo : qs = ordW u := by
        refine sorted_eq (R := Rw2 u) (fun a h => ?_) (fun a b h1 h2 => ?_) qs (ordW u) v2 (pairwise_ord u) (fun x => ?_)
        · unfold Rw2 at h; omega
        · unfold Rw2 at h1 h2; omega
        · unfold ordW
          rw [List.mem_mergeSort]
          unfold wideK
          rw [List.mem_filter, List.mem_range]
          constructor
          · intro hx
            exact ⟨(w2 x hx).1, by simpa using (w2 x hx).2⟩
          · intro ⟨hx1, hx2⟩
            refine (w1 x hx1).1 ?_
            have h2 : 128 ≤ rn u x := by simpa using hx2
            have := hf.1 x
            have := hf.2 x
            by_cases h1 : f x = 1
            · have := hone x hx1 h1
              omega
            · omega
      have hls := low_sel u hiR u.length (Nat.le_refl _)
      rw [ef, hsel] at hls
      have eB : lowB u u.length = s.take (mrkN s) := by
        have inj : ∀ (a b : List UInt8), lowR a = lowR b → a = b := by
          intro a
          induction a with
          | nil => intro b h; cases b with
            | nil => rfl
            | cons y t => simp [lowR] at h
          | cons x t ih => intro b h; cases b with
            | nil => simp [lowR] at h
            | cons y t' =>
              unfold lowR at h
              rw [List.map_cons, List.map_cons] at h
              injection h with h1 h2
              have : x = y := UInt8.toNat.inj (by omega)
              rw [this, ih t' h2]
        exact inj _ _ hls
      refine ⟨hiR, (s.drop (mrkS s)).map lowA, ?_, ?_⟩
      · unfold punD
        rw [ef, eB, hlen, ← eo]
        exact v1
      · unfold punH smallL
        rw [eB]
        by_cases h0 : 0 < lastI s s.length
        · have e1 : mrkN s = (lastI s s.length).toNat := by unfold mrkN; rw [if_pos h0]
          have e2 : mrkS s = mrkN s + 1 := by unfold mrkS mrkN; rw [if_pos h0, if_pos h0]
          have e3 := lastI_is s s.length (by omega)
          rw [← e1] at e3
          obtain ⟨e4, e5⟩ := List.getElem?_eq_some_iff.1 e3
          have hne : s.take (mrkN s) ≠ [] := by
            intro e
            rw [e] at hlen
            simp at hlen
            omega
          rw [if_neg hne, e2, List.drop_eq_getElem_cons e4, e5, List.map_cons, List.append_assoc]
          rfl
        · have e1 : mrkN s = 0 := by unfold mrkN; rw [if_neg h0]
          have e2 : mrkS s = 0 := by unfold mrkS; rw [if_neg h0]
          rw [e1, e2]
          rfl
end Go.Proofs.YtedgimkffkflbaaDoor
