/-
  What is folded: plain.
-/
import Derived.Test.YtpepjiocjcjeeabDoorFsP
import Derived.Test.YtpepjiocjcjeeabDoorRc16
namespace Go.Proofs.YtpepjiocjcjeeabDoor

/-- T is what Fold leaves of the text l behind b, with a octets ahead. -/
inductive FB (l : List UInt8) (mo : Nat) : Nat → Nat → List UInt8 → Prop
  | last (b a : Nat) (h1 : ¬ 998 < a + l.length - b) (h2 : mo < a + l.length - b → ∀ j, b < j → j < l.length → jtB l j = false) : FB l mo b a (l.drop b)
  | more (b a e : Nat) (T : List UInt8) (h0 : b < e) (h1 : e < l.length) (hj : jtB l e = true) (h2 : ¬ 998 < a + e - b) (h3 : mo < a + e - b → ∀ j, b < j → j < e → jtB l j = false) (h : FB l mo e 0 T) : FB l mo b a (stE l b e ++ 13 :: 10 :: T)
theorem jbs_in {l : List UInt8} {b j : Nat} (h : b < j) (hj : jtB l j = true) : j ∈ jbs l b l.length := by
  unfold jbs
  rw [List.mem_filter]
  exact ⟨(jts_mem l _ j).2 ⟨(jt_lt hj).2, hj⟩, by simpa using h⟩
theorem jbs_jt {l : List UInt8} {b j i : Nat} (h : j ∈ jbs l b i) : jtB l j = true := by
  unfold jbs at h
  rw [List.mem_filter] at h
  exact ((jts_mem l _ j).1 h.1).2
theorem fst_le {l : List UInt8} {b f j : Nat} (hf : fstJ l b l.length = some f) (h : j ∈ jbs l b l.length) : f ≤ j := by
  unfold fstJ at hf
  have hs := jbs_sorted l b l.length
  cases hl : jbs l b l.length with
  | nil => rw [hl] at h; cases h
  | cons x r =>
    rw [hl] at hf h hs
    injection hf with hf
    subst hf
    rcases List.mem_cons.1 h with rfl | h
    · exact Nat.le_refl _
    · exact Nat.le_of_lt ((List.pairwise_cons.1 hs).1 _ h)
theorem fst_jt {l : List UInt8} {b f : Nat} (hf : fstJ l b l.length = some f) : f ∈ jbs l b l.length := by
  unfold fstJ at hf
  exact List.mem_of_mem_head? hf
theorem lst_jt {l : List UInt8} {mo a b g : Nat} (hf : lstJ l mo a b l.length = some g) : g ∈ jbs l b l.length ∧ a + (g - b) ≤ mo := by
  unfold lstJ at hf
  have := List.mem_of_getLast? hf
  rw [List.mem_filter] at this
  refine ⟨this.1, ?_⟩
  have h2 := this.2
  unfold fitB at h2
  simpa using h2
theorem rowD_wide {l : List UInt8} {mo a b : Nat} (hb : b ≤ l.length) (h : mo < a + rowD l mo a b - b) : ∀ j, b < j → j < rowD l mo a b → jtB l j = false := by
  intro j h1 h2
  cases hj : jtB l j with
  | false => rfl
  | true =>
    exfalso
    have hm := jbs_in h1 hj
    by_cases hw : mo < a + l.length - b
    · cases hf : fstJ l b l.length with
      | none =>
        unfold fstJ at hf
        rw [List.head?_eq_none_iff] at hf
        rw [hf] at hm
        cases hm
      | some f =>
        have hfl := fst_le hf hm
        cases hl : lstJ l mo a b l.length with
        | none =>
          rw [rowD_one hb hw hf hl] at h2
          omega
        | some g =>
          rw [rowD_two hb hw hf hl] at h h2
          obtain ⟨hg, hg2⟩ := lst_jt hl
          have hgl := fst_le hf hg
          have := (jbs_lt hg).1
          omega
    · rw [rowD_near hb hw] at h
      exact hw h
theorem rowD_jt {l : List UInt8} {mo a b : Nat} (hb : b ≤ l.length) (h : rowD l mo a b < l.length) : jtB l (rowD l mo a b) = true := by
  by_cases hw : mo < a + l.length - b
  · cases hf : fstJ l b l.length with
    | none => rw [rowD_none hf] at h; omega
    | some f =>
      cases hl : lstJ l mo a b l.length with
      | none =>
        rw [rowD_one hb hw hf hl]
        exact jbs_jt (fst_jt hf)
      | some g =>
        rw [rowD_two hb hw hf hl]
        rcases Nat.le_total f g with hle | hle
        · rw [Nat.max_eq_right hle]
          exact jbs_jt (lst_jt hl).1
        · rw [Nat.max_eq_left hle]
          exact jbs_jt (fst_jt hf)
  · rw [rowD_near hb hw] at h
    omega
theorem stE_all (l : List UInt8) (b : Nat) : stE l b l.length = l.drop b := by
  unfold stE
  rw [List.take_length]
theorem fb_of {R : Nat × Fd} {nm l : List UInt8} {mo : Nat} (h0 : R.1 = 0) : ∀ (n b a : Nat) (o : List UInt8), l.length - b = n → StR R nm l mo b a o → b ≤ l.length → (b < l.length ∨ l.length = 0) →
    ∃ T, R.2 = ⟨nm, o ++ T⟩ ∧ FB l mo b a T := by
  intro n
  induction n using Nat.strongRecOn with
  | ind n ih =>
    intro b a o hn hS hb hb0
    rcases str_step hS hb hb0 with ⟨_, rfl⟩ | ⟨g1, g2, rfl⟩ | ⟨g1, g2, g3, g4⟩
    · cases h0
    · rw [g2] at g1
      refine ⟨l.drop b, by rw [g2, stE_all], .last b a g1 (fun hw => ?_)⟩
      have := rowD_wide (mo := mo) (a := a) hb (by rw [g2]; exact hw)
      rw [g2] at this
      exact this
    · obtain ⟨T, h1, h2⟩ := ih (l.length - rowD l mo a b) (by omega) _ _ _ rfl g4 (Nat.le_of_lt g3) (.inl g3)
      refine ⟨stE l b (rowD l mo a b) ++ 13 :: 10 :: T, by rw [h1]; simp, .more b a _ T g2 g3 (rowD_jt hb g3) g1 (rowD_wide hb) h2⟩
theorem fb_head {l : List UInt8} {mo b a : Nat} {T : List UInt8} (h : FB l mo b a T) (_hb : b < l.length) : T[0]? = l[b]? := by
  cases h with
  | last => rw [List.getElem?_drop, Nat.add_zero]
  | more _ _ e T h0 h1 =>
    rw [List.getElem?_append_left (by rw [stE_len _ _ _ (Nat.le_of_lt h1)]; omega)]
    unfold stE
    rw [List.getElem?_drop, Nat.add_zero, List.getElem?_take, if_pos h0]
theorem unf_app : ∀ (q x : List UInt8), (∀ c ∈ q, c ≠ 13) → unf (q ++ x) = q ++ unf x
  | [], _, _ => rfl
  | c :: r, x, h => by
    have hc : c ≠ 13 := h c (List.mem_cons_self ..)
    have hf : fdH (c :: (r ++ x)) = false := by
      unfold fdH leH
      have : ((some c == some (13 : UInt8)) : Bool) = false := by simpa using hc
      show (((some c == some (13 : UInt8)) && _) && _) = false
      rw [this]
      rfl
    rw [List.cons_append, unf_cons, hf, if_neg (by decide), unf_app r x (fun d hd => h d (List.mem_cons_of_mem _ hd))]
    rfl
theorem no_of {l : List UInt8} (h : ¬ rwE l 0 < l.length) : ∀ c ∈ l, crB c = false := by
  intro c hc
  obtain ⟨j, hj, rfl⟩ := List.getElem_of_mem hc
  exact rwE_in l 0 j (Nat.zero_le _) (by omega) hj
theorem cr_no {c : UInt8} (h : crB c = false) : c ≠ 13 ∧ c ≠ 10 := by
  unfold crB at h
  simpa using h
theorem stE_in {l : List UInt8} {a b : Nat} {c : UInt8} (h : c ∈ stE l a b) : c ∈ l := by
  unfold stE at h
  exact List.mem_of_mem_take (List.mem_of_mem_drop h)
theorem stE_drop {l : List UInt8} {b e : Nat} (h : b ≤ e) (he : e ≤ l.length) : stE l b e ++ l.drop e = l.drop b := by
  have h1 := List.take_append_drop e l
  unfold stE
  have h2 : (l.take e ++ l.drop e).drop b = (l.take e).drop b ++ l.drop e := by
    rw [List.drop_append_of_le_length (by rw [List.length_take]; omega)]
  rw [← h2, h1]
theorem jt_bl {l : List UInt8} {e : Nat} (h : jtB l e = true) : ∃ c, l[e]? = some c ∧ blB c = true ∧ (∃ d, l[e - 1]? = some d ∧ blB d = false) ∧ (l.drop e).any (fun c => !blB c) = true ∧ 0 < e := by
  have hp := (jt_lt h).1
  unfold jtB at h
  simp only [Bool.and_eq_true, decide_eq_true_eq] at h
  obtain ⟨⟨_, h1⟩, h2⟩ := h
  cases hc : l[e]? with
  | none => rw [hc] at h1; cases h1
  | some c =>
    cases hd : l[e - 1]? with
    | none => rw [hc, hd] at h1; cases h1
    | some d =>
      rw [hc, hd] at h1
      simp only [Bool.and_eq_true, Bool.not_eq_true'] at h1
      exact ⟨c, rfl, h1.1, ⟨d, rfl, h1.2⟩, h2, hp⟩
theorem fb_unf {l : List UInt8} {mo : Nat} (hno : ∀ c ∈ l, crB c = false) {b a : Nat} {T : List UInt8} (h : FB l mo b a T) : unf T = l.drop b := by
  induction h with
  | last b a _ _ =>
    have := unf_app (l.drop b) [] (fun c hc => (cr_no (hno c (List.mem_of_mem_drop hc))).1)
    rw [List.append_nil, unf_nil, List.append_nil] at this
    exact this
  | more b a e T h0 h1 hj h2 h3 h ih =>
    rw [unf_app _ _ (fun c hc => (cr_no (hno c (stE_in hc))).1)]
    have hh := fb_head h h1
    obtain ⟨c, hc, hb, _⟩ := jt_bl hj
    rw [hc] at hh
    have hf : fdH (13 :: 10 :: T) = true := by
      unfold fdH leH
      show (true && match T[0]? with | some b => blB b | none => false) = true
      rw [hh]
      exact hb
    rw [unf_cons, hf, if_pos rfl]
    show stE l b e ++ unf T = _
    rw [ih, stE_drop (Nat.le_of_lt h0) (Nat.le_of_lt h1)]
/-- The first row of what is folded, and what follows it. -/
theorem fb_cut {l : List UInt8} {mo b a : Nat} {T : List UInt8} (h : FB l mo b a T) (hb : b ≤ l.length) (_hb0 : b < l.length ∨ l.length = 0) :
    ∃ e, b ≤ e ∧ e ≤ l.length ∧ ¬ 998 < a + e - b ∧ (mo < a + e - b → ∀ j, b < j → j < e → jtB l j = false) ∧
      ((e = l.length ∧ T = stE l b e) ∨ (b < e ∧ e < l.length ∧ jtB l e = true ∧ ∃ T', T = stE l b e ++ 13 :: 10 :: T' ∧ FB l mo e 0 T')) := by
  cases h with
  | last _ _ h1 h2 => exact ⟨l.length, hb, Nat.le_refl _, h1, h2, .inl ⟨rfl, (stE_all l b).symm⟩⟩
  | more _ _ e T' h0 h1 hj h2 h3 h => exact ⟨e, Nat.le_of_lt h0, Nat.le_of_lt h1, h2, h3, .inr ⟨h0, h1, hj, T', rfl, h⟩⟩
theorem tw_app (p : UInt8 → Bool) : ∀ (q x : List UInt8), (∀ c ∈ q, p c = true) → (∀ c, x[0]? = some c → p c = false) → (q ++ x).takeWhile p = q
  | [], x, _, h => by
    cases x with
    | nil => rfl
    | cons c r =>
      rw [List.nil_append, List.takeWhile_cons, h c rfl, if_neg (by decide)]
  | c :: r, x, h1, h2 => by
    rw [List.cons_append, List.takeWhile_cons, h1 c (List.mem_cons_self ..), if_pos rfl, tw_app p r x (fun d hd => h1 d (List.mem_cons_of_mem _ hd)) h2]
theorem fld_row {l : List UInt8} {b e : Nat} (hj : jtB l b = true) (hbe : b ≤ e) (he : e ≤ l.length) (h : e = l.length ∨ (b < e ∧ jtB l e = true)) : fldB (stE l b e) = true := by
  obtain ⟨c, hc, hcb, _, hany, _⟩ := jt_bl hj
  have hlt : b < e := by
    rcases h with rfl | h
    · exact (jt_lt hj).2
    · exact h.1
  have h0 : (stE l b e)[0]? = some c := by
    unfold stE
    rw [List.getElem?_drop, Nat.add_zero, List.getElem?_take, if_pos hlt, hc]
  have h1 : (stE l b e).any (fun c => !blB c) = true := by
    rcases h with rfl | ⟨_, h⟩
    · rw [stE_all]; exact hany
    · obtain ⟨_, hce, hcbe, ⟨d, hd, hdb⟩, _, _⟩ := jt_bl h
      rw [List.any_eq_true]
      refine ⟨d, ?_, by rw [hdb]; rfl⟩
      have hne : b ≤ e - 1 := by omega
      have : (stE l b e)[e - 1 - b]? = some d := by
        unfold stE
        rw [List.getElem?_drop, List.getElem?_take, if_pos (by omega), show b + (e - 1 - b) = e - 1 by omega, hd]
      exact List.mem_of_getElem? this
  cases hs : stE l b e with
  | nil => rw [hs] at h0; cases h0
  | cons x r =>
    rw [hs] at h0 h1
    injection h0 with h0
    subst h0
    unfold fldB
    simp only [hcb, h1, Bool.and_self]
theorem fb_chk {l : List UInt8} {mo nl : Nat} (hno : ∀ c ∈ l, crB c = false) : ∀ (n b a : Nat) (o T : List UInt8) (e : Nat), l.length - b = n → FB l mo b a T → b ≤ l.length → (b < l.length ∨ l.length = 0) → (b = 0 ∧ o = [] ∧ a = nl + 1 ∨ 0 < o.length ∧ a = 0 ∧ jtB l b = true) →
    ckR nl (o ++ T) (rws (o ++ T) o.length) 0 e = 0 := by
  intro n
  induction n using Nat.strongRecOn with
  | ind n ih =>
    intro b a o T e0 hn h hb hb0 hst
    obtain ⟨e, h1, h2, h3, _, h5⟩ := fb_cut h hb hb0
    have hlen := stE_len l b e h2
    have hrow : stE (o ++ T) o.length (o.length + (e - b)) = stE l b e := by
      rcases h5 with ⟨_, rfl⟩ | ⟨_, _, _, T', rfl, _⟩
      · unfold stE at hlen ⊢
        rw [List.take_of_length_le (by rw [List.length_append, hlen]; exact Nat.le_refl _), List.drop_left]
      · unfold stE at hlen ⊢
        rw [← List.append_assoc, List.take_append_of_le_length (by rw [List.length_append, hlen]; exact Nat.le_refl _), List.take_of_length_le (by rw [List.length_append, hlen]; exact Nat.le_refl _), List.drop_left]
    have htw : T.takeWhile (fun c => !crB c) = stE l b e := by
      have hq : ∀ c ∈ stE l b e, (!crB c) = true := fun c hc => by rw [hno c (stE_in hc)]; rfl
      rcases h5 with ⟨_, rfl⟩ | ⟨_, _, _, T', rfl, _⟩
      · have := tw_app (fun c => !crB c) (stE l b e) [] hq (fun c hc => by cases hc)
        rw [List.append_nil] at this
        exact this
      · exact tw_app (fun c => !crB c) _ _ hq (fun c hc => by injection hc with hc; subst hc; rfl)
    have hE : rwE (o ++ T) o.length = o.length + (e - b) := by
      unfold rwE
      rw [List.drop_left, htw, hlen]
    have hw : ¬ 998 < (if o.length = 0 then o.length + (e - b) - o.length + (nl + 1) else o.length + (e - b) - o.length) := by
      rcases hst with ⟨rfl, rfl, rfl⟩ | ⟨h6, rfl, _⟩
      · show ¬ 998 < 0 + (e - 0) - 0 + (nl + 1)
        omega
      · rw [if_neg (by omega)]; omega
    have hk : (if o.length = 0 then 0 else if fldB (stE (o ++ T) o.length (o.length + (e - b))) then 0 else 161) = 0 := by
      by_cases hz : o.length = 0
      · rw [if_pos hz]
      · rw [if_neg hz, hrow]
        rcases hst with ⟨_, rfl, _⟩ | ⟨_, _, hj⟩
        · exact absurd rfl hz
        · rw [fld_row hj h1 h2 (by
            rcases h5 with ⟨h6, _⟩ | ⟨h6, _, h7, _⟩
            · exact .inl h6
            · exact .inr ⟨h6, h7⟩), if_pos rfl]
    rcases h5 with ⟨h6, hT⟩ | ⟨h6, h7, h8, T', hT, h9⟩
    · have hend : leH ((o ++ T).drop (rwE (o ++ T) o.length)) = false := by
        rw [hE, List.drop_eq_nil_of_le (by rw [List.length_append, hT, hlen]; exact Nat.le_refl _)]
        rfl
      rw [rws_off _ _ hend, hE, ckR, if_neg hw, hk, ckR, if_neg (by rw [List.length_append, hT, hlen]; omega)]
    · have hend : leH ((o ++ T).drop (rwE (o ++ T) o.length)) = true := by
        rw [hE, hT, ← List.append_assoc, List.drop_left' (by rw [List.length_append, hlen])]
        rfl
      rw [rws_on _ _ hend, hE, ckR, if_neg hw, hk]
      have hih := ih (l.length - e) (by omega) e 0 (o ++ stE l b e ++ [13, 10]) T' (o.length + (e - b)) rfl h9 (Nat.le_of_lt h7) (.inl h7) (.inr ⟨by simp only [List.length_append, List.length_cons, List.length_nil]; omega, rfl, h8⟩)
      have e1 : o ++ stE l b e ++ [13, 10] ++ T' = o ++ T := by rw [hT]; simp
      have e2 : (o ++ stE l b e ++ [13, 10]).length = o.length + (e - b) + 2 := by simp only [List.length_append, hlen]; rfl
      rw [e1, e2] at hih
      exact hih
/-- Does anything stand here but blanks and line ends? -/
def moreB (l : List UInt8) : Bool := l.any fun c => !(blB c || crB c)
/-- Where the first CR stands. -/
def crN (l : List UInt8) : Nat := (l.takeWhile fun c => c != 13).length
theorem crN_le (l : List UInt8) : crN l ≤ l.length := (List.takeWhile_prefix (p := fun c : UInt8 => c != 13) (l := l)).length_le
theorem more_no {l : List UInt8} (h : (l.any fun c => !blB c) = false) : moreB l = false := by
  unfold moreB
  rw [List.any_eq_false] at h ⊢
  intro c hc
  have := h c hc
  simp only [Bool.not_eq_true, Bool.not_eq_false'] at this
  rw [this]
  simp
/-- A row of what is folded, with what stands ahead of it. -/
theorem fb_row {l : List UInt8} {mo b : Nat} {pre T : List UInt8} (hno : ∀ c ∈ l, crB c = false) (hpre : ∀ c ∈ pre, crB c = false) (h : FB l mo b pre.length T) (hb : b ≤ l.length) (hb0 : b < l.length ∨ l.length = 0) :
    (mo < crN (pre ++ T) → ∀ i, pre.length < i → ∀ (_ : i < crN (pre ++ T)) (h2 : i < (pre ++ T).length), blB (pre ++ T)[i] = true → blB ((pre ++ T)[i - 1]'(by omega)) = false → moreB ((pre ++ T).drop i) = false) ∧
      (crN (pre ++ T) = (pre ++ T).length ∨ (crN (pre ++ T) + 2 ≤ (pre ++ T).length ∧ ∃ e, b < e ∧ e < l.length ∧ FB l mo e 0 ((pre ++ T).drop (crN (pre ++ T) + 2)))) := by
  obtain ⟨e, h1, h2, h3, h4, h5⟩ := fb_cut h hb hb0
  have hlen := stE_len l b e h2
  have hq : ∀ c ∈ pre ++ stE l b e, (c != 13) = true := fun c hc => by
    have : crB c = false := by
      rcases List.mem_append.1 hc with h | h
      · exact hpre c h
      · exact hno c (stE_in h)
    have := (cr_no this).1
    simpa using this
  have hN : crN (pre ++ T) = pre.length + (e - b) := by
    unfold crN
    rcases h5 with ⟨_, hT⟩ | ⟨_, _, _, T', hT, _⟩
    · have := tw_app (fun c => c != 13) (pre ++ stE l b e) [] hq (fun c hc => by cases hc)
      rw [List.append_nil] at this
      rw [hT, this, List.length_append, hlen]
    · have := tw_app (fun c => c != 13) (pre ++ stE l b e) (13 :: 10 :: T') hq (fun c hc => by injection hc with hc; subst hc; rfl)
      rw [hT, ← List.append_assoc, this, List.length_append, hlen]
  have hat : ∀ i, pre.length ≤ i → i < pre.length + (e - b) → (pre ++ T)[i]? = l[b + (i - pre.length)]? := fun i g1 g2 => by
    have hs : (stE l b e)[i - pre.length]? = l[b + (i - pre.length)]? := by
      unfold stE
      rw [List.getElem?_drop, List.getElem?_take, if_pos (by omega)]
    rw [List.getElem?_append_right g1]
    rcases h5 with ⟨_, hT⟩ | ⟨_, _, _, T', hT, _⟩
    · rw [hT, hs]
    · rw [hT, List.getElem?_append_left (by rw [hlen]; omega), hs]
  refine ⟨fun hw i g1 g2 g3 g4 g5 => ?_, ?_⟩
  · rw [hN] at hw g2
    obtain ⟨j, hj⟩ : ∃ j, j = b + (i - pre.length) := ⟨_, rfl⟩
    have hjl : j < l.length := by omega
    have k1 : l[j]? = some (pre ++ T)[i] := by rw [hj, ← hat i (by omega) g2, List.getElem?_eq_getElem g3]
    have k2 : l[j - 1]? = some ((pre ++ T)[i - 1]'(by omega)) := by
      rw [show j - 1 = b + (i - 1 - pre.length) by omega, ← hat (i - 1) (by omega) (by omega), List.getElem?_eq_getElem]
    have hjt := h4 (by omega) j (by omega) (by omega)
    have k3 : (l.drop j).any (fun c => !blB c) = false := by
      unfold jtB at hjt
      rw [k1, k2, decide_eq_true (show 0 < j by omega)] at hjt
      simp only [g4, g5, Bool.true_and, Bool.not_false] at hjt
      exact hjt
    have k4 : e = l.length ∧ T = stE l b e := by
      rcases h5 with h6 | ⟨h6, h7, h8, _⟩
      · exact h6
      · exfalso
        obtain ⟨_, _, _, _, hany, _⟩ := jt_bl h8
        rw [List.any_eq_true] at hany
        obtain ⟨d, hd, hdb⟩ := hany
        rw [List.any_eq_false] at k3
        refine k3 d ?_ hdb
        have : l.drop e = (l.drop j).drop (e - j) := by rw [List.drop_drop]; congr 1; omega
        rw [this] at hd
        exact List.mem_of_mem_drop hd
    have k5 : (pre ++ T).drop i = l.drop j := by
      rw [k4.2, k4.1, stE_all, List.drop_append, List.drop_eq_nil_of_le (by omega), List.nil_append, List.drop_drop, hj]
    rw [k5]
    exact more_no k3
  · rw [hN]
    rcases h5 with ⟨_, hT⟩ | ⟨h6, h7, _, T', hT, h9⟩
    · left
      rw [List.length_append, hT, hlen]
    · right
      refine ⟨by rw [List.length_append, hT, List.length_append, hlen]; simp only [List.length_cons]; omega, e, h6, h7, ?_⟩
      have : (pre ++ T).drop (pre.length + (e - b) + 2) = T' := by
        rw [hT, show pre ++ (stE l b e ++ 13 :: 10 :: T') = (pre ++ stE l b e ++ [13, 10]) ++ T' by simp]
        exact List.drop_left' (by simp only [List.length_append, hlen]; rfl)
      rw [this]
      exact h9
theorem fb_len {l : List UInt8} {mo b a : Nat} {T : List UInt8} (h : FB l mo b a T) (hb : b ≤ l.length) : T.length ≤ 3 * (l.length - b) := by
  induction h with
  | last b a _ _ => rw [List.length_drop]; omega
  | more b a e T h0 h1 hj h2 h3 h ih =>
    have := ih (Nat.le_of_lt h1)
    rw [List.length_append, stE_len _ _ _ (Nat.le_of_lt h1)]
    simp only [List.length_cons]
    omega
theorem crN_cons (c : UInt8) (r : List UInt8) : crN (c :: r) = if c = 13 then 0 else crN r + 1 := by
  unfold crN
  by_cases h : c = 13
  · rw [if_pos h, List.takeWhile_cons, if_neg (by simp [h])]
    rfl
  · rw [if_neg h, List.takeWhile_cons, if_pos (by simp [h])]
    rfl
theorem crN_in : ∀ (l : List UInt8) (k : Nat) (h : k < l.length), k < crN l → l[k] ≠ 13
  | [], k, h, _ => by cases h
  | c :: r, k, h, hk => by
    rw [crN_cons] at hk
    by_cases hc : c = 13
    · rw [if_pos hc] at hk; cases hk
    · rw [if_neg hc] at hk
      cases k with
      | zero => exact hc
      | succ k => exact crN_in r k (Nat.lt_of_succ_lt_succ h) (Nat.lt_of_succ_lt_succ hk)
theorem crN_stop : ∀ (l : List UInt8) (n : Nat) (h : n < l.length), n = crN l → l[n] = 13
  | [], n, h, _ => by cases h
  | c :: r, n, h, hn => by
    rw [crN_cons] at hn
    by_cases hc : c = 13
    · rw [if_pos hc] at hn
      subst hn
      exact hc
    · rw [if_neg hc] at hn
      subst hn
      exact crN_stop r _ (Nat.lt_of_succ_lt_succ h) rfl
theorem fb_rowY {l : List UInt8} {mo b : Nat} {pre T : List UInt8} (hno : ∀ c ∈ l, crB c = false) (hpre : ∀ c ∈ pre, crB c = false) (h : FB l mo b pre.length T) (hb : b ≤ l.length) (hb0 : b < l.length ∨ l.length = 0) (Y : List UInt8) (hY : Y = pre ++ T) :
    (mo < crN Y → ∀ i, pre.length < i → ∀ (_ : i < crN Y) (h2 : i < Y.length), blB Y[i] = true → blB (Y[i - 1]'(Nat.lt_of_le_of_lt (Nat.sub_le _ _) h2)) = false → moreB (Y.drop i) = false) ∧
      (crN Y = Y.length ∨ (crN Y + 2 ≤ Y.length ∧ ∃ e, b < e ∧ e < l.length ∧ FB l mo e 0 (Y.drop (crN Y + 2)))) := by
  subst hY
  exact fb_row hno hpre h hb hb0
end Go.Proofs.YtpepjiocjcjeeabDoor
