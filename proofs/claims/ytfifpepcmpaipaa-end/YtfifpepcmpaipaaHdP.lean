/-
  What is told of a stream as it comes, in plain words: all but dots that were dropped and what is held.
-/
import Derived.Test.YtfifpepcmpaipaaAgP
namespace Go.Proofs.Ytfifpepcmpaipaa

/-- Do a CR and an LF stand ahead of place i? -/
def eol (b : List UInt8) (i : Nat) : Bool := b[i - 2]? == some 13 && b[i - 1]? == some 10
/-- The places at which lines begin, of the first k. -/
def bgs (b : List UInt8) (k : Nat) : List Nat := 0 :: (List.range' 2 k).filter (eol b)
def dotAt (t : List UInt8) (i : Nat) : Bool := t[i]? == some 46
/-- How many dots were dropped. -/
def drp (t : List UInt8) : Nat := (bgs t (t.length - 1)).countP (dotAt t)
theorem bgs_next (b : List UInt8) (k : Nat) : bgs b (k + 1) = bgs b k ++ (if eol b (k + 2) = true then [k + 2] else []) := by
  unfold bgs
  rw [List.range'_concat, List.filter_append, List.cons_append]
  congr 2
  rw [Nat.one_mul, Nat.add_comm]
  simp only [List.filter_cons, List.filter_nil]
theorem bgs_mem {b : List UInt8} {k i : Nat} (h : i ∈ bgs b k) : i = 0 ∨ (2 ≤ i ∧ i < k + 2 ∧ eol b i = true) := by
  unfold bgs at h
  rcases List.mem_cons.1 h with h | h
  · exact .inl h
  · rw [List.mem_filter, List.mem_range'_1] at h
    exact .inr ⟨h.1.1, by omega, h.2⟩
/-- A byte more changes nothing of the places ahead of it. -/
theorem bgs_more (t : List UInt8) (c : UInt8) : ∀ k, k + 1 ≤ t.length → bgs (t ++ [c]) k = bgs t k
  | 0, _ => rfl
  | k + 1, h => by
    rw [bgs_next, bgs_next, bgs_more t c k (by omega)]
    have : eol (t ++ [c]) (k + 2) = eol t (k + 2) := by
      unfold eol
      rw [List.getElem?_append_left (by omega), List.getElem?_append_left (by omega)]
    rw [this]
theorem eol_end (t : List UInt8) (h : 2 ≤ t.length) : eol t t.length = true ↔ lb t := by
  unfold eol lb
  constructor
  · intro e
    rw [Bool.and_eq_true, beq_iff_eq, beq_iff_eq] at e
    refine .inr ⟨t.take (t.length - 2), ?_⟩
    apply List.ext_getElem?
    intro i
    by_cases h1 : i < t.length - 2
    · rw [List.getElem?_append_left (by simp; omega), List.getElem?_take_of_lt h1]
    · rw [List.getElem?_append_right (by simp; omega)]
      simp only [List.length_take, Nat.min_eq_left (Nat.sub_le t.length 2)]
      rcases (by omega : i = t.length - 2 ∨ i = t.length - 1 ∨ t.length ≤ i) with rfl | rfl | h2
      · rw [e.1]; simp
      · rw [e.2, show t.length - 1 - (t.length - 2) = 1 by omega]; rfl
      · rw [List.getElem?_eq_none h2, List.getElem?_eq_none (by simp; omega)]
  · rintro (e | ⟨u, e⟩)
    · rw [e] at h; simp at h
    · rw [e]
      simp
theorem drp_snoc (t : List UInt8) (c : UInt8) : drp (t ++ [c]) = drp t + (if t.length ∈ bgs t (t.length - 1) ∧ c = 46 then 1 else 0) := by
  have key : ∀ (B : List Nat), B.Nodup → (∀ i ∈ B, i ≤ t.length) → B.countP (dotAt (t ++ [c])) = B.countP (dotAt t) + (if t.length ∈ B ∧ c = 46 then 1 else 0) := by
    intro B
    induction B with
    | nil => intros; simp
    | cons b B ih =>
      intro hn hi
      rw [List.nodup_cons] at hn
      have h1 := ih hn.2 (fun i h => hi i (List.mem_cons_of_mem _ h))
      rw [List.countP_cons, List.countP_cons, h1]
      have hb := hi b List.mem_cons_self
      by_cases e : b = t.length
      · subst e
        have d1 : dotAt t t.length = false := by simp [dotAt]
        have d2 : dotAt (t ++ [c]) t.length = (c == 46) := by simp [dotAt]
        rw [d1, d2, if_neg (fun h => hn.1 h.1)]
        by_cases h46 : c = 46
        · simp [h46]
        · simp [h46]
      · have d1 : dotAt (t ++ [c]) b = dotAt t b := by
          unfold dotAt
          rw [List.getElem?_append_left (by omega)]
        rw [d1]
        have : (t.length ∈ b :: B ∧ c = 46) ↔ (t.length ∈ B ∧ c = 46) := by
          rw [List.mem_cons]
          constructor
          · rintro ⟨h | h, h2⟩
            · exact absurd h.symm e
            · exact ⟨h, h2⟩
          · exact fun h => ⟨.inr h.1, h.2⟩
        simp only [this]
        omega
  have hnd : ∀ k, (bgs t k).Nodup := fun k => by
    unfold bgs
    rw [List.nodup_cons]
    refine ⟨fun h => ?_, List.Nodup.sublist List.filter_sublist List.nodup_range'⟩
    rw [List.mem_filter, List.mem_range'_1] at h
    omega
  unfold drp
  have hb : bgs (t ++ [c]) ((t ++ [c]).length - 1) = bgs t (t.length - 1) ++ (if 1 ≤ t.length ∧ eol (t ++ [c]) (t.length + 1) = true then [t.length + 1] else []) := by
    rw [List.length_append, List.length_singleton, Nat.add_sub_cancel]
    cases h0 : t.length with
    | zero => simp [bgs]
    | succ k =>
      rw [bgs_next, bgs_more t c k (by omega), Nat.add_sub_cancel]
      simp
  rw [hb, List.countP_append, key _ (hnd _) (fun i h => by rcases bgs_mem h with h | h <;> omega)]
  have : List.countP (dotAt (t ++ [c])) (if 1 ≤ t.length ∧ eol (t ++ [c]) (t.length + 1) = true then [t.length + 1] else []) = 0 := by
    split
    · simp [dotAt]
    · rfl
  rw [this]
  rfl
theorem mem_end (t : List UInt8) : t.length ∈ bgs t (t.length - 1) ↔ lb t := by
  constructor
  · intro h
    rcases bgs_mem h with h | h
    · exact .inl (List.eq_nil_of_length_eq_zero h)
    · exact (eol_end t h.1).1 h.2.2
  · intro h
    rcases id h with e | ⟨u, e⟩
    · rw [e]; simp [bgs]
    · have h2 : 2 ≤ t.length := by rw [e]; simp
      unfold bgs
      refine List.mem_cons_of_mem _ ?_
      rw [List.mem_filter, List.mem_range'_1]
      exact ⟨by omega, (eol_end t h2).2 h⟩
/-- Where a reader stands, by what it took. -/
def Stt (t : List UInt8) (x : Ds) : Prop :=
  (x.p = 1 ∧ lb t) ∨ (x.p = 2 ∧ ∃ u, t = u ++ [46] ∧ lb u) ∨ (x.p = 3 ∧ ∃ u, t = u ++ [46, 13] ∧ lb u) ∨ (x.p = 4 ∧ ¬ lb t ∧ ∃ u d, t = u ++ [d] ∧ d ≠ 13) ∨ (x.p = 5 ∧ ∃ u, t = u ++ [13])
theorem lb_last {u : List UInt8} {d : UInt8} (h : lb (u ++ [d])) : d = 10 ∧ ∃ v, u = v ++ [13] := by
  rcases h with e | ⟨v, e⟩
  · simp at e
  · have : u ++ [d] = (v ++ [13]) ++ [10] := by rw [e]; simp
    have h2 := List.append_inj' this rfl
    exact ⟨by simpa using h2.2, v, h2.1⟩
theorem lb_none {t : List UInt8} {v : List UInt8} (h : lb t) : ¬ t = v ++ [13] := by
  intro e
  rw [e] at h
  exact absurd (lb_last h).1 (by decide)
theorem stt_in {t : Nat} {T : List UInt8} {x : Ds} {c : UInt8} (h : ∀ v, c = 10 → ¬ T = v ++ [13]) : Stt (T ++ [c]) (x.inn t c) := by
  by_cases h13 : c = 13
  · subst h13
    exact .inr (.inr (.inr (.inr ⟨by simp [Ds.inn, Ds.mid, Ds.tl], T, rfl⟩)))
  · exact .inr (.inr (.inr (.inl ⟨by simp [Ds.inn, Ds.mid, Ds.tl, h13], fun hl => by
      obtain ⟨h1, v, h2⟩ := lb_last hl
      exact h v h1 h2, T, c, rfl, h13⟩)))
/-- One byte: where the reader stands, and how much is told. -/
theorem stt_on {t a : Nat} {T : List UInt8} {x : Ds} {c : UInt8} (h : Stt T x) (hs : x.size + x.held + 1 ≤ a) :
    (x.stp t c).p = 6 ∧ (∃ u, T ++ [c] = u ++ [46, 13, 10] ∧ lb u) ∨ (x.stp t c).p ≠ 6 ∧ Stt (T ++ [c]) (x.stp t c) ∧ ∀ d, (T.length = d + drp T + (if x.p = 3 then 1 else 0)) → (T ++ [c]).length = (d + (x.out a c).length) + drp (T ++ [c]) + (if (x.stp t c).p = 3 then 1 else 0) := by
  have hin : ∀ y : Ds, ¬ (y.inn t c).p = 6 ∧ ¬ (y.inn t c).p = 3 := fun y => by rcases y.inn_p t c with h | h <;> omega
  have hou : (x.ou a c).length = 1 := by rw [x.ou_one c (by omega)]; rfl
  have hd : ¬ lb T → drp (T ++ [c]) = drp T := fun h => by rw [drp_snoc, if_neg (fun e => h ((mem_end T).1 e.1))]; rfl
  have hd2 : lb T → c = 46 → drp (T ++ [c]) = drp T + 1 := fun h e => by rw [drp_snoc, if_pos ⟨(mem_end T).2 h, e⟩]
  have hd3 : ¬ c = 46 → drp (T ++ [c]) = drp T := fun h => by rw [drp_snoc, if_neg (fun e => h e.2)]; rfl
  rcases h with ⟨h1, e1⟩ | ⟨h1, u, e1, e2⟩ | ⟨h1, u, e1, e2⟩ | ⟨h1, e1, u, d, e2, e3⟩ | ⟨h1, u, e1⟩
  · refine .inr ?_
    by_cases h46 : c = 46
    · have hst : x.stp t c = { x with p := 2 } := by simp [Ds.stp, h1, h46]
      have ho : x.out a c = [] := by simp [Ds.out, h1, h46]
      rw [hst, ho]
      refine ⟨by simp, .inr (.inl ⟨rfl, T, by rw [h46], e1⟩), fun d hd' => ?_⟩
      rw [hd2 e1 h46]
      simp [h1] at hd' ⊢
      omega
    · have hst : x.stp t c = x.inn t c := by simp [Ds.stp, h1, h46]
      have ho : (x.out a c).length = 1 := by simp [Ds.out, h1, h46, hou]
      rw [hst, ho]
      refine ⟨(hin x).1, stt_in (fun v _ => lb_none e1), fun d hd' => ?_⟩
      rw [hd3 h46, if_neg (hin x).2]
      simp [h1] at hd' ⊢
      omega
  · refine .inr ?_
    have hnl : ¬ lb T := fun h => absurd (lb_last (by rw [e1] at h; exact h)).1 (by decide)
    by_cases h13 : c = 13
    · have hst : x.stp t c = { x with p := 3 } := by simp [Ds.stp, h1, h13]
      have ho : x.out a c = [] := by simp [Ds.out, h1, h13]
      rw [hst, ho]
      refine ⟨by simp, .inr (.inr (.inl ⟨rfl, u, by rw [e1, h13]; simp, e2⟩)), fun d hd' => ?_⟩
      rw [hd hnl]
      simp [h1] at hd' ⊢
      omega
    · have hst : x.stp t c = x.inn t c := by simp [Ds.stp, h1, h13]
      have ho : (x.out a c).length = 1 := by simp [Ds.out, h1, h13, hou]
      rw [hst, ho]
      refine ⟨(hin x).1, stt_in (fun v _ e => by rw [e1] at e; have := (List.append_inj' e rfl).2; simp at this), fun d hd' => ?_⟩
      rw [hd hnl, if_neg (hin x).2]
      simp [h1] at hd' ⊢
      omega
  · by_cases h10 : c = 10
    · have hst : x.stp t c = { x with p := 6 } := by simp [Ds.stp, h1, h10]
      exact .inl ⟨by rw [hst], u, by rw [e1, h10]; simp, e2⟩
    · refine .inr ?_
      have hst : x.stp t c = ({ x.tl 13 with bare := true }).inn t c := by simp [Ds.stp, h1, h10]
      have hnl : ¬ lb T := fun h => by
        have : T = (u ++ [46]) ++ [13] := by rw [e1]; simp
        exact lb_none h this
      have ho : (x.out a c).length = 2 := by
        have h2 : x.held = 2 := by simp [Ds.held, h1]
        have o1 : x.ou a 13 = [13] := x.ou_one 13 (by omega)
        have o2 : (x.tl 13).ou a c = [c] := (x.tl 13).ou_one c (by simp [Ds.tl]; omega)
        simp [Ds.out, h1, h10, o1, o2]
      rw [hst, ho]
      refine ⟨(hin _).1, stt_in (fun v e => absurd e h10), fun d hd' => ?_⟩
      rw [hd hnl, if_neg (hin _).2]
      simp [h1] at hd' ⊢
      omega
  · refine .inr ?_
    have hst : x.stp t c = x.inn t c := by simp [Ds.stp, h1]
    have ho : (x.out a c).length = 1 := by simp [Ds.out, h1, hou]
    rw [hst, ho]
    refine ⟨(hin x).1, stt_in (fun v _ e => by rw [e2] at e; have := (List.append_inj' e rfl).2; simp at this; exact e3 this), fun d hd' => ?_⟩
    rw [hd e1, if_neg (hin x).2]
    simp [h1] at hd' ⊢
    omega
  · refine .inr ?_
    have hnl : ¬ lb T := fun h => lb_none h e1
    by_cases h10 : c = 10
    · have hst : x.stp t c = ({ x with p := 1, row := 0 }).tl 10 := by simp [Ds.stp, h1, h10]
      have ho : (x.out a c).length = 1 := by simp [Ds.out, h1, hou]
      rw [hst, ho]
      refine ⟨by simp [Ds.tl], .inl ⟨rfl, .inr ⟨u, by rw [e1, h10]; simp⟩⟩, fun d hd' => ?_⟩
      rw [hd hnl]
      simp [h1, Ds.tl] at hd' ⊢
      omega
    · have hst : x.stp t c = ({ x with bare := true }).inn t c := by simp [Ds.stp, h1, h10]
      have ho : (x.out a c).length = 1 := by simp [Ds.out, h1, hou]
      rw [hst, ho]
      refine ⟨(hin _).1, stt_in (fun v e => absurd e h10), fun d hd' => ?_⟩
      rw [hd hnl, if_neg (hin _).2]
      simp [h1] at hd' ⊢
      omega
/-- All bytes up to the end, or to the last. -/
theorem stt_run {t a : Nat} : ∀ (r T : List UInt8) (x : Ds) (d : Nat), Stt T x → x.size + x.held ≤ T.length → T.length + r.length ≤ a → T.length = d + drp T + (if x.p = 3 then 1 else 0) →
    ((x.run t a r).2.2.p = 6 ∧ ∃ u, T ++ r.take (x.run t a r).1 = u ++ [46, 13, 10] ∧ lb u) ∨ ((x.run t a r).2.2.p < 6 ∧ Stt (T ++ r) (x.run t a r).2.2 ∧ (T ++ r).length = (d + (x.run t a r).2.1.length) + drp (T ++ r) + (if (x.run t a r).2.2.p = 3 then 1 else 0))
  | [], T, x, d, h, _, _, hd => by
    rw [Ds.run_nil]
    dsimp only
    rw [List.append_nil]
    have hp : x.p < 6 := by rcases h with h | h | h | h | h <;> (have := h.1; omega)
    exact .inr ⟨hp, h, by simpa using hd⟩
  | c :: r, T, x, d, h, hs, hl, hd => by
    have hp : x.p < 6 := by rcases h with h | h | h | h | h <;> (have := h.1; omega)
    rw [Ds.run_cons hp]
    dsimp only
    rw [List.length_cons] at hl
    have hs1 := (Ds.stp_at t x c).1
    rcases stt_on (t := t) (a := a) (c := c) h (by omega) with ⟨h6, u, e1, e2⟩ | ⟨h6, h2, h3⟩
    · rw [Ds.run_over (by omega)]
      exact .inl ⟨h6, u, by simpa using e1, e2⟩
    · have := stt_run (t := t) (a := a) r (T ++ [c]) (x.stp t c) (d + (x.out a c).length) h2 (by simp; omega) (by simp; omega) (h3 d hd)
      rw [List.append_assoc, List.append_assoc] at this
      rcases this with ⟨k1, u, k2, k3⟩ | ⟨k1, k2, k3⟩
      · exact .inl ⟨k1, u, by simpa using k2, k3⟩
      · refine .inr ⟨k1, by simpa using k2, ?_⟩
        rw [show (x.out a c ++ ((x.stp t c).run t a r).2.1).length = (x.out a c).length + ((x.stp t c).run t a r).2.1.length from List.length_append, ← Nat.add_assoc]
        simpa using k3
end Go.Proofs.Ytfifpepcmpaipaa
