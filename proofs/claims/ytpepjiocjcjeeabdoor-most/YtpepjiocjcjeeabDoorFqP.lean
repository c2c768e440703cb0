/-
  The document's way to cut a text comes to the same rows.
-/
import Derived.Test.YtpepjiocjcjeeabDoorFoP
namespace Go.Proofs.YtpepjiocjcjeeabDoor

/-- Up to t the row that begins at b has its width. -/
def fitB (most a b t : Nat) : Bool := decide (a + (t - b) ≤ most)
theorem fit_mono {most a b t u : Nat} (h : t ≤ u) (hu : fitB most a b u = true) : fitB most a b t = true := by
  unfold fitB at *
  simp only [decide_eq_true_eq] at *
  omega
/-- The last one of a list that is not empty. -/
def lstO : Nat → List Nat → Nat
  | x, [] => x
  | _, y :: r => lstO y r
theorem lstO_app (x : Nat) (l : List Nat) (y : Nat) : lstO x (l ++ [y]) = y := by
  induction l generalizing x with
  | nil => rfl
  | cons z r ih => exact ih z
theorem lstO_mem (x : Nat) (l : List Nat) : lstO x l = x ∨ lstO x l ∈ l := by
  induction l generalizing x with
  | nil => exact .inl rfl
  | cons z r ih =>
    rcases ih z with h | h
    · exact .inr (by rw [show lstO x (z :: r) = lstO z r from rfl, h]; exact List.mem_cons_self ..)
    · exact .inr (List.mem_cons_of_mem _ h)
theorem lstO_last (x : Nat) (l : List Nat) : (x :: l).getLast? = some (lstO x l) := by
  induction l generalizing x with
  | nil => rfl
  | cons z r ih =>
    rw [List.getLast?_cons_cons]
    exact ih z
/-- The rows from b on. -/
def rwsF (l : List UInt8) (most a b : Nat) : List (Nat × Nat) := pcs most ((stps l).filter fun t => decide (b < t)) b b a
theorem pcs_go (most a b : Nat) : ∀ (ts : List Nat) (la : Nat), b < la → (∀ t ∈ ts, b < t) → pcs most ts b la a = (match ts.dropWhile (fitB most a b) with
  | [] => [(b, lstO la ts)]
  | t :: r => (b, lstO la (ts.takeWhile (fitB most a b))) :: pcs most r (lstO la (ts.takeWhile (fitB most a b))) t 0)
  | [], la, _, _ => rfl
  | t :: r, la, h, h3 => by
    rw [pcs, List.dropWhile_cons, List.takeWhile_cons]
    cases hf : fitB most a b t with
    | true =>
      have h2 : ¬ (b < la ∧ most < a + (t - b)) := by
        unfold fitB at hf
        simp only [decide_eq_true_eq] at hf
        omega
      rw [if_neg h2, if_pos rfl, if_pos rfl, pcs_go most a b r t (h3 t (List.mem_cons_self ..)) (fun u hu => h3 u (List.mem_cons_of_mem _ hu))]
      rfl
    | false =>
      have h2 : b < la ∧ most < a + (t - b) := by
        unfold fitB at hf
        simp only [decide_eq_false_iff_not] at hf
        omega
      rw [if_pos h2, if_neg (by decide), if_neg (by decide)]
      rfl
theorem pcs_first (most a b t : Nat) (r : List Nat) : pcs most (t :: r) b b a = pcs most r b t a := by
  rw [pcs, if_neg (by omega)]
/-- The joints behind b. -/
def jbs (l : List UInt8) (b i : Nat) : List Nat := (jts l i).filter fun t => decide (b < t)
theorem stps_behind (l : List UInt8) (b : Nat) (h : b < l.length) : (stps l).filter (fun t => decide (b < t)) = jbs l b l.length ++ [l.length] := by
  unfold stps jbs
  rw [List.filter_append]
  congr 1
  simp [h]
theorem jbs_succ (l : List UInt8) (b i : Nat) (h : b < i) : jbs l b (i + 1) = jbs l b i ++ (if jtB l i then [i] else []) := by
  unfold jbs
  rw [jts_succ, List.filter_append]
  congr 1
  by_cases hj : jtB l i = true <;> simp [hj, h]
theorem jbs_start (l : List UInt8) (b : Nat) : jbs l b (b + 1) = [] := by
  unfold jbs
  refine List.filter_eq_nil_iff.2 fun t ht => ?_
  have := ((jts_mem l _ t).1 ht).1
  simp
  omega
theorem jbs_sorted (l : List UInt8) (b i : Nat) : (jbs l b i).Pairwise (· < ·) := (jts_sorted l i).filter _
theorem jbs_lt {l : List UInt8} {b i t : Nat} (h : t ∈ jbs l b i) : b < t ∧ t < l.length := by
  unfold jbs at h
  rw [List.mem_filter] at h
  exact ⟨by simpa using h.2, (jt_lt ((jts_mem l _ t).1 h.1).2).2⟩
/-- The first joint and the last one that keeps the width, as the document looks for them. -/
def fstJ (l : List UInt8) (b i : Nat) : Option Nat := (jbs l b i).head?
def lstJ (l : List UInt8) (most a b i : Nat) : Option Nat := ((jbs l b i).filter (fitB most a b)).getLast?
/-- Where the document ends the row that begins at b. -/
def rowD (l : List UInt8) (most a b : Nat) : Nat :=
  if most < a + (l.length - b) then (match fstJ l b l.length with
    | some f => max f ((lstJ l most a b l.length).getD 0)
    | none => l.length)
  else l.length
theorem fstJ_succ (l : List UInt8) (b i : Nat) (h : b < i) : fstJ l b (i + 1) = if jtB l i then (match fstJ l b i with
  | some f => some f
  | none => some i) else fstJ l b i := by
  unfold fstJ
  rw [jbs_succ l b i h]
  cases jtB l i with
  | false => simp
  | true =>
    cases jbs l b i with
    | nil => rfl
    | cons x r => rfl
theorem lstJ_succ (l : List UInt8) (most a b i : Nat) (h : b < i) : lstJ l most a b (i + 1) = if jtB l i && fitB most a b i then some i else lstJ l most a b i := by
  unfold lstJ
  rw [jbs_succ l b i h]
  cases jtB l i with
  | false => simp
  | true =>
    cases hf : fitB most a b i with
    | true => simp [List.filter_append, hf]
    | false => simp [List.filter_append, hf]
theorem filter_fit (most a b : Nat) : ∀ ts : List Nat, ts.Pairwise (· < ·) → ts.filter (fitB most a b) = ts.takeWhile (fitB most a b)
  | [], _ => rfl
  | t :: r, h => by
    have h2 := List.pairwise_cons.1 h
    rw [List.filter_cons, List.takeWhile_cons]
    cases hf : fitB most a b t with
    | true => simp [filter_fit most a b r h2.2]
    | false =>
      simp only [Bool.false_eq_true, if_false]
      refine List.filter_eq_nil_iff.2 fun u hu hc => ?_
      rw [fit_mono (Nat.le_of_lt (h2.1 u hu)) hc] at hf
      cases hf
theorem dropWhile_after (p : Nat → Bool) : ∀ (ts : List Nat) (e : Nat), ts.Pairwise (· < ·) → e ∈ ts.takeWhile p → (∀ u ∈ ts.takeWhile p, u ≤ e) → ts.filter (fun t => decide (e < t)) = ts.dropWhile p
  | [], e, _, h, _ => by simp at h
  | t :: r, e, h, he, hm => by
    have h2 := List.pairwise_cons.1 h
    rw [List.takeWhile_cons] at he hm
    rw [List.dropWhile_cons, List.filter_cons]
    cases hp : p t with
    | false => rw [hp] at he; simp at he
    | true =>
      rw [hp] at he hm
      simp only [if_true] at he hm ⊢
      have ht : t ≤ e := hm t (List.mem_cons_self ..)
      rw [if_neg (by simpa using ht)]
      rcases List.mem_cons.1 he with rfl | he'
      · -- nothing behind it is taken
        have hn : r.takeWhile p = [] := by
          cases hr : r.takeWhile p with
          | nil => rfl
          | cons u v =>
            have hu : u ∈ r.takeWhile p := by rw [hr]; exact List.mem_cons_self ..
            have h3 := hm u (List.mem_cons_of_mem _ hu)
            have h4 := h2.1 u ((List.takeWhile_sublist p).subset hu)
            omega
        have hd : r.dropWhile p = r := by
          have := List.takeWhile_append_dropWhile (p := p) (l := r)
          rw [hn, List.nil_append] at this
          exact this
        rw [hd]
        exact List.filter_eq_self.2 fun u hu => by simpa using h2.1 u hu
      · exact dropWhile_after p r e h2.2 he' (fun u hu => hm u (List.mem_cons_of_mem _ hu))
theorem lstO_max : ∀ (ts : List Nat) (x : Nat), (x :: ts).Pairwise (· < ·) → ∀ u ∈ x :: ts, u ≤ lstO x ts
  | [], x, _, u, hu => by
    rw [List.mem_singleton.1 hu]
    exact Nat.le_refl _
  | y :: r, x, h, u, hu => by
    have h2 := List.pairwise_cons.1 h
    rcases List.mem_cons.1 hu with rfl | hu
    · exact Nat.le_trans (Nat.le_of_lt (h2.1 y (List.mem_cons_self ..))) (lstO_max r y h2.2 y (List.mem_cons_self ..))
    · exact lstO_max r y h2.2 u hu
theorem takeWhile_app (p : Nat → Bool) (x : Nat) (hx : p x = false) : ∀ js : List Nat, (js ++ [x]).takeWhile p = js.takeWhile p ∧ ∃ t r, (js ++ [x]).dropWhile p = t :: r
  | [] => ⟨by simp [hx], x, [], by simp [hx]⟩
  | y :: r => by
    obtain ⟨h1, t, q, h2⟩ := takeWhile_app p x hx r
    rw [List.cons_append, List.takeWhile_cons, List.dropWhile_cons, List.takeWhile_cons]
    cases hy : p y with
    | true => exact ⟨by simp [h1], t, q, by simp [h2]⟩
    | false => exact ⟨by simp, y, r ++ [x], by simp⟩
theorem takeWhile_all (p : Nat → Bool) : ∀ ts : List Nat, (∀ t ∈ ts, p t = true) → ts.dropWhile p = [] ∧ ts.takeWhile p = ts
  | [], _ => ⟨rfl, rfl⟩
  | y :: r, h => by
    obtain ⟨h1, h2⟩ := takeWhile_all p r (fun t ht => h t (List.mem_cons_of_mem _ ht))
    rw [List.dropWhile_cons, List.takeWhile_cons, h y (List.mem_cons_self ..)]
    exact ⟨by simp [h1], by simp [h2]⟩
/-- One row: both end it at one place. -/
theorem rwsF_step (l : List UInt8) (most a b : Nat) (hb : b ≤ l.length) (h0 : b < l.length ∨ l.length = 0) :
    (rowD l most a b = l.length ∧ rwsF l most a b = [(b, l.length)]) ∨ (b < rowD l most a b ∧ rowD l most a b < l.length ∧ rwsF l most a b = (b, rowD l most a b) :: rwsF l most 0 (rowD l most a b)) := by
  rcases Nat.eq_or_lt_of_le hb with rfl | hlt
  · have hz : l.length = 0 := by omega
    have hl : l = [] := List.length_eq_zero_iff.1 hz
    subst hl
    refine .inl ⟨?_, ?_⟩
    · unfold rowD
      split
      · rfl
      · rfl
    · rfl
  · unfold rwsF
    rw [stps_behind l b hlt]
    have hsrt : (jbs l b l.length ++ [l.length]).Pairwise (· < ·) := List.pairwise_append.2 ⟨jbs_sorted l b _, List.pairwise_singleton _ _, fun x hx y hy => by rw [List.mem_singleton.1 hy]; exact (jbs_lt hx).2⟩
    have hbeh : ∀ t ∈ jbs l b l.length ++ [l.length], b < t := fun t ht => by
      rcases List.mem_append.1 ht with h | h
      · exact (jbs_lt h).1
      · rw [List.mem_singleton.1 h]; exact hlt
    have hin : ∀ t ∈ jbs l b l.length, t < l.length := fun t ht => (jbs_lt ht).2
    unfold rowD fstJ lstJ
    have hflt := filter_fit most a b (jbs l b l.length) (jbs_sorted l b _)
    have hst := stps_behind l
    generalize hjs : jbs l b l.length = js at *
    cases js with
    | nil =>
      left
      refine ⟨?_, ?_⟩
      · split <;> rfl
      · show pcs most (l.length :: []) b b a = _
        rw [pcs_first]
        rfl
    | cons j1 js' =>
      rw [List.cons_append] at hsrt hbeh ⊢
      have hs2 := List.pairwise_cons.1 hsrt
      have hj1 : b < j1 := hbeh j1 (List.mem_cons_self ..)
      rw [pcs_first, pcs_go most a b (js' ++ [l.length]) j1 hj1 (fun t ht => hbeh t (List.mem_cons_of_mem _ ht))]
      by_cases hfit : most < a + (l.length - b)
      · right
        have hx : fitB most a b l.length = false := by unfold fitB; simp; omega
        obtain ⟨h1, t, r, h2⟩ := takeWhile_app (fitB most a b) l.length hx js'
        rw [if_pos hfit, h1, h2]
        -- the last one that keeps the width
        have hE : max j1 (((j1 :: js').filter (fitB most a b)).getLast?.getD 0) = lstO j1 (js'.takeWhile (fitB most a b)) := by
          rw [hflt, List.takeWhile_cons]
          cases hf : fitB most a b j1 with
          | true =>
            rw [if_pos rfl, lstO_last, Option.getD_some]
            have : j1 ≤ lstO j1 (js'.takeWhile (fitB most a b)) := by
              refine lstO_max _ j1 ?_ j1 (List.mem_cons_self ..)
              have := List.pairwise_cons.1 hsrt
              refine List.pairwise_cons.2 ⟨fun u hu => this.1 u (List.mem_append_left _ ((List.takeWhile_sublist _).subset hu)), ?_⟩
              exact ((List.pairwise_append.1 this.2).1).sublist (List.takeWhile_sublist _)
            omega
          | false =>
            rw [if_neg (by decide)]
            have : js'.takeWhile (fitB most a b) = [] := by
              cases js' with
              | nil => rfl
              | cons u v =>
                rw [List.takeWhile_cons]
                cases hu : fitB most a b u with
                | false => rfl
                | true =>
                  have := hs2.1 u (by simp)
                  rw [fit_mono (Nat.le_of_lt this) hu] at hf
                  cases hf
            rw [this]
            show max j1 0 = j1
            omega
        have hM : (match (j1 :: js').head? with
          | some f => max f (((j1 :: js').filter (fitB most a b)).getLast?.getD 0)
          | none => l.length) = lstO j1 (js'.takeWhile (fitB most a b)) := hE
        rw [hM]
        generalize hee : lstO j1 (js'.takeWhile (fitB most a b)) = e
        have hem : e = j1 ∨ e ∈ js'.takeWhile (fitB most a b) := by rw [← hee]; exact lstO_mem _ _
        have he1 : e ∈ j1 :: js' := by
          rcases hem with rfl | h
          · exact List.mem_cons_self ..
          · exact List.mem_cons_of_mem _ ((List.takeWhile_sublist _).subset h)
        have hbe : b < e := hbeh e (by rw [← List.cons_append]; exact List.mem_append_left _ he1)
        have hel : e < l.length := hin e he1
        refine ⟨hbe, hel, ?_⟩
        have hst2 : (stps l).filter (fun t => decide (e < t)) = t :: r := by
          have e1 : (stps l).filter (fun t => decide (e < t)) = ((stps l).filter (fun t => decide (b < t))).filter (fun t => decide (e < t)) := by
            rw [List.filter_filter]
            refine List.filter_congr fun x _ => ?_
            rw [Bool.eq_iff_iff]
            simp
            omega
          rw [e1, hst b hlt, hjs, List.cons_append, List.filter_cons, ← h2]
          rcases hem with h | h
          · rw [if_neg (by rw [h]; simp)]
            have hn : js'.takeWhile (fitB most a b) = [] := by
              cases hr : js'.takeWhile (fitB most a b) with
              | nil => rfl
              | cons u v =>
                have hu : u ∈ js'.takeWhile (fitB most a b) := by rw [hr]; exact List.mem_cons_self ..
                have h3 : u ≤ e := by
                  rw [← hee, hr]
                  refine lstO_max (u :: v) j1 ?_ u (by simp)
                  rw [← hr]
                  refine List.pairwise_cons.2 ⟨fun q hq => hs2.1 q (List.mem_append_left _ ((List.takeWhile_sublist _).subset hq)), ?_⟩
                  exact ((List.pairwise_append.1 hs2.2).1).sublist (List.takeWhile_sublist _)
                have h4 := hs2.1 u (List.mem_append_left _ ((List.takeWhile_sublist _).subset hu))
                omega
            have hd : (js' ++ [l.length]).dropWhile (fitB most a b) = js' ++ [l.length] := by
              have := List.takeWhile_append_dropWhile (p := fitB most a b) (l := js' ++ [l.length])
              rw [h1, hn, List.nil_append] at this
              exact this
            rw [hd]
            exact List.filter_eq_self.2 fun u hu => by rw [h]; simpa using hs2.1 u hu
          · have h5 : j1 < e := hs2.1 e (List.mem_append_left _ ((List.takeWhile_sublist _).subset h))
            rw [if_neg (by simp; omega)]
            refine dropWhile_after (fitB most a b) (js' ++ [l.length]) e hs2.2 (by rw [h1]; exact h) (fun u hu => ?_)
            rw [h1] at hu
            rw [← hee]
            refine lstO_max _ j1 ?_ u (List.mem_cons_of_mem _ hu)
            refine List.pairwise_cons.2 ⟨fun q hq => hs2.1 q (List.mem_append_left _ ((List.takeWhile_sublist _).subset hq)), ?_⟩
            exact ((List.pairwise_append.1 hs2.2).1).sublist (List.takeWhile_sublist _)
        rw [hst2, pcs_first]
      · left
        rw [if_neg hfit]
        have hall : ∀ t ∈ js' ++ [l.length], fitB most a b t = true := fun t ht => by
          have : t ≤ l.length := by
            rcases List.mem_append.1 ht with h | h
            · exact Nat.le_of_lt (hin t (List.mem_cons_of_mem _ h))
            · rw [List.mem_singleton.1 h]; exact Nat.le_refl _
          unfold fitB
          simp
          omega
        obtain ⟨h1, h2⟩ := takeWhile_all (fitB most a b) _ hall
        rw [h1]
        refine ⟨rfl, ?_⟩
        rw [lstO_app]
theorem cuts_is (l : List UInt8) (a most : Nat) : cuts l a most = rwsF l most a 0 := by
  unfold cuts rwsF
  by_cases h : 0 < l.length
  · congr 1
    refine (List.filter_eq_self.2 fun t ht => ?_).symm
    rcases List.mem_append.1 ht with h2 | h2
    · simpa using (jt_lt ((jts_mem l _ t).1 h2).2).1
    · rw [List.mem_singleton.1 h2]; simpa using h
  · have hl : l = [] := List.length_eq_zero_iff.1 (by omega)
    subst hl
    rfl
end Go.Proofs.YtpepjiocjcjeeabDoor
