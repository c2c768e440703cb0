/-
  Punycode, as a recursion over the wide runes in their order: what both sides reckon.
-/
import Derived.Test.YtedgimkffkflbaaDoorMk
import Derived.Test.YtedgimkffkflbaaDoorWidP
import Derived.Test.YtedgimkffkflbaaDoorUtfP
namespace Go.Proofs.YtedgimkffkflbaaDoor

/-- The step of the rune at a place. -/
def stp (l : List Int) (f : Nat → Int) (n : Int) (i h at' : Nat) : Int := (rn l at' - n) * ((h : Int) + 1) + pre f at' - i
/-- The digits of the wide runes, one behind the other; none: a step is too great. -/
def punL (l : List Int) : List Nat → (Nat → Int) → Int → Nat → Nat → Nat → Bool → Option (List UInt8)
  | [], _, _, _, _, _, _ => some []
  | at' :: rest, f, n, i, h, bias, first =>
    if 2147483647 < stp l f n i h at' then none
    else (punL l rest (put1 f at' 1) (rn l at') ((pre f at').toNat + 1) (h + 1) (biasB (stp l f n i h at').toNat (h + 1) first) false).map fun d => digs (stp l f n i h at').toNat 0 bias ++ d
/-- The marks of the runes below 128, up to a place. -/
def lowF (l : List Int) (k : Nat) : Nat → Int := fun j => if j < k ∧ rn l j < 128 then 1 else 0
/-- The bytes of the runes below 128, up to a place. -/
def lowB (l : List Int) (k : Nat) : List UInt8 := ((l.take k).filter fun r => decide (r < 128)).map fun r => UInt8.ofNat r.toNat
def punH (l : List Int) : List UInt8 := lowB l l.length ++ (if lowB l l.length = [] then [] else [45])
def punD (l : List Int) : Option (List UInt8) := punL l (ordW l) (lowF l l.length) 128 0 (lowB l l.length).length 72 true

/-- What is known at each step. -/
structure PunOk (l : List Int) (rest : List Nat) (f : Nat → Int) (n : Int) (i h : Nat) : Prop where
  f01 : F01 f
  tot : pre f l.length = h
  ile : i ≤ h
  n01 : 0 ≤ n ∧ n ≤ 1114111
  nxt : ∀ j ∈ rest, j < l.length ∧ f j = 0 ∧ 128 ≤ rn l j ∧ rn l j ≤ 1114111 ∧ (n < rn l j ∨ (n = rn l j ∧ (i : Int) ≤ pre f j))
  srt : rest.Pairwise fun a b => rn l a < rn l b ∨ (rn l a = rn l b ∧ a < b)
theorem PunOk.pre0 {l : List Int} {rest : List Nat} {f : Nat → Int} {n : Int} {i h : Nat} (H : PunOk l rest f n i h) (j : Nat) : 0 ≤ pre f j := by
  have := pre_mono f H.f01.1 (a := 0) (b := j) (Nat.zero_le _)
  simpa [pre] using this
theorem PunOk.preh {l : List Int} {rest : List Nat} {f : Nat → Int} {n : Int} {i h : Nat} (H : PunOk l rest f n i h) {j : Nat} (hj : j ≤ l.length) : pre f j ≤ h := by
  have := pre_mono f H.f01.1 hj
  rw [H.tot] at this
  exact this
theorem PunOk.hle {l : List Int} {rest : List Nat} {f : Nat → Int} {n : Int} {i h : Nat} (H : PunOk l rest f n i h) : h ≤ l.length := by
  have := pre_le f H.f01.2 l.length
  rw [H.tot] at this
  omega
theorem PunOk.step0 {l : List Int} {rest : List Nat} {f : Nat → Int} {n : Int} {i h at' : Nat} (H : PunOk l (at' :: rest) f n i h) : 0 ≤ stp l f n i h at' := by
  obtain ⟨h1, h2, h3, h4, h5⟩ := H.nxt at' List.mem_cons_self
  have hp := H.pre0 at'
  have hi := H.ile
  unfold stp
  rcases h5 with h5 | ⟨h5, h6⟩
  · have : 1 * ((h : Int) + 1) ≤ (rn l at' - n) * ((h : Int) + 1) := Int.mul_le_mul_of_nonneg_right (by omega) (by omega)
    omega
  · rw [h5, Int.sub_self, Int.zero_mul]
    omega
theorem PunOk.step {l : List Int} {rest : List Nat} {f : Nat → Int} {n : Int} {i h at' : Nat} (H : PunOk l (at' :: rest) f n i h) : PunOk l rest (put1 f at' 1) (rn l at') ((pre f at').toNat + 1) (h + 1) := by
  obtain ⟨h1, h2, h3, h4, h5⟩ := H.nxt at' List.mem_cons_self
  have hp := H.pre0 at'
  have hph := H.preh (Nat.le_of_lt h1)
  have hs := List.pairwise_cons.1 H.srt
  refine ⟨H.f01.put at' 1 (by omega) (by omega), ?_, by omega, ⟨by omega, h4⟩, fun j hj => ?_, hs.2⟩
  · rw [pre_put, if_pos h1, H.tot]
    push_cast
    rfl
  · obtain ⟨g1, g2, g3, g4, _⟩ := H.nxt j (List.mem_cons_of_mem _ hj)
    have ho := hs.1 j hj
    have hne : j ≠ at' := by
      intro e
      subst e
      omega
    refine ⟨g1, ?_, g3, g4, ?_⟩
    · unfold put1
      rw [if_neg hne]
      exact g2
    · rcases ho with ho | ⟨ho, hlt⟩
      · exact .inl ho
      · refine .inr ⟨ho, ?_⟩
        rw [pre_put, if_pos hlt]
        have := pre_mono f H.f01.1 (Nat.le_of_lt hlt)
        omega

theorem lowF_01 (l : List Int) (k : Nat) : F01 (lowF l k) := ⟨fun j => by unfold lowF; split <;> omega, fun j => by unfold lowF; split <;> omega⟩
theorem lowF_zero (l : List Int) (j : Nat) : lowF l 0 j = 0 := by unfold lowF; rw [if_neg (by omega)]
theorem lowF_yes (l : List Int) (k : Nat) (h : rn l k < 128) : ∀ j, lowF l (k + 1) j = put1 (lowF l k) k 1 j := by
  intro j
  unfold lowF put1
  simp only
  by_cases e : j = k
  · subst e
    rw [if_pos ⟨by omega, h⟩, if_pos rfl, if_neg (by omega)]
    omega
  · rw [if_neg e]
    by_cases hj : j < k ∧ rn l j < 128
    · rw [if_pos ⟨by omega, hj.2⟩, if_pos hj]
    · rw [if_neg (by omega), if_neg hj]
theorem lowF_no (l : List Int) (k : Nat) (h : ¬ rn l k < 128) : lowF l (k + 1) = lowF l k := by
  funext j
  unfold lowF
  by_cases e : j = k
  · subst e
    rw [if_neg (fun x => h x.2), if_neg (fun x => h x.2)]
  · by_cases hj : j < k ∧ rn l j < 128
    · rw [if_pos ⟨by omega, hj.2⟩, if_pos hj]
    · rw [if_neg (by omega), if_neg hj]
theorem lowB_zero (l : List Int) : lowB l 0 = [] := rfl
theorem lowB_yes (l : List Int) (k : Nat) (hk : k < l.length) (h : l[k] < 128) : lowB l (k + 1) = lowB l k ++ [UInt8.ofNat l[k].toNat] := by
  unfold lowB
  rw [List.take_succ_eq_append_getElem hk, List.filter_append, List.map_append]
  simp [h]
theorem lowB_no (l : List Int) (k : Nat) (hk : k < l.length) (h : ¬ l[k] < 128) : lowB l (k + 1) = lowB l k := by
  unfold lowB
  rw [List.take_succ_eq_append_getElem hk, List.filter_append, List.map_append]
  simp [h]
theorem lowB_length (l : List Int) (k : Nat) : (lowB l k).length ≤ k := by
  unfold lowB
  rw [List.length_map]
  have := List.length_filter_le (fun r => decide (r < 128)) (l.take k)
  rw [List.length_take] at this
  omega
theorem lowF_tot (l : List Int) (k : Nat) (hk : k ≤ l.length) : ∀ m, k ≤ m → pre (lowF l k) m = (lowB l k).length := by
  induction k with
  | zero =>
    intro m _
    rw [pre_ext (lowF l 0) (fun _ => 0) m (fun j _ => lowF_zero l j), pre_zero]
    rfl
  | succ k ih =>
    intro m hm
    have hr := rn_get l k (by omega)
    by_cases h : l[k] < 128
    · rw [lowB_yes l k (by omega) h, pre_ext _ _ m (fun j _ => lowF_yes l k (by rw [hr]; exact h) j), pre_put, if_pos (by omega), ih (by omega) m (by omega), List.length_append]
      push_cast
      rfl
    · rw [lowB_no l k (by omega) h, lowF_no l k (by rw [hr]; exact h), ih (by omega) m (by omega)]

theorem pairwise_ord (l : List Int) : (ordW l).Pairwise fun a b => rn l a < rn l b ∨ (rn l a = rn l b ∧ a < b) := by
  have h1 : (ordW l).Pairwise fun a b => leW l a b = true := List.pairwise_mergeSort (fun a b c => leW_trans l a b c) (fun a b => leW_total l a b) _
  have h2 : (ordW l).Nodup := by
    unfold ordW
    rw [(List.mergeSort_perm _ _).nodup_iff]
    unfold wideK
    exact List.Pairwise.filter _ List.nodup_range
  refine (List.Pairwise.and h1 h2).imp ?_
  intro a b ⟨h, hne⟩
  rw [leW_iff] at h
  omega
/-- At the beginning. -/
theorem punOk_start (l : List Int) (h : ∀ r ∈ l, isR r) : PunOk l (ordW l) (lowF l l.length) 128 0 (lowB l l.length).length := by
  refine ⟨lowF_01 l _, lowF_tot l _ (Nat.le_refl _) _ (Nat.le_refl _), Nat.zero_le _, by omega, fun j hj => ?_, pairwise_ord l⟩
  obtain ⟨h1, h2⟩ := ordW_mem hj
  have h3 := h l[j] (List.getElem_mem h1)
  have h4 := rn_get l j h1
  refine ⟨h1, ?_, h2, by rw [h4]; exact h3.2.1, ?_⟩
  · unfold lowF
    rw [if_neg (by omega)]
  · have := pre_mono (lowF l l.length) (lowF_01 l _).1 (a := 0) (b := j) (Nat.zero_le _)
    simp only [pre] at this
    omega
end Go.Proofs.YtedgimkffkflbaaDoor
/-
  The places of the wide runes, put in one by one: no Go in sight.
-/
namespace Go.Proofs.YtedgimkffkflbaaDoor

/-- Of two places the one that comes first. -/
def Rw2 (l : List Int) (a b : Nat) : Prop := rn l a < rn l b ∨ (rn l a = rn l b ∧ a < b)
theorem sorted_eq {R : Nat → Nat → Prop} (hirr : ∀ a, ¬ R a a) (hasym : ∀ a b, R a b → R b a → False) : ∀ (a b : List Nat), a.Pairwise R → b.Pairwise R → (∀ x, x ∈ a ↔ x ∈ b) → a = b
  | [], [], _, _, _ => rfl
  | [], y :: b, _, _, h => by have := (h y).2 (by simp); cases this
  | x :: a, [], _, _, h => by have := (h x).1 (by simp); cases this
  | x :: a, y :: b, ha, hb, h => by
    rw [List.pairwise_cons] at ha hb
    have e : x = y := by
      have h1 := (h x).1 (by simp)
      have h2 := (h y).2 (by simp)
      rw [List.mem_cons] at h1 h2
      rcases h1 with h1 | h1
      · exact h1
      · rcases h2 with h2 | h2
        · exact h2.symm
        · exact absurd (hb.1 x h1) (fun h' => hasym _ _ h' (ha.1 y h2))
    subst e
    congr 1
    refine sorted_eq hirr hasym a b ha.2 hb.2 (fun z => ?_)
    have hz := h z
    rw [List.mem_cons, List.mem_cons] at hz
    constructor
    · intro hm
      rcases hz.1 (.inr hm) with e | e
      · subst e; exact absurd (ha.1 z hm) (hirr z)
      · exact e
    · intro hm
      rcases hz.2 (.inr hm) with e | e
      · subst e; exact absurd (hb.1 z hm) (hirr z)
      · exact e
/-- What stands in the list by place k. -/
structure OrdOk (l : List Int) (k : Nat) (S : List Nat) : Prop where
  sorted : S.Pairwise (Rw2 l)
  mem : ∀ x, x ∈ S ↔ x ∈ wideK l k
theorem ordOk_start (l : List Int) : OrdOk l 0 [] := ⟨List.Pairwise.nil, fun x => by simp [wideK]⟩
theorem OrdOk.done {l : List Int} {S : List Nat} (h : OrdOk l l.length S) : S = ordW l := by
  refine sorted_eq (R := Rw2 l) (fun a h => ?_) (fun a b h1 h2 => ?_) S (ordW l) h.sorted (pairwise_ord l) (fun x => ?_)
  · unfold Rw2 at h; omega
  · unfold Rw2 at h1 h2; omega
  · rw [h.mem x]
    unfold ordW
    rw [List.mem_mergeSort]
theorem OrdOk.small {l : List Int} {k : Nat} {S : List Nat} (h : OrdOk l k S) (hr : ¬ 128 ≤ rn l k) : OrdOk l (k + 1) S :=
  ⟨h.sorted, fun x => by rw [wideK_succ, if_neg hr, List.append_nil]; exact h.mem x⟩
theorem OrdOk.lt {l : List Int} {k : Nat} {S : List Nat} (h : OrdOk l k S) {x : Nat} (hx : x ∈ S) : x < k ∧ 128 ≤ rn l x := wideK_lt ((h.mem x).1 hx)
theorem OrdOk.put {l : List Int} {k at' : Nat} {S : List Nat} (h : OrdOk l k S) (hr : 128 ≤ rn l k) (ha : at' ≤ S.length) (hhi : ∀ j (hj : j < S.length), at' ≤ j → rn l k < rn l S[j]) (hlo : at' = 0 ∨ ∃ hj : at' - 1 < S.length, rn l S[at' - 1] ≤ rn l k) :
    OrdOk l (k + 1) (S.take at' ++ [k] ++ S.drop at') := by
  have hlow : ∀ x ∈ S.take at', rn l x ≤ rn l k := by
    intro x hx
    obtain ⟨j, hj, rfl⟩ := List.getElem_of_mem hx
    rw [List.length_take] at hj
    rw [List.getElem_take]
    rcases hlo with h0 | ⟨hj', hle⟩
    · omega
    · rcases Nat.lt_or_ge j (at' - 1) with h1 | h1
      · have := List.pairwise_iff_getElem.1 h.sorted j (at' - 1) (by omega) hj' h1
        unfold Rw2 at this
        omega
      · have e : j = at' - 1 := by omega
        subst e
        exact hle
  have hhigh : ∀ x ∈ S.drop at', rn l k < rn l x := by
    intro x hx
    obtain ⟨j, hj, rfl⟩ := List.getElem_of_mem hx
    rw [List.length_drop] at hj
    rw [List.getElem_drop]
    exact hhi _ _ (by omega)
  have hS := h.sorted
  rw [← List.take_append_drop at' S, List.pairwise_append] at hS
  refine ⟨?_, fun x => ?_⟩
  · rw [List.append_assoc, List.pairwise_append]
    refine ⟨hS.1, ?_, ?_⟩
    · rw [List.singleton_append, List.pairwise_cons]
      exact ⟨fun x hx => .inl (hhigh x hx), hS.2.1⟩
    · intro x hx y hy
      rw [List.singleton_append, List.mem_cons] at hy
      rcases hy with rfl | hy
      · have := hlow x hx
        have := (h.lt (List.mem_of_mem_take hx)).1
        unfold Rw2
        omega
      · exact hS.2.2 x hx y hy
  · rw [wideK_succ, if_pos hr, List.mem_append, List.mem_append, List.mem_append, ← h.mem x]
    conv => rhs; rw [← List.take_append_drop at' S, List.mem_append]
    constructor
    · rintro ((h | h) | h)
      · exact .inl (.inl h)
      · exact .inr h
      · exact .inl (.inr h)
    · rintro ((h | h) | h)
      · exact .inl (.inl h)
      · exact .inr h
      · exact .inl (.inr h)
end Go.Proofs.YtedgimkffkflbaaDoor
