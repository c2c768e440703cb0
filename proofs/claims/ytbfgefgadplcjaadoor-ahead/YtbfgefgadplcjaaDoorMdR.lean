/-
  How long a reply is that is written; no Go in sight.
-/
import Derived.Test.YtbfgefgadplcjaaDoorBmR
namespace Go.Proofs.YtbfgefgadplcjaaDoor

theorem rwM_len (cd : List UInt8) (hc : cd.length = 3) : ∀ (ts : List (List UInt8)), (∀ t ∈ ts, t.length ≤ 506) → (ts.flatMap (rwM cd)).length ≤ 512 * ts.length
  | [], _ => by simp
  | t :: ts, h => by
    have h1 := rwM_len cd hc ts (fun x hx => h x (by simp [hx]))
    have h2 := h t (by simp)
    rw [List.flatMap_cons, List.length_append, List.length_cons]
    simp only [rwM, List.length_append, List.length_cons, List.length_nil]
    omega
theorem prL_short {r : Ry} (h : MayR r) : (prL r).length ≤ 32768 := by
  obtain ⟨ts, u, he, -, hl, ht, -, hul⟩ := pr_rp h
  have hc : (dcI r.code).length = 3 := by obtain ⟨x, y, z, e, _⟩ := h.cd; rw [e]; rfl
  have h1 := rwM_len _ hc ts (fun t h' => (ht t h').2)
  rw [he]
  simp only [rpL, rwE, if_true, List.length_append, List.length_cons, List.length_nil]
  omega
theorem flat_short : ∀ (o : List Ry), (∀ r ∈ o, MayR r) → (o.flatMap prL).length ≤ 32768 * o.length
  | [], _ => by simp
  | r :: o, h => by
    have h1 := flat_short o (fun x hx => h x (by simp [hx]))
    have h2 := prL_short (h r (by simp))
    rw [List.flatMap_cons, List.length_append, List.length_cons]
    omega
theorem flatR_take (o : List Ry) (i : Nat) (h : i < o.length) : (o.take (i + 1)).flatMap prL = (o.take i).flatMap prL ++ prL o[i] := by
  rw [List.take_succ_eq_append_getElem h, List.flatMap_append]
  simp
end Go.Proofs.YtbfgefgadplcjaaDoor
/-
  A reply that is made to be one that may be; no Go in sight.
-/
namespace Go.Proofs.YtbfgefgadplcjaaDoor

/-- A number brought within bounds. -/
def wiN (m : Int) (n : Int) : Int := if n.tmod m < 0 then n.tmod m + m else n.tmod m
theorem wiN_in (m : Int) (h : 0 < m) (n : Int) : 0 ≤ wiN m n ∧ wiN m n < m := by
  unfold wiN
  have h1 := Int.lt_tmod_of_pos n h
  have h2 := Int.tmod_lt_of_pos n h
  split <;> omega
def mdC (c : Int) : Int := 100 * (2 + (wiN 240 c).tdiv 60) + (wiN 240 c).tmod 60
def mdS (c : Int) (s : Stt) : Stt := if s.1.tmod 2 ≠ 0 ∧ (mdC c).tdiv 100 ≠ 3 then ((mdC c).tdiv 100, wiN 1000 s.2.1, wiN 1000 s.2.2) else (0, 0, 0)
def kpB (c : UInt8) : Bool := c == 9 || (decide (32 ≤ c) && c != 127)
def mdT (p : List UInt8) : List UInt8 → List UInt8
  | [] => p
  | c :: l => if p.length < 490 then mdT (if kpB c then p ++ [c] else p) l else p
def pfL (s : Stt) : List UInt8 := if s.1 = 0 then [45] else []
def mdG (s : Stt) (L : List (List UInt8)) : List (List UInt8) := match L with
  | [] => []
  | t :: r => mdT (pfL s) t :: r.map (mdT [])
def mdL (s : Stt) (L : List (List UInt8)) : List (List UInt8) := if L = [] then [[45]] else mdG s (L.take 64)
def mdR (c : Int) (s : Stt) (L : List (List UInt8)) : Ry := ⟨mdC c, mdS c s, mdL (mdS c s) L⟩
theorem mdC_in (c : Int) : ∃ q r : Nat, q ≤ 3 ∧ r ≤ 59 ∧ mdC c = ((100 * (2 + q) + r : Nat) : Int) ∧ (mdC c).tdiv 100 = ((2 + q : Nat) : Int) ∧ mdC c / 100 = ((2 + q : Nat) : Int) := by
  obtain ⟨h0, h1⟩ := wiN_in 240 (by decide) c
  unfold mdC
  generalize wiN 240 c = n at *
  obtain ⟨k, rfl⟩ := Int.eq_ofNat_of_zero_le h0
  refine ⟨k / 60, k % 60, by omega, by omega, ?_, ?_, ?_⟩
  · rw [Int.tdiv_eq_ediv_of_nonneg (by omega), Int.tmod_eq_emod_of_nonneg (by omega)]
    omega
  · rw [Int.tdiv_eq_ediv_of_nonneg (show (0 : Int) ≤ (k : Int) by omega), Int.tmod_eq_emod_of_nonneg (by omega), Int.tdiv_eq_ediv_of_nonneg (by omega)]
    omega
  · rw [Int.tdiv_eq_ediv_of_nonneg (by omega), Int.tmod_eq_emod_of_nonneg (by omega)]
    omega
theorem kp_fin : ∀ c : Fin 256, kpB (UInt8.ofNat c.val) = true → txB (UInt8.ofNat c.val) = true := by decide +kernel
theorem kp_tx (c : UInt8) (h : kpB c = true) : txB c = true := by
  have := kp_fin ⟨c.toNat, c.toNat_lt⟩
  rw [u8_ofNat] at this
  exact this h
theorem mdT_ok : ∀ (l p : List UInt8), txtB p = true → p.length ≤ 490 → txtB (mdT p l) = true ∧ (mdT p l).length ≤ 490 ∧ ∃ q, mdT p l = p ++ q
  | [], p, h, hl => ⟨h, hl, [], by simp [mdT]⟩
  | c :: l, p, h, hl => by
    unfold mdT
    by_cases h4 : p.length < 490
    · rw [if_pos h4]
      by_cases hk : kpB c = true
      · rw [if_pos hk]
        obtain ⟨h1, h2, q, hq⟩ := mdT_ok l (p ++ [c]) (by rw [txt_app, h]; simp [txtB, kp_tx c hk]) (by rw [List.length_append, List.length_singleton]; omega)
        exact ⟨h1, h2, c :: q, by rw [hq]; simp⟩
      · rw [if_neg hk]
        exact mdT_ok l p h hl
    · rw [if_neg h4]
      exact ⟨h, hl, [], by simp⟩
theorem pfL_ok (s : Stt) : txtB (pfL s) = true ∧ (pfL s).length ≤ 490 := by
  unfold pfL
  split
  · exact ⟨by decide +kernel, by decide⟩
  · exact ⟨rfl, by simp⟩
theorem mdL_in (s : Stt) (L : List (List UInt8)) : 1 ≤ (mdL s L).length ∧ (mdL s L).length ≤ 64 ∧ ∀ t ∈ mdL s L, txtB t = true ∧ t.length ≤ 490 := by
  unfold mdL
  by_cases h : L = []
  · rw [if_pos h]
    refine ⟨by decide, by decide, fun t ht => ?_⟩
    rw [List.mem_singleton] at ht
    subst ht
    exact ⟨by decide +kernel, by decide⟩
  · rw [if_neg h]
    have hl : (L.take 64).length ≤ 64 := by rw [List.length_take]; omega
    have hn : L.take 64 ≠ [] := by
      cases L with
      | nil => exact absurd rfl h
      | cons a b => simp
    generalize L.take 64 = M at *
    match M, hn with
    | t :: r, _ =>
      unfold mdG
      refine ⟨by simp, by simpa using hl, fun x hx => ?_⟩
      rcases List.mem_cons.1 hx with rfl | hx
      · have := mdT_ok t (pfL s) (pfL_ok s).1 (pfL_ok s).2
        exact ⟨this.1, this.2.1⟩
      · obtain ⟨y, _, rfl⟩ := List.mem_map.1 hx
        have := mdT_ok y [] rfl (by simp)
        exact ⟨this.1, this.2.1⟩
/-- Where there is no status, the first line begins with a -. -/
theorem mdL_first (s : Stt) (h0 : s.1 = 0) (L : List (List UInt8)) : ∃ q R, mdL s L = (45 :: q) :: R := by
  unfold mdL
  by_cases h : L = []
  · rw [if_pos h]
    exact ⟨[], [], rfl⟩
  · rw [if_neg h]
    have hn : L.take 64 ≠ [] := by
      cases L with
      | nil => exact absurd rfl h
      | cons a b => simp
    generalize L.take 64 = M at *
    match M, hn with
    | t :: r, _ =>
      have hp : pfL s = [45] := if_pos h0
      obtain ⟨-, -, q, hq⟩ := mdT_ok t [45] (by decide +kernel) (by decide)
      exact ⟨q, r.map (mdT []), by show mdT (pfL s) t :: r.map (mdT []) = _; rw [hp, hq]; rfl⟩
theorem cutF_dash (q : List UInt8) : ∃ q', cutF (45 :: q) 32 = 45 :: q' := by
  rcases cutR_any 32 q with h | ⟨a, r, rfl, ha⟩
  · refine ⟨q, (cut_no 32 (45 :: q) (fun x hx => ?_)).1⟩
    rcases List.mem_cons.1 hx with rfl | hx
    · decide
    · exact h x hx
  · refine ⟨a, (cut_at 32 (45 :: a) r (fun x hx => ?_)).1⟩
    rcases List.mem_cons.1 hx with rfl | hx
    · decide
    · exact ha x hx
theorem st_dash (q : List UInt8) : stOf (45 :: q) = (0, 0, 0) := by
  apply Classical.byContradiction
  intro h
  have h1 := (st_of h).2
  generalize stOf (45 :: q) = s at *
  have hd := dec_dig s.1.toNat
  unfold wrSt dcI at h1
  cases hx : Lib.decDigits s.1.toNat with
  | nil =>
    rw [hx] at h1
    simp at h1
  | cons d t =>
    rw [hx] at h1
    simp only [List.cons_append, List.cons.injEq] at h1
    have := hd d (by rw [hx]; simp)
    rw [h1.1] at this
    exact absurd this.1 (by decide)
/-- What is made may be. -/
theorem may_md (c : Int) (s : Stt) (L : List (List UInt8)) : MayR (mdR c s L) := by
  obtain ⟨q, r, hq, hr, hc, hd, he⟩ := mdC_in c
  obtain ⟨n1, n2, hls⟩ := mdL_in (mdS c s) L
  have hst : mdS c s = (0, 0, 0) ∨ (isSt (mdS c s) = true ∧ (mdS c s).1 = mdC c / 100) := by
    unfold mdS
    split
    · next h =>
      right
      have h2 := wiN_in 1000 (by decide) s.2.1
      have h3 := wiN_in 1000 (by decide) s.2.2
      have h4 : q ≠ 1 := fun e => h.2 (by rw [hd, e]; rfl)
      rw [hd, he]
      refine ⟨?_, rfl⟩
      unfold isSt
      simp only [Bool.and_eq_true, Bool.or_eq_true, decide_eq_true_eq, beq_iff_eq]
      omega
    · exact .inl rfl
  refine ⟨⟨UInt8.ofNat (48 + (2 + q)), UInt8.ofNat (48 + r / 10), UInt8.ofNat (48 + r % 10), ?_, ?_, ?_, ?_⟩, ?_, hst, n1, n2, fun t ht => ⟨?_, (hls t ht).1⟩, fun e => ?_⟩
  · show dcI (mdC c) = _
    unfold dcI
    rw [hc, Int.toNat_natCast, dec_three _ (by omega) (by omega)]
    rw [show (100 * (2 + q) + r) / 100 = 2 + q by omega, show (100 * (2 + q) + r) / 10 % 10 = r / 10 by omega, show (100 * (2 + q) + r) % 10 = r % 10 by omega]
  · rw [dig0, u8n _ (by omega)]; omega
  · rw [dig1, u8n _ (by omega)]; omega
  · rw [dig2, u8n _ (by omega)]; omega
  · show 0 ≤ mdC c ∧ mdC c ≤ 999
    omega
  · have h1 := (hls t ht).2
    show (gT (mdS c s) t).length ≤ 506
    unfold gT
    split
    · omega
    · rcases hst with h | h
      · contradiction
      · have := wrSt_len h.1
        simp only [List.length_append, List.length_cons]
        omega
  · show comSt (mdC c) (mdL (mdS c s) L) = (0, 0, 0)
    have e' : mdS c s = (0, 0, 0) := e
    obtain ⟨qq, R, hm⟩ := mdL_first (mdS c s) (by rw [e']) L
    obtain ⟨q', hq'⟩ := cutF_dash qq
    rw [hm]
    unfold comSt comGo
    rw [hq', st_dash, if_pos (.inl (by rw [he]; show ¬ (0 : Int) = _; omega))]
end Go.Proofs.YtbfgefgadplcjaaDoor
