/-
  Addresses that were written are read again as they were.
-/
import Derived.Test.YthkoionigdnhgabGreatDoorAdP
namespace Go.Proofs.YthkoionigdnhgabGreatDoor

theorem numGo_append : ∀ (l : List UInt8) (n k m : Nat) (r : List UInt8), numGo n k l = (m, k + l.length) → (∀ c, r.head? = some c → dgB c = false) → numGo n k (l ++ r) = (m, k + l.length)
  | [], n, k, m, r, h, hr => by
    match r, hr with
    | [], _ => exact h
    | c :: r, hr =>
      rw [List.nil_append, numGo_no _ _ _ _ (hr c rfl)]
      exact h
  | c :: l, n, k, m, r, h, hr => by
    rw [List.cons_append]
    rw [numGo] at h ⊢
    by_cases h1 : dgB c = true
    · rw [if_pos h1] at h ⊢
      by_cases h2 : 255 < 10 * n + (c.toNat - 48) ∨ (0 < k ∧ n = 0)
      · rw [if_pos h2] at h
        have := congrArg Prod.snd h
        simp at this
      · rw [if_neg h2] at h ⊢
        have e : k + (c :: l).length = k + 1 + l.length := by simp; omega
        rw [e] at h ⊢
        exact numGo_append l _ _ m r h hr
    · rw [if_neg h1] at h
      have := congrArg Prod.snd h
      simp at this
theorem decD_num : ∀ n : Fin 256, numGo 0 0 (decD n.val) = (n.val, 0 + (decD n.val).length) ∧ 0 < (decD n.val).length ∧ (decD n.val).length ≤ 3 ∧ (decD n.val).head? ≠ some 46 := by decide +kernel
theorem num_dec (n : Nat) (hn : n < 256) (r : List UInt8) (hr : ∀ c, r.head? = some c → dgB c = false) : numGo 0 0 (decD n ++ r) = (n, (decD n).length) := by
  have h := numGo_append (decD n) 0 0 n r (decD_num ⟨n, hn⟩).1 hr
  rw [Nat.zero_add] at h
  exact h

/-- P8.10, of the fourth kind. -/
theorem v4_print (a b c d : Nat) (ha : a < 256) (hb : b < 256) (hc : c < 256) (hd : d < 256) : v4 (print4 [a, b, c, d]) = .ok [a, b, c, d] := by
  have hdot : ∀ (r : List UInt8) (x : UInt8), (46 :: r).head? = some x → dgB x = false := fun r x h => by
    injection h with h
    rw [← h]
    decide
  have e : print4 [a, b, c, d] = decD a ++ (46 :: (decD b ++ (46 :: (decD c ++ (46 :: (decD d ++ [])))))) := by
    simp [print4, joinL]
  have p1 := (decD_num ⟨a, ha⟩).2.1
  have p2 := (decD_num ⟨b, hb⟩).2.1
  have p3 := (decD_num ⟨c, hc⟩).2.1
  have p4 := (decD_num ⟨d, hd⟩).2.1
  dsimp only at p1 p2 p3 p4
  have q1 := num_dec a ha (46 :: (decD b ++ (46 :: (decD c ++ (46 :: (decD d ++ [])))))) (hdot _)
  have q2 := num_dec b hb (46 :: (decD c ++ (46 :: (decD d ++ [])))) (hdot _)
  have q3 := num_dec c hc (46 :: (decD d ++ [])) (hdot _)
  have q4 := num_dec d hd [] (fun c h => by cases h)
  have n1 : ¬ (decD a).length = 0 := by omega
  have n2 : ¬ (decD b).length = 0 := by omega
  have n3 : ¬ (decD c).length = 0 := by omega
  have n4 : ¬ (decD d).length = 0 := by omega
  rw [e]
  unfold v4
  rw [v4Go, if_pos rfl, q1]
  dsimp only
  rw [if_neg n1, List.drop_left, List.nil_append, v4Go, if_neg (by simp), List.head?_cons, if_pos rfl, List.drop_one, List.tail_cons, q2]
  dsimp only
  rw [if_neg n2, List.drop_left, v4Go, if_neg (by simp), List.head?_cons, if_pos rfl, List.drop_one, List.tail_cons, q3]
  dsimp only
  rw [if_neg n3, List.drop_left, v4Go, if_neg (by simp), List.head?_cons, if_pos rfl, List.drop_one, List.tail_cons, q4]
  dsimp only
  rw [if_neg n4, List.append_nil, List.drop_length, v4Go, if_pos rfl]
  rfl

theorem hexC_ok : ∀ d : Fin 16, hxB (hexC d.val) = true ∧ hxV (hexC d.val) = d.val ∧ hexC d.val ≠ 58 ∧ hexC d.val ≠ 46 := by decide +kernel
theorem hexN_append : ∀ (l r : List UInt8) (n : Nat), hexN n (l ++ r) = hexN (hexN n l) r
  | [], _, _ => rfl
  | c :: l, r, n => by rw [List.cons_append, hexN, hexN, hexN_append l r]
theorem hexF_ok : ∀ (f n : Nat), n < 16 ^ (f + 1) → hexN 0 (hexF f n) = n ∧ (∀ c ∈ hexF f n, hxB c = true) ∧ 0 < (hexF f n).length ∧ (∀ k, n < 16 ^ (k + 1) → (hexF f n).length ≤ k + 1)
  | 0, n, h => by
    have hn : n % 16 < 16 := Nat.mod_lt _ (by decide)
    have := hexC_ok ⟨n % 16, hn⟩
    dsimp only at this
    refine ⟨?_, ?_, by simp [hexF], fun k _ => by simp [hexF]⟩
    · simp only [hexF, hexN, this.2.1]
      omega
    · simp only [hexF, List.mem_singleton]
      rintro c rfl
      exact this.1
  | f + 1, n, h => by
    rw [hexF]
    by_cases hn : n < 16
    · rw [if_pos hn]
      have := hexC_ok ⟨n, hn⟩
      dsimp only at this
      refine ⟨?_, ?_, by simp, fun k _ => by simp⟩
      · simp only [hexN, this.2.1]
        omega
      · simp only [List.mem_singleton]
        rintro c rfl
        exact this.1
    · rw [if_neg hn]
      have hm := hexC_ok ⟨n % 16, Nat.mod_lt _ (by decide)⟩
      dsimp only at hm
      obtain ⟨i1, i2, i3, i4⟩ := hexF_ok f (n / 16) (Nat.div_lt_of_lt_mul (by rw [Nat.pow_succ] at h; omega))
      refine ⟨?_, ?_, by simp, fun k hk => ?_⟩
      · rw [hexN_append, i1]
        simp only [hexN, hm.2.1]
        omega
      · intro c hc
        rcases List.mem_append.1 hc with hc | hc
        · exact i2 c hc
        · rw [List.mem_singleton.1 hc]
          exact hm.1
      · rw [List.length_append, List.length_singleton]
        match k with
        | 0 => omega
        | k + 1 =>
          have := i4 k (Nat.div_lt_of_lt_mul (by rw [Nat.pow_succ] at hk; omega))
          omega
theorem hexD_ok (n : Nat) (h : n < 65536) : hexN 0 (hexD n) = n ∧ (∀ c ∈ hexD n, hxB c = true) ∧ 0 < (hexD n).length ∧ (hexD n).length ≤ 4 := by
  obtain ⟨h1, h2, h3, h4⟩ := hexF_ok 16 n (by omega)
  exact ⟨h1, h2, h3, h4 3 (by omega)⟩

theorem hexSp_append : ∀ (l r : List UInt8), (∀ c ∈ l, hxB c = true) → (∀ c, r.head? = some c → hxB c = false) → hexSp (l ++ r) = l.length
  | [], r, _, hr => by
    match r, hr with
    | [], _ => rfl
    | c :: r, hr => rw [List.nil_append, hexSp, if_neg (by rw [hr c rfl]; decide)]; rfl
  | c :: l, r, hl, hr => by
    rw [List.cons_append, hexSp, if_pos (hl c (by simp)), hexSp_append l r (fun x hx => hl x (by simp [hx])) hr, List.length_cons]
theorem grp_hex (n : Nat) (h : n < 65536) (r : List UInt8) (hr : ∀ c, r.head? = some c → hxB c = false) : grpL (hexD n ++ r) = (hexD n).length ∧ grpN (hexD n ++ r) = n := by
  obtain ⟨h1, h2, _, h4⟩ := hexD_ok n h
  have e : grpL (hexD n ++ r) = (hexD n).length := by
    unfold grpL
    rw [hexSp_append _ _ h2 hr]
    omega
  refine ⟨e, ?_⟩
  unfold grpN
  rw [e, List.take_left, h1]

/-- Groups with a colon between each two. -/
def gtx (l : List Nat) : List UInt8 := joinL [58] (l.map hexD)
theorem gtx_one (n : Nat) : gtx [n] = hexD n := rfl
theorem gtx_cons (n m : Nat) (r : List Nat) : gtx (n :: m :: r) = hexD n ++ 58 :: gtx (m :: r) := by
  simp [gtx, joinL]
theorem gtx_head (n : Nat) (r : List Nat) (hn : n < 65536) (t : List UInt8) : ∃ c x, gtx (n :: r) ++ t = c :: x ∧ hxB c = true := by
  obtain ⟨_, h2, h3, _⟩ := hexD_ok n hn
  match r with
  | [] =>
    rw [gtx_one]
    match h : hexD n, h2, h3 with
    | c :: x, h2, _ => exact ⟨c, x ++ t, rfl, h2 c (by simp)⟩
  | m :: r =>
    rw [gtx_cons]
    match h : hexD n, h2, h3 with
    | c :: x, h2, _ => exact ⟨c, _, rfl, h2 c (by simp)⟩
theorem hx_no58 : hxB 58 = false := by decide
theorem hx58 (r : List UInt8) : ∀ c, (58 :: r).head? = some c → hxB c = false := fun c h => by
  injection h with h
  rw [← h]
  exact hx_no58
def Gs.add (g : Gs) (l : List Nat) : Gs := ⟨g.l ++ l, g.gap⟩
theorem Gs.put_add (g : Gs) (n : Nat) (l : List Nat) : (g.put n).add l = g.add (n :: l) := by
  simp [Gs.put, Gs.add]
theorem Gs.room_put (g : Gs) (n : Nat) : (g.put n).room = g.room - 1 := by
  unfold Gs.room Gs.put
  simp only [List.length_append, List.length_singleton]
  split <;> omega

/-- A row of groups up to the end. -/
theorem v6_row : ∀ (l : List Nat) (f : Nat) (g : Gs) (a : Nat), l ≠ [] → (∀ n ∈ l, n < 65536) → l.length ≤ f → l.length ≤ g.room → (g.add l).whole 0 = true → v6Go f g a (gtx l) = .ok (g.add l).addr
  | [], _, _, _, h, _, _, _, _ => absurd rfl h
  | n :: r, 0, _, _, _, _, h, _, _ => by simp at h
  | [n], f + 1, g, a, _, hn, _, hr, hw => by
    have hn := hn n (by simp)
    obtain ⟨h1, h2, h3, h4⟩ := hexD_ok n hn
    have e := grp_hex n hn [] (fun c h => by cases h)
    rw [List.append_nil] at e
    simp only [List.length_singleton] at hr
    rw [gtx_one, v6Go, e.1, e.2, if_neg (by omega), if_neg (by simp), if_pos ⟨by simp, hw⟩]
    rfl
  | n :: m :: r, f + 1, g, a, _, hn, hf, hr, hw => by
    have hn1 := hn n (by simp)
    have hm := hn m (by simp)
    obtain ⟨h1, h2, h3, h4⟩ := hexD_ok n hn1
    have e := grp_hex n hn1 (58 :: gtx (m :: r)) (hx58 _)
    simp only [List.length_cons] at hr hf
    obtain ⟨c, x, hc, hcx⟩ := gtx_head m r hm []
    rw [List.append_nil] at hc
    have hc58 : c ≠ 58 := fun h => by rw [h, hx_no58] at hcx; cases hcx
    have hd1 : (hexD n ++ 58 :: gtx (m :: r)).drop ((hexD n).length + 1) = gtx (m :: r) := by
      rw [← List.drop_drop, List.drop_left]
      rfl
    rw [gtx_cons, v6Go, e.1, e.2, if_neg (by omega), if_neg (by simp), List.drop_left, if_neg (by simp), if_neg (by
      rw [Gs.room_put]
      simp
      omega), hd1, if_neg (by rw [hc]; simpa using hc58)]
    rw [v6_row (m :: r) f (g.put n) _ (by simp) (fun x hx => hn x (by simp [List.mem_cons.1 hx])) (by simp; omega) (by rw [Gs.room_put]; simp; omega) (by rw [Gs.put_add]; exact hw), Gs.put_add]
/-- A row of groups up to two colons. -/
theorem v6_gap : ∀ (l : List Nat) (f : Nat) (g : Gs) (a : Nat) (t : List UInt8), l ≠ [] → (∀ n ∈ l, n < 65536) → l.length ≤ f → g.gap = none → g.l.length + l.length ≤ 6 →
    ∃ a', v6Go f g a (gtx l ++ 58 :: 58 :: t) = if t = [] then .ok (g.add l).open'.addr else v6Go (f - l.length) (g.add l).open' a' t
  | [], _, _, _, _, h, _, _, _, _ => absurd rfl h
  | n :: r, 0, _, _, _, _, _, h, _, _ => by simp at h
  | [n], f + 1, g, a, t, _, hn, _, hg, hr => by
    have hn := hn n (by simp)
    obtain ⟨h1, h2, h3, h4⟩ := hexD_ok n hn
    have e := grp_hex n hn (58 :: 58 :: t) (hx58 _)
    simp only [List.length_singleton] at hr
    have hroom : g.room = 8 - g.l.length := by unfold Gs.room; rw [hg]; rfl
    have hmay : (g.put n).mayOpen = true := by
      unfold Gs.mayOpen Gs.put
      rw [hg]
      simp
      omega
    have hd1 : (hexD n ++ 58 :: 58 :: t).drop ((hexD n).length + 1) = 58 :: t := by
      rw [← List.drop_drop, List.drop_left]
      rfl
    have hd2 : (hexD n ++ 58 :: 58 :: t).drop ((hexD n).length + 2) = t := by
      rw [← List.drop_drop, List.drop_left]
      rfl
    refine ⟨a + (hexD n).length + 2, ?_⟩
    rw [gtx_one, v6Go, e.1, e.2, if_neg (by omega), if_neg (by simp), List.drop_left, if_neg (by simp), if_neg (by
      rw [Gs.room_put]
      simp
      omega), hd1, List.head?_cons, if_pos rfl, if_pos hmay, hd2]
    rfl
  | n :: m :: r, f + 1, g, a, t, _, hn, hf, hg, hr => by
    have hn1 := hn n (by simp)
    have hm := hn m (by simp)
    obtain ⟨h1, h2, h3, h4⟩ := hexD_ok n hn1
    simp only [List.length_cons] at hr hf
    have hroom : g.room = 8 - g.l.length := by unfold Gs.room; rw [hg]; rfl
    have e := grp_hex n hn1 (58 :: (gtx (m :: r) ++ 58 :: 58 :: t)) (hx58 _)
    obtain ⟨c, x, hc, hcx⟩ := gtx_head m r hm (58 :: 58 :: t)
    have hc58 : c ≠ 58 := fun h => by rw [h, hx_no58] at hcx; cases hcx
    have hd1 : (hexD n ++ 58 :: (gtx (m :: r) ++ 58 :: 58 :: t)).drop ((hexD n).length + 1) = gtx (m :: r) ++ 58 :: 58 :: t := by
      rw [← List.drop_drop, List.drop_left]
      rfl
    obtain ⟨a', ha⟩ := v6_gap (m :: r) f (g.put n) (a + (hexD n).length + 1) t (by simp) (fun x hx => hn x (by simp [List.mem_cons.1 hx])) (by simp; omega) hg (by simp [Gs.put]; omega)
    refine ⟨a', ?_⟩
    rw [gtx_cons, List.append_assoc, List.cons_append, v6Go, e.1, e.2, if_neg (by omega), if_neg (by simp), List.drop_left, if_neg (by simp), if_neg (by
      rw [Gs.room_put]
      simp
      omega), hd1, if_neg (by rw [hc]; simpa using hc58), ha, Gs.put_add]
    simp only [List.length_cons]
    rw [show f + 1 - (r.length + 1 + 1) = f - (r.length + 1) from by omega]

/-- What the first one of the longest rows of noughts is: only noughts. -/
theorem zrGo_ok (L : List (List UInt8)) : ∀ (r : List (List UInt8)) (i b f t : Nat), i + r.length = L.length → L.drop i = r → b ≤ i → f ≤ t → t ≤ i → (∀ k, b ≤ k → k < i → L[k]? = some [48]) → (∀ k, f ≤ k → k < t → L[k]? = some [48]) →
    (zrGo i b f t r).1 ≤ (zrGo i b f t r).2 ∧ (zrGo i b f t r).2 ≤ L.length ∧ ∀ k, (zrGo i b f t r).1 ≤ k → k < (zrGo i b f t r).2 → L[k]? = some [48]
  | [], i, b, f, t, hi, _, _, hft, ht, _, hz => ⟨hft, by simp at hi; rw [zrGo]; dsimp only; omega, hz⟩
  | x :: r, i, b, f, t, hi, hd, hb, hft, ht, hbz, hz => by
    have hx : L[i]? = some x := by
      have h := congrArg List.head? hd
      rw [List.head?_drop] at h
      exact h
    have hd' : L.drop (i + 1) = r := by
      rw [← List.drop_drop, hd]
      rfl
    simp only [List.length_cons] at hi
    rw [zrGo]
    by_cases hx0 : x = [48]
    · rw [if_neg (show ¬ x ≠ [48] from fun h => h hx0)]
      have hbz' : ∀ k, b ≤ k → k < i + 1 → L[k]? = some [48] := fun k h1 h2 => by
        by_cases h : k < i
        · exact hbz k h1 h
        · rw [show k = i from by omega, hx, hx0]
      split
      · exact zrGo_ok L r (i + 1) b b (i + 1) (by omega) hd' (by omega) (by omega) (by omega) hbz' hbz'
      · exact zrGo_ok L r (i + 1) b f t (by omega) hd' (by omega) hft (by omega) hbz' hz
    · rw [if_pos hx0]
      have hbz' : ∀ k, i + 1 ≤ k → k < i + 1 → L[k]? = some [48] := fun k h1 h2 => by omega
      split
      · exact zrGo_ok L r (i + 1) (i + 1) (i + 1) (i + 1) (by omega) hd' (by omega) (by omega) (by omega) hbz' hbz'
      · exact zrGo_ok L r (i + 1) (i + 1) f t (by omega) hd' (by omega) hft (by omega) hbz' hz
theorem zeros_ok (L : List (List UInt8)) : (zeros L).1 ≤ (zeros L).2 ∧ (zeros L).2 ≤ L.length ∧ ∀ k, (zeros L).1 ≤ k → k < (zeros L).2 → L[k]? = some [48] :=
  zrGo_ok L L 0 0 0 0 (by simp) rfl (by omega) (by omega) (by omega) (fun k _ h => by omega) (fun k _ h => by omega)
theorem hexD_zero (n : Nat) (hn : n < 65536) (h : hexD n = [48]) : n = 0 := by
  have := (hexD_ok n hn).1
  rw [h] at this
  rw [← this]
  decide

theorem two_grps : ∀ (a : List Nat), a.length % 2 = 0 → (∀ n ∈ a, n < 256) → twoB (grpsOf a) = a ∧ (grpsOf a).length = a.length / 2 ∧ ∀ n ∈ grpsOf a, n < 65536
  | [], _, _ => ⟨rfl, rfl, fun n h => by cases h⟩
  | [x], h, _ => by simp at h
  | x :: y :: r, h, hn => by
    have hx := hn x (by simp)
    have hy := hn y (by simp)
    obtain ⟨i1, i2, i3⟩ := two_grps r (by simp at h; omega) (fun n h => hn n (by simp [h]))
    refine ⟨?_, ?_, ?_⟩
    · rw [grpsOf, twoB, i1, show (256 * x + y) / 256 = x from by omega, show (256 * x + y) % 256 = y from by omega]
    · rw [grpsOf, List.length_cons, i2]
      simp
      omega
    · intro n hn'
      rcases List.mem_cons.1 hn' with h | h
      · omega
      · exact i3 n h

theorem mid_zero (L : List Nat) (f t : Nat) (hft : f ≤ t) (ht : t ≤ L.length) (hz : ∀ k, f ≤ k → k < t → L[k]? = some 0) : L.take f ++ List.replicate (t - f) 0 ++ L.drop t = L := by
  apply List.ext_getElem?
  intro k
  rw [List.append_assoc]
  by_cases h1 : k < f
  · rw [List.getElem?_append_left (by simp; omega), List.getElem?_take_of_lt h1]
  · rw [List.getElem?_append_right (by simp; omega)]
    simp only [List.length_take]
    rw [Nat.min_eq_left (by omega)]
    by_cases h2 : k < t
    · rw [List.getElem?_append_left (by simp; omega), hz k (by omega) h2, List.getElem?_replicate, if_pos (by omega)]
    · rw [List.getElem?_append_right (by simp; omega), List.length_replicate, List.getElem?_drop, show t + (k - f - (t - f)) = k from by omega]

/-- P8.10, of the sixth kind. -/
theorem v6_print (a : List Nat) (ha : a.length = 16) (hb : ∀ n ∈ a, n < 256) : v6 (print6 a) = .ok a := by
  obtain ⟨g1, g2, g3⟩ := two_grps a (by omega) hb
  rw [ha] at g2
  obtain ⟨z1, z2, z3⟩ := zeros_ok ((grpsOf a).map hexD)
  unfold print6
  generalize (zeros ((grpsOf a).map hexD)).1 = f at z1 z2 z3 ⊢
  generalize (zeros ((grpsOf a).map hexD)).2 = t at z1 z2 z3 ⊢
  rw [List.length_map, g2] at z2
  have z4 : ∀ k, f ≤ k → k < t → (grpsOf a)[k]? = some 0 := fun k h1 h2 => by
    have h := z3 k h1 h2
    rw [List.getElem?_map] at h
    match hk : (grpsOf a)[k]?, h with
    | some n, h =>
      simp only [Option.map_some, Option.some.injEq] at h
      rw [hexD_zero n (g3 n (List.mem_of_getElem? hk)) h]
  clear z3
  generalize hL : grpsOf a = L at *
  by_cases h2 : t - f < 2
  · rw [if_pos h2]
    match L, g2 with
    | n :: m :: r, g2 =>
      obtain ⟨c, x, hc, hcx⟩ := gtx_head n (m :: r) (g3 n (by simp)) []
      rw [List.append_nil] at hc
      have hc58 : c ≠ 58 := fun h => by rw [h, hx_no58] at hcx; cases hcx
      unfold v6
      change (if (gtx (n :: m :: r)).take 2 = [58, 58] then _ else if (gtx (n :: m :: r)).head? = some 58 then _ else v6Go 9 ⟨[], none⟩ 0 (gtx (n :: m :: r))) = _
      rw [if_neg (by rw [hc]; simp [hc58]), if_neg (by rw [hc]; simpa using hc58), v6_row (n :: m :: r) 9 ⟨[], none⟩ 0 (by simp) g3 (by omega) (by show _ ≤ 8; omega) (by
        simp only [Gs.whole, Gs.add, Gs.room, List.nil_append, g2]
        decide)]
      show Except.ok (twoB (n :: m :: r)) = _
      rw [g1]
  · rw [if_neg h2, ← List.map_take, ← List.map_drop]
    change v6 (gtx (L.take f) ++ [58, 58] ++ gtx (L.drop t)) = _
    rw [List.append_assoc]
    change v6 (gtx (L.take f) ++ (58 :: 58 :: gtx (L.drop t))) = _
    have hall : ∀ (G : Gs), G.l = L.take f ++ L.drop t → G.gap = some f → G.addr = a := fun G h1 h3 => by
      unfold Gs.addr Gs.all
      rw [h3, h1]
      dsimp only
      have e1 : (L.take f).length = f := by simp; omega
      rw [List.take_append_of_le_length (by omega), List.drop_append_of_le_length (by omega), List.take_of_length_le (by omega), List.drop_eq_nil_of_le (Nat.le_of_eq e1), List.nil_append]
      rw [show 8 - (L.take f ++ L.drop t).length = t - f from by simp; omega, mid_zero L f t z1 (by omega) z4, g1]
    have tailOk : ∀ (F : Nat) (k : Nat) (G : Gs), L.drop t ≠ [] → 8 - t ≤ F → G.l = L.take f → G.gap = some f → v6Go F G k (gtx (L.drop t)) = .ok a := fun F k G hne hF h1 h3 => by
      have hl1 : (L.take f).length = f := by simp; omega
      have hl2 : (L.drop t).length = 8 - t := by simp; omega
      have hr : G.room = 6 - f := by unfold Gs.room; rw [h3, h1, hl1]; rfl
      rw [v6_row (L.drop t) F G k hne (fun n hn => g3 n (List.mem_of_mem_drop hn)) (by omega) (by omega) (by
        unfold Gs.whole Gs.add
        rw [h3]
        simp)]
      rw [hall (G.add (L.drop t)) (by show G.l ++ _ = _; rw [h1]) h3]
    by_cases hf : L.take f = []
    · have hf0 : f = 0 := by
        rcases List.take_eq_nil_iff.1 hf with h | h
        · exact h
        · rw [h] at g2; simp at g2
      rw [hf]
      unfold v6
      show (if (58 :: 58 :: gtx (L.drop t)).take 2 = [58, 58] then _ else _) = _
      rw [if_pos (by rfl)]
      by_cases ht : L.drop t = []
      · rw [ht]
        show (if (58 :: 58 :: gtx []).length = 2 then Except.ok (Gs.addr ⟨[], some 0⟩) else _) = _
        rw [if_pos (by rfl), hall ⟨[], some 0⟩ (by rw [hf, ht]; rfl) (by rw [hf0])]
      · have hne : (58 :: 58 :: gtx (L.drop t)).length ≠ 2 := by
          match hd : L.drop t, ht with
          | n :: r, _ =>
            obtain ⟨c, x, hc, _⟩ := gtx_head n r (g3 n (List.mem_of_mem_drop (by rw [hd]; simp))) []
            rw [List.append_nil] at hc
            rw [hc]
            simp
        show (if (58 :: 58 :: gtx (L.drop t)).length = 2 then _ else v6Go 9 ⟨[], some 0⟩ 2 (gtx (L.drop t))) = _
        rw [if_neg hne, tailOk 9 2 ⟨[], some 0⟩ ht (by omega) hf.symm (by rw [hf0])]
    · match hd : L.take f, hf with
      | n :: r, hf =>
        have hn1 : ∀ x ∈ n :: r, x < 65536 := fun x hx => g3 x (List.mem_of_mem_take (by rw [hd]; exact hx))
        have hlen : (n :: r).length = f := by rw [← hd]; simp; omega
        obtain ⟨c, x, hc, hcx⟩ := gtx_head n r (hn1 n (by simp)) (58 :: 58 :: gtx (L.drop t))
        have hc58 : c ≠ 58 := fun h => by rw [h, hx_no58] at hcx; cases hcx
        obtain ⟨a', hg⟩ := v6_gap (n :: r) 9 ⟨[], none⟩ 0 (gtx (L.drop t)) (by simp) hn1 (by omega) rfl (by simp only [List.length_nil]; omega)
        unfold v6
        rw [if_neg (by rw [hc]; simp [hc58]), if_neg (by rw [hc]; simpa using hc58), hg]
        by_cases ht : L.drop t = []
        · rw [ht, if_pos (by rfl), hall _ (by rw [hd, ht]; simp [Gs.open', Gs.add]) (by simp only [Gs.open', Gs.add, List.nil_append, hlen])]
        · have hne : gtx (L.drop t) ≠ [] := by
            match hd : L.drop t, ht with
            | n :: r, _ =>
              obtain ⟨c, x, hc, _⟩ := gtx_head n r (g3 n (List.mem_of_mem_drop (by rw [hd]; simp))) []
              rw [List.append_nil] at hc
              rw [hc]
              simp
          rw [if_neg hne, tailOk _ a' _ ht (by rw [hlen]; omega) (by rw [hd]; simp [Gs.open', Gs.add]) (by simp only [Gs.open', Gs.add, List.nil_append, hlen])]

end Go.Proofs.YthkoionigdnhgabGreatDoor
