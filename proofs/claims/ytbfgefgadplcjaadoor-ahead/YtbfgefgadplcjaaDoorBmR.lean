/-
  What a reader tells may be; no Go in sight.
-/
import Derived.Test.YtbfgefgadplcjaaDoorBlR
namespace Go.Proofs.YtbfgefgadplcjaaDoor

/-- Where a reader stands within a row, by the bytes that it has of it. -/
inductive Prt (x y z : UInt8) (r : Nat) : Nat → Bool → List UInt8 → Prop
  | cd (n : Nat) (hn : n ≤ 3) (hx : 0 < n ∨ 0 < r → digB 0 x = true) (hy : 1 < n ∨ 0 < r → digB 1 y = true) (hz : 2 < n ∨ 0 < r → digB 2 z = true) : Prt x y z r n false ([x, y, z].take n)
  | tx (m : Bool) (u : List UInt8) (hx : digB 0 x = true) (hy : digB 1 y = true) (hz : digB 2 z = true) (hu : txtB u = true) (hl : u.length ≤ 506) : Prt x y z r (u.length + 4) m ([x, y, z] ++ (if m then 45 else 32) :: u)
structure Iv (s : Sr) : Prop where
  ok : s.p.Ok
  o : ∀ q ∈ s.o, MayR q
  h : s.b = false → ∃ (ts : List (List UInt8)) (q : List UInt8), ts.length = s.p.r ∧ (∀ t ∈ ts, txtB t = true ∧ t.length ≤ 506) ∧ Prt s.p.x s.p.y s.p.z s.p.r s.p.n s.p.m q ∧ s.h = ts.flatMap (rwM [s.p.x, s.p.y, s.p.z]) ++ (q ++ if s.p.e then [13] else [])
theorem iv_nil (o : List Ry) (ho : ∀ q ∈ o, MayR q) : Iv ⟨Plc.nil, [], o, false⟩ :=
  ⟨Plc.nil_ok, ho, fun _ => ⟨[], [], rfl, (fun _ h => by cases h), Prt.cd (x := 0) (y := 0) (z := 0) (r := 0) 0 (by decide) (fun h => absurd h (by decide)) (fun h => absurd h (by decide)) (fun h => absurd h (by decide)), rfl⟩⟩
theorem iv_bad {p : Plc} (hp : p.Ok) (h : List UInt8) (o : List Ry) (ho : ∀ q ∈ o, MayR q) : Iv ⟨p, h, o, true⟩ := ⟨hp, ho, fun e => by cases e⟩
theorem prt_dig {x y z : UInt8} {r n : Nat} {m : Bool} {q : List UInt8} (h : Prt x y z r n m q) (h3 : 3 ≤ n) : digB 0 x = true ∧ digB 1 y = true ∧ digB 2 z = true := by
  cases h with
  | cd n hn hx hy hz => exact ⟨hx (.inl (by omega)), hy (.inl (by omega)), hz (.inl (by omega))⟩
  | tx m u hx hy hz => exact ⟨hx, hy, hz⟩
theorem prt_small {x y z : UInt8} {r n : Nat} {m : Bool} {q : List UInt8} (h : Prt x y z r n m q) (h3 : n ≤ 3) : m = false ∧ q = [x, y, z].take n := by
  cases h with
  | cd n hn hx hy hz => exact ⟨rfl, rfl⟩
  | tx m u hx hy hz => omega
theorem prt_start (x y z : UInt8) (r : Nat) (hx : digB 0 x = true) (hy : digB 1 y = true) (hz : digB 2 z = true) : Prt x y z r 0 false [] := .cd 0 (by decide) (fun _ => hx) (fun _ => hy) (fun _ => hz)
/-- Another row. -/
theorem prt_row {x y z : UInt8} {r n : Nat} {q : List UInt8} (h : Prt x y z r n true q) : ∃ t, txtB t = true ∧ t.length ≤ 506 ∧ q ++ [13, 10] = rwM [x, y, z] t := by
  cases h with
  | tx m u hx hy hz hu hl => exact ⟨u, hu, hl, by simp [rwM]⟩
/-- The last row. -/
theorem prt_end {x y z : UInt8} {r n : Nat} {q : List UInt8} (h : Prt x y z r n false q) (h3 : 3 ≤ n) : ∃ u b, txtB u = true ∧ u.length ≤ 506 ∧ q ++ [13, 10] = rwE [x, y, z] u b := by
  cases h with
  | cd n hn hx hy hz =>
    obtain rfl : n = 3 := by omega
    exact ⟨[], false, rfl, by simp, by simp [rwE]⟩
  | tx m u hx hy hz hu hl => exact ⟨u, true, hu, hl, by simp [rwE]⟩
theorem flat_snoc (cd : List UInt8) (ts : List (List UInt8)) (t : List UInt8) : (ts ++ [t]).flatMap (rwM cd) = ts.flatMap (rwM cd) ++ rwM cd t := by simp [List.flatMap_append]
theorem flat_nil (cd cd' : List UInt8) (ts : List (List UInt8)) (h : ts.length = 0) : ts.flatMap (rwM cd) = ts.flatMap (rwM cd') := by
  rw [List.eq_nil_of_length_eq_zero h]; rfl
theorem iv_on (s : Sr) (c : UInt8) (h : Iv s) : Iv (s.on c) := by
  have hok := step_ok s.p c h.ok
  by_cases hb : s.b = true
  · unfold Sr.on
    rw [if_pos hb]
    exact h
  · have hb' : s.b = false := by simpa using hb
    obtain ⟨ts, q, hr, hts, hp, hh⟩ := h.h hb'
    have ho := h.o
    have hk := h.ok
    obtain ⟨⟨r, x, y, z, n, m, e⟩, hd, o, b⟩ := s
    dsimp only at hb' hr hp hh ho hk
    subst hb'
    clear h hb
    have hh2 : hd = ts.flatMap (rwM [x, y, z]) ++ (q ++ if e = true then [13] else []) := hh
    clear hh
    subst hh2
    by_cases he : e = true
    · subst he
      by_cases hc : c = 10
      · subst hc
        have h3 : 3 ≤ n := hk.e rfl
        obtain ⟨dx, dy, dz⟩ := prt_dig hp h3
        cases m with
        | true =>
          obtain ⟨t, ht, htl, hq⟩ := prt_row hp
          have hs : stepP ⟨r, x, y, z, n, true, true⟩ 10 = (⟨r + 1, x, y, z, 0, false, false⟩, 0) := rfl
          rw [hs] at hok
          rw [on_go rfl hs]
          refine ⟨hok, ho, fun _ => ⟨ts ++ [t], [], by rw [List.length_append, hr]; rfl, fun t' h' => ?_, prt_start x y z _ dx dy dz, ?_⟩⟩
          · rcases List.mem_append.1 h' with h' | h'
            · exact hts t' h'
            · rw [List.mem_singleton] at h'
              subst h'
              exact ⟨ht, htl⟩
          · dsimp only
            rw [flat_snoc, ← hq]
            simp
        | false =>
          obtain ⟨u, b, hu, hul, hq⟩ := prt_end hp h3
          have hs : stepP ⟨r, x, y, z, n, false, true⟩ 10 = (Plc.nil, 1) := rfl
          have hon : Sr.on ⟨⟨r, x, y, z, n, false, true⟩, ts.flatMap (rwM [x, y, z]) ++ (q ++ if true = true then [13] else []), o, false⟩ 10 = ⟨Plc.nil, [], o ++ [repOf (rpL [x, y, z] ts u b)], false⟩ := by
            unfold Sr.on
            rw [if_neg (by simp), hs, if_neg (by simp), if_pos rfl]
            dsimp only
            rw [show ts.flatMap (rwM [x, y, z]) ++ (q ++ if true = true then [13] else []) ++ [10] = rpL [x, y, z] ts u b by rw [rpL, ← hq]; simp]
          rw [hon]
          refine iv_nil _ (fun w hw => ?_)
          rcases List.mem_append.1 hw with hw | hw
          · exact ho w hw
          · rw [List.mem_singleton] at hw
            subst hw
            exact may_rep ⟨x, y, z, rfl, dx, dy, dz⟩ ts u b (by have := hk.r; dsimp only at this; omega) hts hu hul
      · have hs : stepP ⟨r, x, y, z, n, m, true⟩ c = (⟨r, x, y, z, n, m, true⟩, 2) := by
          unfold stepP endP
          rw [if_pos rfl, if_pos hc]
        unfold Sr.on
        rw [if_neg (by simp), hs, if_pos rfl]
        exact iv_bad hk _ _ ho
    · have he' : e = false := by simpa using he
      subst he'
      clear he
      by_cases h13 : c = 13 ∧ 3 ≤ n
      · obtain ⟨rfl, h3⟩ := h13
        have hs : stepP ⟨r, x, y, z, n, m, false⟩ 13 = (⟨r, x, y, z, n, m, true⟩, 0) := by
          unfold stepP
          rw [if_neg (by simp), if_pos ⟨rfl, h3⟩]
        rw [hs] at hok
        rw [on_go rfl hs]
        refine ⟨hok, ho, fun _ => ⟨ts, q, hr, hts, hp, by simp⟩⟩
      · by_cases hf : fitB ⟨r, x, y, z, n, m, false⟩ c = true
        · have hs : stepP ⟨r, x, y, z, n, m, false⟩ c = (midP ⟨r, x, y, z, n, m, false⟩ c, 0) := by
            unfold stepP
            rw [if_neg (by simp), if_neg h13, if_pos hf]
          rw [hs] at hok
          rw [on_go rfl hs]
          refine ⟨hok, ho, fun _ => ?_⟩
          have hm := hk.m
          dsimp only at hm
          unfold fitB at hf
          dsimp only at hf
          unfold midP
          dsimp only
          by_cases hn3 : n < 3
          · rw [if_pos hn3] at hf
            simp only [hn3, if_true]
            obtain ⟨rfl, rfl⟩ := prt_small hp (by omega)
            by_cases hr0 : 0 < r
            · rw [if_pos hr0] at hf
              have hcd : c = (⟨r, x, y, z, n, false, false⟩ : Plc).cd n := by simpa using hf
              have hdx : digB 0 x = true ∧ digB 1 y = true ∧ digB 2 z = true := by
                cases hp with
                | cd _ _ hx hy hz => exact ⟨hx (.inr hr0), hy (.inr hr0), hz (.inr hr0)⟩
              obtain ⟨dx, dy, dz⟩ := hdx
              refine ⟨ts, [x, y, z].take (n + 1), ?_⟩
              match n, hn3, hcd with
              | 0, _, hcd =>
                have hcd : c = x := hcd
                subst hcd
                exact ⟨hr, hts, .cd 1 (by decide) (fun _ => dx) (fun _ => dy) (fun _ => dz), by simp [Plc.put]⟩
              | 1, _, hcd =>
                have hcd : c = y := hcd
                subst hcd
                exact ⟨hr, hts, .cd 2 (by decide) (fun _ => dx) (fun _ => dy) (fun _ => dz), by simp [Plc.put]⟩
              | 2, _, hcd =>
                have hcd : c = z := hcd
                subst hcd
                exact ⟨hr, hts, .cd 3 (by decide) (fun _ => dx) (fun _ => dy) (fun _ => dz), by simp [Plc.put]⟩
            · rw [if_neg hr0] at hf
              obtain rfl : r = 0 := by omega
              obtain rfl : ts = [] := List.eq_nil_of_length_eq_zero hr
              cases hp with
              | cd _ _ hx hy hz =>
                match n, hn3, hf, hx, hy, hz with
                | 0, _, hf, hx, hy, hz =>
                  exact ⟨[], [c], rfl, hts, Prt.cd (x := c) (y := y) (z := z) (r := 0) 1 (by decide) (fun _ => hf) (fun h => absurd h (by decide)) (fun h => absurd h (by decide)), rfl⟩
                | 1, _, hf, hx, hy, hz =>
                  exact ⟨[], [x, c], rfl, hts, Prt.cd (x := x) (y := c) (z := z) (r := 0) 2 (by decide) (fun _ => hx (.inl (by decide))) (fun _ => hf) (fun h => absurd h (by decide)), rfl⟩
                | 2, _, hf, hx, hy, hz =>
                  exact ⟨[], [x, y, c], rfl, hts, Prt.cd (x := x) (y := y) (z := c) (r := 0) 3 (by decide) (fun _ => hx (.inl (by decide))) (fun _ => hy (.inl (by decide))) (fun _ => hf), rfl⟩
          · rw [if_neg hn3] at hf
            simp only [hn3, if_false]
            by_cases hn4 : n = 3
            · subst hn4
              rw [if_pos rfl] at hf
              simp only [if_true]
              obtain ⟨dx, dy, dz⟩ := prt_dig hp (by decide)
              obtain ⟨rfl, rfl⟩ := prt_small hp (by decide)
              refine ⟨ts, [x, y, z] ++ (if (c == 45) then 45 else 32) :: [], hr, hts, .tx (c == 45) [] dx dy dz rfl (by simp), ?_⟩
              have hcc : (if (c == 45) then (45 : UInt8) else 32) = c := by
                by_cases h45 : c = 45
                · simp [h45]
                · have : c = 32 := by
                    simp only [Bool.or_eq_true, Bool.and_eq_true, beq_iff_eq] at hf
                    rcases hf with hf | hf
                    · exact hf
                    · exact absurd hf.1 h45
                  subst this
                  rfl
              rw [hcc]
              simp
            · rw [if_neg hn4] at hf
              simp only [hn4, if_false]
              simp only [Bool.and_eq_true, decide_eq_true_eq] at hf
              cases hp with
              | cd _ hn => omega
              | tx m u dx dy dz hu hl =>
                refine ⟨ts, [x, y, z] ++ (if m then 45 else 32) :: (u ++ [c]), hr, hts, ?_, by simp⟩
                have := Prt.tx (x := x) (y := y) (z := z) (r := r) m (u ++ [c]) dx dy dz (by rw [txt_app, hu]; simp [txtB, hf.2]) (by rw [List.length_append, List.length_singleton]; omega)
                rw [List.length_append, List.length_singleton] at this
                rw [show u.length + 4 + 1 = u.length + 1 + 4 by omega]
                exact this
        · have hs : stepP ⟨r, x, y, z, n, m, false⟩ c = (⟨r, x, y, z, n, m, false⟩, 2) := by
            unfold stepP
            rw [if_neg (by simp), if_neg h13, if_neg hf]
          unfold Sr.on
          rw [if_neg (by simp), hs, if_pos rfl]
          exact iv_bad hk _ _ ho
theorem iv_run : ∀ (l : List UInt8) (s : Sr), Iv s → Iv (s.run l)
  | [], _, h => h
  | c :: t, s, h => by rw [run_cons]; exact iv_run t _ (iv_on s c h)
/-- What is told may be. -/
theorem told_may (l : List UInt8) : ∀ r ∈ (Sr.nil.run l).o, MayR r := (iv_run l Sr.nil (iv_nil [] (fun _ h => by cases h))).o
/-- What was read, written and read again. -/
theorem again_all (l : List UInt8) : Sr.nil.run ((Sr.nil.run l).o.flatMap prL) = ⟨Plc.nil, [], (Sr.nil.run l).o, false⟩ := by
  have := run_all (Sr.nil.run l).o [] (told_may l)
  rw [List.nil_append] at this
  exact this
end Go.Proofs.YtbfgefgadplcjaaDoor
