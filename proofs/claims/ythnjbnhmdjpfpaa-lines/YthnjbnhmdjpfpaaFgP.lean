/-
  A framer that is played: items, bodies side by side as one, and a turn behind each end or line; all of it hangs on the bytes alone, however they are cut.
-/
import Derived.Test.YthnjbnhmdjpfpaaFmP
import Derived.Test.YthnjbnhmdjpfpaaHrP
namespace Go.Proofs.Ythnjbnhmdjpfpaa

/-- An item behind others; bodies side by side are one. -/
def pu (o : List Fi) (x : Fi) : List Fi :=
  match x with
  | .no => o
  | .body l => match o.getLast? with
    | some (.body k) => o.dropLast ++ [.body (k ++ l)]
    | _ => o ++ [x]
  | _ => o ++ [x]
/-- A turn: what is called behind an item. -/
structure Tu where
  k : Int
  n : Nat
  r : Nat
def Tu.go (u : Tu) (s : Fs) : Fs := if u.k = 1 then .dt Ds.new else if u.k = 2 then .ch u.n u.r else s
def Tu.nil (u : Tu) : Prop := u.k = 2 ∧ u.n = 0
instance (u : Tu) : Decidable u.nil := by unfold Tu.nil; exact inferInstance
/-- Where a play stands: the framer, the items, how many turns were asked. -/
structure Pg where
  s : Fs
  o : List Fi
  j : Nat
/-- Is it an item that a turn follows? -/
def Fi.stop : Fi → Bool
  | .no => false
  | .body _ => false
  | _ => true
/-- The play behind an item that left the framer at s. -/
def Pg.on (T : List Tu) (p : Pg) (x : Fi) (s : Fs) : Pg :=
  if x.stop then (match T[p.j % T.length]? with
    | some u => ⟨u.go s, pu p.o x, p.j + 1⟩
    | none => ⟨s, pu p.o x, p.j⟩)
  else ⟨s, pu p.o x, p.j⟩
/-- Does an end wait? -/
def Fs.rdy : Fs → Bool
  | .ln _ => false
  | .dt d => decide (6 ≤ d.p)
  | .ch n _ => n == 0
/-- The end that waits. -/
def Fs.fin (a : Nat) : Fs → Fi
  | .dt d => .fin (d.why a) d.high
  | _ => .fin 0 false
def Pg.fire (a : Nat) (T : List Tu) (p : Pg) : Pg := if p.s.rdy then p.on T (p.s.fin a) (.ln []) else p
def Pg.stl (a : Nat) (T : List Tu) : Nat → Pg → Pg
  | 0, p => p
  | k + 1, p => Pg.stl a T k (p.fire a T)
/-- A state that may be: a body is not behind its end. -/
def Fs.ok : Fs → Prop
  | .dt d => 1 ≤ d.p ∧ d.p ≤ 6
  | _ => True
/-- One byte, where no end waits. -/
def Pg.one (m t a : Nat) (T : List Tu) (p : Pg) (c : UInt8) : Pg := p.on T (ftk m t a p.s [c]).2.1 (ftk m t a p.s [c]).2.2
def Pg.all (m t a : Nat) (T : List Tu) (K : Nat) : Pg → List UInt8 → Pg
  | p, [] => p.stl a T K
  | p, c :: r => Pg.all m t a T K ((p.stl a T K).one m t a T c) r
theorem Pg.stl_done {a : Nat} {T : List Tu} : ∀ (K : Nat) (p : Pg), p.s.rdy = false → p.stl a T K = p
  | 0, _, _ => rfl
  | K + 1, p, h => by
    have e : p.fire a T = p := by simp [fire, h]
    show Pg.stl a T K (p.fire a T) = p
    rw [e]
    exact stl_done K p h
theorem Pg.stl_snoc {a : Nat} {T : List Tu} : ∀ (K : Nat) (p : Pg), (p.stl a T K).fire a T = p.stl a T (K + 1)
  | 0, _ => rfl
  | K + 1, p => stl_snoc K (p.fire a T)
/-- All ends that wait have come. -/
def Calm (a : Nat) (T : List Tu) (K : Nat) : Prop := ∀ p : Pg, (p.stl a T K).s.rdy = false
theorem Pg.stl_fire {a : Nat} {T : List Tu} {K : Nat} (h : Calm a T K) (p : Pg) : (p.fire a T).stl a T K = p.stl a T K := by
  show p.stl a T (K + 1) = _
  rw [← stl_snoc]
  simp [fire, h p]
theorem Pg.all_fire {m t a : Nat} {T : List Tu} {K : Nat} (h : Calm a T K) (p : Pg) : ∀ l, (p.fire a T).all m t a T K l = p.all m t a T K l
  | [] => stl_fire h p
  | c :: r => by
    show Pg.all m t a T K (((p.fire a T).stl a T K).one m t a T c) r = _
    rw [stl_fire h p]
    rfl
theorem Pg.all_nil {m t a : Nat} {T : List Tu} {K : Nat} {p : Pg} (h : p.s.rdy = false) : p.all m t a T K [] = p := stl_done K p h
theorem Pg.all_cons {m t a : Nat} {T : List Tu} {K : Nat} {p : Pg} (h : p.s.rdy = false) (c : UInt8) (r : List UInt8) : p.all m t a T K (c :: r) = (p.one m t a T c).all m t a T K r := by
  show Pg.all m t a T K ((p.stl a T K).one m t a T c) r = _
  rw [stl_done K p h]
theorem pu_body (o : List Fi) (k l : List UInt8) : pu (pu o (.body k)) (.body l) = pu o (.body (k ++ l)) := by
  cases h : o.getLast? with
  | none => simp [pu, h]
  | some x => cases x <;> simp [pu, h]
theorem Pg.on_body (T : List Tu) (p : Pg) (l : List UInt8) (s : Fs) : p.on T (.body l) s = ⟨s, pu p.o (.body l), p.j⟩ := rfl
theorem Pg.on_no (T : List Tu) (p : Pg) (s : Fs) : p.on T .no s = ⟨s, p.o, p.j⟩ := rfl
theorem Pg.on_eq (T : List Tu) {p q : Pg} (x : Fi) (s : Fs) (ho : p.o = q.o) (hj : p.j = q.j) : p.on T x s = q.on T x s := by
  unfold on
  rw [ho, hj]
/-- What a Take tells, and what comes of all the bytes. -/
def Said (m t a : Nat) (T : List Tu) (K : Nat) (p : Pg) (l : List UInt8) (R : Nat × Fi × Fs) : Prop :=
  (R.2.1 = .no → R.1 = l.length ∧ p.all m t a T K l = ⟨R.2.2, p.o, p.j⟩ ∧ R.2.2.rdy = false) ∧
  (R.2.1 ≠ .no → p.all m t a T K l = (p.on T R.2.1 R.2.2).all m t a T K (l.drop R.1))
theorem ftk_rdy {m t a : Nat} {s : Fs} (h : s.rdy = true) (ho : s.ok) (l : List UInt8) : ftk m t a s l = (0, s.fin a, .ln []) := by
  cases s with
  | ln s => cases h
  | dt d =>
    have h6 : d.p = 6 := by
      have h1 : 6 ≤ d.p := by simpa [Fs.rdy] using h
      have h2 : d.p ≤ 6 := ho.2
      omega
    have hr := Ds.run_over (t := t) (a := a) (s := d) (by omega) l
    simp [ftk, hr, imOf, h6, Fi.ofIm, Fs.ofIm, Fs.fin]
  | ch n r =>
    have : n = 0 := by simpa [Fs.rdy] using h
    subst this
    simp [ftk, chI, chS, Fs.fin]
theorem said_rdy {m t a : Nat} {T : List Tu} {K : Nat} (hK : Calm a T K) (p : Pg) (l : List UInt8) (h : p.s.rdy = true) (ho : p.s.ok) : Said m t a T K p l (ftk m t a p.s l) := by
  rw [ftk_rdy h ho l]
  have hn : p.s.fin a ≠ .no := by cases p.s <;> simp [Fs.fin]
  refine ⟨fun e => absurd e hn, fun _ => ?_⟩
  rw [← Pg.all_fire hK p l]
  simp [Pg.fire, h]
theorem said_ln {m t a : Nat} {T : List Tu} {K : Nat} : ∀ (l s : List UInt8) (o : List Fi) (j : Nat), Said m t a T K ⟨.ln s, o, j⟩ l (ftk m t a (.ln s) l)
  | [], s, o, j => ⟨fun _ => ⟨rfl, Pg.all_nil rfl, rfl⟩, fun h => absurd rfl h⟩
  | c :: r, s, o, j => by
    have hc := tk_cons m s c r
    have h1 := tk_cons m s c []
    by_cases h : (hfB s && c == 10) = true
    · rw [if_pos h] at hc h1
      have e : ftk m t a (.ln s) (c :: r) = (1, .ofIt (lineOf m (bdy s)), .ln []) := by simp only [ftk, hc]
      have e1 : ftk m t a (.ln s) [c] = (1, .ofIt (lineOf m (bdy s)), .ln []) := by simp only [ftk, h1]
      rw [e]
      have hn : Fi.ofIt (lineOf m (bdy s)) ≠ .no := by
        unfold lineOf
        split <;> simp [Fi.ofIt]
      refine ⟨fun h => absurd h hn, fun _ => ?_⟩
      rw [Pg.all_cons rfl]
      unfold Pg.one
      rw [e1]
      rfl
    · rw [if_neg h] at hc h1
      have e : ftk m t a (.ln s) (c :: r) = ((ftk m t a (.ln (s ++ [c])) r).1 + 1, (ftk m t a (.ln (s ++ [c])) r).2) := by simp only [ftk, hc]
      have e1 : ftk m t a (.ln s) [c] = (1, .no, .ln (s ++ [c])) := by simp only [ftk, h1]; rfl
      have ih := said_ln r (s ++ [c]) o j (m := m) (t := t) (a := a) (T := T) (K := K)
      have ea : Pg.all m t a T K ⟨.ln s, o, j⟩ (c :: r) = Pg.all m t a T K ⟨.ln (s ++ [c]), o, j⟩ r := by
        rw [Pg.all_cons rfl]
        unfold Pg.one
        rw [e1]
        rfl
      unfold Said
      rw [e, ea]
      obtain ⟨i1, i2⟩ := ih
      refine ⟨fun h => ?_, fun h => ?_⟩
      · obtain ⟨a1, a2, a3⟩ := i1 h
        exact ⟨by simp [a1], a2, a3⟩
      · rw [i2 h]
        simp only [List.drop_succ_cons]
        rfl
theorem imOf_nil (a : Nat) (d : Ds) (h : ¬ d.p = 6) : imOf a [] d = .no := by simp [imOf, h]
theorem said_dt {m t a : Nat} {T : List Tu} {K : Nat} (hK : Calm a T K) : ∀ (l : List UInt8) (d : Ds) (o : List Fi) (j : Nat), d.p < 6 → Said m t a T K ⟨.dt d, o, j⟩ l (ftk m t a (.dt d) l)
  | [], d, o, j, hd => by
    have hr : d.run t a [] = (0, [], d) := rfl
    have h6 : ¬ d.p = 6 := by omega
    have hrd : (Fs.dt d).rdy = false := by simp [Fs.rdy]; omega
    have e : ftk m t a (.dt d) [] = (0, .no, .dt d) := by simp [ftk, hr, imOf, stOf, h6, Fi.ofIm, Fs.ofIm]
    rw [e]
    exact ⟨fun _ => ⟨rfl, Pg.all_nil hrd, hrd⟩, fun h => absurd rfl h⟩
  | c :: r, d, o, j, hd => by
    have hrd : (Fs.dt d).rdy = false := by simp [Fs.rdy]; omega
    have hc := Ds.run_cons (t := t) (a := a) hd c r
    have h1 : d.run t a [c] = (1, d.out a c, d.stp t c) := by rw [Ds.run_cons hd]; simp [Ds.run_nil]
    obtain ⟨u, hu⟩ : ∃ u, d.out a c = u := ⟨_, rfl⟩
    obtain ⟨d1, hd1⟩ : ∃ d1, d.stp t c = d1 := ⟨_, rfl⟩
    rw [hu, hd1] at hc h1
    have hp := Ds.stp_pp t d c
    rw [hd1] at hp
    have e1 : ftk m t a (.dt d) [c] = (1, .ofIm (imOf a u d1), .ofIm (stOf u d1) (imOf a u d1)) := by simp only [ftk, h1]
    have ea : Pg.all m t a T K ⟨.dt d, o, j⟩ (c :: r) = Pg.all m t a T K (Pg.on T ⟨.dt d, o, j⟩ (.ofIm (imOf a u d1)) (.ofIm (stOf u d1) (imOf a u d1))) r := by
      rw [Pg.all_cons hrd]
      unfold Pg.one
      rw [e1]
    by_cases h6 : d1.p = 6
    · have hr := Ds.run_over (t := t) (a := a) (s := d1) (by omega) r
      rw [hr] at hc
      have e : ftk m t a (.dt d) (c :: r) = (1, .ofIm (imOf a u d1), .ofIm (stOf u d1) (imOf a u d1)) := by simp only [ftk, hc, List.append_nil]
      rw [e]
      have hn : Fi.ofIm (imOf a u d1) ≠ .no := by
        unfold imOf
        split
        · simp [Fi.ofIm]
        · simp [Fi.ofIm]
      exact ⟨fun h => absurd h hn, fun _ => ea⟩
    · have hlt : d1.p < 6 := by omega
      have ih := said_dt hK r d1 (pu o (Fi.ofIm (imOf a u d1))) j hlt (m := m) (t := t)
      have hs : Fs.ofIm (stOf u d1) (imOf a u d1) = .dt d1 := by
        unfold imOf stOf
        split <;> simp [Fs.ofIm]
      have ho : Pg.on T ⟨.dt d, o, j⟩ (.ofIm (imOf a u d1)) (.dt d1) = ⟨.dt d1, pu o (Fi.ofIm (imOf a u d1)), j⟩ := by
        unfold imOf
        split
        · simp [Fi.ofIm, Pg.on_no, pu]
        · exact Pg.on_body _ _ _ _
      rw [hs, ho] at ea
      obtain ⟨N, hN⟩ : ∃ N, d1.run t a r = N := ⟨_, rfl⟩
      have eb : ftk m t a (.dt d1) r = (N.1, .ofIm (imOf a N.2.1 N.2.2), .ofIm (stOf N.2.1 N.2.2) (imOf a N.2.1 N.2.2)) := by simp only [ftk, hN]
      have e : ftk m t a (.dt d) (c :: r) = (N.1 + 1, .ofIm (imOf a (u ++ N.2.1) N.2.2), .ofIm (stOf (u ++ N.2.1) N.2.2) (imOf a (u ++ N.2.1) N.2.2)) := by simp only [ftk, hc, hN]
      rw [eb] at ih
      unfold Said
      rw [e, ea]
      obtain ⟨i1, i2⟩ := ih
      dsimp only at i1 i2 ⊢
      by_cases hu0 : u = []
      · subst hu0
        rw [List.nil_append]
        rw [imOf_nil a d1 h6] at i1 i2 ⊢
        have hp0 : pu o (Fi.ofIm .no) = o := rfl
        rw [hp0] at i1 i2 ⊢
        refine ⟨fun h => ?_, fun h => ?_⟩
        · obtain ⟨a1, a2, a3⟩ := i1 h
          exact ⟨by simp [a1], a2, a3⟩
        · rw [i2 h]
          simp only [List.drop_succ_cons]
          rfl
      · have hb : imOf a u d1 = .body u := by simp [imOf, hu0]
        have hne : ¬ u ++ N.2.1 = [] := by simp [hu0]
        have hb2 : imOf a (u ++ N.2.1) N.2.2 = .body (u ++ N.2.1) := by simp [imOf, hu0]
        have hs2 : stOf (u ++ N.2.1) N.2.2 = N.2.2 := by simp [stOf, hu0]
        rw [hb] at i1 i2 ⊢
        rw [hb2, hs2]
        refine ⟨(fun h => by cases h), fun _ => ?_⟩
        simp only [List.drop_succ_cons]
        show _ = Pg.all m t a T K (Pg.on T ⟨.dt d, o, j⟩ (.body (u ++ N.2.1)) (.dt N.2.2)) (r.drop N.1)
        rw [Pg.on_body]
        by_cases hv : N.2.1 = []
        · rw [hv, List.append_nil]
          rw [hv] at i1 i2
          by_cases hq : N.2.2.p = 6
          · have hi : imOf a [] N.2.2 = .fin (N.2.2.why a) N.2.2.high := by simp [imOf, hq]
            rw [hi] at i2
            rw [i2 (by simp [Fi.ofIm])]
            have hf := Pg.all_fire (m := m) (t := t) hK ⟨.dt N.2.2, pu o (.body u), j⟩ (r.drop N.1)
            rw [← hf]
            have hfr : Pg.fire a T ⟨.dt N.2.2, pu o (.body u), j⟩ = Pg.on T ⟨.dt N.2.2, pu o (.body u), j⟩ (.fin (N.2.2.why a) N.2.2.high) (.ln []) := by
              unfold Pg.fire
              rw [if_pos (by simp [Fs.rdy, hq])]
              rfl
            rw [hfr]
            rfl
          · have hi : imOf a [] N.2.2 = .no := imOf_nil _ _ hq
            rw [hi] at i1
            obtain ⟨a1, a2, a3⟩ := i1 rfl
            have hso : Fs.ofIm (stOf [] N.2.2) .no = .dt N.2.2 := by simp [stOf, hq, Fs.ofIm]
            rw [hso] at a2 a3
            show Pg.all m t a T K ⟨.dt d1, pu o (.body u), j⟩ r = _
            rw [a1, List.drop_length, Pg.all_nil a3]
            exact a2
        · have hi : imOf a N.2.1 N.2.2 = .body N.2.1 := by simp [imOf, hv]
          have hst : stOf N.2.1 N.2.2 = N.2.2 := by simp [stOf, hv]
          rw [hi, hst] at i2
          refine (i2 (by simp [Fi.ofIm])).trans ?_
          show Pg.all m t a T K (Pg.on T ⟨.dt d1, pu o (.body u), j⟩ (.body N.2.1) (.dt N.2.2)) _ = _
          rw [Pg.on_body, pu_body]
theorem said_ch {m t a : Nat} {T : List Tu} {K : Nat} (hK : Calm a T K) : ∀ (l : List UInt8) (n r : Nat) (o : List Fi) (j : Nat), 0 < n → Said m t a T K ⟨.ch n r, o, j⟩ l (ftk m t a (.ch n r) l)
  | [], n, r, o, j, hn => by
    have hrd : (Fs.ch n r).rdy = false := by simp [Fs.rdy]; omega
    have h0 : ¬ n = 0 := by omega
    have e : ftk m t a (.ch n r) [] = (0, .no, .ch n r) := by simp [ftk, chI, chS, h0]
    rw [e]
    exact ⟨fun _ => ⟨rfl, Pg.all_nil hrd, hrd⟩, fun h => absurd rfl h⟩
  | c :: l, 0, r, o, j, hn => by cases hn
  | c :: l, n + 1, 0, o, j, _ => by
    have hrd : (Fs.ch (n + 1) 0).rdy = false := rfl
    have e : ftk m t a (.ch (n + 1) 0) (c :: l) = ((ftk m t a (.ch n 0) l).1 + 1, (ftk m t a (.ch n 0) l).2) := by
      simp only [ftk, chI, chS, List.length_cons, Nat.add_min_add_right, Nat.min_zero, Nat.lt_irrefl, if_false, Nat.add_sub_add_right]
    have e1 : ftk m t a (.ch (n + 1) 0) [c] = if n = 0 then (1, .fin 0 false, .ln []) else (1, .no, .ch n 0) := by
      split <;> simp [ftk, chI, chS, *]
    cases n with
    | zero =>
      rw [e]
      have e2 : ftk m t a (.ch 0 0) l = (0, .fin 0 false, .ln []) := by simp [ftk, chI, chS]
      rw [e2]
      refine ⟨(fun h => by cases h), fun _ => ?_⟩
      rw [Pg.all_cons hrd]
      unfold Pg.one
      rw [e1]
      rfl
    | succ n =>
      have ih := said_ch hK l (n + 1) 0 o j (by omega) (m := m) (t := t)
      have ea : Pg.all m t a T K ⟨.ch (n + 1 + 1) 0, o, j⟩ (c :: l) = Pg.all m t a T K ⟨.ch (n + 1) 0, o, j⟩ l := by
        rw [Pg.all_cons hrd]
        unfold Pg.one
        rw [e1]
        rfl
      unfold Said
      rw [e, ea]
      obtain ⟨i1, i2⟩ := ih
      refine ⟨fun h => ?_, fun h => ?_⟩
      · obtain ⟨a1, a2, a3⟩ := i1 h
        exact ⟨by simp [a1], a2, a3⟩
      · rw [i2 h]
        simp only [List.drop_succ_cons]
        rfl
  | c :: l, n + 1, r + 1, o, j, _ => by
    have hrd : (Fs.ch (n + 1) (r + 1)).rdy = false := rfl
    obtain ⟨k, hk⟩ : ∃ k, min l.length n = k := ⟨_, rfl⟩
    obtain ⟨q, hq⟩ : ∃ q, min k r = q := ⟨_, rfl⟩
    have e : ftk m t a (.ch (n + 1) (r + 1)) (c :: l) = (k + 1, .body (c :: l.take q), .ch (n - k) (r - q)) := by
      simp [ftk, chI, chS, Nat.succ_min_succ, hk, hq]
    have e1 : ftk m t a (.ch (n + 1) (r + 1)) [c] = (1, .body [c], .ch n r) := by
      simp [ftk, chI, chS]
    have ea : Pg.all m t a T K ⟨.ch (n + 1) (r + 1), o, j⟩ (c :: l) = Pg.all m t a T K ⟨.ch n r, pu o (.body [c]), j⟩ l := by
      rw [Pg.all_cons hrd]
      unfold Pg.one
      rw [e1]
      rfl
    unfold Said
    rw [e, ea]
    refine ⟨(fun h => by cases h), fun _ => ?_⟩
    simp only [List.drop_succ_cons]
    rw [Pg.on_body]
    by_cases hn : n = 0
    · subst hn
      obtain rfl : k = 0 := by omega
      obtain rfl : q = 0 := by omega
      simp
    · have ih := said_ch hK l n r (pu o (.body [c])) j (by omega) (m := m) (t := t)
      have eb : ftk m t a (.ch n r) l = (k, if 0 < q then .body (l.take q) else if n - k = 0 then .fin 0 false else .no, if 0 < q then .ch (n - k) (r - q) else if n - k = 0 then .ln [] else .ch (n - k) (r - q)) := by
        simp only [ftk, chI, chS, hk, hq]
      rw [eb] at ih
      obtain ⟨i1, i2⟩ := ih
      by_cases h0 : 0 < q
      · simp only [if_pos h0] at i1 i2
        rw [i2 (by simp), Pg.on_body, pu_body]
        rfl
      · obtain rfl : q = 0 := by omega
        simp only [if_neg (Nat.lt_irrefl 0)] at i1 i2
        rw [List.take_zero]
        by_cases hz : n - k = 0
        · rw [if_pos hz, if_pos hz] at i2
          rw [i2 (by simp), hz]
          have hf := Pg.all_fire (m := m) (t := t) hK ⟨.ch 0 (r - 0), pu o (.body [c]), j⟩ (l.drop k)
          rw [← hf]
          rfl
        · rw [if_neg hz, if_neg hz] at i1
          obtain ⟨a1, a2, a3⟩ := i1 rfl
          rw [a2]
          have a1' : k = l.length := a1
          rw [a1', List.drop_length]
          rw [a1'] at a3
          exact (Pg.all_nil a3).symm
/-- A Take, and all that comes of the bytes. -/
theorem said_any {m t a : Nat} {T : List Tu} {K : Nat} (hK : Calm a T K) (p : Pg) (l : List UInt8) (ho : p.s.ok) : Said m t a T K p l (ftk m t a p.s l) := by
  by_cases h : p.s.rdy = true
  · exact said_rdy hK p l h ho
  · obtain ⟨s, o, j⟩ := p
    cases s with
    | ln s => exact said_ln l s o j
    | dt d =>
      have : d.p < 6 := by
        have h1 : ¬ 6 ≤ d.p := by simpa [Fs.rdy] using h
        omega
      exact said_dt hK l d o j this
    | ch n r =>
      have : 0 < n := by
        have h1 : ¬ n = 0 := by simpa [Fs.rdy] using h
        omega
      exact said_ch hK l n r o j this
/-- The bytes one after the other, in pieces. -/
theorem Pg.all_append {m t a : Nat} {T : List Tu} {K : Nat} (hK : Calm a T K) : ∀ (x y : List UInt8) (p : Pg), p.all m t a T K (x ++ y) = (p.all m t a T K x).all m t a T K y
  | [], [], p => (stl_done K _ (hK p)).symm
  | [], c :: r, p => by
    show Pg.all m t a T K ((p.stl a T K).one m t a T c) r = Pg.all m t a T K (((p.stl a T K).stl a T K).one m t a T c) r
    rw [stl_done K _ (hK p)]
  | c :: x, y, p => all_append hK x y _
theorem Pg.stl_nil {a : Nat} {T : List Tu} : ∀ (K : Nat) (p : Pg), (p.stl a T K).s.rdy = true → p.s.rdy = true
  | 0, _, h => h
  | K + 1, p, h => by
    by_cases hp : p.s.rdy = true
    · exact hp
    · have hp' : p.s.rdy = false := by simpa using hp
      rw [stl_done (K + 1) p hp'] at h
      exact h
theorem Pg.stl_all {a : Nat} {T : List Tu} : ∀ (K : Nat) (p : Pg), (p.stl a T K).s.rdy = true → ∀ i, i < K → ∃ u, T[(p.j + i) % T.length]? = some u ∧ u.nil
  | 0, _, _ => fun i hi => by omega
  | K + 1, p, h => by
    have h' : ((p.fire a T).stl a T K).s.rdy = true := h
    have hp := stl_nil (K + 1) p h
    have hf := stl_nil K _ h'
    have hst : (p.s.fin a).stop = true := by cases p.s <;> rfl
    have hfe : p.fire a T = (match T[p.j % T.length]? with | some u => ⟨u.go (.ln []), pu p.o (p.s.fin a), p.j + 1⟩ | none => ⟨.ln [], pu p.o (p.s.fin a), p.j⟩) := by
      unfold fire on
      rw [if_pos hp, if_pos hst]
    cases hT : T[p.j % T.length]? with
    | none =>
      rw [hT] at hfe
      rw [hfe] at hf
      cases hf
    | some u =>
      rw [hT] at hfe
      have ih := stl_all K _ h'
      rw [hfe] at ih hf
      intro i hi
      cases i with
      | zero =>
        refine ⟨u, by simpa using hT, ?_⟩
        have hg : (u.go (.ln [])).rdy = true := hf
        unfold Tu.go at hg
        unfold Tu.nil
        split at hg
        · cases hg
        · split at hg
          · rename_i h2
            exact ⟨h2, by simpa [Fs.rdy] using hg⟩
          · cases hg
      | succ i =>
        obtain ⟨v, hv, hn⟩ := ih i (by omega)
        refine ⟨v, ?_, hn⟩
        have he : p.j + (i + 1) = p.j + 1 + i := by omega
        rw [he]
        exact hv
theorem calm_of (a : Nat) {T : List Tu} (h : T = [] ∨ ∃ j : Nat, ∃ u, T[j]? = some u ∧ ¬ u.nil) : Calm a T (T.length + 1) := by
  intro p
  cases hr : (p.stl a T (T.length + 1)).s.rdy with
  | false => rfl
  | true =>
    have H := Pg.stl_all _ p hr
    rcases h with rfl | ⟨j, u, hj, hu⟩
    · obtain ⟨u, h1, _⟩ := H 0 (by simp)
      simp at h1
    · have hl : j < T.length := by
        rcases Nat.lt_or_ge j T.length with h | h
        · exact h
        · rw [List.getElem?_eq_none h] at hj; cases hj
      have hm : p.j % T.length < T.length := Nat.mod_lt _ (by omega)
      have hx : ∃ i, i < T.length + 1 ∧ (p.j + i) % T.length = j := by
        rcases Nat.lt_or_ge j (p.j % T.length) with hlt | hge
        · refine ⟨T.length + j - p.j % T.length, by omega, ?_⟩
          have hd := Nat.div_add_mod p.j T.length
          have : p.j + (T.length + j - p.j % T.length) = j + T.length * (p.j / T.length + 1) := by
            rw [Nat.mul_add, Nat.mul_one]
            omega
          rw [this, Nat.add_mul_mod_self_left, Nat.mod_eq_of_lt hl]
        · refine ⟨j - p.j % T.length, by omega, ?_⟩
          have hd := Nat.div_add_mod p.j T.length
          have : p.j + (j - p.j % T.length) = j + T.length * (p.j / T.length) := by omega
          rw [this, Nat.add_mul_mod_self_left, Nat.mod_eq_of_lt hl]
      obtain ⟨i, hi, he⟩ := hx
      obtain ⟨v, hv, hn⟩ := H i hi
      rw [he, hj] at hv
      cases hv
      exact absurd hn hu
end Go.Proofs.Ythnjbnhmdjpfpaa
