/-
  The plain mathematics of replies: where a reader stands, what bytes come to; no Go in sight.
-/
import Derived.Test.YtbfgefgadplcjaaDoorPureNum
import Derived.Lib.IndexMore
import Derived.Lib.Split
import Derived.Lib.Strings
import Derived.Lib.ItoaNum
namespace Go.Proofs.YtbfgefgadplcjaaDoor

/-- A place: whole rows, the code, bytes of the row, whether another follows, whether its CR is there. -/
structure Plc where
  r : Nat
  x : UInt8
  y : UInt8
  z : UInt8
  n : Nat
  m : Bool
  e : Bool
def Plc.nil : Plc := ⟨0, 0, 0, 0, 0, false, false⟩
def txB (c : UInt8) : Bool := isB 12 (c.toNat : Int) || isB 14 (c.toNat : Int)
/-- A code's digit. -/
def loB (k : Nat) : UInt8 := if k = 0 then 50 else 48
def hiB (k : Nat) : UInt8 := if k = 2 then 57 else 53
def digB (k : Nat) (c : UInt8) : Bool := decide (loB k ≤ c) && decide (c ≤ hiB k)
def Plc.cd (p : Plc) (k : Nat) : UInt8 := if k = 0 then p.x else if k = 1 then p.y else p.z
def Plc.put (p : Plc) (k : Nat) (c : UInt8) : Plc := if k = 0 then { p with x := c } else if k = 1 then { p with y := c } else { p with z := c }
def fitB (p : Plc) (c : UInt8) : Bool :=
  if p.n < 3 then (if 0 < p.r then c == p.cd p.n else digB p.n c)
  else if p.n = 3 then c == 32 || (c == 45 && decide (p.r + 1 < 64))
  else decide (p.n < 510) && txB c
def endP (p : Plc) (c : UInt8) : Plc × Nat :=
  if c ≠ 10 then (p, 2) else if p.m then (⟨p.r + 1, p.x, p.y, p.z, 0, false, false⟩, 0) else (Plc.nil, 1)
def midP (p : Plc) (c : UInt8) : Plc := if p.n < 3 then { p.put p.n c with n := p.n + 1 } else if p.n = 3 then { p with m := c == 45, n := p.n + 1 } else { p with n := p.n + 1 }
/-- One byte more, and what it shows: 0 it goes on, 1 the reply is whole, 2 it is wrong. -/
def stepP (p : Plc) (c : UInt8) : Plc × Nat :=
  if p.e then endP p c else if c = 13 ∧ 3 ≤ p.n then ({ p with e := true }, 0) else if fitB p c then (midP p c, 0) else (p, 2)
theorem put_n (p : Plc) (k : Nat) (c : UInt8) : (p.put k c).n = p.n ∧ (p.put k c).r = p.r ∧ (p.put k c).m = p.m ∧ (p.put k c).e = p.e := by unfold Plc.put; split <;> (try split) <;> exact ⟨rfl, rfl, rfl, rfl⟩
theorem mid_n (p : Plc) (c : UInt8) : (midP p c).n = p.n + 1 ∧ (midP p c).r = p.r ∧ (midP p c).e = p.e := by
  unfold midP
  split
  · exact ⟨rfl, (put_n p _ c).2.1, (put_n p _ c).2.2.2⟩
  · split <;> exact ⟨rfl, rfl, rfl⟩

/-- What may stand in a place. -/
structure Plc.Ok (p : Plc) : Prop where
  r : p.r ≤ 63
  n : p.n ≤ 510
  e : p.e = true → 3 ≤ p.n
  m : p.m = true → p.r < 63
theorem Plc.nil_ok : Plc.nil.Ok := ⟨by decide, by decide, by decide, by decide⟩
theorem step_ok (p : Plc) (c : UInt8) (h : p.Ok) : (stepP p c).1.Ok := by
  have h1 := h.r; have h2 := h.n; have h3 := h.e; have h4 := h.m
  unfold stepP
  split
  · unfold endP
    split
    · exact h
    · split
      · next h5 => exact ⟨h4 h5, Nat.zero_le _, by simp, by simp⟩
      · exact Plc.nil_ok
  · next he =>
    split
    · next h5 => exact ⟨h1, h2, fun _ => h5.2, h4⟩
    · split
      · next hf =>
        obtain ⟨k1, k2, k3⟩ := mid_n p c
        unfold fitB at hf
        refine ⟨by rw [k2]; exact h1, ?_, fun hx => by rw [k3] at hx; exact absurd hx he, ?_⟩
        · rw [k1]
          split at hf
          · omega
          · split at hf
            · omega
            · simp at hf; omega
        · rw [k2]
          unfold midP
          split
          · intro hm; rw [show ({ p.put p.n c with n := p.n + 1 } : Plc).m = p.m from (put_n p _ c).2.2.1] at hm; exact h4 hm
          · next h6 =>
            rw [if_neg h6] at hf
            split
            · next h7 =>
              rw [if_pos h7] at hf
              intro hm
              have hm' : (c == 45) = true := hm
              have h45 : c = 45 := by simpa using hm'
              subst h45
              simp at hf
              omega
            · exact h4
      · exact h

/-- A status; none is all noughts. -/
abbrev Stt := Int × Int × Int
def isSt (s : Stt) : Bool := (s.1 == 2 || s.1 == 4 || s.1 == 5) && (decide (0 ≤ s.2.1) && decide (s.2.1 ≤ 999)) && (decide (0 ≤ s.2.2) && decide (s.2.2 ≤ 999))
def dcI (z : Int) : List UInt8 := Lib.decDigits z.toNat
def wrSt (s : Stt) : List UInt8 := dcI s.1 ++ [46] ++ dcI s.2.1 ++ [46] ++ dcI s.2.2
def prt (l : List UInt8) : Int := numVal l 999
def cutF (l : List UInt8) (c : UInt8) : List UInt8 := (Lib.cut l [c]).1
def cutB (l : List UInt8) (c : UInt8) : List UInt8 := (Lib.cut l [c]).2.1
def rdSt (l : List UInt8) : Stt := (prt (cutF l 46), prt (cutF (cutB l 46) 46), prt (cutB (cutB l 46) 46))
def stOf (l : List UInt8) : Stt := if isSt (rdSt l) && decide (wrSt (rdSt l) = l) then rdSt l else (0, 0, 0)
/-- The common status of texts behind some. -/
def comGo (k : Int) (i : Nat) (c : Stt) : List (List UInt8) → Stt
  | [] => c
  | t :: r => if (stOf (cutF t 32)).1 ≠ k ∨ (0 < i ∧ stOf (cutF t 32) ≠ c) then (0, 0, 0) else comGo k (i + 1) (stOf (cutF t 32)) r
def comSt (code : Int) (l : List (List UInt8)) : Stt := comGo (code / 100) 0 (0, 0, 0) l
/-- A reply. -/
structure Ry where
  code : Int
  st : Stt
  ls : List (List UInt8)
def rowsT (t : List UInt8) : List (List UInt8) := Lib.split (Lib.trimSuffix t [13, 10]) [13, 10]
def textsT (t : List UInt8) : List (List UInt8) := (rowsT t).map (·.drop 4)
def repOf (t : List UInt8) : Ry :=
  if comSt (numVal (t.take 3) 999) (textsT t) ≠ (0, 0, 0) then ⟨numVal (t.take 3) 999, comSt (numVal (t.take 3) 999) (textsT t), (textsT t).map (cutB · 32)⟩
  else ⟨numVal (t.take 3) 999, comSt (numVal (t.take 3) 999) (textsT t), textsT t⟩

/-- What a reader has: its place, the bytes held, the replies that wait, whether it is wrong. -/
structure Sr where
  p : Plc
  h : List UInt8
  o : List Ry
  b : Bool
def Sr.nil : Sr := ⟨Plc.nil, [], [], false⟩
def Sr.on (s : Sr) (c : UInt8) : Sr :=
  if s.b then s else if (stepP s.p c).2 = 2 then ⟨(stepP s.p c).1, [], s.o, true⟩
  else if (stepP s.p c).2 = 1 then ⟨(stepP s.p c).1, [], s.o ++ [repOf (s.h ++ [c])], false⟩ else ⟨(stepP s.p c).1, s.h ++ [c], s.o, false⟩
def Sr.run (s : Sr) (l : List UInt8) : Sr := l.foldl Sr.on s
theorem run_append (s : Sr) (a b : List UInt8) : s.run (a ++ b) = (s.run a).run b := List.foldl_append
theorem run_nil (s : Sr) : s.run [] = s := rfl
theorem run_cons (s : Sr) (c : UInt8) (r : List UInt8) : s.run (c :: r) = (s.on c).run r := rfl
theorem run_snoc (s : Sr) (l : List UInt8) (k : Nat) (hk : k < l.length) : s.run (l.take (k + 1)) = (s.run (l.take k)).on l[k] := by
  rw [List.take_succ_eq_append_getElem hk, run_append]; rfl
theorem run_bad (s : Sr) (h : s.b = true) : ∀ l, s.run l = s
  | [] => rfl
  | c :: r => by rw [run_cons, show s.on c = s by unfold Sr.on; rw [if_pos h]]; exact run_bad s h r
theorem run_stuck (s : Sr) (l : List UInt8) (k : Nat) (h : (s.run (l.take k)).b = true) : s.run l = s.run (l.take k) := by
  conv => lhs; rw [← List.take_append_drop k l]
  rw [run_append, run_bad _ h]

structure Sr.Ok (s : Sr) : Prop where
  p : s.p.Ok
  lo : s.b = false → s.p.n + (if s.p.e then 1 else 0) ≤ s.h.length
  hi : s.h.length ≤ 512 * s.p.r + s.p.n + (if s.p.e then 1 else 0)
  bad : s.b = true → s.h = []
theorem Sr.nil_ok : Sr.nil.Ok := ⟨Plc.nil_ok, by decide, by decide, by decide⟩
theorem Sr.Ok.short {s : Sr} (h : s.Ok) : s.h.length ≤ 32768 := by
  have h1 := h.hi; have h2 := h.p.r; have h3 := h.p.n
  split at h1 <;> omega
theorem step_len (p : Plc) (c : UInt8) (h2 : (stepP p c).2 = 0) :
    (stepP p c).1.n + (if (stepP p c).1.e then 1 else 0) ≤ p.n + (if p.e then 1 else 0) + 1 ∧ 512 * p.r + p.n + (if p.e then 1 else 0) + 1 ≤ 512 * (stepP p c).1.r + (stepP p c).1.n + (if (stepP p c).1.e then 1 else 0) ∨
    ((stepP p c).1.n = 0 ∧ (stepP p c).1.e = false ∧ (stepP p c).1.r = p.r + 1 ∧ p.e = true) := by
  unfold stepP at h2 ⊢
  by_cases he : p.e = true
  · rw [if_pos he] at h2 ⊢
    unfold endP at h2 ⊢
    by_cases hc : c ≠ 10
    · rw [if_pos hc] at h2; exact absurd h2 (by decide : ¬ (2 : Nat) = 0)
    · rw [if_neg hc] at h2 ⊢
      by_cases hm : p.m = true
      · rw [if_pos hm]; exact .inr ⟨rfl, rfl, rfl, he⟩
      · rw [if_neg hm] at h2; exact absurd h2 (by decide : ¬ (1 : Nat) = 0)
  · rw [if_neg he] at h2 ⊢
    have he' : p.e = false := by simpa using he
    by_cases h13 : c = 13 ∧ 3 ≤ p.n
    · rw [if_pos h13]
      refine .inl ⟨?_, ?_⟩ <;> simp [he'] <;> omega
    · rw [if_neg h13] at h2 ⊢
      by_cases hf : fitB p c = true
      · rw [if_pos hf]
        obtain ⟨k1, k2, k3⟩ := mid_n p c
        refine .inl ⟨?_, ?_⟩ <;> rw [k1, k3, he'] <;> (try rw [k2]) <;> simp <;> omega
      · rw [if_neg hf] at h2; exact absurd h2 (by decide : ¬ (2 : Nat) = 0)
theorem step_whole (p : Plc) (c : UInt8) (h2 : (stepP p c).2 = 1) : (stepP p c).1 = Plc.nil ∧ p.e = true := by
  unfold stepP at h2 ⊢
  by_cases he : p.e = true
  · rw [if_pos he] at h2 ⊢
    unfold endP at h2 ⊢
    by_cases hc : c ≠ 10
    · rw [if_pos hc] at h2; exact absurd h2 (by decide : ¬ (2 : Nat) = 1)
    · rw [if_neg hc] at h2 ⊢
      by_cases hm : p.m = true
      · rw [if_pos hm] at h2; exact absurd h2 (by decide : ¬ (0 : Nat) = 1)
      · rw [if_neg hm]; exact ⟨rfl, he⟩
  · rw [if_neg he] at h2
    split at h2
    · exact absurd h2 (by decide : ¬ (0 : Nat) = 1)
    · split at h2
      · exact absurd h2 (by decide : ¬ (0 : Nat) = 1)
      · exact absurd h2 (by decide : ¬ (2 : Nat) = 1)
theorem step_sign (p : Plc) (c : UInt8) : (stepP p c).2 = 0 ∨ (stepP p c).2 = 1 ∨ (stepP p c).2 = 2 := by
  unfold stepP endP
  split
  · split
    · simp
    · split <;> simp
  · split
    · simp
    · split <;> simp
theorem Sr.on_ok (s : Sr) (c : UInt8) (h : s.Ok) : (s.on c).Ok := by
  have h1 := step_ok s.p c h.p
  unfold Sr.on
  by_cases hb : s.b = true
  · rw [if_pos hb]; exact h
  · have hb' : s.b = false := by simpa using hb
    have hlo := h.lo hb'
    have hhi := h.hi
    have hn := h.p.n
    rw [if_neg hb]
    rcases step_sign s.p c with h0 | h0 | h0
    · rw [if_neg (by omega), if_neg (by omega)]
      have hl := step_len s.p c h0
      refine ⟨h1, fun _ => ?_, ?_, (fun e => by cases e)⟩
      · show _ ≤ (s.h ++ [c]).length
        rw [List.length_append, List.length_singleton]
        rcases hl with hl | hl
        · exact Nat.le_trans hl.1 (by omega)
        · show (stepP s.p c).1.n + (if (stepP s.p c).1.e = true then 1 else 0) ≤ _
          rw [hl.1, hl.2.1]; simp
      · show (s.h ++ [c]).length ≤ _
        rw [List.length_append, List.length_singleton]
        rcases hl with hl | hl
        · exact Nat.le_trans (by omega) hl.2
        · show _ ≤ 512 * (stepP s.p c).1.r + (stepP s.p c).1.n + (if (stepP s.p c).1.e = true then 1 else 0)
          rw [hl.1, hl.2.1, hl.2.2.1]
          rw [hl.2.2.2] at hhi
          simp at hhi ⊢
          omega
    · rw [if_neg (by omega), if_pos h0]
      obtain ⟨e1, e2⟩ := step_whole s.p c h0
      refine ⟨h1, fun _ => ?_, Nat.zero_le _, (fun e => by cases e)⟩
      show (stepP s.p c).1.n + (if (stepP s.p c).1.e = true then 1 else 0) ≤ 0
      rw [e1]; decide
    · rw [if_pos h0]
      exact ⟨h1, (fun e => by cases e), Nat.zero_le _, fun _ => rfl⟩
theorem Sr.run_ok (s : Sr) (h : s.Ok) : ∀ l, (s.run l).Ok := by
  intro l
  induction l generalizing s with
  | nil => exact h
  | cons c r ih => rw [run_cons]; exact ih _ (s.on_ok c h)
/-- Each whole reply has five bytes at least. -/
theorem Sr.on_cnt (s : Sr) (c : UInt8) (h : s.Ok) : 5 * (s.on c).o.length + (s.on c).h.length ≤ 5 * s.o.length + s.h.length + 1 := by
  unfold Sr.on
  by_cases hb : s.b = true
  · rw [if_pos hb]; omega
  · rw [if_neg hb]
    rcases step_sign s.p c with h0 | h0 | h0
    · rw [if_neg (by omega), if_neg (by omega)]
      simp; omega
    · rw [if_neg (by omega), if_pos h0]
      obtain ⟨e1, e2⟩ := step_whole s.p c h0
      have := h.lo (by simpa using hb)
      have := h.p.e e2
      simp [e2] at *
      omega
    · rw [if_pos h0]
      simp; omega
theorem Sr.run_cnt : ∀ (l : List UInt8) (s : Sr), s.Ok → 5 * (s.run l).o.length + (s.run l).h.length ≤ 5 * s.o.length + s.h.length + l.length
  | [], s, _ => by rw [run_nil]; simp
  | c :: r, s, h => by
    have h1 := Sr.run_cnt r _ (s.on_ok c h)
    have h2 := s.on_cnt c h
    rw [run_cons, List.length_cons]
    omega
/-- How many become whole. -/
def cntW (p : Plc) : List UInt8 → Nat
  | [] => 0
  | c :: r => if (stepP p c).2 = 2 then 0 else if (stepP p c).2 = 1 then cntW (stepP p c).1 r + 1 else cntW (stepP p c).1 r
theorem run_cntW : ∀ (l : List UInt8) (s : Sr), s.b = false → (s.run l).o.length = s.o.length + cntW s.p l
  | [], s, _ => rfl
  | c :: r, s, hb => by
    rw [run_cons, cntW]
    have hb' : ¬ s.b = true := by rw [hb]; decide
    by_cases h2 : (stepP s.p c).2 = 2
    · rw [if_pos h2, show s.on c = ⟨(stepP s.p c).1, [], s.o, true⟩ by unfold Sr.on; rw [if_neg hb', if_pos h2], run_bad _ rfl]; rfl
    · rw [if_neg h2]
      by_cases h1 : (stepP s.p c).2 = 1
      · rw [if_pos h1, show s.on c = ⟨(stepP s.p c).1, [], s.o ++ [repOf (s.h ++ [c])], false⟩ by unfold Sr.on; rw [if_neg hb', if_neg h2, if_pos h1], run_cntW r _ rfl]
        simp; omega
      · rw [if_neg h1, show s.on c = ⟨(stepP s.p c).1, s.h ++ [c], s.o, false⟩ by unfold Sr.on; rw [if_neg hb', if_neg h2, if_neg h1], run_cntW r _ rfl]
end Go.Proofs.YtbfgefgadplcjaaDoor
