/-
  Nets within nets (P8.13), and hosts that are one (P8.11), in plain mathematics. What a label becomes on old wires is left open here.
-/
import Derived.Test.YthkoionigdnhgabGreatDoorDmR
import Derived.Test.YthkoionigdnhgabGreatDoorDmP
namespace Go.Proofs.YthkoionigdnhgabGreatDoor

/-- The labels of a domain. -/
def splitD : List UInt8 → List (List UInt8)
  | [] => [[]]
  | c :: r => if c = 46 then [] :: splitD r else match splitD r with
    | [] => [[c]]
    | x :: xs => (c :: x) :: xs
def longB (L : List (List UInt8)) : Bool := L.any fun x => decide (63 < x.length)
/-- A domain for old wires, f telling what its labels become. -/
def asciiD (f : List UInt8 → List UInt8) (s : List UInt8) : List UInt8 × Nat :=
  if longB ((splitD (sml s)).map f) = true then ([], 80)
  else if 255 < (joinL [46] ((splitD (sml s)).map f)).length then ([], 81)
  else (joinL [46] ((splitD (sml s)).map f), 0)
def tagS (t : List UInt8) : List UInt8 := match colonAt t with
  | none => t
  | some k => sml (t.take k) ++ t.drop k
/-- Ascii. -/
def ascii (f : List UInt8 → List UInt8) (h : Ho) : Ho × Nat :=
  if check h true = 0 then
    (if h.k = 1 then (if (asciiD f h.n).2 = 0 then (⟨1, (asciiD f h.n).1, h.a⟩, 0) else (ho0, (asciiD f h.n).2))
    else if h.k = 4 then (⟨4, tagS h.n, h.a⟩, 0)
    else (h, 0))
  else (ho0, check h true)
/-- Same. -/
def same (f : List UInt8 → List UInt8) (a b : Ho) : Bool :=
  decide (a.k = b.k) && decide (check a true = 0) && decide (check b true = 0) &&
    (if (ascii f a).2 = 0 ∧ (ascii f b).2 = 0 then decide ((ascii f a).1 = (ascii f b).1) else decide (sml a.n = sml b.n))

theorem Ho.eq {a b : Ho} (h1 : a.k = b.k) (h2 : a.n = b.n) (h3 : a.a = b.a) : a = b := by
  cases a
  cases b
  simp_all
end Go.Proofs.YthkoionigdnhgabGreatDoor
/-
  Well-formed bytes, their labels and their small letters: plain mathematics.
-/
namespace Go.Proofs.YthkoionigdnhgabGreatDoor

/-- All that may be due. -/
def qs8 : List Q := [(0, 0, 0), (1, 128, 191), (2, 160, 191), (2, 128, 191), (2, 128, 159), (3, 144, 191), (3, 128, 191), (3, 128, 143)]
theorem begQ_mem {b : Nat} {q : Q} (h : begQ b = some q) : q ∈ qs8 := by
  unfold begQ at h
  repeat' (split at h)
  all_goals (first | (injection h with h; subst h; decide) | cases h)
theorem stepQ_mem {q q' : Q} {b : Nat} (hq : q ∈ qs8) (h : stepQ q b = some q') : q' ∈ qs8 := by
  have h3 : q.1 ≤ 3 := by
    have : ∀ q ∈ qs8, q.1 ≤ 3 := by decide
    exact this q hq
  unfold stepQ at h
  split at h
  · exact begQ_mem h
  · rename_i h0
    split at h
    · cases h
    · split at h
      · injection h with h; subst h; decide
      · rename_i h1
        injection h with h
        subst h
        have : q.1 = 2 ∨ q.1 = 3 := by omega
        rcases this with e | e
        · rw [e]; decide
        · rw [e]; decide
theorem runQ_mem : ∀ (l : List UInt8) (q q' : Q), q ∈ qs8 → runQ q l = some q' → q' ∈ qs8
  | [], q, q', hq, h => by
    simp only [runQ] at h
    injection h with h
    rw [← h]
    exact hq
  | b :: t, q, q', hq, h => by
    simp only [runQ, Option.bind_eq_some_iff] at h
    obtain ⟨q1, h1, h2⟩ := h
    exact runQ_mem t q1 q' (stepQ_mem hq h1) h2

theorem badUA_whole : ∀ (l : List UInt8) (q : Q) (n w : Nat), l ≠ [] → w ≤ n → (badUA q n w l = n + l.length ↔ ∃ q', runQ q l = some q' ∧ q'.1 = 0)
  | [], _, _, _, h, _ => absurd rfl h
  | b :: t, q, n, w, _, hw => by
    simp only [badUA, runQ]
    cases hs : stepQ q b.toNat with
    | none =>
      simp only [Option.bind_none, List.length_cons]
      constructor
      · intro h; omega
      · intro ⟨q', h, _⟩; cases h
    | some q1 =>
      simp only [Option.bind_some, List.length_cons]
      cases t with
      | nil =>
        simp only [badUA, runQ, List.length_nil]
        constructor
        · intro h
          refine ⟨q1, rfl, ?_⟩
          by_cases h0 : q1.1 = 0
          · exact h0
          · rw [if_neg h0] at h; omega
        · intro ⟨q', h, h0⟩
          injection h with h
          subst h
          rw [if_pos h0]
      | cons c t =>
        have := badUA_whole (c :: t) q1 (n + 1) (if q1.1 = 0 then n + 1 else w) (by simp) (by split <;> omega)
        rw [← this]
        constructor <;> intro h <;> omega
/-- Bytes are well-formed where the machine ends whole. -/
theorem badU_whole (l : List UInt8) : badU l = l.length ↔ ∃ q', runQ q0 l = some q' ∧ q'.1 = 0 := by
  cases l with
  | nil => exact ⟨fun _ => ⟨q0, rfl, rfl⟩, fun _ => rfl⟩
  | cons b t =>
    have := badUA_whole (b :: t) q0 0 0 (by simp) (Nat.le_refl _)
    rw [Nat.zero_add] at this
    exact this
theorem qs8_zero : ∀ q ∈ qs8, q.1 = 0 → q = q0 := by decide
/-- Well-formed. -/
def Wf (l : List UInt8) : Prop := badU l = l.length
theorem wf_iff (l : List UInt8) : Wf l ↔ runQ q0 l = some q0 := by
  unfold Wf
  rw [badU_whole]
  constructor
  · rintro ⟨q, h, h0⟩
    rw [h, qs8_zero q (runQ_mem l q0 q (by decide) h) h0]
  · intro h
    exact ⟨q0, h, rfl⟩
theorem smB_high {c : UInt8} (h : ¬ c.toNat < 128) : smB c = c := by
  unfold smB
  rw [if_neg (by omega)]
/-- What a label may be: of more than ASCII, of ASCII. -/
structure LabW (l : List UInt8) : Prop where
  ne : l ≠ []
  le : l.length ≤ 63
  ch : ∀ c ∈ l, lbB c = true ∨ 128 ≤ c.toNat
  hd : l.head? ≠ some 45
  la : l.getLast? ≠ some 45
structure LabA (l : List UInt8) : Prop where
  ne : l ≠ []
  le : l.length ≤ 63
  ch : ∀ c ∈ l, lbB c = true
  hd : l.head? ≠ some 45
  la : l.getLast? ≠ some 45
structure RestA (n : Nat) (h : Bool) (x : List UInt8) : Prop where
  ch : ∀ c ∈ x, lbB c = true
  hd : n = 0 → x.head? ≠ some 45
  le : n + x.length ≤ 63
  ne : 0 < n + x.length
  em : x = [] → h = false
  la : x.getLast? ≠ some 45
theorem LabA.rest {x : List UInt8} (h : LabA x) : RestA 0 false x :=
  ⟨h.ch, fun _ => h.hd, by have := h.le; omega, by
    cases x with
    | nil => exact absurd rfl h.ne
    | cons c r => simp, fun _ => rfl, h.la⟩
theorem lbB_fin : ∀ b : Fin 256, lbB (UInt8.ofNat b.val) = lbB (smB (UInt8.ofNat b.val)) ∧ smB (smB (UInt8.ofNat b.val)) = smB (UInt8.ofNat b.val) ∧ (smB (UInt8.ofNat b.val) = 45 ↔ UInt8.ofNat b.val = 45) ∧ (lbB (UInt8.ofNat b.val) = true → b.val < 128) := by decide +kernel
theorem smB_facts (c : UInt8) : lbB c = lbB (smB c) ∧ smB (smB c) = smB c ∧ (smB c = 45 ↔ c = 45) ∧ (lbB c = true → c.toNat < 128) := by
  have := lbB_fin ⟨c.toNat, c.toNat_lt⟩
  simpa using this
theorem sml_head (l : List UInt8) : (sml l).head? = some 45 ↔ l.head? = some 45 := by
  cases l with
  | nil => simp [sml]
  | cons c r => simp [sml, (smB_facts c).2.2.1]
theorem sml_last (l : List UInt8) : (sml l).getLast? = some 45 ↔ l.getLast? = some 45 := by
  unfold sml
  rw [List.getLast?_map]
  cases l.getLast? with
  | none => simp
  | some c => simp [(smB_facts c).2.2.1]
theorem LabW.sml {l : List UInt8} (h : LabW l) : LabW (sml l) := by
  refine ⟨fun e => h.ne (by simpa [Go.Proofs.YthkoionigdnhgabGreatDoor.sml] using e), by have := h.le; simpa [Go.Proofs.YthkoionigdnhgabGreatDoor.sml] using this, fun c hc => ?_, fun e => h.hd ((sml_head l).1 e), fun e => h.la ((sml_last l).1 e)⟩
  obtain ⟨d, hd, rfl⟩ := List.mem_map.1 hc
  rcases h.ch d hd with h1 | h1
  · exact Or.inl ((smB_facts d).1 ▸ h1)
  · exact Or.inr (by rw [smB_high (by omega)]; exact h1)

end Go.Proofs.YthkoionigdnhgabGreatDoor
/-
  What Ascii tells (P8.12), in plain mathematics.
-/
namespace Go.Proofs.YthkoionigdnhgabGreatDoor

theorem check_tag {h : Ho} {wide : Bool} (hk : h.k = 4) (hc : check h wide = 0) : h.a = z16 ∧ chTag h.n = 0 := by
  unfold check at hc
  rw [if_neg (by omega), if_neg (by omega), if_neg (by omega), if_pos hk] at hc
  split at hc
  · exact ⟨‹_›, hc⟩
  · cases hc
end Go.Proofs.YthkoionigdnhgabGreatDoor
/-
  Local parts, mailboxes, routes and paths in plain mathematics, as they are read and written; no Go in sight.
-/
namespace Go.Proofs.YthkoionigdnhgabGreatDoor

/-- May a byte stand in an atom? -/
def atB (c : UInt8) : Bool := ldB c || [33, 35, 36, 37, 38, 39, 42, 43, 45, 47, 61, 63, 94, 95, 96, 123, 124, 125, 126].contains c || decide (128 ≤ c.toNat)
/-- May a byte stand between quotation marks as itself? -/
def qtB (c : UInt8) : Bool := (decide (32 ≤ c.toNat) && decide (c.toNat ≤ 126) && !decide (c = 34) && !decide (c = 92)) || decide (128 ≤ c.toNat)
def shB (c : UInt8) : Bool := decide (32 ≤ c.toNat) && decide (c.toNat ≤ 126)
def loB (c : UInt8) : Bool := decide (c.toNat < 128)
/-- The place behind the longest row of atoms, with a dot between each two. -/
def rowG : Nat → Nat → Bool → List UInt8 → Nat
  | e, _, _, [] => e
  | e, i, b, c :: r => if atB c = true then rowG (i + 1) (i + 1) true r else if c = 46 ∧ b = true then rowG e (i + 1) false r else e
def rowL (s : List UInt8) : Nat := rowG 0 0 false s
def plainL (l : List UInt8) : Bool := decide (l ≠ []) && decide (rowL l = l.length)
/-- What stands behind a quotation mark (i: the place): what it means, the place behind the closing one. -/
def preQ (c : UInt8) : Except (Option Nat) (List UInt8 × Nat) → Except (Option Nat) (List UInt8 × Nat)
  | .ok (m, n) => .ok (c :: m, n)
  | .error e => .error e
def qtM : Nat → Bool → List UInt8 → Except (Option Nat) (List UInt8 × Nat)
  | _, _, [] => .error none
  | i, true, c :: r => if shB c = true then preQ c (qtM (i + 1) false r) else .error (some (i - 1))
  | i, false, c :: r => if c = 34 then .ok ([], i + 1) else if c = 92 then qtM (i + 1) true r else if qtB c = true then preQ c (qtM (i + 1) false r) else .error (some i)
/-- What is asked of a local part as it stands there: b its bytes, f their place, m what it means, n how long it is. -/
def finL (wide : Bool) (b : List UInt8) (f : Nat) (m : List UInt8) (n : Nat) : Except (Nat × Nat) (List UInt8 × Nat) :=
  if 64 < n then .error (90, 0)
  else if wide = false ∧ spB loB b < b.length then .error (94, f + spB loB b)
  else if badU b < b.length then .error (94, f + badU b)
  else .ok (m, n)
def lcl (wide : Bool) (s : List UInt8) : Except (Nat × Nat) (List UInt8 × Nat) :=
  if s.head? = some 34 then
    match qtM 1 false (s.drop 1) with
    | .error none => .error (91, 0)
    | .error (some p) => .error (90, p)
    | .ok (m, n) => finL wide ((s.drop 1).take (n - 2)) 1 m n
  else if rowL s = 0 then .error (90, 0)
  else finL wide (s.take (rowL s)) 0 (s.take (rowL s)) (rowL s)
def stopB (c : UInt8) : Bool := [60, 62, 44, 58, 64, 32].contains c
def notB (f : UInt8 → Bool) (c : UInt8) : Bool := !f c
/-- How many bytes a host's are. -/
def hstN (s : List UInt8) : Nat :=
  if s.head? = some 91 then (if spB (notB (· == 93)) s < s.length then spB (notB (· == 93)) s + 1 else spB (notB (· == 93)) s)
  else spB (notB stopB) s
def hst (wide : Bool) (s : List UInt8) : Except (Nat × Nat) (Ho × Nat) :=
  if (parse (s.take (hstN s)) wide).2.1 = 0 then .ok ((parse (s.take (hstN s)) wide).1, hstN s) else .error (parse (s.take (hstN s)) wide).2
def bx (wide : Bool) (s : List UInt8) : Except (Nat × Nat) ((List UInt8 × Ho) × Nat) :=
  match lcl wide s with
  | .error e => .error e
  | .ok (l, n) =>
    if (s.drop n).head? = some 64 then
      match hst wide (s.drop (n + 1)) with
      | .error (e, p) => .error (e, n + 1 + p)
      | .ok (h, k) => .ok ((l, h), n + 1 + k)
    else .error (93, n)
/-- A path: its kind, its route, its mailbox's local part and host. -/
structure Pt where
  k : Int
  r : List Ho
  l : List UInt8
  h : Ho
deriving DecidableEq
/-- How a local part is written. -/
def escL : List UInt8 → List UInt8
  | [] => []
  | c :: r => if c = 34 ∨ c = 92 then 92 :: c :: escL r else c :: escL r
def wrL (l : List UInt8) : List UInt8 := if plainL l = true then l else 34 :: (escL l ++ [34])
def wrH (h : Ho) : List UInt8 := (print h).1
def wrR : List Ho → List UInt8
  | [] => []
  | [h] => 64 :: (wrH h ++ [58])
  | h :: g :: r => 64 :: (wrH h ++ 44 :: wrR (g :: r))
def wrB (l : List UInt8) (h : Ho) : List UInt8 := wrL l ++ 64 :: wrH h
def pmL : List UInt8 := [80, 111, 115, 116, 109, 97, 115, 116, 101, 114]
def wrP (p : Pt) : List UInt8 :=
  if p.k = 1 then [60, 62] else if p.k = 2 then 60 :: (pmL ++ [62]) else 60 :: (wrR p.r ++ wrB p.l p.h ++ [62])
def box (wide : Bool) (s : List UInt8) : Except (Nat × Nat) (List UInt8 × Ho) :=
  match bx wide s with
  | .error e => .error e
  | .ok (m, n) => if n < s.length then .error (93, n) else .ok m
/-- What is wrong with a local part. -/
def ckL (l : List UInt8) (wide : Bool) : Nat :=
  if l.all (fun c => decide (32 ≤ c.toNat) && !decide (c.toNat = 127)) = false ∨ 64 < (wrL l).length then 90
  else if (spB loB l < l.length ∧ wide = false) ∨ badU l < l.length then 94
  else 0
def ckR : List Ho → Bool → Nat
  | [], _ => 0
  | h :: r, wide => if check h wide = 0 then ckR r wide else check h wide
/-- Check but for the length. -/
def ckB (p : Pt) (wide : Bool) : Nat :=
  if p.k = 1 ∨ p.k = 2 then (if p.r = [] ∧ p.l = [] ∧ p.h = ho0 then 0 else 93)
  else if p.k = 3 then
    if 16 < p.r.length ∨ p.r.all (fun h => decide (h.k = 1)) = false then 92
    else if ckR p.r wide ≠ 0 then ckR p.r wide
    else if ckL p.l wide ≠ 0 then ckL p.l wide
    else check p.h wide
  else 93
def ckP (p : Pt) (wide : Bool) : Nat := if ckB p wide = 0 ∧ 256 < (wrP p).length then 93 else ckB p wide
def printP (p : Pt) : List UInt8 × Nat := if ckP p true = 0 then (wrP p, 0) else ([], ckP p true)
end Go.Proofs.YthkoionigdnhgabGreatDoor
/-
  What is written is read as it was: local parts, hosts, routes, mailboxes, paths, in plain mathematics.
-/
namespace Go.Proofs.YthkoionigdnhgabGreatDoor

theorem rowG_le : ∀ (s : List UInt8) (e i : Nat) (b : Bool), e ≤ i → rowG e i b s ≤ i + s.length
  | [], e, i, b, h => by rw [rowG]; exact h
  | c :: r, e, i, b, h => by
    rw [rowG, List.length_cons]
    split
    · have := rowG_le r (i + 1) (i + 1) true (Nat.le_refl _); omega
    · split
      · have := rowG_le r e (i + 1) false (by omega); omega
      · omega
theorem rowL_le (s : List UInt8) : rowL s ≤ s.length := by
  have := rowG_le s 0 0 false (Nat.le_refl _)
  unfold rowL
  omega
/-- May a byte stand in a local part? -/
def lpB (c : UInt8) : Bool := decide (32 ≤ c.toNat) && !decide (c.toNat = 127)
theorem spB_full {f : UInt8 → Bool} : ∀ {l : List UInt8}, (∀ c ∈ l, f c = true) → spB f l = l.length
  | [], _ => rfl
  | c :: r, h => by
    rw [spB, if_pos (h c (List.mem_cons_self ..)), spB_full (fun x hx => h x (List.mem_cons_of_mem _ hx)), List.length_cons]
theorem loB_iff (c : UInt8) : loB c = true ↔ c.toNat < 128 := by unfold loB; rw [decide_eq_true_eq]
end Go.Proofs.YthkoionigdnhgabGreatDoor
/-
  A path that may be is read as it was; what stands behind a path changes nothing; where faults lie.
-/
namespace Go.Proofs.YthkoionigdnhgabGreatDoor

/-- All hosts are of sixteen bytes. -/
def Pt.Ok (p : Pt) : Prop := (∀ h ∈ p.r, h.Ok) ∧ p.h.Ok
end Go.Proofs.YthkoionigdnhgabGreatDoor
/-
  Narrow paths are read alike with wide and without; what is read may be.
-/
namespace Go.Proofs.YthkoionigdnhgabGreatDoor

/-- No byte above 127. -/
def Low (l : List UInt8) : Prop := ∀ c ∈ l, c.toNat < 128
theorem low_cons {c : UInt8} {l : List UInt8} : Low (c :: l) ↔ c.toNat < 128 ∧ Low l :=
  ⟨fun h => ⟨h c (List.mem_cons_self ..), fun d hd => h d (List.mem_cons_of_mem _ hd)⟩, fun ⟨h1, h2⟩ d hd => by
    rcases List.mem_cons.1 hd with e | hd
    · rw [e]; exact h1
    · exact h2 d hd⟩
theorem sh_low {c : UInt8} (h : shB c = true) : c.toNat < 128 := by
  unfold shB at h
  rw [Bool.and_eq_true, decide_eq_true_eq, decide_eq_true_eq] at h
  omega
theorem escL_cons (c : UInt8) (m : List UInt8) : escL (c :: m) = if c = 34 ∨ c = 92 then 92 :: c :: escL m else c :: escL m := rfl
theorem sh_lp {c : UInt8} (h : shB c = true) : lpB c = true := by
  unfold shB at h
  rw [Bool.and_eq_true, decide_eq_true_eq, decide_eq_true_eq] at h
  unfold lpB
  rw [decide_eq_true h.1, decide_eq_false (by omega)]
  rfl
theorem ckL_of {l : List UInt8} {wide : Bool} (h1 : l.all lpB = true) (h2 : (wrL l).length ≤ 64) (h3 : wide = false → Low l) (h4 : Wf l) : ckL l wide = 0 := by
  unfold ckL
  rw [if_neg, if_neg]
  · rintro (⟨h, hw⟩ | h)
    · rw [spB_full fun c hc => (loB_iff c).2 (h3 hw c hc)] at h
      omega
    · unfold Wf at h4
      omega
  · rintro (h | h)
    · have h1' : l.all (fun c => decide (32 ≤ c.toNat) && !decide (c.toNat = 127)) = true := h1
      rw [h1'] at h
      cases h
    · omega
end Go.Proofs.YthkoionigdnhgabGreatDoor
