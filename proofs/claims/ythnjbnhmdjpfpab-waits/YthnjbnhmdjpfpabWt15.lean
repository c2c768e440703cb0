/-
  Two framers beside each other.
-/
import Derived.Test.YthnjbnhmdjpfpabFv15
import Derived.Test.YthnjbnhmdjpfpabFp15
import Derived.Lib.SmallJoins
namespace Go.Proofs.Ythnjbnhmdjpfpab
open Go.RowKit

/-- What is under way. -/
def stW (mo : Int) (p : List UInt8) : Fs := if mo = 1 then .dt Ds.new else if mo = 2 then .ch 1099511627776 3 else .ln (p ++ [120])
theorem stW_free (mo : Int) (p : List UInt8) : (stW mo p).free = false := by
  unfold stW
  split
  · rfl
  · split
    · rfl
    · cases p <;> rfl
theorem stW_le (mo : Int) (p : List UInt8) : (stW mo p).le 1152921504606846976 := by
  unfold stW
  split
  · exact ⟨Nat.zero_le _, Nat.zero_le _⟩
  · split <;> trivial
theorem tk_plain (m : Nat) : ∀ (l s : List UInt8), (∀ c ∈ l, c ≠ 10) → tk m s l = (l.length, .no, s ++ l)
  | [], s, _ => by simp [tk]
  | c :: r, s, h => by
    have hc : (c == 10) = false := by simpa using h c (by simp)
    rw [tk_cons, hc, Bool.and_false, if_neg (by simp), tk_plain m r _ (fun d hd => h d (by simp [hd]))]
    simp
theorem bare_ne {l : List UInt8} (h : bareB l = false) : ∀ c ∈ l, c ≠ 10 := fun c hc e => by
  unfold bareB at h
  rw [List.any_eq_false] at h
  have := h c hc
  simp [e] at this
theorem take_begin {p : List UInt8} (h : bareB p = false) : ftk 1024 9 9 (.ln []) (p ++ [120]) = ((p ++ [120]).length, .no, .ln (p ++ [120])) := by
  have := tk_plain 1024 (p ++ [120]) [] (fun c hc => by
    rcases List.mem_append.1 hc with hc | hc
    · exact bare_ne h c hc
    · rw [List.mem_singleton.1 hc]; decide)
  simp only [ftk, this, Fi.ofIt, List.nil_append]
/-- Two framers, apart from each other, from a block Z, and from all that lay there ahead. -/
structure Tw (w : World) (B Z b1 b2 : Nat) (s1 s2 : Fs) : Prop where
  ex : ∃ F1 F2 : Nat → Prop, Fm w F1 b1 1024 9 9 s1 ∧ Fm w F2 b2 1024 9 9 s2 ∧ (∀ q, F1 q → ¬ F2 q) ∧ (∀ q, F1 q → B ≤ q) ∧ (∀ q, F2 q → B ≤ q) ∧ ¬ F1 Z ∧ ¬ F2 Z
theorem Tw.below {w w' : World} {B Z b1 b2 : Nat} {s1 s2 : Fs} (x : Tw w B Z b1 b2 s1 s2) (hb : Below w.heap.size w w') : Tw w' B Z b1 b2 s1 s2 := by
  obtain ⟨F1, F2, h1, h2, h3, h4, h5, h6⟩ := x.ex
  exact ⟨F1, F2, h1.below hb, h2.below hb, h3, h4, h5, h6⟩
theorem Tw.turn {w : World} {B Z b1 b2 : Nat} {s1 s2 : Fs} (x : Tw w B Z b1 b2 s1 s2) : Tw w B w.heap.size b1 b2 s1 s2 := by
  obtain ⟨F1, F2, h1, h2, h3, h4, h5, h6⟩ := x.ex
  exact ⟨F1, F2, h1, h2, h3, h4, h5, fun h => absurd (h1.fl _ h) (Nat.lt_irrefl _), fun h => absurd (h2.fl _ h) (Nat.lt_irrefl _)⟩
theorem Tw.swap {w : World} {B Z b1 b2 : Nat} {s1 s2 : Fs} (x : Tw w B Z b1 b2 s1 s2) : Tw w B Z b2 b1 s2 s1 := by
  obtain ⟨F1, F2, h1, h2, h3, h4, h5, h6, h7⟩ := x.ex
  exact ⟨F2, F1, h2, h1, fun q a b => h3 q b a, h5, h4, h7, h6⟩
theorem tw_data (B Z b1 b2 : Nat) (s2 : Fs) (w : World) (hB : B ≤ w.heap.size) (hZ : Z < w.heap.size) (x : Tw w B Z b1 b2 (.ln []) s2) : Calls Try.prog 7 #[.pointer (some ⟨b1, 0, none⟩)] w fun e w' => e = .returned (.int .i64 0) ∧ Tw w' B Z b1 b2 (.dt Ds.new) s2 ∧ Below B w w' ∧ w'.heap[Z]? = w.heap[Z]? := by
  obtain ⟨F1, F2, h1, h2, h3, h4, h5, h6, h7⟩ := x.ex
  refine (xdata_ok F1 b1 1024 9 9 w h1).mono ?_
  rintro e w' ⟨rfl, k1, k2⟩
  refine ⟨rfl, ⟨_, F2, k1, h2.chg k2 (fun q a b => h3 q b a), fun q a b => ?_, fun q a => ?_, h5, fun a => ?_, h7⟩, k2.to_below hB h4, k2.block Z hZ h6⟩
  · rcases a with a | a
    · exact h3 q a b
    · have := h2.fl q b; omega
  · rcases a with a | a
    · exact h4 q a
    · omega
  · rcases a with a | a
    · exact h6 a
    · omega
theorem tw_chunk (B Z b1 b2 n r : Nat) (hn : n ≤ 9223372036854775807) (hr : r ≤ 9223372036854775807) (s2 : Fs) (w : World) (hB : B ≤ w.heap.size) (hZ : Z < w.heap.size) (x : Tw w B Z b1 b2 (.ln []) s2) : Calls Try.prog 8 #[.pointer (some ⟨b1, 0, none⟩), .int .i64 (n : Int), .int .i64 (r : Int)] w fun e w' => e = .returned (.int .i64 0) ∧ Tw w' B Z b1 b2 (.ch n r) s2 ∧ Below B w w' ∧ w'.heap[Z]? = w.heap[Z]? := by
  obtain ⟨F1, F2, h1, h2, h3, h4, h5, h6, h7⟩ := x.ex
  refine (xchunk_ok F1 b1 1024 9 9 n r hn hr w h1).mono ?_
  rintro e w' ⟨rfl, k1, k2⟩
  exact ⟨rfl, ⟨F1, F2, k1, h2.chg k2 (fun q a b => h3 q b a), h3, h4, h5, h6, h7⟩, k2.to_below hB h4, k2.block Z hZ h6⟩
/-- Take of one of two, of bytes that are newer than both. -/
theorem tw_take (B Z b1 b2 : Nat) (s1 s2 : Fs) (hle : s1.le 1152921504606846976) (ad : Option Addr) (l : List UInt8) (n cap : Nat) (hn : n = l.length) (hl : l.length ≤ 17592186044416) (hc : l.length ≤ cap) (hca : ad = none → cap = 0) (w0 w : World) (hB : B ≤ w0.heap.size) (hZ : Z < w0.heap.size) (x : Tw w0 B Z b1 b2 s1 s2) (hw : Below w0.heap.size w0 w) (hb : Bts ad l w) (hne : ∀ a', ad = some a' → w0.heap.size ≤ a'.block) :
    Calls Try.prog 9 #[.pointer (some ⟨b1, 0, none⟩), .slice ad n cap] w fun e w' => ∃ v, e = .returned (.tuple #[.int .i64 ((ftk 1024 9 9 s1 l).1 : Int), fiV (ftk 1024 9 9 s1 l).2.1 v]) ∧ w'.ownsRow 0 5 1 v (fiB (ftk 1024 9 9 s1 l).2.1).length (cellsB (fiB (ftk 1024 9 9 s1 l).2.1)) ∧ (∀ q, v.ownBlock = some q → w.heap.size ≤ q) ∧ Tw w' B Z b1 b2 (ftk 1024 9 9 s1 l).2.2 s2 ∧ Below B w w' ∧ w'.heap[Z]? = w0.heap[Z]? ∧ ∃ F2 : Nat → Prop, Fm w' F2 b2 1024 9 9 s2 ∧ (∀ q, F2 q → B ≤ q ∧ q < w0.heap.size) := by
  obtain ⟨F1, F2, h1, h2, h3, h4, h5, h6, h7⟩ := x.ex
  have hs := hw.size
  refine (xtake_any F1 b1 1024 9 9 s1 ad l n cap hn hl hc hca hle w (h1.below hw) hb (fun a' e h => by have := hne a' e; have := h1.fl _ h; omega)).mono ?_
  rintro e w' ⟨v, G, rfl, hK⟩
  have k2 := (h2.below hw).chg hK.ch (fun q a b => h3 q b a)
  refine ⟨v, rfl, hK.ow, fun q e => (hK.nw q e).1, ⟨G, F2, hK.fm, k2, fun q a b => ?_, fun q a => ?_, h5, fun a => ?_, h7⟩, hK.ch.to_below (by omega) h4, (hK.ch.block Z (by omega) h6).trans (hw.block Z hZ), F2, k2, fun q hq => ⟨h5 q hq, h2.fl q hq⟩⟩
  · rcases hK.gr q a with a | a
    · exact h3 q a b
    · have := h2.fl q b; omega
  · rcases hK.gr q a with a | a
    · exact h4 q a
    · omega
  · rcases hK.gr Z a with a | a
    · exact h6 a
    · omega
end Go.Proofs.Ythnjbnhmdjpfpab
