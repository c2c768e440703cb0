/-
  Pieces of a list of bytes, and what is left of them.
-/
import Derived.Test.YthnjbnhmdjpfpaaPs15
namespace Go.Proofs.Ythnjbnhmdjpfpaa
open Go.RowKit

/-- A piece: where it lies, its bytes, its room. -/
structure Pe where
  a : Option Addr
  l : List UInt8
  c : Nat
/-- A piece that lies in memory. -/
structure PeOk (w : World) (x : Pe) : Prop where
  bt : Bts x.a x.l w
  lc : x.l.length ≤ x.c
  cm : x.c ≤ 9223372036854775807
  nn : x.a = none → x.c = 0
theorem PeOk.nil (w : World) : PeOk w ⟨none, [], 0⟩ := ⟨.inl rfl, Nat.le_refl _, Nat.zero_le _, fun _ => rfl⟩
theorem PeOk.sp {w : World} {x : Pe} (h : PeOk w x) (h0 : x.l ≠ []) (ad : Addr) (e : x.a = some ad) : ad.spot = none := by
  rcases h.bt with e1 | ⟨g, o, e1, _⟩
  · exact absurd e1 h0
  · rw [e1] at e; cases e; rfl
theorem PeOk.below {w w' : World} {x : Pe} (h : PeOk w x) (hb : Below w.heap.size w w') : PeOk w' x := ⟨h.bt.below hb, h.lc, h.cm, h.nn⟩
/-- What is left of a list behind its first k. -/
theorem bts_cut {g o : Nat} {l : List UInt8} {w : World} (h : Bts (some ⟨g, o, none⟩) l w) (k : Nat) : Bts (some ⟨g, o + k, none⟩) (l.drop k) w := by
  rcases h with e | ⟨g', o', e, hg', hrow⟩
  · exact .inl (by rw [e]; simp)
  · cases e
    exact .inr ⟨g, o + k, rfl, hg', fun j hj => by
      rw [List.length_drop] at hj
      rw [Nat.add_assoc, hrow (k + j) (by omega), List.getElem_drop]⟩
/-- Where a slice of a list begins. -/
def sla (a : Option Addr) (k cap : Nat) : Option Addr := if cap = k then a else a.map (·.add k)
set_option maxRecDepth 20000 in
theorem run_sll (a : Option Addr) (n cap p : Nat) (h1 : p ≤ n) (w : World) : (Instr.sliceAt 42 (.slice a n cap) (some (.int .i64 (p : Int))) none none).run Try.prog w = .ok (.slice (sla a p cap) (n - p) (cap - p)) w := by
  have hu : Try.prog.underlying 42 = some (.slice (Try.prog.elem 42)) := Try.underlying42
  have hs : (sizeOf (Try.prog.elem 42)).run Try.prog w = .ok 1 w := by
    obtain ⟨i0, hi0, hz0, hz1, hz2⟩ := info_parts info5
    have : (sizeOf 5).run Try.prog w = .ok 1 w := by go_simp
    exact this
  rw [run_sliceAt_slice (h := hu), run_slice_l (ht := hu) (h0 := by omega) (h1 := by omega), hs]
  simp [Result.andThen, sliced, sla]
theorem PeOk.cut {w : World} {a : Option Addr} {l : List UInt8} {cap : Nat} (h : PeOk w ⟨a, l, cap⟩) (p k : Nat) (hp : p ≤ l.length) : PeOk w ⟨sla a p cap, (l.drop p).take k, cap - p⟩ := by
  have hlc := h.lc
  have hcm := h.cm
  have hbt := h.bt
  have hnn := h.nn
  have hsp := h.sp
  dsimp only at hlc hcm hbt hnn hsp
  refine ⟨?_, ?_, ?_, ?_⟩
  · dsimp only
    refine Bts.take ?_ k
    unfold sla
    split
    · rename_i e
      have : l.drop p = [] := List.drop_eq_nil_of_le (by omega)
      rw [this]
      exact .inl rfl
    · cases a with
      | none => rw [bts_none hbt]; exact .inl (by simp)
      | some ad =>
        by_cases h0 : l = []
        · exact .inl (by rw [h0]; simp)
        have e : ad = ⟨ad.block, ad.off, none⟩ := by
          have := hsp h0 ad rfl
          cases ad
          simp_all
        rw [e] at hbt ⊢
        rw [show Option.map (fun x : Addr => x.add p) (some ⟨ad.block, ad.off, none⟩) = some ⟨ad.block, ad.off + p, none⟩ from by rw [Option.map_some, addr_add]]
        exact bts_cut hbt p
  · simp only [List.length_take, List.length_drop]
    omega
  · dsimp only; omega
  · dsimp only
    unfold sla
    intro e
    split at e
    · have := hnn e; omega
    · cases a with
      | none => have := hnn rfl; omega
      | some ad => cases e
set_option maxRecDepth 20000 in
theorem run_slH (a : Option Addr) (n cap q : Nat) (h2 : q ≤ cap) (w : World) : (Instr.sliceAt 42 (.slice a n cap) none (some (.int .i64 (q : Int))) none).run Try.prog w = .ok (.slice a q cap) w := by
  have hu : Try.prog.underlying 42 = some (.slice (Try.prog.elem 42)) := Try.underlying42
  have hs : (sizeOf (Try.prog.elem 42)).run Try.prog w = .ok 1 w := by
    obtain ⟨i0, hi0, hz0, hz1, hz2⟩ := info_parts info5
    have : (sizeOf 5).run Try.prog w = .ok 1 w := by go_simp
    exact this
  rw [run_sliceAt_slice (h := hu), run_slice_h (ht := hu) (h0 := by omega) (h2 := by omega), hs]
  cases a <;> simp [Result.andThen, sliced, Addr.add]
theorem PeOk.rest {w : World} {a : Option Addr} {l : List UInt8} {cap : Nat} (h : PeOk w ⟨a, l, cap⟩) (p : Nat) (hp : p ≤ l.length) : PeOk w ⟨sla a p cap, l.drop p, cap - p⟩ := by
  have := h.cut p l.length hp
  rwa [List.take_of_length_le (by rw [List.length_drop]; omega)] at this
theorem sla_block {a : Option Addr} {k cap : Nat} {ad : Addr} (h : sla a k cap = some ad) : ∃ a0, a = some a0 ∧ ad.block = a0.block := by
  unfold sla at h
  split at h
  · exact ⟨ad, h, rfl⟩
  · cases a with
    | none => cases h
    | some a0 =>
      cases h
      exact ⟨a0, rfl, by simp only [Addr.add]; split <;> rfl⟩
theorem Sd.rest {w : World} {F : Nat → Prop} {ov : Value} {a : Option Addr} {l : List UInt8} {cap : Nat} (h : Sd w F ov a l) (hp : PeOk w ⟨a, l, cap⟩) (p : Nat) (hl : p ≤ l.length) : Sd w F ov (sla a p cap) (l.drop p) :=
  ⟨(hp.rest p hl).bt, fun ad e => by
    obtain ⟨a0, e0, e1⟩ := sla_block e
    rw [e1]
    exact h.ap a0 e0⟩
end Go.Proofs.Ythnjbnhmdjpfpaa
