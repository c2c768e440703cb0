/-
  A play in memory: a framer, a row of items, bytes that lie apart from both.
-/
import Derived.Test.YthnjbnhmdjpfpaaSi15
import Derived.Test.YthnjbnhmdjpfpaaFhP
namespace Go.Proofs.Ythnjbnhmdjpfpaa
open Go.RowKit

/-- Bytes that lie apart from the framer's blocks and from the row of items. -/
structure Sd (w : World) (F : Nat → Prop) (ov : Value) (a : Option Addr) (l : List UInt8) : Prop where
  bt : Bts a l w
  ap : ∀ ad, a = some ad → ¬ F ad.block ∧ ad.block < w.heap.size ∧ ov.ownBlock ≠ some ad.block
structure Ps (w : World) (B : Nat) (F : Nat → Prop) (b m t a : Nat) (s : Fs) (ov : Value) (xs : List Ie) : Prop where
  fm : Fm w F b m t a s
  lo : ∀ q, F q → B ≤ q
  ow : Ow celI 50 5 w ov xs
  on : ∀ q, ov.ownBlock = some q → B ≤ q ∧ ¬ F q
  it : ∀ x ∈ xs, Sd w F ov x.a (fiB x.i)
theorem Sd.below {w w' : World} {F : Nat → Prop} {ov : Value} {a : Option Addr} {l : List UInt8} (h : Sd w F ov a l) (hb : Below w.heap.size w w') : Sd w' F ov a l := ⟨h.bt.below hb, fun ad e => ⟨(h.ap ad e).1, Nat.lt_of_lt_of_le (h.ap ad e).2.1 hb.size, (h.ap ad e).2.2⟩⟩
theorem Ps.below {w w' : World} {B : Nat} {F : Nat → Prop} {b m t a : Nat} {s : Fs} {ov : Value} {xs : List Ie} (h : Ps w B F b m t a s ov xs) (hb : Below w.heap.size w w') : Ps w' B F b m t a s ov xs := ⟨h.fm.below hb, h.lo, h.ow.below hb, h.on, fun x hx => (h.it x hx).below hb⟩
theorem Sd.drop {w : World} {F : Nat → Prop} {ov : Value} {g o : Nat} {l : List UInt8} (h : Sd w F ov (some ⟨g, o, none⟩) l) (k : Nat) : Sd w F ov (some ⟨g, o + k, none⟩) (l.drop k) := by
  have hg := h.ap _ rfl
  refine ⟨?_, fun ad e => by cases e; exact hg⟩
  rcases h.bt with e | ⟨g', o', e, h1, h2⟩
  · exact .inl (by rw [e]; simp)
  · cases e
    refine .inr ⟨g, o + k, rfl, h1, fun j hj => ?_⟩
    have := h2 (k + j) (by rw [List.length_drop] at hj; omega)
    rw [List.getElem_drop]
    rw [show o + k + j = o + (k + j) by omega]
    exact this
/-- What a Take leaves of bytes that lie apart. -/
theorem Sd.take {w w' : World} {F G : Nat → Prop} {b m t a : Nat} {i : Fi} {s : Fs} {v ov : Value} {ad : Option Addr} {l : List UInt8} (h : Sd w F ov ad l) (hK : Tkd w F b m t a i s v G w') : Sd w' G ov ad l := by
  refine ⟨h.bt.chg hK.ch (fun x e => (h.ap x e).1), fun x e => ⟨fun hg => ?_, Nat.lt_of_lt_of_le (h.ap x e).2.1 hK.ch.size, (h.ap x e).2.2⟩⟩
  have h2 := h.ap x e
  rcases hK.gr _ hg with k | k
  · exact h2.1 k
  · omega
theorem Ps.take {w w' : World} {B : Nat} {F G : Nat → Prop} {b m t a : Nat} {i : Fi} {s s' : Fs} {v ov : Value} {xs : List Ie} (h : Ps w B F b m t a s ov xs) (hK : Tkd w F b m t a i s' v G w') (hB : B ≤ w.heap.size) : Ps w' B G b m t a s' ov xs := by
  refine ⟨hK.fm, fun q hq => ?_, h.ow.chg hK.ch (fun g e => (h.on g e).2), fun q e => ⟨(h.on q e).1, fun hg => ?_⟩, fun x hx => (h.it x hx).take hK⟩
  · rcases hK.gr q hq with k | k
    · exact h.lo q k
    · omega
  · have h2 := h.ow.lt q e
    rcases hK.gr q hg with k | k
    · exact (h.on q e).2 k
    · omega
/-- The bytes of the item itself. -/
theorem sd_new {w w' : World} {F G : Nat → Prop} {b m t a : Nat} {i : Fi} {s : Fs} {ga : Option Addr} {n gc : Nat} {ov : Value} (hK : Tkd w F b m t a i s (.slice ga n gc) G w') (ho : ∀ q, ov.ownBlock = some q → q < w.heap.size) : Sd w' G ov ga (fiB i) := by
  have hb : Bts ga (fiB i) w' := by
    obtain ⟨xa, xc, e1, h, -⟩ := own_bts hK.ow
    cases e1
    exact h
  refine ⟨hb, fun ad e => ?_⟩
  subst e
  have h1 := hK.nw ad.block rfl
  have h2 := (hK.ow.lt ad.block rfl).2
  exact ⟨h1.2, h2, fun e => by have := ho _ e; omega⟩
/-- The row grows. -/
theorem Sd.push {w w' : World} {F : Nat → Prop} {ov ov' : Value} {a : Option Addr} {l : List UInt8} (h : Sd w F ov a l) (hc : Chg (fun k => ov.ownBlock = some k) w w') (ho : ∀ q, ov'.ownBlock = some q → ov.ownBlock = some q ∨ w.heap.size ≤ q) : Sd w' F ov' a l := by
  refine ⟨h.bt.chg hc (fun x e => (h.ap x e).2.2), fun x e => ⟨(h.ap x e).1, Nat.lt_of_lt_of_le (h.ap x e).2.1 hc.size, fun hq => ?_⟩⟩
  have h2 := h.ap x e
  rcases ho _ hq with k | k
  · exact h2.2.2 k
  · omega
theorem Ps.push {w w' : World} {B : Nat} {F : Nat → Prop} {b m t a : Nat} {s : Fs} {ov ov' : Value} {xs : List Ie} {y : Ie} (h : Ps w B F b m t a s ov xs) (hy : Sd w F ov y.a (fiB y.i)) (hB : B ≤ w.heap.size) (hc : Chg (fun k => ov.ownBlock = some k) w w') (ho : ∀ q, ov'.ownBlock = some q → ov.ownBlock = some q ∨ w.heap.size ≤ q) (hw : Ow celI 50 5 w' ov' (xs ++ [y])) : Ps w' B F b m t a s ov' (xs ++ [y]) := by
  refine ⟨h.fm.chg hc (fun q hf e => (h.on q e).2 hf), h.lo, hw, fun q e => ?_, fun x hx => ?_⟩
  · rcases ho q e with k | k
    · exact h.on q k
    · exact ⟨by omega, fun hf => by have := h.fm.fl q hf; omega⟩
  · rcases List.mem_append.1 hx with hx | hx
    · exact (h.it x hx).push hc ho
    · rw [List.mem_singleton.1 hx]
      exact hy.push hc ho
/-- How far the next piece lies that is not empty. -/
noncomputable def zt (cl : List UInt8) (i : Nat) : Nat := rk (fun d => cl.getD ((i + d) % cl.length) 0 ≠ 0)
theorem zt_ex {cl : List UInt8} (h : cl.all (· == 0) = false) (i : Nat) : ∃ d, d ≤ cl.length ∧ cl.getD ((i + d) % cl.length) 0 ≠ 0 := by
  rw [List.all_eq_false] at h
  obtain ⟨c, hc, hn⟩ := h
  obtain ⟨j, hj, e⟩ := List.getElem_of_mem hc
  have hm : i % cl.length < cl.length := Nat.mod_lt _ (by omega)
  have hd := Nat.div_add_mod i cl.length
  have key : ∀ d, (i + d) % cl.length = j → cl.getD ((i + d) % cl.length) 0 ≠ 0 := fun d hx => by
    rw [hx, List.getD_eq_getElem?_getD, List.getElem?_eq_getElem hj]
    simpa [e] using hn
  rcases Nat.lt_or_ge j (i % cl.length) with hlt | hge
  · refine ⟨cl.length + j - i % cl.length, by omega, key _ ?_⟩
    have : i + (cl.length + j - i % cl.length) = j + cl.length * (i / cl.length + 1) := by rw [Nat.mul_add, Nat.mul_one]; omega
    rw [this, Nat.add_mul_mod_self_left, Nat.mod_eq_of_lt hj]
  · refine ⟨j - i % cl.length, by omega, key _ ?_⟩
    have : i + (j - i % cl.length) = j + cl.length * (i / cl.length) := by omega
    rw [this, Nat.add_mul_mod_self_left, Nat.mod_eq_of_lt hj]
theorem zt_le {cl : List UInt8} (h : cl.all (· == 0) = false) (i : Nat) : zt cl i ≤ cl.length := by
  obtain ⟨d, hd, hn⟩ := zt_ex h i
  exact Nat.le_trans ((rk_spec ⟨d, hn⟩).2 d hn) hd
theorem zt_next {cl : List UInt8} (h : cl.all (· == 0) = false) (i : Nat) (h0 : cl.getD (i % cl.length) 0 = 0) : zt cl (i + 1) < zt cl i := by
  obtain ⟨d, hd, hn⟩ := zt_ex h i
  have hs := (rk_spec (P := fun d => cl.getD ((i + d) % cl.length) 0 ≠ 0) ⟨d, hn⟩).1
  have hz : zt cl i ≠ 0 := fun e => by
    have : cl.getD ((i + zt cl i) % cl.length) 0 ≠ 0 := hs
    rw [e] at this
    exact this h0
  have h1 : cl.getD ((i + 1 + (zt cl i - 1)) % cl.length) 0 ≠ 0 := by
    rw [show i + 1 + (zt cl i - 1) = i + zt cl i by omega]
    exact hs
  have := (rk_spec (P := fun d => cl.getD ((i + 1 + d) % cl.length) 0 ≠ 0) ⟨_, h1⟩).2 _ h1
  have h2 : zt cl (i + 1) ≤ zt cl i - 1 := this
  omega
end Go.Proofs.Ythnjbnhmdjpfpaa
