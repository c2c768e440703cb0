/-
  The library's Backward over the wide runes that were read.
-/
import Derived.Test.YtedgimkffkflbaaDoorRng
import Derived.Test.YtedgimkffkflbaaDoorNum
import Derived.Test.YtedgimkffkflbaaDoorRn
namespace Go.Proofs.YtedgimkffkflbaaDoor
open Go.RowKit
attribute [local go_sem] Oper.semAt_some

/-- Wide runes and their places, in memory. -/
def PsAt (a : Option Addr) (ps : List (Int × Nat)) (w : World) : Prop := ps = [] ∨ ∃ g, a = some ⟨g, 0, none⟩ ∧ g < w.heap.size ∧ ∀ j, (h : j < ps.length) → w.cell? ⟨g, j * 2, none⟩ = some (.int .i32 ps[j].1) ∧ w.cell? ⟨g, j * 2 + 1, none⟩ = some (.int .i64 (ps[j].2 : Int))

/-- What the round number t is handed. -/
def encI (ps : List (Int × Nat)) (t : Nat) : Value := .int .i64 ((ps.length - 1 - t : Nat) : Int)
def encV (ps : List (Int × Nat)) (t : Nat) : Value := .agg #[.int .i32 (ps.getD (ps.length - 1 - t) (0, 0)).1, .int .i64 ((ps.getD (ps.length - 1 - t) (0, 0)).2 : Int)]

set_option maxHeartbeats 2000000 in
set_option maxRecDepth 100000 in
theorem back_seq (F : Fence) (n : Nat) (hF : F.fn 80) (hro : F.round = none) (hn : 1 ≤ n) (l bs : Nat) (a : Option Addr) (ps : List (Int × Nat)) (cap : Nat) (hlen : ps.length ≤ 1073741824) (J : Nat → World → Prop)
    (hJI : ∀ t W, J t W → W.cell? ⟨bs, 0, none⟩ = some (.slice a ps.length cap) ∧ PsAt a ps W)
    (hY : ∀ t W, J t W → t < ps.length → YieldAt F (n - 1) Tryd.prog l #[encI ps t, encV ps t] W fun e W' => e = .returned (.bool true) ∧ J (t + 1) W') (W : World) (h0 : J 0 W) :
    CallsIn F n Tryd.prog 80 #[.func (.yield l) #[] #[], .pointer (some ⟨bs, 0, none⟩)] W fun e W' => (∃ v, e = .returned v) ∧ J ps.length W' := by
  have HJI : Hid (∀ t W, J t W → W.cell? ⟨bs, 0, none⟩ = some (.slice a ps.length cap) ∧ PsAt a ps W) := hJI
  have c0 := (hJI 0 W h0).1
  have HJ0 : Hid (J 0 W) := h0
  clear hJI h0
  refine callsIn_of_wp Tryd.func80 rfl hF ?_ hro
  simp only [Tryd.ntmps80, List.size_toArray, List.length_cons, List.length_nil, Nat.reduceAdd, Nat.reduceSub, Array.replicate_succ, Array.replicate_zero, List.push_toArray, List.append_toArray, List.nil_append, List.cons_append]
  gi_wp2
  gi_loopw [3] (fun p wr => ∃ t : Nat, p = .int .i64 ((ps.length : Int) - 1 - t) ∧ t ≤ ps.length ∧ Hid (J t wr)) (fun p _ => (intOf p + 1).toNat)
  case atStart => exact ⟨0, by simp, Nat.zero_le _, HJ0⟩
  case round =>
    obtain ⟨t, rfl, ht, HJ⟩ := hrel
    by_cases hlt : t < ps.length
    · obtain ⟨c1, h | ⟨g, rfl, hg, hc⟩⟩ := HJI.out t wr HJ.out
      · rw [h] at hlt; simp at hlt
      obtain ⟨d0, d1⟩ := hc (ps.length - 1 - t) (by omega)
      obtain ⟨fn, tmps, assign, body, hy, hR⟩ := hY t wr HJ.out hlt
      have eg : ps.getD (ps.length - 1 - t) (0, 0) = ps[ps.length - 1 - t]'(by omega) := by simp [List.getD_eq_getElem?_getD, List.getElem?_eq_getElem (show ps.length - 1 - t < ps.length by omega)]
      unfold encI encV at hy
      rw [eg] at hy
      obtain ⟨K, hK⟩ : ∃ K, ps.length - 1 - t = K := ⟨_, rfl⟩
      have hK2 : (ps.length : Int) - 1 - t = (K : Int) := by omega
      simp only [hK] at hy d0 d1
      rw [hK2]
      have hKl : K < ps.length := by omega
      have hKl' : (K : Int) < (ps.length : Int) := by omega
      generalize hr : (ps[K]'hKl).1 = r at *
      generalize hp : (ps[K]'hKl).2 = p at *
      clear hr hp eg hc
      have HR : Hid (RoundIn F (n - 1) Tryd.prog l fn tmps assign body wr fun e W' => e = .returned (.bool true) ∧ J (t + 1) W') := hR
      clear hR hY
      gi_wp2
      refine HR.out.mono ?_
      rintro e W3 ⟨rfl, hJ3⟩
      have HJ3 : Hid (J (t + 1) W3) := hJ3
      have hK3 : (K : Int) - 1 = (ps.length : Int) - 1 - ((t + 1 : Nat) : Int) := by omega
      clear hJ3 HR hy
      gi_wp2
      refine ⟨⟨t + 1, by push_cast; rfl, by omega, HJ3⟩, ?_⟩
      simp only [intOf]
      omega
    · have hz : (ps.length : Int) - 1 - t = -1 := by omega
      obtain rfl : t = ps.length := by omega
      rw [hz]
      gi_wp2
      go_end0
      exact ⟨⟨_, rfl⟩, HJ.out⟩
end Go.Proofs.YtedgimkffkflbaaDoor
