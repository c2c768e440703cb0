/-
  Each of a ring of any things.
-/
import Derived.Test.YtgbbjhhggjocmaaRzI
import Derived.Test.YtgbbjhhggjocmaaRcI
import Derived.Test.YtgbbjhhggjocmaaKr7
namespace Go.Proofs.Ytgbbjhhggjocmaa
open Go.RowKit Go.Shelf

attribute [local go_sem] Oper.semAt_some

/-- What a round is handed at place x. -/
def encI (l : List Int) (x : Nat) : Array Value := #[.int .i64 (x : Int), valI (l.getD x 0)]
theorem Ow.atI {w : World} {v : Value} {l : List Int} (h : Ow celI 3 1 w v l) (k : Nat) (hk : k < l.length) : ∃ g c, v = .slice (some ⟨g, 0, none⟩) l.length c ∧ ∀ j, j < 1 → w.cell? ⟨g, k * 1 + j, none⟩ = (celI (l.getD k 0))[j]? := by
  obtain ⟨a, c, rfl, hg⟩ := h.shape
  obtain ⟨g, rfl⟩ := hg (fun e => by subst e; simp at hk)
  refine ⟨g, c, rfl, fun j hj => ?_⟩
  rw [h.cells _ (by rw [flat_length celI_length]; omega), flat_at celI_length l k j hk hj]
  rw [List.getD_eq_getElem?_getD, List.getElem?_eq_getElem hk]
  rfl
set_option maxRecDepth 100000 in
set_option maxHeartbeats 2000000 in
theorem each1I_in (p q : Option Nat) (most : Nat) (l : List Int) (lp g n n0 : Nat) (hn : 1 ≤ n) (J Jx : List Nat → World → Prop) (W : World) (hJ : AbidesFrom W.heap.size J) (hn0 : n0 ≤ W.heap.size)
    (hY : ∀ pre x W1, J pre W1 → pre.length < l.length → YieldAt Fence.wide (n - 1) Try.prog lp (encI l x) W1 fun e W' => (e = .returned (.bool true) ∧ J (pre ++ [x]) W' ∧ Kr n0 W1 W') ∨ (e = .returned (.bool false) ∧ Jx (pre ++ [x]) W'))
    (h : RgI W p q most l) (hb : W.cell? ⟨g, 0, none⟩ = some (ptr p)) (h0 : J [] W) :
    CallsIn Fence.wide n Try.prog 59 #[.func (.yield lp) #[] #[], .pointer (some ⟨g, 0, none⟩)] W fun e W' => (∃ v, e = .returned v) ∧ ((∃ ys, ys = List.range l.length ∧ J ys W') ∨ (∃ pre, (∃ k, k ≤ l.length ∧ pre = List.range k) ∧ Jx pre W')) := by
  have HR : Hid (Calls Try.prog 60 #[ptr p] W fun e w' => ∃ v, e = .returned v ∧ NwI W w' v l) := rowI_any p q most l W h
  have hlen := h.len
  have hq := eql_yieldI
  have hki : (l.length : Int) ≤ 1048576 := by omega
  have HJ : Hid (AbidesFrom W.heap.size J) := hJ
  have H0 : Hid (J [] W) := h0
  have HN0 : Hid (n0 ≤ W.heap.size) := hn0
  have HY : Hid (∀ pre x W1, J pre W1 → pre.length < l.length → YieldAt Fence.wide (n - 1) Try.prog lp (encI l x) W1 fun e W' => (e = .returned (.bool true) ∧ J (pre ++ [x]) W' ∧ Kr n0 W1 W') ∨ (e = .returned (.bool false) ∧ Jx (pre ++ [x]) W')) := hY
  clear h hJ h0 hn0 hY
  generalize hpv : ptr p = pv at *
  refine callsIn_of_wp Try.func59 rfl trivial ?_ rfl
  simp only [Try.ntmps59, List.size_toArray, List.length_cons, List.length_nil, Nat.reduceAdd, Nat.reduceSub, Array.replicate_succ, Array.replicate_zero, List.push_toArray, List.append_toArray, List.nil_append, List.cons_append]
  gi_wp2_with (refine ⟨trivial, ?_⟩; gi_at_call 60; refine (callsIn_wide.2 HR.out).mono ?_; clear HR; rintro e w1 ⟨v, rfl, hv⟩; obtain ⟨av, cv, rfl, _⟩ := hv.1.shape; have HV : Hid (NwI W w1 (.slice av l.length cv) l) := hv; clear hv)
  gi_loopw [10] (fun iv wr => ∃ k : Nat, k ≤ l.length ∧ iv = .int .i64 (k : Int) ∧ Hid (J (List.range k) wr) ∧ Hid (Ow celI 3 1 wr (.slice av l.length cv) l) ∧ Hid (W.heap.size ≤ wr.heap.size)) (fun iv _ => l.length - (intOf iv).toNat)
  case atStart => exact ⟨0, Nat.zero_le _, rfl, HJ.out _ _ _ none H0.out (grown_of_below HV.out.2.1) (fun r e => by cases e), HV.out.1, HV.out.2.1.size⟩
  case round =>
    obtain ⟨k, hk, rfl, HJk, HO, HZ⟩ := hrel
    clear H0
    by_cases hlt : k < l.length
    · obtain ⟨r, c', e', hc⟩ := HO.out.atI k hlt
      cases e'
      have hkk : (k : Int) < (l.length : Int) := by omega
      have hin : (List.range k).length < l.length := by simpa using hlt
      obtain ⟨fn, tmps, assign, body, hy, hR⟩ := HY.out (List.range k) k wr HJk.out hin
      unfold encI at hy
      have q0 := hc 0 (by decide)
      generalize l.getD k 0 = x at *
      unfold valI at hy
      have q0' : wr.cell? ⟨r, k, none⟩ = some (.int .i64 x) := by simpa [celI] using q0
      clear q0 hc
      gi_wp2
      refine hR.mono ?_
      rintro e W3 (⟨rfl, hJ3, hk3⟩ | ⟨rfl, hJx3⟩)
      · skip
        have HK : Hid (Kr n0 wr W3) := hk3
        have HJ3 : Hid (J (List.range k ++ [k]) W3) := hJ3
        clear hk3 hJ3
        gi_wp2
        go_roundw
        case rel => exact ⟨k + 1, by omega, by go_num, by rw [List.range_succ]; exact HJ3.out, HK.out.ow HO.out (fun g hg => Nat.le_trans HN0.out (HV.out.2.2 g hg)), Nat.le_trans HZ.out HK.out.size⟩
        case measure => simp [intOf]; omega
      · gi_wp2
        refine bodyPost_ret (results_none rfl _ _ _) rfl ?_
        exact ⟨⟨_, rfl⟩, .inr ⟨_, ⟨k + 1, by omega, rfl⟩, by rw [List.range_succ]; exact hJx3⟩⟩
    · obtain rfl : k = l.length := by omega
      gi_wp2
      go_end0
      exact ⟨⟨_, rfl⟩, .inl ⟨_, rfl, HJk.out⟩⟩
/-- What Each hands on: all things, in their order, as they stood when the ranging began. -/
theorem eachI_seq (p q : Option Nat) (most : Nat) (l : List Int) (g n : Nat) (hn : 1 ≤ n) (w : World) (h : RgI w p q most l) (hb : w.cell? ⟨g, 0, none⟩ = some (ptr p)) :
    SeqStopsK Fence.wide n Try.prog 59 #[.pointer (some ⟨g, 0, none⟩)] (encI l) (Kr w.heap.size) (fun xs => xs = List.range l.length) (fun pre => ∃ k, k ≤ l.length ∧ pre = List.range k) l.length w := fun lp J Jx W hW hJ _ hY h0 =>
  each1I_in p q most l lp g n w.heap.size hn J Jx W hJ hW.size hY (h.below hW) ((hW.cell (p := ⟨g, 0, none⟩) (lt_of_cell hb)).trans hb) h0
end Go.Proofs.Ytgbbjhhggjocmaa
