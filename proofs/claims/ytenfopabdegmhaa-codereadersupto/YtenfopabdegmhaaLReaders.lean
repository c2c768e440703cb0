/-
  P4.4, R1: every script with two readers, none, and one that New did not make: all that is told is what the document asks; what is fed stays, and is not kept; proved for inputs of bulk at most 1048576 (the given upto form).
-/
import Derived.Test.YtenfopabdegmhaaRdS
import Derived.Test.YtenfopabdegmhaaOpenR
import Derived.Test.YtenfopabdegmhaaConst4
import Derived.Test.YtenfopabdegmhaaRows
import Derived.ProofKit
import Derived.ChangeMaps5
import Derived.OpenShut
import Derived.ShutString
import Derived.ChangeOld
import Derived.SizedLaws
namespace Go.Proofs.Ytenfopabdegmhaa.codeReaders
open Go.ChangeShapes Go.WideShapes Go.ChangeAt Go.RowKit

structure OneC (w : World) (p : Addr) (x : Value) : Prop where
  e0 : w.cell? p = some x
structure Three (w : World) (p q r : Addr) (x y z : Value) : Prop where
  e0 : w.cell? p = some x
  e1 : w.cell? q = some y
  e2 : w.cell? r = some z
theorem k_man : rdE [] [84, 13, 10, 87, 70, 117] = 0 ∧ rdL [] [84, 13, 10, 87, 70, 117] = [77, 97, 110] := by decide +kernel
set_option maxHeartbeats 8000000 in
set_option maxRecDepth 100000 in
theorem walk {w : World} (a : Option Addr) (st : List Stp) (cap : Nat) (hst : Steps a st w) (hs : st.length ≤ 1048576) (ht : tot st st.length ≤ 1048576) :
    Calls Try.prog 5 #[.slice a st.length cap] w fun e w' => e = .returned (.bool true) ∧ Below w.heap.size w w' := by
  have HST : Hid (Steps a st w) := hst
  obtain ⟨K, hK⟩ : ∃ K, K = st.length := ⟨_, rfl⟩
  have HK : Hid (K = st.length) := hK
  have HTT : Hid (tot st st.length ≤ 1048576) := ht
  rw [← hK] at hs ⊢
  clear hst hK ht
  go_enter Try.func5, Try.ntmps5
  go_wp2_with fail
  have HA0 : Hid (Lies ((w.alloc (.cells #[.pointer none, .pointer none] 38)).alloc (.cells #[.pointer none, .pointer none] 40)) w.heap.size #[.pointer none, .pointer none] 38) := (Lies.new w _ _).alloc _
  have HM0 : Hid (Lies ((w.alloc (.cells #[.pointer none, .pointer none] 38)).alloc (.cells #[.pointer none, .pointer none] 40)) (w.heap.size + 1) #[.pointer none, .pointer none] 40) := by
    have h := Lies.new (w.alloc (.cells #[.pointer none, .pointer none] 38)) #[.pointer none, .pointer none] 40
    have e : (w.alloc (.cells #[.pointer none, .pointer none] 38)).heap.size = w.heap.size + 1 := by simp
    rw [e] at h
    exact h
  have HB0 : Hid (Below w.heap.size w ((w.alloc (.cells #[.pointer none, .pointer none] 38)).alloc (.cells #[.pointer none, .pointer none] 40))) := ((Below.refl _ _).alloc (Nat.le_refl _) _).alloc (by simp) _
  generalize (w.alloc (.cells #[.pointer none, .pointer none] 38)).alloc (.cells #[.pointer none, .pointer none] 40) = v0 at HA0 HM0 HB0 ⊢
  have HS0_size : Hid (w.heap.size ≤ v0.heap.size) := HB0.out.size
  obtain ⟨gl, hgl⟩ : ∃ gl, gl = w.heap.size := ⟨_, rfl⟩
  obtain ⟨gm, hgm⟩ : ∃ gm, gm = w.heap.size + 1 := ⟨_, rfl⟩
  rw [← hgm, ← hgl]
  rw [← hgl] at HA0
  rw [← hgm] at HM0
  have HGL : Hid (gl = w.heap.size ∧ gm = w.heap.size + 1) := ⟨hgl, hgm⟩
  clear hgl hgm
  refine wp_loop_rounds 3 ?_
  rw [rounds_succ]
  go_wp2_with fail
  refine Calls.mono (new_any _) ?_
  rintro e w1 ⟨rfl, hr1, hb1⟩
  have k1 := HA0.out.below hb1 HA0.out.lt
  obtain ⟨v1, hv1⟩ : ∃ v, v = w1.setCell ⟨gl, 0, none⟩ (.pointer (some ⟨v0.heap.size, 0, none⟩)) := ⟨_, rfl⟩
  have HA1 : Hid (Lies v1 gl #[.pointer (some ⟨v0.heap.size, 0, none⟩), .pointer none] 38) := by rw [hv1]; exact k1.set 0 _
  have HM1 : Hid (Lies v1 gm #[.pointer none, .pointer none] 40) := by rw [hv1]; exact (Below.heap_setCell _ _ _ _ (by have := HGL.out; show gm ≠ gl; omega)).trans (HM0.out.below hb1 HM0.out.lt)
  have HB1 : Hid (Below w.heap.size w v1) := by rw [hv1]; exact (HB0.out.trans (hb1.mono HB0.out.size)).setCell (p := ⟨gl, 0, none⟩) (by have := HGL.out; show w.heap.size ≤ gl; omega) _
  have HZ1 : Hid (v0.heap.size < v1.heap.size) := by rw [hv1]; show _ < _; rw [World.size_setCell]; exact hr1.lt
  have hbq1 : ∀ k, k < v0.heap.size → k ≠ gl → v1.heap[k]? = v0.heap[k]? := fun k hk hne => by rw [hv1]; exact (Below.heap_setCell _ _ _ _ hne).trans (hb1.block k hk)
  have HR0_1 : Hid (RdAt v1 v0.heap.size [] 0) := by rw [hv1]; exact hr1.of (Below.heap_setCell _ _ _ _ (by have := HA0.out.lt; show v0.heap.size ≠ gl; omega))
  have HW1 : Hid (w1.setCell ⟨gl, 0, none⟩ (.pointer (some ⟨v0.heap.size, 0, none⟩)) = v1) := hv1.symm
  have c1 : w1.cell? ⟨gl, 0, none⟩ = some (.pointer none) := k1.cell 0
  have f1 := k1.frozen 0
  clear k1 hr1 hb1 hbq1 HA0 HM0 HB0 hv1
  go_wp2_with fail
  rw [HW1.out]
  refine Calls.mono (rrnew_any w.heap.size _) ?_
  rintro e w2 ⟨rfl, hr2, hb2⟩
  have k2 := HM1.out.below hb2 HM1.out.lt
  obtain ⟨v2, hv2⟩ : ∃ v, v = w2.setCell ⟨gm, 0, none⟩ (.pointer (some ⟨v1.heap.size, 0, none⟩)) := ⟨_, rfl⟩
  have HM2 : Hid (Lies v2 gm #[.pointer (some ⟨v1.heap.size, 0, none⟩), .pointer none] 40) := by rw [hv2]; exact k2.set 0 _
  have HA2 : Hid (Lies v2 gl #[.pointer (some ⟨v0.heap.size, 0, none⟩), .pointer none] 38) := by rw [hv2]; exact (Below.heap_setCell _ _ _ _ (by have := HGL.out; show gl ≠ gm; omega)).trans (HA1.out.below hb2 HA1.out.lt)
  have HB2 : Hid (Below w.heap.size w v2) := by rw [hv2]; exact (HB1.out.trans (hb2.mono HB1.out.size)).setCell (p := ⟨gm, 0, none⟩) (by have := HGL.out; show w.heap.size ≤ gm; omega) _
  have HZ2 : Hid (v1.heap.size < v2.heap.size) := by rw [hv2]; show _ < _; rw [World.size_setCell]; exact hr2.lies.lt
  have hbq2 : ∀ k, k < v1.heap.size → k ≠ gm → v2.heap[k]? = v1.heap[k]? := fun k hk hne => by rw [hv2]; exact (Below.heap_setCell _ _ _ _ hne).trans (hb2.block k hk)
  have HR0_2 : Hid (RdAt v2 v0.heap.size [] 0) := HR0_1.out.of (hbq2 _ HR0_1.out.lt (fun e => by obtain ⟨_, x, y, z, hl, _⟩ := HR0_1.out; rw [e] at hl; exact absurd (lies_kind hl HM1.out) (by decide)))
  have HS0_2 : Hid (RrAt v2 w.heap.size v1.heap.size [] 0 (.slice none 0 0)) := by rw [hv2]; exact hr2.of (by rw [World.size_setCell]; exact Nat.le_refl _) (Below.heap_setCell _ _ _ _ (by have := HM1.out.lt; show v1.heap.size ≠ gm; omega)) (fun _ k hk => by cases hk)
  have HW2 : Hid (w2.setCell ⟨gm, 0, none⟩ (.pointer (some ⟨v1.heap.size, 0, none⟩)) = v2) := hv2.symm
  have c2 : w2.cell? ⟨gm, 0, none⟩ = some (.pointer none) := k2.cell 0
  have f2 := k2.frozen 0
  clear k2 hr2 hb2 hbq2 HA1 HM1 HB1 hv2 HR0_1 c1 f1 HW1
  go_wp2_with fail
  rw [rounds_succ]
  go_wp2_with fail
  rw [HW2.out]
  refine Calls.mono (new_any _) ?_
  rintro e w3 ⟨rfl, hr3, hb3⟩
  have k3 := HA2.out.below hb3 HA2.out.lt
  obtain ⟨v3, hv3⟩ : ∃ v, v = w3.setCell ⟨gl, 1, none⟩ (.pointer (some ⟨v2.heap.size, 0, none⟩)) := ⟨_, rfl⟩
  have HA3 : Hid (Lies v3 gl #[.pointer (some ⟨v0.heap.size, 0, none⟩), .pointer (some ⟨v2.heap.size, 0, none⟩)] 38) := by rw [hv3]; exact k3.set 1 _
  have HM3 : Hid (Lies v3 gm #[.pointer (some ⟨v1.heap.size, 0, none⟩), .pointer none] 40) := by rw [hv3]; exact (Below.heap_setCell _ _ _ _ (by have := HGL.out; show gm ≠ gl; omega)).trans (HM2.out.below hb3 HM2.out.lt)
  have HB3 : Hid (Below w.heap.size w v3) := by rw [hv3]; exact (HB2.out.trans (hb3.mono HB2.out.size)).setCell (p := ⟨gl, 1, none⟩) (by have := HGL.out; show w.heap.size ≤ gl; omega) _
  have HZ3 : Hid (v2.heap.size < v3.heap.size) := by rw [hv3]; show _ < _; rw [World.size_setCell]; exact hr3.lt
  have hbq3 : ∀ k, k < v2.heap.size → k ≠ gl → v3.heap[k]? = v2.heap[k]? := fun k hk hne => by rw [hv3]; exact (Below.heap_setCell _ _ _ _ hne).trans (hb3.block k hk)
  have HR0_3 : Hid (RdAt v3 v0.heap.size [] 0) := HR0_2.out.of (hbq3 _ HR0_2.out.lt (fun e => by obtain ⟨_, x, y, z, hl, _⟩ := HR0_2.out; rw [e] at hl; exact absurd (lies_kind hl HA2.out) (by decide)))
  have HS0_3 : Hid (RrAt v3 w.heap.size v1.heap.size [] 0 (.slice none 0 0)) := HS0_2.out.of (Nat.le_of_lt HZ3.out) (hbq3 _ HS0_2.out.lies.lt (fun e => by have hl := HS0_2.out.lies; rw [e] at hl; exact absurd (lies_kind hl HA2.out) (by decide))) (fun _ k hk => by cases hk)
  have HR1_3 : Hid (RdAt v3 v2.heap.size [] 0) := by rw [hv3]; exact hr3.of (Below.heap_setCell _ _ _ _ (by have := HA2.out.lt; show v2.heap.size ≠ gl; omega))
  have HW3 : Hid (w3.setCell ⟨gl, 1, none⟩ (.pointer (some ⟨v2.heap.size, 0, none⟩)) = v3) := hv3.symm
  have c3 : w3.cell? ⟨gl, 1, none⟩ = some (.pointer none) := k3.cell 1
  have f3 := k3.frozen 1
  clear k3 hr3 hb3 hbq3 HA2 HM2 HB2 hv3 HR0_2 HS0_2 c2 f2 HW2
  go_wp2_with fail
  rw [HW3.out]
  refine Calls.mono (rrnew_any w.heap.size _) ?_
  rintro e w4 ⟨rfl, hr4, hb4⟩
  have k4 := HM3.out.below hb4 HM3.out.lt
  obtain ⟨v4, hv4⟩ : ∃ v, v = w4.setCell ⟨gm, 1, none⟩ (.pointer (some ⟨v3.heap.size, 0, none⟩)) := ⟨_, rfl⟩
  have HM4 : Hid (Lies v4 gm #[.pointer (some ⟨v1.heap.size, 0, none⟩), .pointer (some ⟨v3.heap.size, 0, none⟩)] 40) := by rw [hv4]; exact k4.set 1 _
  have HA4 : Hid (Lies v4 gl #[.pointer (some ⟨v0.heap.size, 0, none⟩), .pointer (some ⟨v2.heap.size, 0, none⟩)] 38) := by rw [hv4]; exact (Below.heap_setCell _ _ _ _ (by have := HGL.out; show gl ≠ gm; omega)).trans (HA3.out.below hb4 HA3.out.lt)
  have HB4 : Hid (Below w.heap.size w v4) := by rw [hv4]; exact (HB3.out.trans (hb4.mono HB3.out.size)).setCell (p := ⟨gm, 1, none⟩) (by have := HGL.out; show w.heap.size ≤ gm; omega) _
  have HZ4 : Hid (v3.heap.size < v4.heap.size) := by rw [hv4]; show _ < _; rw [World.size_setCell]; exact hr4.lies.lt
  have hbq4 : ∀ k, k < v3.heap.size → k ≠ gm → v4.heap[k]? = v3.heap[k]? := fun k hk hne => by rw [hv4]; exact (Below.heap_setCell _ _ _ _ hne).trans (hb4.block k hk)
  have HR0_4 : Hid (RdAt v4 v0.heap.size [] 0) := HR0_3.out.of (hbq4 _ HR0_3.out.lt (fun e => by obtain ⟨_, x, y, z, hl, _⟩ := HR0_3.out; rw [e] at hl; exact absurd (lies_kind hl HM3.out) (by decide)))
  have HR1_4 : Hid (RdAt v4 v2.heap.size [] 0) := HR1_3.out.of (hbq4 _ HR1_3.out.lt (fun e => by obtain ⟨_, x, y, z, hl, _⟩ := HR1_3.out; rw [e] at hl; exact absurd (lies_kind hl HM3.out) (by decide)))
  have HS0_4 : Hid (RrAt v4 w.heap.size v1.heap.size [] 0 (.slice none 0 0)) := HS0_3.out.of (Nat.le_of_lt HZ4.out) (hbq4 _ HS0_3.out.lies.lt (fun e => by have hl := HS0_3.out.lies; rw [e] at hl; exact absurd (lies_kind hl HM3.out) (by decide))) (fun _ k hk => by cases hk)
  have HS1_4 : Hid (RrAt v4 w.heap.size v3.heap.size [] 0 (.slice none 0 0)) := by rw [hv4]; exact hr4.of (by rw [World.size_setCell]; exact Nat.le_refl _) (Below.heap_setCell _ _ _ _ (by have := HM3.out.lt; show v3.heap.size ≠ gm; omega)) (fun _ k hk => by cases hk)
  have HW4 : Hid (w4.setCell ⟨gm, 1, none⟩ (.pointer (some ⟨v3.heap.size, 0, none⟩)) = v4) := hv4.symm
  have c4 : w4.cell? ⟨gm, 1, none⟩ = some (.pointer none) := k4.cell 1
  have f4 := k4.frozen 1
  clear k4 hr4 hb4 hbq4 HA3 HM3 HB3 hv4 HR0_3 HR1_3 HS0_3 c3 f3 HW3
  go_wp2_with fail
  rw [rounds_succ]
  go_wp2_with fail
  rw [HW4.out]
  have HLS : Hid (Ls w v4 gl gm (fun i => match i with | 0 => v0.heap.size | _ => v2.heap.size) (fun i => match i with | 0 => v1.heap.size | _ => v3.heap.size) (fun _ => []) (fun _ => 0) (fun _ => .slice none 0 0) (.slice none 0 0) (.slice none 0 0) []) := by
    have z1 := HZ1.out
    have z2 := HZ2.out
    have z3 := HZ3.out
    have z4 := HZ4.out
    have zg := HGL.out
    have zb := HB4.out.size
    have z0 : w.heap.size ≤ v0.heap.size := HS0_size.out
    refine ⟨HB4.out, HA4.out, HM4.out, fun i hi => ?_, fun i hi => ?_, fun i j hi hj hne => ?_, fun i j hi hj hne => ?_, fun i j hi hj hne => Ap.none _ _ _, ⟨by omega, by omega, fun i hi => ?_⟩, own_nil _ _, own_nil _ _, Ap.none _ _ _, fun i hi => ⟨Ap.none _ _ _, Ap.none _ _ _⟩⟩
    · match i, hi with
      | 0, _ => exact HR0_4.out
      | 1, _ => exact HR1_4.out
    · match i, hi with
      | 0, _ => exact HS0_4.out
      | 1, _ => exact HS1_4.out
    · match i, j, hi, hj with
      | 0, 0, _, _ | 1, 1, _, _ => exact absurd rfl hne
      | 0, 1, _, _ => show v0.heap.size ≠ v2.heap.size; omega
      | 1, 0, _, _ => show v2.heap.size ≠ v0.heap.size; omega
    · match i, j, hi, hj with
      | 0, 0, _, _ | 1, 1, _, _ => exact absurd rfl hne
      | 0, 1, _, _ => show v1.heap.size ≠ v3.heap.size; omega
      | 1, 0, _, _ => show v3.heap.size ≠ v1.heap.size; omega
    · match i, hi with
      | 0, _ => show _ ≤ v0.heap.size ∧ _ ≤ v1.heap.size; omega
      | 1, _ => show _ ≤ v2.heap.size ∧ _ ≤ v3.heap.size; omega
  clear HW4 HA4 HM4 HB4 HR0_4 HR1_4 HS0_4 HS1_4 c4 f4
  obtain ⟨pf, hpf⟩ : ∃ pf : Nat → Nat, pf = (fun i => match i with | 0 => v0.heap.size | _ => v2.heap.size) := ⟨_, rfl⟩
  obtain ⟨qf, hqf⟩ : ∃ qf : Nat → Nat, qf = (fun i => match i with | 0 => v1.heap.size | _ => v3.heap.size) := ⟨_, rfl⟩
  rw [← hpf, ← hqf] at HLS
  clear hpf hqf HZ1 HZ2 HZ3 HZ4 HS0_size
  go_loopw [6, 7, 32] (fun vl vw i wr => ∃ (k : Nat) (p q : Nat → Nat) (T : Nat → List UInt8) (e : Nat → Nat) (V : Nat → Value) (D : List UInt8), k ≤ K ∧ i = .int .i64 k ∧ Hid (Ls w wr gl gm p q T e V vl vw D) ∧ Hid (∀ i, i < 2 → (T i).length ≤ tot st k) ∧ D.length ≤ 1048579) (fun _ _ i _ => K - (intOf i).toNat)
  case atStart => exact ⟨0, pf, qf, fun _ => [], fun _ => 0, fun _ => .slice none 0 0, [], by omega, rfl, HLS, fun _ _ => Nat.zero_le _, by simp⟩
  case round =>
    clear HLS
    obtain ⟨k, p, q, T, e, V, D, hk, rfl, HS, HTL, hDl⟩ := hrel
    by_cases hlt : k < K
    · have hkp : k < st.length := by rw [← HK.out]; exact hlt
      have hcells : ∃ g o, a = some ⟨g, o, none⟩ ∧ g < w.heap.size ∧ w.cell? ⟨g, o + k * 3, none⟩ = some (.int .i64 st[k].who) ∧ w.cell? ⟨g, o + k * 3 + 1, none⟩ = some (.int .i64 st[k].act) ∧ w.cell? ⟨g, o + k * 3 + 2, none⟩ = some (.slice st[k].ap st[k].bytes.length st[k].cp) ∧ Bts st[k].ap st[k].bytes w ∧ (st[k].ap = none → st[k].cp = 0) := by
        rcases HST.out with h | ⟨g, o, h1, h2, h3⟩
        · rw [h] at hkp
          simp at hkp
        · exact ⟨g, o, h1, h2, h3 k hkp⟩
      obtain ⟨gs, os, rfl, hgs, hc0, hc1, hc2, hbt, hnn⟩ := hcells
      have HTN : Hid (tot st (k + 1) = tot st k + st[k].bytes.length) := tot_next st k hkp
      have HTM : Hid (tot st (k + 1) ≤ 1048576) := Nat.le_trans (tot_le st (k + 1)) HTT.out
      obtain ⟨x, hx⟩ : ∃ x, x = st[k] := ⟨_, rfl⟩
      rw [← hx] at hc0 hc1 hc2 hbt hnn HTN
      clear hx
      obtain ⟨who, act, pa, pl, pc⟩ := x
      dsimp only at hc0 hc1 hc2 hbt hnn HTN
      obtain ⟨n, hn⟩ : ∃ n, n = pl.length := ⟨_, rfl⟩
      rw [← hn] at hc2
      have HNN : Hid (n = pl.length) := hn
      have HNC : Hid (pa = none → pc = 0) := hnn
      have HBT : Hid (Bts pa pl w) := hbt
      have hn20 : n ≤ 1048576 := by have h1 := HTN.out; have h2 := HTM.out; omega
      clear hn hbt hnn
      have c0 := (HS.out.bel.cell (p := ⟨gs, os + k * 3, none⟩) hgs).trans hc0
      have c1 := (HS.out.bel.cell (p := ⟨gs, os + k * 3 + 1, none⟩) hgs).trans hc1
      have c2 := (HS.out.bel.cell (p := ⟨gs, os + k * 3 + 2, none⟩) hgs).trans hc2
      clear hc0 hc1 hc2 hgs
      obtain ⟨wo, hwo⟩ : ∃ wo, wo = wr.alloc (.cells #[.int .i64 who, .int .i64 act, .slice pa n pc] 44) := ⟨_, rfl⟩
      have HS1 : Hid (Ls w wo gl gm p q T e V u6 u7 D) := by rw [hwo]; exact HS.out.below ((Below.refl _ _).alloc (Nat.le_refl _) _)
      have HO1 : Hid (Lies wo wr.heap.size #[.int .i64 who, .int .i64 act, .slice pa n pc] 44) := by rw [hwo]; exact Lies.new wr _ _
      have HWO : Hid (wr.alloc (.cells #[.int .i64 who, .int .i64 act, .slice pa n pc] 44) = wo) := hwo.symm
      have hsw : wr.heap.size < wo.heap.size := HO1.out.lt
      have HTL1 : Hid (∀ i, i < 2 → (T i).length ≤ tot st (k + 1)) := fun i hi => Nat.le_trans (HTL.out i hi) (by have := HTN.out; omega)
      clear hwo HS
      by_cases hw : 0 ≤ who ∧ who ≤ 1
      · obtain ⟨i, hi⟩ : ∃ i : Nat, who = (i : Int) := ⟨who.toNat, by omega⟩
        subst hi
        have hi2 : i < 2 := by omega
        have i0 : ¬ (i : Int) < 0 := by omega
        have i1 : ¬ (1 : Int) < (i : Int) := by omega
        have ib0 : (0 : Int) ≤ (i : Int) := by omega
        have ib2 : (i : Int) < 2 := by omega
        clear hw
        by_cases a0 : act = 0
        · have na0 : (act == 0) = true := by simpa using a0
          clear a0
          obtain ⟨a6, c6, hu6⟩ := own_shape HS1.out.ol
          subst hu6
          have hc6 : c6 ≤ 9223372036854775807 := own_cap HS1.out.ol
          go_wp2_with fail
          rw [HWO.out]
          refine Calls.mono (lent_any pa pl pc n wo HNN.out (HBT.out.below HS1.out.bel) (by rw [← HNN.out]; omega) HNC.out) ?_
          rintro r1 w1 ⟨gi, ci, rfl, hl1, hb1⟩
          have HS2 : Hid (Ls w w1.drew gl gm p q T e V (.slice a6 D.length c6) u7 D) := HS1.out.below (hb1.drew)
          have HO2 : Hid (Lies w1.drew wr.heap.size #[.int .i64 (i : Int), .int .i64 act, .slice pa n pc] 44) := HO1.out.below (hb1.drew) HO1.out.lt
          have HL1 : Hid (LentB w1.drew wo.heap.size gi ci pl) := hl1
          have HBO : Hid (Below wo.heap.size wo w1.drew) := hb1.drew
          obtain ⟨q1, q2, q3, q4⟩ := hl1.cap
          have HQ : Hid (pl.length + 70 ≤ ci ∧ wo.heap.size ≤ gi ∧ gi < w1.drew.heap.size) := ⟨q1, q3, q4⟩
          have x0 : w1.drew.cell? ⟨wr.heap.size, 0, none⟩ = some (.int .i64 (i : Int)) := HO2.out.cell 0
          have x1 : w1.drew.cell? ⟨gm, i, none⟩ = some (.pointer (some ⟨q i, 0, none⟩)) := HS2.out.mcell i hi2
          have x2 : w1.drew.cell? ⟨wr.heap.size, 2, none⟩ = some (.slice pa n pc) := HO2.out.cell 2
          have hti : (T i).length + pl.length ≤ tot st (k + 1) := by have h1 := HTL.out i hi2; have h2 := HTN.out; omega
          have HFD : Hid (∀ wx : World, RdAt wx (p i) (T i) (e i) → Bts (some ⟨gi, 0, none⟩) pl wx → gi ≠ p i → Calls Try.prog 17 #[.pointer (some ⟨p i, 0, none⟩), .slice (some ⟨gi, 0, none⟩) n ci] wx fun r w' => ∃ v, r = .returned (.tuple #[v, .int .i64 (fE (T i) (e i) pl : Nat)]) ∧
              w'.ownsRow wx.heap.size 5 1 v (fL (T i) (e i) pl).length (cellsB (fL (T i) (e i) pl)) ∧ RdAt w' (p i) (fT (T i) (e i) pl) (fE (T i) (e i) pl) ∧ But (p i) wx w') := fun wx hr hb hne => feed_all (p i) (T i) (e i) _ pl ci n wx hr HNN.out hb (by have := HTM.out; omega) (fun _ ad e => by
            injection e with e
            rw [← e]
            exact hne)
          have HRF : Hid (∀ wx : World, RrAt wx w.heap.size (q i) (T i) (e i) (V i) → Below w.heap.size w wx → Calls Try.prog 19 #[.pointer (some ⟨q i, 0, none⟩), .slice pa n pc] wx fun r w' => ∃ vo v', r = .returned (.tuple #[vo, .int .i64 (fE (T i) (e i) pl : Nat)]) ∧ w'.ownsRow wx.heap.size 5 1 vo (fL (T i) (e i) pl).length (cellsB (fL (T i) (e i) pl)) ∧ RrAt w' w.heap.size (q i) (fT (T i) (e i) pl) (fE (T i) (e i) pl) v' ∧
              (∀ k, v'.ownBlock = some k → (V i).ownBlock = some k ∨ wx.heap.size ≤ k) ∧ Ap vo v' ∧ But2 (q i) (if e i = 0 then (V i).ownBlock else none) wx w') := fun wx hr hb => rrfeed_all w.heap.size (q i) (T i) (e i) (V i) pa pl pc n wx hr hb.size HNN.out (HBT.out.below hb) (bts_blk HBT.out) (HS1.out.ge.2.2 i hi2).2 (by have := HTM.out; omega)
          have HE0 : Hid (fE (T i) (e i) pl = 0 → e i = 0) := fE_zero _ _ _
          have hT1 := fT_le (T i) (e i) pl
          have hL1 := fL_le (T i) (e i) pl
          generalize fE (T i) (e i) pl = E1 at HFD HRF HE0
          generalize fT (T i) (e i) pl = T1 at HFD HRF hT1
          generalize fL (T i) (e i) pl = D1 at HFD HRF hL1
          have HT1 : Hid (T1.length ≤ tot st (k + 1)) := Nat.le_trans hT1 hti
          have hD1 : D1.length ≤ 1048579 := by have h1 := HNN.out; omega
          obtain ⟨R, hRe⟩ : ∃ R, R = (if e i = 0 then (V i).ownBlock else none) := ⟨_, rfl⟩
          have HRR : Hid (∀ k, R = some k → e i = 0 ∧ (V i).ownBlock = some k) := fun k hk => by
            rw [hRe] at hk
            split at hk
            · exact ⟨by assumption, hk⟩
            · cases hk
          rw [← hRe] at HRF
          clear hl1 hb1 q1 q3 q4 hT1 hL1 hti hRe
          go_wp2_with fail
          refine wp_region_late (fun w' => Three w' ⟨wr.heap.size, 0, none⟩ ⟨gm, i, none⟩ ⟨wr.heap.size, 2, none⟩ (.int .i64 (i : Int)) (.pointer (some ⟨q i, 0, none⟩)) (.slice pa n pc)) 11 (by kernel_rfl) ⟨x0, x1, x2⟩ (fun hHeld => ?_)
          clear x0 x1 x2
          refine wpAnyE_take (i := 0) (d := some 77) (v := ?_) rfl (by kernel_rfl) (by kernel_rfl) (by kernel_rfl) (by kernel_rfl) (fun _ _ _ h => h) rfl rfl ?hy (by assumption) ?_
          case hy => (intro w' hSw; have e0 := hSw.e0; have e1 := hSw.e1; have e2 := hSw.e2; clear hSw; go_simp <;> (try with_reducible rfl))
          simp only [Act.put, List.setIfInBounds_toArray, List.set_cons_zero, List.set_cons_succ]
          refine wpAnyE_take (i := 1) (d := some 78) (v := ?_) rfl (by kernel_rfl) (by kernel_rfl) (by kernel_rfl) (by kernel_rfl) (fun _ _ _ h => h) rfl rfl ?hy (by assumption) ?_
          case hy => (intro w' hSw; have e0 := hSw.e0; have e1 := hSw.e1; have e2 := hSw.e2; clear hSw; go_simp <;> (try with_reducible rfl))
          simp only [Act.put, List.setIfInBounds_toArray, List.set_cons_zero, List.set_cons_succ]
          refine wpAnyE_take (i := 2) (d := some 79) (v := ?_) rfl (by kernel_rfl) (by kernel_rfl) (by kernel_rfl) (by kernel_rfl) (fun _ _ _ h => h) rfl rfl ?hy (by assumption) ?_
          case hy => (intro w' hSw; have e0 := hSw.e0; have e1 := hSw.e1; have e2 := hSw.e2; clear hSw; go_simp <;> (try with_reducible rfl))
          simp only [Act.put, List.setIfInBounds_toArray, List.set_cons_zero, List.set_cons_succ]
          refine wpAnyE_take (i := 3) (d := some 80) (v := ?_) rfl (by kernel_rfl) (by kernel_rfl) (by kernel_rfl) (by kernel_rfl) (fun _ _ _ h => h) rfl rfl ?hy (by assumption) ?_
          case hy => (intro w' hSw; have e0 := hSw.e0; have e1 := hSw.e1; have e2 := hSw.e2; clear hSw; go_simp <;> (try with_reducible rfl))
          simp only [Act.put, List.setIfInBounds_toArray, List.set_cons_zero, List.set_cons_succ]
          refine wpAnyE_take (i := 4) (d := some 81) (v := ?_) rfl (by kernel_rfl) (by kernel_rfl) (by kernel_rfl) (by kernel_rfl) (fun _ _ _ h => h) rfl rfl ?hy (by assumption) ?_
          case hy => (intro w' hSw; have e0 := hSw.e0; have e1 := hSw.e1; have e2 := hSw.e2; clear hSw; go_simp <;> (try with_reducible rfl))
          simp only [Act.put, List.setIfInBounds_toArray, List.set_cons_zero, List.set_cons_succ]
          refine wpAnyE_take (i := 5) (d := some 82) (v := ?_) rfl (by kernel_rfl) (by kernel_rfl) (by kernel_rfl) (by kernel_rfl) (fun _ _ _ h => h) rfl rfl ?hy (by assumption) ?_
          case hy => (intro w' hSw; have e0 := hSw.e0; have e1 := hSw.e1; have e2 := hSw.e2; clear hSw; go_simp <;> (try with_reducible rfl))
          simp only [Act.put, List.setIfInBounds_toArray, List.set_cons_zero, List.set_cons_succ]
          refine wpAnyE_one (i := 6) (by kernel_rfl) rfl rfl ?_
          go_simp
          clear hHeld
          generalize w1.drew = wd at HS2 HO2 HL1 HBO HQ ⊢
          refine Calls.mono (HRF.out wd (HS2.out.rr i hi2) HS2.out.bel) ?_
          rintro r2 w2 ⟨vo, V1, rfl, ho2, hr2, hvb2, hap2, hbu2⟩
          have hqk := (HS2.out.rr i hi2).lies
          obtain ⟨cpk, hpk⟩ := HS2.out.rdk i hi2
          have hRk : ∀ j cs t, Lies wd j cs t → t ≠ 5 → some j ≠ R := fun j cs t hl h5 e => by
            obtain ⟨e0, e1⟩ := HRR.out j e.symm
            exact own_apart ((HS2.out.rr i hi2).own e0).2 hl h5 j e1 rfl
          have hpq : p i ≠ q i := fun e => by rw [e] at hpk; exact absurd (lies_kind hpk hqk) (by decide)
          have hRb : ∀ j, R = some j → w.heap.size ≤ j ∧ j < wo.heap.size := fun j hj => (HS1.out.rr i hi2).blk j (HRR.out j hj).2
          have HO3 : Hid (Lies w2 wr.heap.size #[.int .i64 (i : Int), .int .i64 act, .slice pa n pc] 44) := hbu2.lies HO2.out (fun e => by have h := HO2.out; rw [e] at h; exact absurd (lies_kind h hqk) (by decide)) (hRk _ _ _ HO2.out (by decide))
          have hma : w2.cell? ⟨gm, i, none⟩ = some (.pointer (some ⟨q i, 0, none⟩)) := (World.cell?_of_block (hbu2.block gm HS2.out.ma.lt (fun e => by have h := HS2.out.ma; rw [e] at h; exact absurd (lies_kind h hqk) (by decide)) (hRk _ _ _ HS2.out.ma (by decide)))).trans (HS2.out.mcell i hi2)
          have hla : w2.cell? ⟨gl, i, none⟩ = some (.pointer (some ⟨p i, 0, none⟩)) := (World.cell?_of_block (hbu2.block gl HS2.out.la.lt (fun e => by have h := HS2.out.la; rw [e] at h; exact absurd (lies_kind h hqk) (by decide)) (hRk _ _ _ HS2.out.la (by decide)))).trans (HS2.out.lcell i hi2)
          have HRd3 : Hid (RdAt w2 (p i) (T i) (e i)) := (HS2.out.rd i hi2).of (hbu2.block _ hpk.lt hpq (hRk _ _ _ hpk (by decide)))
          have hgiq : gi ≠ q i := fun e => own_apart HL1.out.own hqk (by decide) gi rfl e
          have hgip : gi ≠ p i := fun e => own_apart HL1.out.own hpk (by decide) gi rfl e
          have HL3 : Hid (LentB w2 wo.heap.size gi ci pl) := by
            refine own_keep HL1.out (fun j hj => ?_)
            have e : gi = j := by injection hj
            subst e
            exact hbu2.block gi HQ.out.2.2 hgiq (fun e => by have := (hRb gi e.symm).2; have := HQ.out.2.1; omega)
          have HP3 : Hid (w2.ownsRow w.heap.size 5 1 (.slice a6 D.length c6) D.length (cellsB D)) := hbu2.own HS2.out.ol (fun j hj => ⟨own_apart HS2.out.ol hqk (by decide) j hj, fun e => (HS2.out.lV i hi2).1 j hj (HRR.out j e.symm).2⟩)
          have HW3 : Hid (w2.ownsRow w.heap.size 5 1 u7 D.length (cellsB D)) := hbu2.own HS2.out.ow (fun j hj => ⟨own_apart HS2.out.ow hqk (by decide) j hj, fun e => (HS2.out.lV i hi2).2 j hj (HRR.out j e.symm).2⟩)
          have HB2 : Hid (Below w.heap.size w w2) := HS2.out.bel.trans (hbu2.belowB HS2.out.bel.size (HS2.out.ge.2.2 i hi2).2 (fun j hj => (hRb j hj).1))
          have HBU2 : Hid (But2 (q i) R wd w2) := hbu2
          have HR2 : Hid (RrAt w2 w.heap.size (q i) T1 E1 V1) := hr2
          have HVB2 : Hid (∀ j, V1.ownBlock = some j → (V i).ownBlock = some j ∨ wd.heap.size ≤ j) := hvb2
          have HAP2 : Hid (Ap vo V1) := hap2
          have HVO2 : Hid (w2.ownsRow wd.heap.size 5 1 vo D1.length (cellsB D1)) := ho2
          have y0 : w2.cell? ⟨wr.heap.size, 0, none⟩ = some (.int .i64 (i : Int)) := HO3.out.cell 0
          have y2 : w2.cell? ⟨wr.heap.size, 2, none⟩ = some (.slice pa n pc) := HO3.out.cell 2
          have hS : Three w2 ⟨wr.heap.size, 0, none⟩ ⟨gm, i, none⟩ ⟨wr.heap.size, 2, none⟩ (.int .i64 (i : Int)) (.pointer (some ⟨q i, 0, none⟩)) (.slice pa n pc) := ⟨y0, hma, y2⟩
          have HGI : Hid (gi ≠ q i ∧ gi ≠ p i ∧ p i ≠ q i) := ⟨hgiq, hgip, hpq⟩
          have hd2 : wd.heap.size ≤ w2.heap.size := hbu2.size
          clear ho2 hr2 hvb2 hap2 hbu2 hqk hpk hRk hpq hRb hgiq hgip HRF
          refine ⟨hS, ?_⟩
          refine wpAnyE_take (i := 7) (d := some 76) (v := ?_) rfl (by kernel_rfl) (by kernel_rfl) (by kernel_rfl) (by kernel_rfl) (fun _ _ _ h => h) rfl rfl ?hy (by assumption) ?_
          case hy => (intro w' hSw; have e0 := hSw.e0; have e1 := hSw.e1; have e2 := hSw.e2; clear hSw; go_simp <;> (try with_reducible rfl))
          simp only [Act.put, List.setIfInBounds_toArray, List.set_cons_zero, List.set_cons_succ]
          refine wpAnyE_take (i := 8) (d := some 84) (v := ?_) rfl (by kernel_rfl) (by kernel_rfl) (by kernel_rfl) (by kernel_rfl) (fun _ _ _ h => h) rfl rfl ?hy (by assumption) ?_
          case hy => (intro w' hSw; have e0 := hSw.e0; have e1 := hSw.e1; have e2 := hSw.e2; clear hSw; go_simp <;> (try with_reducible rfl))
          simp only [Act.put, List.setIfInBounds_toArray, List.set_cons_zero, List.set_cons_succ]
          refine wpAnyE_take (i := 9) (d := some 85) (v := ?_) rfl (by kernel_rfl) (by kernel_rfl) (by kernel_rfl) (by kernel_rfl) (fun _ _ _ h => h) rfl rfl ?hy (by assumption) ?_
          case hy => (intro w' hSw; have e0 := hSw.e0; have e1 := hSw.e1; have e2 := hSw.e2; clear hSw; go_simp <;> (try with_reducible rfl))
          simp only [Act.put, List.setIfInBounds_toArray, List.set_cons_zero, List.set_cons_succ]
          refine wpAnyE_take (i := 10) (d := some 14) (v := ?_) rfl (by kernel_rfl) (by kernel_rfl) (by kernel_rfl) (by kernel_rfl) (fun _ _ _ h => h) rfl rfl ?hy (by assumption) ?_
          case hy => (intro w' hSw; have e0 := hSw.e0; have e1 := hSw.e1; have e2 := hSw.e2; clear hSw; go_simp <;> (try with_reducible rfl))
          simp only [Act.put, List.setIfInBounds_toArray, List.set_cons_zero, List.set_cons_succ]
          refine wpAnyE_one (i := 11) (by kernel_rfl) rfl rfl ?_
          go_simp
          refine wpAnyE_done (by kernel_rfl) ?_ _
          clear hS hma y2
          go_wp2_with fail
          refine Calls.mono (HFD.out w2 HRd3.out HL3.out.bts HGI.out.2.1) ?_
          rintro r3 w3 ⟨vp, rfl, ho3, hr3, hbu3⟩
          obtain ⟨cp3, hp3⟩ : ∃ cs, Lies w2 (p i) cs 48 := by
            obtain ⟨_, x, y, z, hl, _⟩ := HRd3.out
            exact ⟨_, hl⟩
          have hs3 : w2.heap.size ≤ w3.heap.size := hbu3.size
          have HL4 : Hid (LentB w3 wo.heap.size gi ci pl) := by
            refine own_keep HL3.out (fun j hj => ?_)
            have e : gi = j := by injection hj
            subst e
            exact hbu3.block gi (by have := HQ.out.2.2; omega) HGI.out.2.1
          have HO4 : Hid (Lies w3 wr.heap.size #[.int .i64 (i : Int), .int .i64 act, .slice pa n pc] 44) := hbu3.lies HO3.out (fun e => by have h := HO3.out; rw [e] at h; exact absurd (lies_kind h hp3) (by decide))
          have HP4 : Hid (w3.ownsRow w.heap.size 5 1 (.slice a6 D.length c6) D.length (cellsB D)) := own_keep HP3.out (fun j hj => hbu3.block j (HP3.out.lt j hj).2 (own_apart HP3.out hp3 (by decide) j hj))
          have HW4 : Hid (w3.ownsRow w.heap.size 5 1 u7 D.length (cellsB D)) := own_keep HW3.out (fun j hj => hbu3.block j (HW3.out.lt j hj).2 (own_apart HW3.out hp3 (by decide) j hj))
          have HVO4 : Hid (w3.ownsRow wd.heap.size 5 1 vo D1.length (cellsB D1)) := own_keep HVO2.out (fun j hj => hbu3.block j (HVO2.out.lt j hj).2 (own_apart HVO2.out hp3 (by decide) j hj))
          have HVP4 : Hid (w3.ownsRow w2.heap.size 5 1 vp D1.length (cellsB D1)) := ho3
          have HB3 : Hid (Below w.heap.size w w3) := HB2.out.trans (hbu3.below (HS1.out.ge.2.2 i hi2).1 HB2.out.size)
          have HBU3 : Hid (But (p i) w2 w3) := hbu3
          have HR3 : Hid (RdAt w3 (p i) T1 E1) := hr3
          have HIN : Hid (w3.ownsRow wo.heap.size 5 1 (.slice (some ⟨gi, 0, none⟩) n ci) n (cellsB pl)) := by
            have h := HL4.out.own
            rw [← HNN.out] at h
            exact h
          have HKP : Hid (Calls Try.prog 14 #[.slice (some ⟨gi, 0, none⟩) n ci, .slice pa n pc] w3 fun r w' => r = .returned (.bool true) ∧ w' = w3) := kept_any wo.heap.size gi ci pl pa pc n w3 HNN.out HL4.out (HBT.out.below HB3.out) (by rw [← HNN.out]; omega)
          have cvp := own_conv ho3
          have cvo := own_conv HVO4.out
          have cvl := own_conv HP4.out
          have cvw := own_conv HW4.out
          have z2 : w3.cell? ⟨wr.heap.size, 2, none⟩ = some (.slice pa n pc) := HO4.out.cell 2
          clear ho3 hr3 hbu3 hp3 hla y0 HFD HL3 HO3 HP3 HW3 HRd3
          go_wp2_with (go_at_call 14; refine Calls.mono HKP.out ?_; rintro r4 w4 ⟨rfl, rfl⟩)
          clear cvp cvo cvl cvw z2 HKP
          refine Calls.mono (spoil_any wo.heap.size (some ⟨gi, 0, none⟩) n ci _ _ HIN.out (by omega) q2) ?_
          rintro r5 w5 ⟨rfl, hg5⟩
          have HG5 : Hid (w4.grownBy w5 (Value.slice (some ⟨gi, 0, none⟩) n ci).ownBlock) := hg5
          have hg5b : ∀ j, j < w4.heap.size → j ≠ gi → w5.heap[j]? = w4.heap[j]? := fun j hj hne => hg5.block j hj (fun e => hne (by injection e))
          have HOL : Hid (∀ j, (Value.slice a6 D.length c6).ownBlock = some j → w.heap.size ≤ j ∧ j < wo.heap.size) := fun j hj => HS1.out.ol.lt j hj
          have HP5 : Hid (w5.ownsRow w.heap.size 5 1 (.slice a6 D.length c6) D.length (cellsB D)) := own_keep HP4.out (fun j hj => hg5b j (HP4.out.lt j hj).2 (by have h1 := (HOL.out j hj).2; have h2 := HQ.out.2.1; omega))
          have HVO5 : Hid (w5.ownsRow wd.heap.size 5 1 vo D1.length (cellsB D1)) := own_keep HVO4.out (fun j hj => hg5b j (HVO4.out.lt j hj).2 (by have h1 := (HVO4.out.lt j hj).1; have h2 := HQ.out.2.2; omega))
          have HVP5 : Hid (w5.ownsRow w2.heap.size 5 1 vp D1.length (cellsB D1)) := own_keep HVP4.out (fun j hj => hg5b j (HVP4.out.lt j hj).2 (by have h1 := (HVP4.out.lt j hj).1; have h2 := HQ.out.2.2; omega))
          clear hg5 hg5b HIN
          go_wp2_with fail
          refine Calls.mono (spoil_any w.heap.size a6 D.length c6 _ _ HP5.out (by omega) hc6) ?_
          rintro r6 w6 ⟨rfl, hg6⟩
          have hwd : wo.heap.size ≤ wd.heap.size := HBO.out.size
          have HVO6 : Hid (w6.ownsRow wd.heap.size 5 1 vo D1.length (cellsB D1)) := own_keep HVO5.out (fun j hj => hg6.block j (HVO5.out.lt j hj).2 (fun e => by have h1 := (HVO5.out.lt j hj).1; have h2 := (HOL.out j e.symm).2; omega))
          have HVP6 : Hid (w6.ownsRow w2.heap.size 5 1 vp D1.length (cellsB D1)) := own_keep HVP5.out (fun j hj => hg6.block j (HVP5.out.lt j hj).2 (fun e => by have h1 := (HVP5.out.lt j hj).1; have h2 := (HOL.out j e.symm).2; omega))
          have HLN : Hid (Ls w w6 gl gm p q (upd T i T1) (upd e i E1) (upd V i V1) vp vo D1) := by
            have s5 : w4.heap.size ≤ w5.heap.size := HG5.out.size
            have s6 : w5.heap.size ≤ w6.heap.size := hg6.size
            have hgi := HQ.out
            have g5 : ∀ j, j < w4.heap.size → j ≠ gi → w5.heap[j]? = w4.heap[j]? := fun j hj hne => HG5.out.block j hj (fun e => hne (by injection e))
            have k2 : ∀ j, j < w4.heap.size → j ≠ gi → some j ≠ (Value.slice a6 D.length c6).ownBlock → w6.heap[j]? = w4.heap[j]? := fun j hj h1 h2 => (hg6.block j (by omega) h2).trans (g5 j hj h1)
            have k1 : ∀ j, j < w2.heap.size → j ≠ p i → j ≠ gi → some j ≠ (Value.slice a6 D.length c6).ownBlock → w6.heap[j]? = w2.heap[j]? := fun j hj h0 h1 h2 => (k2 j (by omega) h1 h2).trans (HBU3.out.block j hj h0)
            refine HS1.out.fed hi2 HRR.out HE0.out hgi.2.1 hgi.2.2 hd2 hs3 (by omega) HR2.out HVB2.out HVO2.out HAP2.out HR3.out HVP4.out ?_ k1 k2 ?_
            · intro j hj h1 h2 h3 h4
              exact (k1 j (by omega) h3 (by omega) h4).trans ((HBU2.out.block j (by omega) h1 h2).trans (HBO.out.block j hj))
            · have hb := HB3.out.size
              exact (HB3.out.grown HG5.out hb (fun j hj => by have e : gi = j := by injection hj
                                                              have := HS1.out.bel.size; omega)).grown hg6 (by omega) (fun j hj => (HOL.out j hj).1)
          have cvp := own_conv HVP6.out
          have cvo := own_conv HVO6.out
          have HTL2 : Hid (∀ j, j < 2 → (upd T i T1 j).length ≤ tot st (k + 1)) := fun j hj => by
            unfold upd
            split
            · exact HT1.out
            · exact HTL1.out j hj
          clear hg6 HG5
          go_wp2
          go_roundw
          case rel => exact ⟨k + 1, p, q, upd T i T1, upd e i E1, upd V i V1, D1, by omega, by go_num, HLN, HTL2, hD1⟩
          case measure => simp [intOf] <;> omega
        · have na0 : (act == 0) = false := by simpa using a0
          by_cases a1 : act = 1
          · have na1 : (act == 1) = true := by simpa using a1
            clear a0 a1
            have HCL : Hid (∀ m, Calls Try.prog 18 #[.pointer (some ⟨p i, 0, none⟩)] (wo.drewN m) fun r w' => r = .returned (.int .i64 (clE (T i) (e i) : Nat)) ∧ w' = wo.drewN m) := fun m => close_any (p i) (T i) (e i) (wo.drewN m) ((HS1.out.below (drewN_below wo m)).rd i hi2)
            have HRC : Hid (∀ m, Calls Try.prog 20 #[.pointer (some ⟨q i, 0, none⟩)] (wo.drewN m) fun r w' => r = .returned (.int .i64 (clE (T i) (e i) : Nat)) ∧ w' = wo.drewN m) := fun m => rrclose_any w.heap.size (q i) (T i) (e i) (V i) (wo.drewN m) ((HS1.out.below (drewN_below wo m)).rr i hi2) (by have h1 := HTL1.out i hi2; have h2 := HTM.out; omega)
            have x0 : wo.cell? ⟨wr.heap.size, 0, none⟩ = some (.int .i64 (i : Int)) := HO1.out.cell 0
            have x1 : wo.cell? ⟨gl, i, none⟩ = some (.pointer (some ⟨p i, 0, none⟩)) := HS1.out.lcell i hi2
            have x2 : wo.cell? ⟨gm, i, none⟩ = some (.pointer (some ⟨q i, 0, none⟩)) := HS1.out.mcell i hi2
            generalize clE (T i) (e i) = CE at HCL HRC
            go_wp2_with fail
            rw [HWO.out]
            go_quiet ((first | (go_at_call 18; exact Calls.quiet_of_same (HCL.out _)) | (go_at_call 20; exact Calls.quiet_of_same (HRC.out _))))
            have HS2 : Hid (Ls w (wo.drewN nq) gl gm p q T e V u6 u7 D) := HS1.out.below (drewN_below wo nq)
            go_wp2
            go_roundw
            case rel => exact ⟨k + 1, p, q, T, e, V, D, by omega, by go_num, HS2, HTL1, hDl⟩
            case measure => simp [intOf] <;> omega
          · have na1 : (act == 1) = false := by simpa using a1
            by_cases a2 : act = 2
            · have na2 : (act == 2) = true := by simpa using a2
              clear a0 a1 a2
              go_wp2_with fail
              rw [HWO.out]
              refine wp_region_late (fun w' => OneC w' ⟨wr.heap.size, 0, none⟩ (.int .i64 (i : Int))) 4 (by kernel_rfl) ⟨HO1.out.cell 0⟩ (fun hHeld => ?_)
              refine wpAnyE_take (i := 0) (d := some 145) (v := ?_) rfl (by kernel_rfl) (by kernel_rfl) (by kernel_rfl) (by kernel_rfl) (fun _ _ _ h => h) rfl rfl ?hy (by assumption) ?_
              case hy => (intro w' hSw; have e0 := hSw.e0; clear hSw; go_simp <;> (try with_reducible rfl))
              simp only [Act.put, List.setIfInBounds_toArray, List.set_cons_zero, List.set_cons_succ]
              refine wpAnyE_take (i := 1) (d := some 146) (v := ?_) rfl (by kernel_rfl) (by kernel_rfl) (by kernel_rfl) (by kernel_rfl) (fun _ _ _ h => h) rfl rfl ?hy (by assumption) ?_
              case hy => (intro w' hSw; have e0 := hSw.e0; clear hSw; go_simp <;> (try with_reducible rfl))
              simp only [Act.put, List.setIfInBounds_toArray, List.set_cons_zero, List.set_cons_succ]
              refine wpAnyE_one (i := 2) (by kernel_rfl) rfl rfl ?_
              go_simp
              refine Calls.mono (new_any wo.drew) ?_
              rintro r1 w1 ⟨rfl, hr1, hb1⟩
              have hb1' : Below wo.heap.size wo w1 := ((Below.refl _ wo).drew).trans hb1
              have hO2 : Lies w1 wr.heap.size #[.int .i64 (i : Int), .int .i64 act, .slice pa n pc] 44 := HO1.out.below hb1' HO1.out.lt
              have hA2 := HS1.out.la.below hb1' HS1.out.la.lt
              have x1 : w1.cell? ⟨gl, i, none⟩ = some (.pointer (some ⟨p i, 0, none⟩)) := (hb1'.cell (p := ⟨gl, i, none⟩) HS1.out.la.lt).trans (HS1.out.lcell i hi2)
              have f1 := hA2.frozen i
              obtain ⟨w2, hw2⟩ : ∃ w2, w2 = w1.setCell ⟨gl, i, none⟩ (.pointer (some ⟨wo.heap.size, 0, none⟩)) := ⟨_, rfl⟩
              have HW2 : Hid (w1.setCell ⟨gl, i, none⟩ (.pointer (some ⟨wo.heap.size, 0, none⟩)) = w2) := hw2.symm
              have HA2 : Hid (Lies w2 gl #[.pointer (some ⟨upd p i wo.heap.size 0, 0, none⟩), .pointer (some ⟨upd p i wo.heap.size 1, 0, none⟩)] 38) := by rw [hw2]; exact la_set hA2 i _ hi2
              have HC2 : Hid (∀ j, j < wo.heap.size → j ≠ gl → w2.heap[j]? = wo.heap[j]?) := fun j hj hne => by rw [hw2]; exact (Below.heap_setCell _ _ _ _ hne).trans (hb1'.block j hj)
              have hRl : wo.heap.size < w1.heap.size := hr1.lt
              have HR2 : Hid (RdAt w2 wo.heap.size [] 0) := by
                rw [hw2]
                exact hr1.of (Below.heap_setCell _ _ _ _ (by have := HS1.out.la.lt; show wo.heap.size ≠ gl; omega))
              have hz2 : wo.heap.size < w2.heap.size := by rw [hw2, World.size_setCell]; exact hRl
              have HOP2 : Hid (Lies w2 wr.heap.size #[.int .i64 (i : Int), .int .i64 act, .slice pa n pc] 44) := by
                rw [hw2]
                refine hO2.set_other (fun e => ?_) _
                have e' : wr.heap.size = gl := e
                rw [e'] at hO2
                exact absurd (lies_kind hO2 hA2) (by decide)
              have HT2 : Hid (w2.os = wo.os ∧ w2.tape = wo.tape ∧ w2.output = wo.output) := by rw [hw2]; exact ⟨hb1'.os, hb1'.tape, hb1'.output⟩
              have hcc : OneC w1 ⟨wr.heap.size, 0, none⟩ (.int .i64 (i : Int)) := ⟨hO2.cell 0⟩
              clear hb1 hw2 hO2 hA2 hr1
              refine ⟨hcc, ?_⟩
              refine wpAnyE_one (i := 3) (by kernel_rfl) rfl rfl ?_
              go_simp
              refine wpAnyE_one (i := 4) (by kernel_rfl) rfl rfl ?_
              go_simp
              rw [HW2.out]
              refine wpAnyE_done (by kernel_rfl) ?_ _
              clear hcc hHeld x1 f1 HW2
              go_wp2_with fail
              have HM2 : Hid (Lies w2 gm #[.pointer (some ⟨q 0, 0, none⟩), .pointer (some ⟨q 1, 0, none⟩)] 40) := (HC2.out gm HS1.out.ma.lt (fun e => by have h := HS1.out.ma; rw [e] at h; exact absurd (lies_kind h HS1.out.la) (by decide))).trans HS1.out.ma
              have xm2 : w2.cell? ⟨gm, i, none⟩ = some (.pointer (some ⟨q i, 0, none⟩)) := (World.cell?_of_block (HC2.out gm HS1.out.ma.lt (fun e => by have h := HS1.out.ma; rw [e] at h; exact absurd (lies_kind h HS1.out.la) (by decide)))).trans (HS1.out.mcell i hi2)
              refine wp_region_late (fun w' => OneC w' ⟨wr.heap.size, 0, none⟩ (.int .i64 (i : Int))) 4 (by kernel_rfl) ⟨HOP2.out.cell 0⟩ (fun hHeld => ?_)
              refine wpAnyE_take (i := 0) (d := some 149) (v := ?_) rfl (by kernel_rfl) (by kernel_rfl) (by kernel_rfl) (by kernel_rfl) (fun _ _ _ h => h) rfl rfl ?hy (by assumption) ?_
              case hy => (intro w' hSw; have e0 := hSw.e0; clear hSw; go_simp <;> (try with_reducible rfl))
              simp only [Act.put, List.setIfInBounds_toArray, List.set_cons_zero, List.set_cons_succ]
              refine wpAnyE_take (i := 1) (d := some 150) (v := ?_) rfl (by kernel_rfl) (by kernel_rfl) (by kernel_rfl) (by kernel_rfl) (fun _ _ _ h => h) rfl rfl ?hy (by assumption) ?_
              case hy => (intro w' hSw; have e0 := hSw.e0; clear hSw; go_simp <;> (try with_reducible rfl))
              simp only [Act.put, List.setIfInBounds_toArray, List.set_cons_zero, List.set_cons_succ]
              refine wpAnyE_one (i := 2) (by kernel_rfl) rfl rfl ?_
              go_simp
              refine Calls.mono (rrnew_any w.heap.size w2.drew) ?_
              rintro r3 w3 ⟨rfl, hr3, hb3⟩
              have hb3' : Below w2.heap.size w2 w3 := ((Below.refl _ w2).drew).trans hb3
              have hO3 : Lies w3 wr.heap.size #[.int .i64 (i : Int), .int .i64 act, .slice pa n pc] 44 := HOP2.out.below hb3' HOP2.out.lt
              have hM3 := HM2.out.below hb3' HM2.out.lt
              have x3 : w3.cell? ⟨gm, i, none⟩ = some (.pointer (some ⟨q i, 0, none⟩)) := (hb3'.cell (p := ⟨gm, i, none⟩) HM2.out.lt).trans xm2
              have f3 := hM3.frozen i
              obtain ⟨w4, hw4⟩ : ∃ w4, w4 = w3.setCell ⟨gm, i, none⟩ (.pointer (some ⟨w2.heap.size, 0, none⟩)) := ⟨_, rfl⟩
              have HW4 : Hid (w3.setCell ⟨gm, i, none⟩ (.pointer (some ⟨w2.heap.size, 0, none⟩)) = w4) := hw4.symm
              have hz4 : w2.heap.size < w4.heap.size := by rw [hw4, World.size_setCell]; exact hr3.lies.lt
              have hgml : gm < w2.heap.size := HM2.out.lt
              have HLN : Hid (Ls w w4 gl gm (upd p i wo.heap.size) (upd q i w2.heap.size) (upd T i []) (upd e i 0) (upd V i (.slice none 0 0)) u6 u7 D) := by
                have hset : ∀ j, j < w2.heap.size → j ≠ gm → w4.heap[j]? = w2.heap[j]? := fun j hj hne => by rw [hw4]; exact (Below.heap_setCell _ _ _ _ hne).trans (hb3'.block j hj)
                have hgg : gl ≠ gm := fun e => by have h := HS1.out.la; rw [e] at h; exact absurd (lies_kind h HS1.out.ma) (by decide)
                have hall : ∀ j, j < wo.heap.size → j ≠ gl → j ≠ gm → w4.heap[j]? = wo.heap[j]? := fun j hj h1 h2 => (hset j (by omega) h2).trans (HC2.out j hj h1)
                have hwo : w.heap.size ≤ wo.heap.size := HS1.out.bel.size
                refine HS1.out.new hi2 (Nat.le_refl _) (Nat.le_of_lt hz2) (by omega) ?_ ?_ ?_ ?_ hall ?_
                · exact (hset gl HA2.out.lt hgg).trans HA2.out
                · rw [hw4]
                  exact la_set hM3 i _ hi2
                · exact HR2.out.of (hset _ HR2.out.lt (by have := HS1.out.ma.lt; omega))
                · rw [hw4]
                  exact hr3.of (by rw [World.size_setCell]; exact Nat.le_refl _) (Below.heap_setCell _ _ _ _ (by show w2.heap.size ≠ gm; omega)) (fun _ k hk => by cases hk)
                · have hb := HS1.out.bel
                  have ht := HT2.out
                  have hge := HS1.out.ge
                  refine ⟨?_, ?_, ?_, by omega, fun j hj => (hall j (by omega) (by omega) (by omega)).trans (hb.block j hj)⟩
                  · rw [hw4]; exact (hb3'.os.trans ht.1).trans hb.os
                  · rw [hw4]; exact (hb3'.tape.trans ht.2.1).trans hb.tape
                  · rw [hw4]; exact (hb3'.output.trans ht.2.2).trans hb.output
              have HTL2 : Hid (∀ j, j < 2 → (upd T i [] j).length ≤ tot st (k + 1)) := fun j hj => by
                unfold upd
                split
                · exact Nat.zero_le _
                · exact HTL1.out j hj
              have hcc : OneC w3 ⟨wr.heap.size, 0, none⟩ (.int .i64 (i : Int)) := ⟨hO3.cell 0⟩
              clear hb3 hw4 hO3 hM3 hr3
              refine ⟨hcc, ?_⟩
              refine wpAnyE_one (i := 3) (by kernel_rfl) rfl rfl ?_
              go_simp
              refine wpAnyE_one (i := 4) (by kernel_rfl) rfl rfl ?_
              go_simp
              rw [HW4.out]
              refine wpAnyE_done (by kernel_rfl) ?_ _
              clear hcc hHeld x3 f3 HW4
              go_wp2
              go_roundw
              case rel => exact ⟨k + 1, upd p i wo.heap.size, upd q i w2.heap.size, upd T i [], upd e i 0, upd V i (.slice none 0 0), D, by omega, by go_num, HLN, HTL2, hDl⟩
              case measure => simp [intOf] <;> omega
            · have na2 : (act == 2) = false := by simpa using a2
              clear a0 a1 a2
              go_wp2_with fail
              rw [HWO.out]
              go_roundw
              case rel => exact ⟨k + 1, p, q, T, e, V, D, by omega, by go_num, HS1, HTL1, hDl⟩
              case measure => simp [intOf] <;> omega
      · have hbad : who < 0 ∨ (¬ who < 0 ∧ 1 < who) := by omega
        clear hw
        by_cases h2 : who = 2
        · have n0 : ¬ who < 0 := by omega
          have n1 : (1 : Int) < who := by omega
          have e2 : (who != 2) = false := by simp; omega
          clear hbad h2
          go_wp2_with fail
          rw [HWO.out]
          refine Calls.mono (lent_any pa pl pc n wo HNN.out (HBT.out.below HS1.out.bel) (by rw [← HNN.out]; omega) HNC.out) ?_
          rintro e1 w1 ⟨gi, ci, rfl, hl1, hb1⟩
          have HS2 : Hid (Ls w w1 gl gm p q T e V u6 u7 D) := HS1.out.below hb1
          clear hl1 hb1 HS1 HO1
          go_wp2_with fail
          refine Calls.mono (feed_nil _ w1) ?_
          rintro e1 w2 ⟨rfl, rfl⟩
          go_wp2_with (go_at_call 18; refine Calls.mono (close_nil _) ?_; rintro e1 w3 ⟨rfl, rfl⟩)
          go_roundw
          case rel => exact ⟨k + 1, p, q, T, e, V, D, by omega, by go_num, HS2, HTL1, hDl⟩
          case measure => simp [intOf] <;> omega
        · have e2 : (who != 2) = true := by simp; omega
          clear h2
          rcases hbad with n0 | ⟨n0, n1⟩
          · skip
            go_wp2_with fail
            rw [HWO.out]
            have HZ : Hid (Lies (wo.alloc (.cells #[.bool false, .int .i64 0, .int .i64 0, .int .u8 0, .int .u8 0, .int .u8 0, .int .i64 0] 48)) (wr.heap.size + 1) #[.bool false, .int .i64 0, .int .i64 0, .int .u8 0, .int .u8 0, .int .u8 0, .int .i64 0] 48) := by rw [← HWO.out]; exact new_one wr _ _ _
            have HSZ : Hid (Ls w (wo.alloc (.cells #[.bool false, .int .i64 0, .int .i64 0, .int .u8 0, .int .u8 0, .int .u8 0, .int .i64 0] 48)) gl gm p q T e V u6 u7 D) := HS1.out.below ((Below.refl _ _).alloc (Nat.le_refl _) _)
            refine Calls.mono (lent_any pa pl pc n _ HNN.out (HBT.out.below HSZ.out.bel) (by rw [← HNN.out]; omega) HNC.out) ?_
            rintro e1 w1 ⟨gi, ci, rfl, hl1, hb1⟩
            have z1 : w1.cell? ⟨wr.heap.size + 1, 0, none⟩ = some (.bool false) := (HZ.out.below hb1 HZ.out.lt).cell 0
            have HS2 : Hid (Ls w w1 gl gm p q T e V u6 u7 D) := HSZ.out.below hb1
            clear hl1 hb1 HS1 HO1 HZ HSZ
            go_wp2_with fail
            refine Calls.mono (feed_zero _ _ w1 z1) ?_
            rintro e1 w2 ⟨rfl, rfl⟩
            go_wp2_with (go_at_call 18; refine Calls.mono (close_zero _ _ z1) ?_; rintro e1 w3 ⟨rfl, rfl⟩)
            go_roundw
            case rel => exact ⟨k + 1, p, q, T, e, V, D, by omega, by go_num, HS2, HTL1, hDl⟩
            case measure => simp [intOf] <;> omega
          · skip
            go_wp2_with fail
            rw [HWO.out]
            have HZ : Hid (Lies (wo.alloc (.cells #[.bool false, .int .i64 0, .int .i64 0, .int .u8 0, .int .u8 0, .int .u8 0, .int .i64 0] 48)) (wr.heap.size + 1) #[.bool false, .int .i64 0, .int .i64 0, .int .u8 0, .int .u8 0, .int .u8 0, .int .i64 0] 48) := by rw [← HWO.out]; exact new_one wr _ _ _
            have HSZ : Hid (Ls w (wo.alloc (.cells #[.bool false, .int .i64 0, .int .i64 0, .int .u8 0, .int .u8 0, .int .u8 0, .int .i64 0] 48)) gl gm p q T e V u6 u7 D) := HS1.out.below ((Below.refl _ _).alloc (Nat.le_refl _) _)
            refine Calls.mono (lent_any pa pl pc n _ HNN.out (HBT.out.below HSZ.out.bel) (by rw [← HNN.out]; omega) HNC.out) ?_
            rintro e1 w1 ⟨gi, ci, rfl, hl1, hb1⟩
            have z1 : w1.cell? ⟨wr.heap.size + 1, 0, none⟩ = some (.bool false) := (HZ.out.below hb1 HZ.out.lt).cell 0
            have HS2 : Hid (Ls w w1 gl gm p q T e V u6 u7 D) := HSZ.out.below hb1
            clear hl1 hb1 HS1 HO1 HZ HSZ
            go_wp2_with fail
            refine Calls.mono (feed_zero _ _ w1 z1) ?_
            rintro e1 w2 ⟨rfl, rfl⟩
            go_wp2_with (go_at_call 18; refine Calls.mono (close_zero _ _ z1) ?_; rintro e1 w3 ⟨rfl, rfl⟩)
            go_roundw
            case rel => exact ⟨k + 1, p, q, T, e, V, D, by omega, by go_num, HS2, HTL1, hDl⟩
            case measure => simp [intOf] <;> omega
    · go_wp2_with fail
      refine Calls.mono (new_any wr) ?_
      rintro e1 w1 ⟨rfl, hr1, hb1⟩
      have hcv := Lib.run_convert_bytes_const (P := Try.prog) w1 22 5 #[.int .u8 84, .int .u8 13, .int .u8 10, .int .u8 87, .int .u8 70, .int .u8 117] 6 6 Try.underlying22 Try.underlying5
      have HB1 : Hid (Below w.heap.size w (w1.alloc (.cells #[.int .u8 84, .int .u8 13, .int .u8 10, .int .u8 87, .int .u8 70, .int .u8 117] 5 (6, 7)))) := (HS.out.bel.trans (hb1.mono HS.out.bel.size)).alloc (HS.out.bel.trans (hb1.mono HS.out.bel.size)).size _
      have HRW : Hid (RdAt (w1.alloc (.cells #[.int .u8 84, .int .u8 13, .int .u8 10, .int .u8 87, .int .u8 70, .int .u8 117] 5 (6, 7))) wr.heap.size [] 0) := hr1.below ((Below.refl _ _).alloc (Nat.le_refl _) _)
      have hlt1 : wr.heap.size < w1.heap.size := hr1.lt
      have HFD : Hid (Calls Try.prog 17 #[.pointer (some ⟨wr.heap.size, 0, none⟩), .slice (some ⟨w1.heap.size, 0, none⟩) 6 6] (w1.alloc (.cells #[.int .u8 84, .int .u8 13, .int .u8 10, .int .u8 87, .int .u8 70, .int .u8 117] 5 (6, 7))) fun e w' => ∃ v, e = .returned (.tuple #[v, .int .i64 0]) ∧ w'.ownsRow (w1.alloc (.cells #[.int .u8 84, .int .u8 13, .int .u8 10, .int .u8 87, .int .u8 70, .int .u8 117] 5 (6, 7))).heap.size 5 1 v 3 (cellsB [77, 97, 110]) ∧ But wr.heap.size (w1.alloc (.cells #[.int .u8 84, .int .u8 13, .int .u8 10, .int .u8 87, .int .u8 70, .int .u8 117] 5 (6, 7))) w') := by
        have h := feed_any wr.heap.size [] (some ⟨w1.heap.size, 0, none⟩) [84, 13, 10, 87, 70, 117] 6 6 _ HRW.out rfl (const_bts w1 [84, 13, 10, 87, 70, 117] (6, 7)) (by simp) (fun _ ad e => by
          injection e with e
          rw [← e]
          show w1.heap.size ≠ wr.heap.size
          omega)
        rw [k_man.1, k_man.2] at h
        refine h.mono ?_
        rintro e w' ⟨v, rfl, ho, _, hb⟩
        exact ⟨v, rfl, ho, hb⟩
      have hwz : w.heap.size ≤ wr.heap.size := HS.out.bel.size
      clear hr1 hb1 HRW HS
      go_wp2_with fail
      refine Calls.mono HFD.out ?_
      rintro e1 w2 ⟨v2, rfl, ho2, hb2⟩
      have cv := own_conv ho2
      have HB2 : Hid (Below w.heap.size w w2) := HB1.out.trans (hb2.below hwz (by have := HB1.out.size; exact this))
      clear ho2 hb2 HFD hcv
      go_wp2
      go_ret
      exact ⟨rfl, HB2.out⟩

theorem own : ownKnob Try.prog.godebug = none := by kernel_rfl
theorem laidOut : laidOutB Try.prog = true := by kernel_rfl
theorem contract (H : Type) (enc : TypeId × Value → H) (W : World) (base : Nat) (args : Array Value) (ds gs : List (DataW H)) (before : List MemPlace)
    (hval : ∀ (j : Nat) t v, Try.f5.params[j]? = some t → args[j]? = some v → Value.okWide Try.prog W .any base t v)
    (hW : DataW.Whole enc Try.prog Try.f5.params.toList Rows.codeReadersSpec.vars false W args.toList ds gs before)
    (hk : Rows.uptoSmall H (ds ++ gs) = true) :
    Calls Try.prog 5 args W fun e W' => ∃ v, e = .returned v ∧ Rows.codeReadersSpec.post enc Try.prog Try.f5 false true false false W args v W' := by
  have hW' := hW
  obtain ⟨p, q, hA0, hV, rfl, hfz, hnd⟩ := hW
  have hA : DataW.TrodAll enc Try.prog W 0 (fun _ => true) true Try.f5.params.toList args.toList ds p := hA0
  rw [Try.params5] at hA hval
  obtain ⟨v0, vs0, d0, ds0, p0, q0, hargs, rfl, rfl, h0, r0⟩ := trodAll_cons hA
  obtain ⟨rfl, rfl, rfl⟩ := trodAll_nil r0
  obtain rfl : args = #[v0] := by cases args; simp_all
  obtain ⟨rfl, rfl⟩ := trodVars_none hV
  have k0 := h0
  have lt0 : ∀ x ∈ p0, x.block < W.heap.size := by obtain ⟨m, hm⟩ := k0; exact DataW.trod_lt m _ _ _ hm
  obtain ⟨a0, len0, cap0, rfl⟩ := okWide_slice Try.underlying36 (hval 0 36 v0 rfl rfl)
  obtain ⟨l0, e0, row0, bk0, bt0⟩ := open_ops h0
  have bu0 := Nat.le_trans (bulk_mem (d := d0) (by simp)) (of_decide_eq_true hk)
  have s0 : l0.length ≤ 1048576 := Nat.le_trans bk0 bu0
  have t0 : tot l0 l0.length ≤ 1048576 := Nat.le_trans bt0 bu0
  subst e0
  clear hA0
  refine (walk a0 l0 cap0 row0 s0 t0).mono fun e W' ⟨he, bel⟩ => ?_
  subst he
  exact ⟨_, rfl, _, _, _, [], _, [], hW', trodAll_mk1 (shut_bool Try.underlying4 _), trodAll_cons_mk (Below.trod laidOut (by kernel_rfl) (of_decide_eq_true (by kernel_rfl)) k0 bel lt0) trodAll_mk0, rfl, bel.frame _, fun h => by cases h⟩

set_option maxRecDepth 100000 in
theorem lifted (os : Os) (started : os.Started) (H : Type) (enc : TypeId × Value → H) (F : Stop.Interp) :
    ReturnsInHanded {} Try.checked os 5 .any ((Rows.OpenSpec.upto Rows.codeReadersSpec).pre6 enc Try.prog Try.f5 Rows.codeReadersUptoRow.domain false) (((Rows.OpenSpec.upto Rows.codeReadersSpec).at F).post enc Try.prog Try.f5 false true false false) := by
  refine returnsInHanded_of_cond (C := Try.checked) (s := Rows.OpenSpec.upto Rows.codeReadersSpec) (k := Rows.uptoSmall) rfl own started (by kernel_rfl) Try.func5
    (OpenSpec.witness (enc := enc) (C := Try.checked) (s := Rows.OpenSpec.upto Rows.codeReadersSpec) (k := Rows.uptoSmall) rfl false ⟨#[], #[.slice none 0 0], []⟩ 8 (by kernel_rfl) (by kernel_rfl) (by kernel_rfl)
      (x := ([.nil], [], [])) (by kernel_rfl) rfl (by kernel_rfl)) ?_
  intro W base args ds gs before hval hW _ hk _
  exact contract H enc W base args ds gs before hval hW hk

theorem over : Rows.CodeReadersUptoSaid :=
  OpenClaim.holds_of_cond 5 Try.f5 rfl rfl rfl rfl rfl rfl rfl ⟨rfl, rfl, rfl, rfl, rfl⟩ rfl rfl rfl rfl rfl (by kernel_rfl) Try.func5 (by kernel_rfl)
    (of_decide_eq_true (by kernel_rfl)) (by unfold Func.isWrapper; first | (rw [if_pos (by decide +kernel)]; kernel_rfl) | (rw [if_neg (by decide +kernel)]; exact ⟨rfl, rfl⟩))
    (fun os started H enc _ F => lifted os started H enc F)
end Go.Proofs.Ytenfopabdegmhaa.codeReaders
namespace Go.Proofs.Ytenfopabdegmhaa
theorem codeReadersUpto_said : Rows.CodeReadersUptoSaid := codeReaders.over
#print axioms codeReadersUpto_said
end Go.Proofs.Ytenfopabdegmhaa
