/-
  The document's heap in memory.
-/
import Derived.Test.YtgbbjhhggjocmaaRhP
namespace Go.Proofs.Ytgbbjhhggjocmaa
open Go.RowKit

structure Gh (w : World) (g : Nat) (L : List (Int × Int)) (v : Value) : Prop where
  lies : Lies w g #[v] 86
  own : Ow celG 31 2 w v L
theorem infoG7 : (Try.prog.info? 31).map (fun i => (i.zero, i.size, i.bytes)) = some (some (Value.agg #[.int .i64 0, .int .i64 0]), 2, 16) := by kernel_rfl
theorem Gh.ne {w : World} {b : Nat} {L : List (Int × Int)} {v : Value} (h : Gh w b L v) (g : Nat) (hg : v.ownBlock = some g) : g ≠ b := by
  obtain ⟨_, ⟨rfl, _⟩ | ⟨g', cap, cur, rfl, _, h4, _⟩⟩ := h.own
  · cases hg
  · obtain rfl : g' = g := Option.some.inj hg
    exact lies_ne (t := 31) (u := 86) h4 h.lies (by decide)
theorem Gh.keep {w w' : World} {b : Nat} {L : List (Int × Int)} {v : Value} (h : Gh w b L v) (hk : ∀ k, Fh b v k → w'.heap[k]? = w.heap[k]?) : Gh w' b L v := ⟨(hk b (.inl rfl)).trans h.lies, h.own.keep (fun g hg => hk g (.inr hg))⟩
theorem Gh.lt {w : World} {b : Nat} {L : List (Int × Int)} {v : Value} (h : Gh w b L v) (k : Nat) (hk : Fh b v k) : k < w.heap.size := by
  rcases hk with rfl | hk
  · exact h.lies.lt
  · exact h.own.lt k hk
theorem Gh.chg {w w' : World} {b : Nat} {L : List (Int × Int)} {v : Value} {F : Nat → Prop} (h : Gh w b L v) (hc : Chg F w w') (hn : ∀ k, Fh b v k → ¬ F k) : Gh w' b L v := h.keep (fun k hk => hc.block k (h.lt k hk) (hn k hk))
theorem Gh.below {w w' : World} {b : Nat} {L : List (Int × Int)} {v : Value} (h : Gh w b L v) (hb : Below w.heap.size w w') : Gh w' b L v := h.keep (fun k hk => hb.block k (h.lt k hk))
theorem Gh.at {w : World} {b : Nat} {L : List (Int × Int)} {v : Value} (h : Gh w b L v) (i : Nat) (hi : i < L.length) : ∃ g c, v = .slice (some ⟨g, 0, none⟩) L.length c ∧ g ≠ b ∧ w.cell? ⟨g, i * 2, none⟩ = some (.int .i64 (kA L i).1) ∧ w.cell? ⟨g, i * 2 + 1, none⟩ = some (.int .i64 (kA L i).2) := by
  obtain ⟨a, c, rfl, hs⟩ := h.own.shape
  obtain ⟨g, rfl⟩ := hs (fun e => by rw [e] at hi; cases hi)
  have hl := flat_length celG_length L
  have ha := kA_get hi
  have e0 := flat_at celG_length L i 0 hi (by decide)
  have e1 := flat_at celG_length L i 1 hi (by decide)
  rw [← ha] at e0 e1
  exact ⟨g, c, rfl, h.ne g rfl, by rw [h.own.cells _ (by omega), ← Nat.add_zero (i * 2), e0]; rfl, by rw [h.own.cells _ (by omega), e1]; rfl⟩
theorem rhnew_any (w : World) : Calls Try.prog 24 #[] w fun e w' => e = .returned (.pointer (some ⟨w.heap.size, 0, none⟩)) ∧ Gh w' w.heap.size [] (.slice none 0 0) ∧ Below w.heap.size w w' := by
  go_enter Try.func24, Try.ntmps24
  go_wp2
  go_ret
  exact ⟨rfl, ⟨Lies.new w _ _, Ow.nil _ _ _ _⟩, (Below.refl _ _).alloc (Nat.le_refl _) _⟩
theorem rhlen_any (b : Nat) (L : List (Int × Int)) (v : Value) (w : World) (h : Gh w b L v) : Calls Try.prog 32 #[.pointer (some ⟨b, 0, none⟩)] w fun e w' => e = .returned (.int .i64 (L.length : Int)) ∧ w' = w := by
  have c1 : w.cell? ⟨b, 0, none⟩ = some v := h.lies.cell 0
  obtain ⟨a, c, rfl, _⟩ := h.own.shape
  clear h
  go_enter Try.func32, Try.ntmps32
  go_wp2
  go_ret
  exact ⟨rfl, rfl⟩
/-- The place of the least, -1: there is none. -/
def atI (L : List (Int × Int)) (k : Nat) : Int := if k = 0 then -1 else (lsN L k : Int)
set_option maxRecDepth 20000 in
set_option maxHeartbeats 2000000 in
theorem rhleast_any (b : Nat) (L : List (Int × Int)) (v : Value) (w : World) (h : Gh w b L v) (hlen : L.length ≤ 1048576) : Calls Try.prog 57 #[.pointer (some ⟨b, 0, none⟩)] w fun e w' => e = .returned (.int .i64 (atI L L.length)) ∧ ∃ n, w' = w.drewN n := by
  have HH : Hid (Gh w b L v) := h
  clear h
  go_enter Try.func57, Try.ntmps57
  go_wp2_with fail
  go_loopw [3, 4] (fun av iv wr => ∃ k : Nat, k ≤ L.length ∧ iv = .int .i64 (k : Int) ∧ av = .int .i64 (atI L k) ∧ Hid (∃ n, wr = w.drewN n)) (fun _ iv _ => L.length - (intOf iv).toNat)
  case atStart => exact ⟨0, Nat.zero_le _, rfl, rfl, 0, rfl⟩
  case round =>
    obtain ⟨k, hk, rfl, rfl, HD⟩ := hrel
    have hG : Gh wr b L v := by obtain ⟨n, rfl⟩ := HD.out; exact HH.out.below (below_drewN w n)
    have c1 : wr.cell? ⟨b, 0, none⟩ = some v := hG.lies.cell 0
    by_cases hlt : k < L.length
    · have hki : (k : Int) < (L.length : Int) := by omega
      obtain ⟨g, c, rfl, hgb, g0, g1⟩ := hG.at k hlt
      by_cases h0 : k = 0
      · have ha : atI L k = -1 := by unfold atI; rw [if_pos h0]
        have HN : Hid (atI L (k + 1) = (k : Int)) := by
          unfold Hid atI
          subst h0
          have : lsN L (0 + 1) = 0 := by have := lsN_lt L 1 (by omega); simpa using this
          rw [if_neg (by omega), this]
        rw [ha]
        clear h0 ha hG g0 g1
        go_wp2_with fail
        go_quiet (fail)
        go_wp2
        go_roundw
        case rel => exact ⟨k + 1, by omega, by go_num, by rw [HN.out], by obtain ⟨n, hn⟩ := HD.out; exact ⟨_, by rw [hn, World.drewN_drewN]⟩⟩
        case measure => simp [intOf]; omega
      · obtain ⟨j, hj⟩ : ∃ j, j = lsN L k := ⟨_, rfl⟩
        have ha : atI L k = (j : Int) := by unfold atI; rw [if_neg h0, hj]
        have hjk : j < k := by rw [hj]; exact lsN_lt L k (by omega)
        obtain ⟨g', c', e', _, f0, f1⟩ := hG.at j (by omega)
        cases e'
        rw [ha]
        have hja : ¬ (j : Int) < 0 := by omega
        have hji : (j : Int) < (L.length : Int) := by omega
        obtain ⟨x, hx⟩ : ∃ x, x = (kA L k).1 := ⟨_, rfl⟩
        obtain ⟨y, hy⟩ : ∃ y, y = (kA L j).1 := ⟨_, rfl⟩
        have HN : Hid (atI L (k + 1) = if x < y then (k : Int) else (j : Int)) := by
          unfold Hid atI lsN
          rw [if_neg (by omega), ← hj, ← hx, ← hy]
          split <;> rfl
        rw [← hx] at g0
        rw [← hy] at f0
        clear h0 ha hG g1 f1 hj hjk hx hy
        by_cases hxy : x < y
        · have hd : decide (x < y) = true := decide_eq_true hxy
          have HM : Hid (atI L (k + 1) = (k : Int)) := by unfold Hid; rw [HN.out, if_pos hxy]
          go_wp2_with fail
          go_quiet (fail)
          go_wp2
          go_roundw
          case rel => exact ⟨k + 1, by omega, by go_num, by rw [HM.out], by obtain ⟨n, hn⟩ := HD.out; exact ⟨_, by rw [hn, World.drewN_drewN]⟩⟩
          case measure => simp [intOf]; omega
        · have hd : decide (x < y) = false := decide_eq_false hxy
          have HM : Hid (atI L (k + 1) = (j : Int)) := by unfold Hid; rw [HN.out, if_neg hxy]
          go_wp2_with fail
          go_quiet (fail)
          go_wp2
          go_roundw
          case rel => exact ⟨k + 1, by omega, by go_num, by rw [HM.out], by obtain ⟨n, hn⟩ := HD.out; exact ⟨_, by rw [hn, World.drewN_drewN]⟩⟩
          case measure => simp [intOf]; omega
    · obtain rfl : k = L.length := by omega
      have hki : (L.length : Int) ≤ (L.length : Int) := Int.le_refl _
      obtain ⟨a, c, rfl, _⟩ := hG.own.shape
      clear hG hlt
      go_wp2
      go_ret
      exact ⟨rfl, HD.out⟩
end Go.Proofs.Ytgbbjhhggjocmaa
