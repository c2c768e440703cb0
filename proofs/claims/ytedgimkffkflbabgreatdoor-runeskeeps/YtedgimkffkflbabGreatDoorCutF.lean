/-
  A checker that is fed bytes, which may be none.
-/
import Derived.Test.YtedgimkffkflbabGreatDoorChk2
namespace Go.Proofs.YtedgimkffkflbabGreatDoor
open Go.RowKit

set_option maxHeartbeats 2000000 in
set_option maxRecDepth 100000 in
theorem feed_ne (g : Nat) (m : Option Q) (a : Option Addr) (l : List UInt8) (cap : Nat) (w : World) (h : CkAt w g m) (hf : Fst w) (hb : Bts a l w) (hne : l ≠ [] → ∀ ad, a = some ad → ad.block ≠ g) (hs : l.length ≤ 9223372036854775806) :
    Calls Tryz.prog 20 #[.pointer (some ⟨g, 0, none⟩), .slice a l.length cap] w fun e w' => e = .returned (.bool (okM (runM m l))) ∧ But g w w' ∧ CkAt w' g (runM m l) := by
  have hgf : g ≠ 1 := fun e => by
    obtain ⟨_, _, _, _, hs, _⟩ := h
    subst e
    obtain ⟨t, fr, hf⟩ := hf
    have := hs.symm.trans hf
    injection this with this
    injection this with this
    have := congrArg Array.size this
    exact absurd this (by simp [stC, fsCells, fsRows])
  have HF : Hid (Fst w) := hf
  have HL : Hid (Bts a l w) := hb
  have HK : Hid (CkAt w g m) := h
  have HN : Hid (l ≠ [] → ∀ ad, a = some ad → ad.block ≠ g) := hne
  obtain ⟨left, low, high, wrong, c0, _⟩ := h.cells
  have hlt := h.lt
  clear hf hb h hne
  go_enter Tryz.func20, Tryz.ntmps20
  go_wp2_with fail
  refine (there_any g true _ c0).mono ?_
  rintro e w1 ⟨rfl, rfl⟩
  go_wp2
  go_loopw [12] (fun i wr => ∃ k : Nat, i = .int .i64 k ∧ k ≤ l.length ∧ Hid (0 < k → (runM m (l.take k)).isSome = true) ∧ Hid (CkAt wr g (runM m (l.take k))) ∧ Hid (But g w1 wr)) (fun i _ => l.length - (intOf i).toNat)
  case atStart => exact ⟨0, rfl, Nat.zero_le _, fun h => absurd h (by omega), by show CkAt _ _ _; rw [List.take_zero, runM_nil]; exact HK.out, But.refl _ _⟩
  case round =>
    obtain ⟨k, rfl, hk, HO, HM, HB⟩ := hrel
    by_cases hlk : k < l.length
    · have HC : Hid (∀ b : UInt8, Calls Tryz.prog 56 #[.pointer (some ⟨g, 1, none⟩), .int .u8 (b.toNat : Int)] wr fun e w' => e = .returned (.tuple #[]) ∧ But g wr w' ∧ CkAt w' g (stepM (runM m (l.take k)) b.toNat)) :=
        fun b => take_any g [.bool true] 92 _ b wr HM.out (HF.out.but HB.out (Ne.symm hgf))
      have HS := runM_take m l k hlk
      obtain ⟨g', o, rfl, hg, hc⟩ := (HB.out.bts HL.out (HN.out (fun e => by rw [e] at hlk; simp at hlk))).cell k hlk
      go_wp2_with fail
      refine (HC.out _).mono ?_
      rintro e w2 ⟨rfl, b2, m2⟩
      rw [← HS] at m2
      have HB2 : Hid (But g w1 w2) := HB.out.trans b2
      have HM2 : Hid (CkAt w2 g (runM m (l.take (k + 1)))) := m2
      obtain ⟨left, low, high, wrong, d0, d1, d2, d3, d4, hq⟩ := m2.cells
      have HQ := okM_wrong hq
      clear b2 m2 hq HS HC
      cases wrong
      · have HO2 : Hid (0 < k + 1 → (runM m (l.take (k + 1))).isSome = true) := fun _ => HQ
        clear HQ
        go_wp2
        go_roundw
        case rel => exact ⟨k + 1, by go_num, by omega, HO2, HM2, HB2⟩
        case measure => simp [intOf]; omega
      · have HZ : Hid (runM m l = none ∧ runM m (l.take (k + 1)) = none) := by
          have e1 : runM m (l.take (k + 1)) = none := by simpa [okM] using HQ
          have e2 := runM_append m (l.take (k + 1)) (l.drop (k + 1))
          rw [List.take_append_drop, e1] at e2
          exact ⟨e2, e1⟩
        clear HQ
        go_wp2
        go_ret
        refine ⟨ret_b (by rw [HZ.out.1]; rfl), HB2.out, ?_⟩
        rw [HZ.out.1, ← HZ.out.2]
        exact HM2.out
    · have e : l.take k = l := List.take_of_length_le (by omega)
      rw [e] at HM
      obtain ⟨left, low, high, wrong, d0, d1, d2, d3, d4, hq⟩ := HM.out.cells
      have HQ : Hid (okM (runM m l) = !wrong) := okM_wrong hq
      clear hq HO e
      go_wp2
      go_ret
      exact ⟨ret_b HQ.out.symm, HB.out, HM.out⟩
end Go.Proofs.YtedgimkffkflbabGreatDoor
