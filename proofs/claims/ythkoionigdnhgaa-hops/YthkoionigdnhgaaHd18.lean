/-
  The document's Lines, Header, IsOf, Hops.
-/
import Derived.Test.YthkoionigdnhgaaHp18
import Derived.Test.YthkoionigdnhgaaRs18
import Derived.Deep.CutRange
namespace Go.Proofs.Ythkoionigdnhgaa
open Go.RowKit

theorem lastH (l : List UInt8) (k f : Nat) (hk : k ≤ l.length) (hf : f < k) : ((l.take k).drop f).getLast? = l[k - 1]? := by
  rw [List.getLast?_eq_getElem?, List.length_drop, List.length_take, Nat.min_eq_left hk, List.getElem?_drop, List.getElem?_take, if_pos (by omega)]
  congr 1
  omega
theorem dropLastH (l : List UInt8) (k f : Nat) (hk : k ≤ l.length) (hf : f < k) : ((l.take k).drop f).dropLast = (l.drop f).take (k - 1 - f) := by
  rw [List.dropLast_eq_take, List.length_drop, List.length_take, Nat.min_eq_left hk, List.drop_take, List.take_take]
  congr 1
  omega
theorem one_cellH (w : World) (x : Value) (t : TypeId) : (w.alloc (.cells #[x] t)).cell? ⟨w.heap.size, 0, none⟩ = some x := by
  rw [cell_of_row _ w.heap.size 0 #[x] t (0, 0) (heap_alloc_last w _)]
  rfl
set_option maxRecDepth 100000 in
set_option maxHeartbeats 4000000 in
theorem vlines_any (a : Option Addr) (l : List UInt8) (n c : Nat) (hn : n = l.length) (hc : n ≤ c) (w : World) (hb : Bts a l w) (hl : l.length ≤ 1099511627776) :
    Calls Try.prog 12 #[.slice a n c] w fun e w' => ∃ v, e = .returned v ∧ w'.ownsRow w.heap.size 9 1 v (lnsH l).length (celH (lnsH l)) ∧ Below w.heap.size w w' := by
  have HBT : Hid (Bts a l w) := hb
  subst hn
  clear hb
  go_enter Try.func12, Try.ntmps12
  go_wp2_with fail
  go_loopw [3, 4, 5] (fun v fv iv wr => ∃ k : Nat, 1 ≤ k ∧ (k ≤ l.length ∨ k = 1) ∧ iv = .int .i64 (k : Int) ∧ fv = .int .i64 ((min k l.length - (hlF ([], []) (l.take k)).2.length : Nat) : Int) ∧ Hid (wr.ownsRow w.heap.size 9 1 v (hlF ([], []) (l.take k)).1.length (celH (hlF ([], []) (l.take k)).1)) ∧ Hid (Below w.heap.size w wr)) (fun _ _ iv _ => l.length + 1 - (intOf iv).toNat)
  case atStart =>
    have e : hlF ([], []) (l.take 1) = ([], l.take 1) := by
      cases l with
      | nil => rfl
      | cons x t => simp [hlF, hlS]
    refine ⟨1, Nat.le_refl _, .inr rfl, rfl, ?_, ?_, Below.refl _ _⟩
    · rw [e]
      dsimp only
      rw [List.length_take, Nat.sub_self]
      rfl
    · show World.ownsRow _ _ _ _ _ _ _
      rw [e]
      exact ⟨rfl, .inl ⟨rfl, rfl⟩⟩
  case round =>
    obtain ⟨k, hk1, hkl, rfl, rfl, HO, HB⟩ := hrel
    by_cases hlt : k < l.length
    · have hltI : (k : Int) < (l.length : Int) := by omega
      obtain ⟨hop, hcl⟩ := hlF_open k l (by omega)
      have HNX : Hid (hlF ([], []) (l.take (k + 1)) = hlS (hlF ([], []) (l.take k)) l[k]) := hlF_next l k hlt
      have hsl := hlF_len (l.take k) ([], [])
      rw [List.length_take, Nat.min_eq_left (by omega)] at hsl
      simp only [List.length_nil, Nat.zero_add] at hsl
      rw [Nat.min_eq_left (by omega : k ≤ l.length)]
      obtain ⟨g, o, rfl, hg, hrow⟩ : ∃ g o, a = some ⟨g, o, none⟩ ∧ g < w.heap.size ∧ RowL l g o w := by
        rcases HBT.out with e | h
        · subst e; simp at hlt
        · exact h
      have hck := (HB.out.cell (p := ⟨g, o + k, none⟩) hg).trans (hrow k hlt)
      have hcp := (HB.out.cell (p := ⟨g, o + (k - 1), none⟩) hg).trans (hrow (k - 1) (by omega))
      have hin : (k : Int) - 1 = ((k - 1 : Nat) : Int) := by omega
      generalize hlF ([], []) (l.take k) = S at *
      obtain ⟨A, cur⟩ := S
      dsimp only at *
      obtain ⟨f, hf⟩ : ∃ f, f = k - cur.length := ⟨_, rfl⟩
      rw [← hf] at hop
      rw [← hf]
      have HF : Hid (f = k - cur.length) := hf
      have hsame : ∀ S' : List (List UInt8) × List UInt8, S' = (A, cur ++ [l[k]]) → min (k + 1) l.length - S'.2.length = f := fun S' e => by
        subst e
        dsimp only
        rw [List.length_append, List.length_singleton]
        omega
      have hfl2 : f + cur.length = k := by omega
      clear hf
      by_cases hfk : f < k
      · have hfkI : (f : Int) < (k : Int) := by omega
        have hlast : cur.getLast? = l[k - 1]? := by rw [hop]; exact lastH l k f (by omega) hfk
        by_cases h10 : l[k] = 10
        · have k10 := u8vH (m := 10) h10
          by_cases h13 : l[k - 1] = 13
          · have k13 := u8vH (m := 13) h13
            have HS2 : Hid (hlF ([], []) (l.take (k + 1)) = (A ++ [cur.dropLast], [])) := by
              show _ = _
              rw [HNX.out]
              unfold hlS
              rw [if_pos ⟨h10, by rw [hlast, List.getElem?_eq_getElem (by omega), h13]⟩]
            have hdl : cur.dropLast = (l.drop f).take (k - 1 - f) := by rw [hop]; exact dropLastH l k f (by omega) hfk
            have hr1 := run_slHH (some ⟨g, o, none⟩) l.length c f (k - 1) (by omega) (by omega) wr
            have hcv : (convert 22 9 (.slice (slH (some ⟨g, o, none⟩) f c) (k - 1 - f) (c - f))).run Try.prog wr = .ok (.string (hS cur.dropLast)) wr := by
              have hb1 : Bts (slH (some ⟨g, o, none⟩) f c) ((l.drop f).take (k - 1 - f)) wr := Bts.take (Bts.cutH (HBT.out.belowB (Nat.le_refl _) HB.out) f c hc) _
              have := bts_back hb1 (c - f)
              rw [List.length_take, List.length_drop, Nat.min_eq_left (by omega), ← hdl] at this
              exact this
            clear HNX hop hlast hsame hdl
            generalize cur.dropLast = cd at *
            go_wp2_with (first | rw [hr1] | rw [hcv] | (at_builtin; refine wpList_append_strH rfl _ _ rfl w.heap.size _ A.length A rfl (HO.out.alloc _) wr.heap.size cd 1 rfl (one_cellH wr (.string (hS cd)) 9) (by omega) (by have := HB.out.size; simp; omega) ?_; intro v3 w3 hO3 hG3))
            have HO3 : Hid (w3.ownsRow w.heap.size 9 1 v3 (A.length + 1) (celH (A ++ [cd]))) := hO3
            have HB3 : Hid (Below w.heap.size w w3) := (HB.out.alloc HB.out.size _).grown hG3 (by have := HB.out.size; simp; omega) (fun q hq => (HO.out.lt q hq).1)
            clear hO3 hG3 HO HB hr1 hcv
            go_roundw
            case rel => exact ⟨k + 1, by omega, .inl (by omega), by go_num, by rw [HS2.out]; dsimp only; rw [List.length_nil, Nat.min_eq_left (by omega)]; go_num, by rw [HS2.out]; dsimp only; rw [List.length_append, List.length_singleton]; exact HO3.out, HB3.out⟩
            case measure => simp [intOf]; omega
          · have k13 := u8wH (m := 13) h13
            have HS2 : Hid (hlF ([], []) (l.take (k + 1)) = (A, cur ++ [l[k]])) := by
              show _ = _
              rw [HNX.out]
              unfold hlS
              rw [if_neg (fun e => h13 (by have := e.2; rw [hlast, List.getElem?_eq_getElem (by omega)] at this; exact Option.some.inj this))]
            clear HNX hop hlast
            go_wp2_with fail
            go_roundw
            case rel => exact ⟨k + 1, by omega, .inl (by omega), by go_num, by rw [hsame _ HS2.out], by rw [HS2.out]; exact HO.out, HB.out⟩
            case measure => simp [intOf]; omega
        · have k10 := u8wH (m := 10) h10
          have HS2 : Hid (hlF ([], []) (l.take (k + 1)) = (A, cur ++ [l[k]])) := by
            show _ = _
            rw [HNX.out]
            unfold hlS
            rw [if_neg (fun e => h10 e.1)]
          clear HNX hop hlast
          go_wp2_with fail
          go_roundw
          case rel => exact ⟨k + 1, by omega, .inl (by omega), by go_num, by rw [hsame _ HS2.out], by rw [HS2.out]; exact HO.out, HB.out⟩
          case measure => simp [intOf]; omega
      · have hfkI : ¬ (f : Int) < (k : Int) := by omega
        have hcur : cur = [] := List.eq_nil_of_length_eq_zero (by omega)
        have HS2 : Hid (hlF ([], []) (l.take (k + 1)) = (A, cur ++ [l[k]])) := by
          show _ = _
          rw [HNX.out]
          unfold hlS
          rw [if_neg (fun e => by have := e.2; rw [hcur] at this; simp at this)]
        clear HNX hop
        go_wp2_with fail
        go_roundw
        case rel => exact ⟨k + 1, by omega, .inl (by omega), by go_num, by rw [hsame _ HS2.out], by rw [HS2.out]; exact HO.out, HB.out⟩
        case measure => simp [intOf]; omega
    · have hltI : ¬ (k : Int) < (l.length : Int) := by omega
      have htk : l.take k = l := List.take_of_length_le (by omega)
      have hop := (hlF_open l.length l (Nat.le_refl _))
      rw [List.take_length] at hop
      have hsl := hlF_len l ([], [])
      simp only [List.length_nil, Nat.zero_add] at hsl
      rw [htk] at HO ⊢
      rw [Nat.min_eq_right (by omega : l.length ≤ k)]
      have HLN : Hid (lnsH l = (hlF ([], []) l).1 ++ [(hlF ([], []) l).2]) := rfl
      generalize hlF ([], []) l = S at *
      obtain ⟨A, cur⟩ := S
      dsimp only at *
      obtain ⟨f, hf⟩ : ∃ f, f = l.length - cur.length := ⟨_, rfl⟩
      rw [← hf] at hop
      rw [← hf]
      have hfl : f ≤ l.length := by omega
      have hr1 := run_slH a l.length c f hfl wr
      have hcv : (convert 22 9 (.slice (slH a f c) (l.length - f) (c - f))).run Try.prog wr = .ok (.string (hS cur)) wr := by
        have hb1 : Bts (slH a f c) (l.drop f) wr := Bts.cutH (HBT.out.belowB (Nat.le_refl _) HB.out) f c hc
        have := bts_back hb1 (c - f)
        rw [List.length_drop, ← hop.1] at this
        exact this
      have hAl : (A.length + 1) * 16 ≤ 140737488355328 := by omega
      have hHS : w.heap.size ≤ wr.heap.size := HB.out.size
      clear hf hop
      go_wp2_with (first | rw [hr1] | rw [hcv] | (at_builtin; refine wpList_append_strH rfl _ _ rfl w.heap.size _ A.length A rfl (HO.out.alloc _) wr.heap.size cur 1 rfl (one_cellH wr (.string (hS cur)) 9) hAl (by simp; omega) ?_; intro v3 w3 hO3 hG3))
      have HO3 : Hid (w3.ownsRow w.heap.size 9 1 v3 (A.length + 1) (celH (A ++ [cur]))) := hO3
      have HB3 : Hid (Below w.heap.size w w3) := (HB.out.alloc HB.out.size _).grown hG3 (by have := HB.out.size; simp; omega) (fun q hq => (HO.out.lt q hq).1)
      clear hO3 hG3 HO HB hr1 hcv
      go_ret
      refine ⟨_, rfl, ?_, HB3.out⟩
      rw [HLN.out, List.length_append, List.length_singleton]
      exact HO3.out
end Go.Proofs.Ythkoionigdnhgaa
