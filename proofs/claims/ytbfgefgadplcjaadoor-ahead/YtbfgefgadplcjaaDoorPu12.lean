/-
  Whether a reply's lines may be; Check.
-/
import Derived.Test.YtbfgefgadplcjaaDoorPs12
namespace Go.Proofs.YtbfgefgadplcjaaDoor
open Go.RowKit

theorem hd_len (c : Int) (s : Stt) (last : Bool) (h1 : c ≤ 999) (hs : s = (0, 0, 0) ∨ isSt s = true) : (hdL c s last).length ≤ 16 := by
  have h := dc_len c h1
  unfold hdL
  simp only [List.length_append, List.length_singleton]
  split
  · simp; omega
  · next hn =>
    have hst : isSt s = true := by rcases hs with h | h; exact absurd h hn; exact h
    have := wr_len s hst
    simp
    omega
set_option maxHeartbeats 2000000 in
set_option maxRecDepth 20000 in
theorem are_any (x : Rx) (L : List (List UInt8)) (h0 : 0 ≤ x.c) (h1 : x.c ≤ 999) (hsx : x.s = (0, 0, 0) ∨ isSt x.s = true) (w : World) (ht : Tb w) (hn : x.n = L.length) (hL : Txs x.a L w) (hll : ∀ l ∈ L, l.length ≤ 140737488355328) (hln : L.length ≤ 140737488355328) :
    Calls Tryd.prog 36 #[rxV x] w fun e w' => e = .returned (.bool (arB ⟨x.c, x.s, L⟩)) ∧ Below w.heap.size w w' := by
  obtain ⟨c, s, a, n, k⟩ := x
  dsimp only at h0 h1 hsx hn hL
  subst hn
  obtain ⟨W, hW⟩ : ∃ W, W = w.alloc (.cells (rxC ⟨c, s, a, L.length, k⟩) 50) := ⟨_, rfl⟩
  have hB : Below w.heap.size w W := by subst hW; exact (Below.refl _ _).alloc (Nat.le_refl _) _
  have hLi : Lies W w.heap.size (rxC ⟨c, s, a, L.length, k⟩) 50 := by subst hW; exact Lies.new w _ _
  have HWW : Hid (w.alloc (.cells #[.int .i64 c, .int .i64 s.1, .int .i64 s.2.1, .int .i64 s.2.2, .slice a L.length k] 50) = W) := hW.symm
  have HB0 : Hid (Below w.heap.size w W) := hB
  have HL0 : Hid (Lies W w.heap.size (rxC ⟨c, s, a, L.length, k⟩) 50) := hLi
  have HHD := head_any ⟨c, s, a, L.length, k⟩ true h0 h1 hsx W (ht.on hB)
  have HTX : Hid (Txs a L w) := hL
  have HT : Hid (Tb w) := ht
  have HLL : Hid (∀ l ∈ L, l.length ≤ 140737488355328) := hll
  have hhl := hd_len c s true h1 hsx
  have HAR : Hid (arB ⟨c, s, L⟩ = (decide (1 ≤ L.length) && decide (L.length ≤ 64) && L.all (fun t => decide (t.length + (hdL c s true).length ≤ 510) && txtB t))) := rfl
  have hsz : (tx (hdL c s true)).size = (hdL c s true).length := tx_size _
  obtain ⟨r0, r1, r2, r3, r4, -, -, -, -, -⟩ := rxC_cells hLi
  dsimp only at r0 r1 r2 r3 r4 HHD
  unfold rxV at HHD ⊢
  dsimp only at HHD ⊢
  generalize hdL c s true = H at *
  clear hLi hB ht hL hll hW hsx
  by_cases hl1 : L.length < 1
  · have HXX : Hid (arB ⟨c, s, L⟩ = false) := by show _ = _; rw [HAR.out, decide_eq_false (by omega)]; rfl
    have hl1' : (L.length : Int) < 1 := by omega
    go_enter Tryd.func36, Tryd.ntmps36
    go_wp2_with fail
    go_ret
    exact ⟨by rw [HXX.out]; rfl, by rw [HWW.out]; exact HB0.out⟩
  · have hl1' : ¬ (L.length : Int) < 1 := by omega
    by_cases hl2 : 64 < L.length
    · have HXX : Hid (arB ⟨c, s, L⟩ = false) := by show _ = _; rw [HAR.out, decide_eq_false (show ¬ L.length ≤ 64 by omega), Bool.and_false]; rfl
      have hl2' : (64 : Int) < (L.length : Int) := by omega
      go_enter Tryd.func36, Tryd.ntmps36
      go_wp2_with fail
      go_ret
      exact ⟨by rw [HXX.out]; rfl, by rw [HWW.out]; exact HB0.out⟩
    · have hl2' : ¬ (64 : Int) < (L.length : Int) := by omega
      go_enter Tryd.func36, Tryd.ntmps36
      go_wp2_with fail
      rw [HWW.out]
      refine HHD.mono ?_
      rintro e w1 ⟨rfl, hB1⟩
      have HB1 : Hid (Below w.heap.size w w1) := HB0.out.trans (hB1.mono HB0.out.size)
      have HL1 : Hid (Lies w1 w.heap.size (rxC ⟨c, s, a, L.length, k⟩) 50) := HL0.out.below hB1 HL0.out.lt
      obtain ⟨q0, q1, q2, q3, q4, -, -, -, -, -⟩ := rxC_cells HL1.out
      dsimp only at q0 q1 q2 q3 q4
      clear hB1 HHD r0 r1 r2 r3 r4
      go_wp2_with fail
      have HTX1 : Hid (Txs a L w1) := HTX.out.below HB1.out
      have HTB1 : Hid (Tb w1) := HT.out.on HB1.out
      go_loop [5, 23] (fun _ iv => ∃ i : Nat, i ≤ L.length ∧ iv = .int .i64 i ∧ Hid (∀ j (h : j < L.length), j < i → (decide (L[j].length + H.length ≤ 510) && txtB L[j]) = true)) (fun _ iv => L.length - (intOf iv).toNat)
      case atStart => exact ⟨0, Nat.zero_le _, rfl, fun j _ hj => by omega⟩
      case round =>
        obtain ⟨i, hi, rfl, HA⟩ := hrel
        by_cases hlt : i < L.length
        · have hlt' : (i : Int) < (L.length : Int) := by omega
          obtain ⟨g, o, rfl, hgs, hce⟩ := HTX1.out.cell i hlt
          have hys := tx_size L[i]
          have HIT := istext_any L[i] (HLL.out _ (List.getElem_mem hlt)) w1 HTB1.out
          have HNO : Hid ((decide (L[i].length + H.length ≤ 510) && txtB L[i]) = false → arB ⟨c, s, L⟩ = false) := fun hf => by
            rw [HAR.out]
            have : L.all (fun t => decide (t.length + H.length ≤ 510) && txtB t) = false := by
              rw [Bool.eq_false_iff]
              intro h
              rw [List.all_eq_true] at h
              rw [h _ (List.getElem_mem hlt)] at hf
              cases hf
            rw [this, Bool.and_false]
          have HYE : Hid ((decide (L[i].length + H.length ≤ 510) && txtB L[i]) = true → ∀ j (h : j < L.length), j < i + 1 → (decide (L[j].length + H.length ≤ 510) && txtB L[j]) = true) := fun hf j h hj => by
            by_cases e : j = i
            · subst e; exact hf
            · exact HA.out j h (by omega)
          by_cases hmx : L[i].length + H.length ≤ 510
          · rw [decide_eq_true hmx, Bool.true_and] at HNO HYE
            have hm' : ¬ (510 - ((tx H).size : Int)) < ((tx L[i]).size : Int) := by omega
            generalize tx H = XH at *
            cases htx : txtB L[i] with
            | true =>
              rw [htx] at HIT HYE
              have HA2 := HYE.out rfl
              have HA3 : Hid (∀ j (h : j < L.length), j < i + 1 → (decide (L[j].length + H.length ≤ 510) && txtB L[j]) = true) := HA2
              clear HNO HYE HA2 htx
              generalize tx L[i] = Y at *
              go_wp2_with (go_at_call 52; refine HIT.mono ?_; rintro e w2 ⟨rfl, rfl⟩)
              go_round
              case rel => exact ⟨i + 1, hlt, by go_num, HA3.out⟩
              case measure => simp [intOf]; omega
            | false =>
              rw [htx] at HIT HNO
              have HXX : Hid (arB ⟨c, s, L⟩ = false) := HNO.out rfl
              clear HNO HYE htx
              generalize tx L[i] = Y at *
              go_wp2_with (go_at_call 52; refine HIT.mono ?_; rintro e w2 ⟨rfl, rfl⟩)
              go_ret
              exact ⟨by rw [HXX.out]; rfl, HB1.out⟩
          · rw [decide_eq_false hmx, Bool.false_and] at HNO
            have HXX : Hid (arB ⟨c, s, L⟩ = false) := HNO.out rfl
            have hm' : (510 - ((tx H).size : Int)) < ((tx L[i]).size : Int) := by omega
            clear HNO HYE HIT
            generalize tx H = XH at *
            generalize tx L[i] = Y at *
            go_wp2_with fail
            go_ret
            exact ⟨by rw [HXX.out]; rfl, HB1.out⟩
        · have hlt' : ¬ (i : Int) < (L.length : Int) := by omega
          have HXX : Hid (arB ⟨c, s, L⟩ = true) := by
            show _ = _
            rw [HAR.out, decide_eq_true (by omega), decide_eq_true (by omega)]
            simp only [Bool.true_and]
            rw [List.all_eq_true]
            intro t htt
            obtain ⟨j, hj, rfl⟩ := List.mem_iff_getElem.1 htt
            exact HA.out j hj (by omega)
          go_wp2_with fail
          go_ret
          exact ⟨by rw [HXX.out]; rfl, HB1.out⟩
end Go.Proofs.YtbfgefgadplcjaaDoor
