/-
  The program's bytesOf and Unbase64.
-/
import Derived.Test.YtdgepnfgjgbkoaaDoorLay
import Derived.Lib.ConvBytes
namespace Go.Proofs.YtdgepnfgjgbkoaaDoor
open Go.RowKit

theorem lay64_any (a b c d : UInt8) (g : OkG a b c d) (gb o : Nat) (v : Value) (B n : Nat) (D : List UInt8) (w : World) (hown : w.ownsRow B 5 1 v n (cellsB D)) (hB : B ≤ w.heap.size) (hn : n + 3 ≤ 140737488355328)
    (h0 : w.cell? ⟨gb, o, none⟩ = some (.int .u8 (a.toNat : Int))) (h1 : w.cell? ⟨gb, o + 1, none⟩ = some (.int .u8 (b.toNat : Int))) (h2 : w.cell? ⟨gb, o + 2, none⟩ = some (.int .u8 (c.toNat : Int))) (h3 : w.cell? ⟨gb, o + 3, none⟩ = some (.int .u8 (d.toNat : Int))) :
    Calls Tryd.prog 102 #[v, .slice (some ⟨gb, o, none⟩) 4 4] w fun e w' => ∃ v', e = .returned v' ∧ w'.ownsRow B 5 1 v' (n + (grp a b c d).length) (cellsB (D ++ grp a b c d)) ∧ w.grownBy w' v.ownBlock := by
  by_cases hd : d = 61
  · subst hd
    by_cases hc : c = 61
    · subst hc
      have e : (grp a b 61 61).length = 1 := by simp [grp]
      rw [e]
      exact lay2 a b g.a0 g.b0 gb o v B n D w hown hB hn h0 h1 h2
    · have e : (grp a b c 61).length = 2 := by simp [grp, hc]
      rw [e]
      exact lay3 a b c g.a0 g.b0 (g.c0.resolve_right (fun x => hc x.1)) gb o v B n D w hown hB hn h0 h1 h2 h3
  · have hd0 : 0 ≤ numI d := g.d0.resolve_right (fun x => hd x.1)
    have hc : c ≠ 61 := fun e => by
      rcases g.c0 with h0 | ⟨_, h1, _⟩
      · exact ne_pad h0 e
      · exact hd h1
    have e : (grp a b c d).length = 3 := by simp [grp, hc, hd]
    rw [e]
    exact lay4 a b c d g.a0 g.b0 (g.c0.resolve_right (fun x => hc x.1)) hd0 gb o v B n D w hown hB hn h0 h1 h2 h3

theorem ok_at : ∀ (k : Nat) (l : List UInt8), okN 0 l = l.length → (h : 4 * k + 3 < l.length) → OkG l[4 * k] l[4 * k + 1] l[4 * k + 2] l[4 * k + 3]
  | 0, l, hok, h => by
    match l, h with
    | a :: b :: c :: d :: r, _ => exact (okN_group a b c d r (by simpa using hok)).1
  | k + 1, l, hok, h => by
    match l, h with
    | a :: b :: c :: d :: r, h =>
      obtain ⟨_, hd1, hd2⟩ := okN_group a b c d r (by simpa using hok)
      have hr : 4 * k + 3 < r.length := by simp only [List.length_cons] at h; omega
      have hd : d ≠ 61 := fun e => by rw [hd1 e] at hr; simp at hr
      have := ok_at k r (hd2 hd) hr
      simpa [Nat.mul_add] using this

/-- A list's length. -/
def sLen : Value → Nat
  | .slice _ m _ => m
  | _ => 0
theorem sLen_slice (a : Option Addr) (m c : Nat) : sLen (.slice a m c) = m := rfl

set_option maxHeartbeats 4000000 in
set_option maxRecDepth 100000 in
theorem bytesof_any (g o : Nat) (l : List UInt8) (cap n : Nat) (w : World) (hb : RowL l g o w) (hn : n = l.length) (hg : l ≠ [] → g < w.heap.size) (hok : okN 0 l = l.length) (hl : l.length ≤ 187649984473764) (hcap : l.length ≤ cap) (hcap2 : cap ≤ 9223372036854775807) :
    Calls Tryd.prog 84 #[.slice (some ⟨g, o, none⟩) n cap] w fun e w' => ∃ v, e = .returned v ∧ w'.ownsRow w.heap.size 5 1 v (d64L l).length (cellsB (d64L l)) ∧ Below w.heap.size w w' := by
  obtain ⟨i0, hi, hz0, hz1, hz2⟩ := info_parts info5
  have HR : Hid (RowL l g o w) := hb
  have HOK : Hid (okN 0 l = l.length) := hok
  have HNL : Hid (n = l.length) := hn
  have HGL : Hid (l ≠ [] → g < w.heap.size) := hg
  rw [← hn] at hl hcap
  clear hb hok hn hg
  go_enter Tryd.func84, Tryd.ntmps84
  go_wp2_with (at_make; refine wpList_make_own _ rfl _ _ 38 rfl w.heap.size 5 i0 (.int .u8 0) 1 Tryd.underlying38 hi hz0 hz1 .i64 .i64 _ (n / 4 * 3) rfl (by first | rfl | (push_cast; rfl)) (by omega) (by rw [hz2]; omega) (by unfold maxLen; omega) (Nat.le_refl _) ?_)
  intro w1 hown hgrow
  have HB : Hid (Below w.heap.size w w1) := (Below.refl _ _).grown hgrow (Nat.le_refl _) (fun k h => by cases h)
  have HO : Hid (w1.ownsRow w.heap.size 5 1 (.slice (some ⟨w.heap.size, 0, none⟩) 0 (n / 4 * 3)) (d64L (l.take 0)).length (cellsB (d64L (l.take 0)))) := hown
  clear hgrow hown
  go_wp2_with fail
  go_loopw [0, 3] (fun x v wr => ∃ (k m : Nat) (y : Option Addr) (c : Nat), n = 4 * k + m ∧ x = .slice y m c ∧ (0 < m → y = some ⟨g, o + 4 * k, none⟩ ∧ m ≤ c ∧ c ≤ 9223372036854775807) ∧ Hid (wr.ownsRow w.heap.size 5 1 v (d64L (l.take (4 * k))).length (cellsB (d64L (l.take (4 * k))))) ∧ Hid (Below w.heap.size w wr)) (fun x _ _ => sLen x)
  case atStart => exact ⟨0, n, _, _, by omega, rfl, fun _ => ⟨rfl, hcap, hcap2⟩, HO, HB⟩
  case round =>
    clear HO HB
    obtain ⟨k, m, y, c, hk, rfl, hyc, HO, HB⟩ := hrel
    have HK : Hid (n = 4 * k + m) := hk
    by_cases hlt : 4 ≤ m
    · obtain ⟨rfl, hmc, hc2⟩ := hyc (by omega)
      have hll : 4 * k + 3 < l.length := by rw [← HNL.out]; omega
      have hgs : g < w.heap.size := HGL.out (fun e => by rw [e] at hll; simp at hll)
      have HC : Hid (∀ j, (h : j < l.length) → wr.cell? ⟨g, o + j, none⟩ = some (.int .u8 (l[j].toNat : Int))) := fun j hj => (HB.out.cell (p := ⟨g, o + j, none⟩) hgs).trans (HR.out j hj)
      have hdl := d64L_le (l.take (4 * k))
      rw [List.length_take, Nat.min_eq_left (by omega)] at hdl
      have HLAY : Hid (Calls Tryd.prog 102 #[u3, .slice (some ⟨g, o + 4 * k, none⟩) 4 4] wr fun e w' => ∃ v', e = .returned v' ∧ w'.ownsRow w.heap.size 5 1 v' ((d64L (l.take (4 * k))).length + (grp l[4 * k] l[4 * k + 1] l[4 * k + 2] l[4 * k + 3]).length) (cellsB (d64L (l.take (4 * k)) ++ grp l[4 * k] l[4 * k + 1] l[4 * k + 2] l[4 * k + 3])) ∧ wr.grownBy w' u3.ownBlock) :=
        lay64_any _ _ _ _ (ok_at k l HOK.out hll) g (o + 4 * k) u3 w.heap.size _ _ wr HO.out HB.out.size (by omega) (HC.out (4 * k) (by omega)) (HC.out (4 * k + 1) (by omega)) (HC.out (4 * k + 2) (by omega)) (HC.out (4 * k + 3) hll)
      have HD : Hid (d64L (l.take (4 * (k + 1))) = d64L (l.take (4 * k)) ++ grp l[4 * k] l[4 * k + 1] l[4 * k + 2] l[4 * k + 3]) := by
        show _ = _
        rw [show 4 * (k + 1) = 4 * k + 4 by omega, take4 l (4 * k) hll, d64L_append k _ _ (by rw [List.length_take]; omega)]
        simp [d64L]
      generalize grp l[4 * k] l[4 * k + 1] l[4 * k + 2] l[4 * k + 3] = G at HLAY HD
      have HX : Hid (∀ q, u3.ownBlock = some q → w.heap.size ≤ q) := fun q hq => (HO.out.lt q hq).1
      clear hdl hll hyc HO hk
      go_wp2_with fail
      refine Calls.mono HLAY.out ?_
      rintro e w2 ⟨v2, rfl, hown2, hgrow2⟩
      have HO2 : Hid (w2.ownsRow w.heap.size 5 1 v2 (d64L (l.take (4 * (k + 1)))).length (cellsB (d64L (l.take (4 * (k + 1)))))) := by
        show World.ownsRow _ _ _ _ _ _ _
        rw [HD.out, List.length_append]
        exact hown2
      have HB2 : Hid (Below w.heap.size w w2) := HB.out.grown hgrow2 HB.out.size HX.out
      clear hown2 hgrow2 HB HLAY HD HX HC
      go_wp2
      have hk2 := HK.out
      refine ⟨⟨k + 1, m - 4, _, c - 4, by omega, rfl, fun h => ⟨by rw [if_neg (by omega), show o + 4 * k + 4 = o + 4 * (k + 1) by omega], by omega, by omega⟩, HO2, HB2⟩, ?_⟩
      rw [sLen_slice, sLen_slice]
      omega
    · have HE : Hid (d64L l = d64L (l.take (4 * k))) := by
        show _ = _
        have e : l = l.take (4 * k) ++ l.drop (4 * k) := (List.take_append_drop _ _).symm
        have hln := HNL.out
        conv => lhs; rw [e]
        rw [d64L_append k _ _ (by rw [List.length_take]; omega), d64L_short (l.drop (4 * k)) (by rw [List.length_drop]; omega), List.append_nil]
      clear hyc
      go_wp2
      go_ret
      exact ⟨_, rfl, by rw [HE.out]; exact HO.out, HB.out⟩

/-- A text's bytes as a new list. -/
theorem conv_bytes (w : World) (s : ByteArray) : ∃ c w', (convert 9 38 (.string s)).run Tryd.prog w = .ok (.slice (some ⟨w.heap.size, 0, none⟩) s.size c) w' ∧ RowL s.data.toList w.heap.size 0 w' ∧ s.size ≤ c ∧ (s.size ≤ maxLen → c ≤ maxLen) ∧ Below w.heap.size w w' ∧ w.heap.size < w'.heap.size ∧ w'.heap.size = w.heap.size + 1 := by
  refine ⟨_, _, Lib.run_convert_string_bytes w 9 38 5 s Tryd.underlying9 Tryd.underlying38 Tryd.underlying5, fun j hj => ?_, grownCap_ge _ _ _ _, fun h => grownCap_le_maxLen _ _ _ _ h, ?_, ?_, Lib.bytesWorld_size _ _ _⟩
  · rw [Nat.zero_add, Lib.bytesWorld_cell w 5 s j (by rw [len_list] at hj; exact hj)]
    congr 3
    rw [List.getD_eq_getElem?_getD, List.getElem?_eq_getElem hj]
    rfl
  · exact ⟨rfl, rfl, rfl, by rw [Lib.bytesWorld_size]; omega, fun k hk => Lib.bytesWorld_at_old w 5 s k hk⟩
  · rw [Lib.bytesWorld_size]
    omega
theorem behE_none {d : Nat} {c : UInt8} (h : nextD d c = none) : behE d c = errC c := by unfold behE; rw [if_neg (by rw [h]; simp)]
theorem behD_some {d d' : Nat} {c : UInt8} (h : nextD d c = some d') : behD d c = d' ∧ behE d c = 0 := by unfold behD behE; rw [h]; simp

set_option maxHeartbeats 4000000 in
set_option maxRecDepth 100000 in
theorem unb_any (s : ByteArray) (hs : s.size ≤ 187649984473764) (w : World) :
    Calls Tryd.prog 62 #[.string s] w fun e w' => ∃ v, e = .returned (.tuple #[v, .agg #[.int .i64 (unbE s.data.toList : Nat), .int .i64 (unbA s.data.toList : Nat)]]) ∧ w'.ownsRow w.heap.size 5 1 v (unbL s.data.toList).length (cellsB (unbL s.data.toList)) ∧ Below w.heap.size w w' := by
  have HB0 : Hid (∀ o, Below w.heap.size w (w.alloc o)) := fun o => (Below.refl _ _).alloc (Nat.le_refl _) o
  go_enter Tryd.func62, Tryd.ntmps62
  go_wp2_with fail
  go_loop [4, 9] (fun d i => ∃ k x : Nat, k ≤ s.size ∧ i = .int .i64 k ∧ d = .int .i64 x ∧ x < 8 ∧ Hid (okN 0 (s.data.toList.take k) = k ∧ x = stD 0 (s.data.toList.take k))) (fun _ i => s.size - (intOf i).toNat)
  case atStart => exact ⟨0, 0, by omega, rfl, rfl, by omega, rfl, rfl⟩
  case round =>
    obtain ⟨k, x, hk, rfl, rfl, hx, HK⟩ := hrel
    by_cases hlt : k < s.size
    · have hll : k < s.data.toList.length := by rw [len_list]; exact hlt
      have HC : Hid (∀ wx, Calls Tryd.prog 83 #[.int .i64 x, .int .u8 (s[k].toNat : Int)] wx fun e w' => e = .returned (.tuple #[.int .i64 (behD x s[k] : Nat), .int .i64 (behE x s[k] : Nat)]) ∧ w' = wx) := fun wx => behind_any x hx s[k] wx
      cases hn : nextD x s[k] with
      | some d' =>
        have HS : Hid (okN 0 (s.data.toList.take (k + 1)) = k + 1 ∧ d' = stD 0 (s.data.toList.take (k + 1))) := by
          have := okN_some 0 _ k hll HK.out.1 d' (by rw [← HK.out.2]; exact hn)
          exact ⟨this.1, this.2.symm⟩
        rw [(behD_some hn).1, (behD_some hn).2] at HC
        have hd := nextD_lt _ _ _ hn
        clear hn HK
        go_wp2_with (go_at_call 83; refine Calls.mono (HC.out _) ?_; rintro e w1 ⟨rfl, rfl⟩)
        go_round
        case rel => exact ⟨k + 1, d', by omega, by go_num, rfl, hd, HS⟩
        case measure => simp [intOf]; omega
      | none =>
        have he := okN_none 0 _ k hll HK.out.1 (by rw [← HK.out.2]; exact hn)
        have HE : Hid (unbE s.data.toList = errC s[k] ∧ unbA s.data.toList = k ∧ unbL s.data.toList = []) := by
          refine ⟨?_, ?_, ?_⟩
          · unfold unbE
            rw [dif_pos (by rw [he]; exact hll)]
            simp only [he]
            rfl
          · unfold unbA
            rw [if_pos (by rw [he]; exact hll), he]
          · unfold unbL
            rw [if_pos (by rw [he]; exact hll)]
        rw [behE_none hn] at HC
        have hne : (((errC s[k] : Nat) : Int) != 0) = true := by have := errC_pos s[k]; simp; omega
        clear hn HK he
        go_wp2_with (go_at_call 83; refine Calls.mono (HC.out _) ?_; rintro e w1 ⟨rfl, rfl⟩)
        refine bodyPost_ret (v := .tuple #[.slice none 0 0, .agg #[.int .i64 (errC s[k] : Nat), .int .i64 (k : Nat)]]) (by simp [results, Tryd.results62, go_sem]) rfl ⟨_, by rw [HE.out.1, HE.out.2.1], ?_, ?_⟩
        · rw [HE.out.2.2]
          exact own_nil _ _
        · exact HB0.out _
    · obtain rfl : k = s.size := by omega
      have hok : okN 0 s.data.toList = s.data.toList.length := by
        have := HK.out.1
        rw [List.take_of_length_le (by rw [len_list]; exact Nat.le_refl _)] at this
        rw [len_list]
        exact this
      clear HK hk hlt
      by_cases h4 : s.size % 4 = 0
      · have HE : Hid (unbE s.data.toList = 0 ∧ unbA s.data.toList = 0 ∧ unbL s.data.toList = d64L s.data.toList) := by
          refine ⟨?_, ?_, ?_⟩
          · unfold unbE
            rw [dif_neg (by omega), if_neg (by rw [len_list]; omega)]
          · unfold unbA
            rw [if_neg (by omega), if_neg (by rw [len_list]; omega)]
          · unfold unbL
            rw [if_neg (by omega), if_neg (by rw [len_list]; omega)]
        have hq : ((s.size : Int) % 4 != 0) = false := by simp; omega
        have HOK : Hid (okN 0 s.data.toList = s.data.toList.length) := hok
        clear hok
        obtain ⟨c, w2, hconv, hrow, hc1, hc2, hb2, hz2, hl2⟩ := conv_bytes (w.alloc (.cells #[.int .i64 0, .int .i64 0] 25)) s
        have hsz : (w.alloc (.cells #[.int .i64 0, .int .i64 0] 25)).heap.size = w.heap.size + 1 := by simp
        rw [hsz] at hconv hrow hz2
        have HBY : Hid (Calls Tryd.prog 84 #[.slice (some ⟨w.heap.size + 1, 0, none⟩) s.size c] w2 fun e w' => ∃ v, e = .returned v ∧ w'.ownsRow w2.heap.size 5 1 v (d64L s.data.toList).length (cellsB (d64L s.data.toList)) ∧ Below w2.heap.size w2 w') :=
          bytesof_any (w.heap.size + 1) 0 s.data.toList c s.size w2 hrow (len_list s).symm (fun _ => hz2) HOK.out (by rw [len_list]; exact hs) (by rw [len_list]; exact hc1) (by have := hc2 (by unfold maxLen; omega); unfold maxLen at this; omega)
        have HL2 : Hid (Lies w2 w.heap.size #[.int .i64 0, .int .i64 0] 25) := (hb2.block w.heap.size (by simp)).trans (Lies.new w _ _)
        have HB2 : Hid (Below w.heap.size w w2) := (HB0.out _).trans (hb2.mono (by simp))
        clear hrow hc1 hc2 hb2 hz2 hsz
        go_wp2_with (go_at_call 84; refine Calls.mono HBY.out ?_; rintro e w3 ⟨v3, rfl, hown3, hbel3⟩; have HL3 : Hid (Lies w3 w.heap.size #[.int .i64 0, .int .i64 0] 25) := HL2.out.below hbel3 HL2.out.lt; have hc0 : w3.cell? ⟨w.heap.size, 0, none⟩ = some (.int .i64 0) := HL3.out.cell 0; have hc1 : w3.cell? ⟨w.heap.size, 1, none⟩ = some (.int .i64 0) := HL3.out.cell 1; have hf0 := HL3.out.frozen 0; have hf1 := HL3.out.frozen 1; have HO3 : Hid (w3.ownsRow w.heap.size 5 1 v3 (d64L s.data.toList).length (cellsB (d64L s.data.toList))) := base_le hown3 HB2.out.size; have hne : ∀ q, v3.ownBlock = some q → q ≠ w.heap.size := (fun q hq e => by have h1 := (hown3.lt q hq).1; have h2 := HL2.out.lt; omega); have HB3 : Hid (Below w.heap.size w w3) := HB2.out.trans (hbel3.mono HB2.out.size); clear hown3 hbel3)
        refine bodyPost_ret (v := .tuple #[v3, .agg #[.int .i64 0, .int .i64 0]]) (by simp [results, Tryd.results62, go_sem, hc0, hc1]) rfl ⟨_, by rw [HE.out.1, HE.out.2.1]; rfl, ?_, ?_⟩
        · rw [HE.out.2.2]
          refine own_keep HO3.out (fun q hq => ?_)
          rw [Below.heap_setCell _ _ _ _ (hne q hq), Below.heap_setCell _ _ _ _ (hne q hq)]
        · exact (HB3.out.setCell (p := ⟨w.heap.size, 0, none⟩) (Nat.le_refl _) _).setCell (p := ⟨w.heap.size, 1, none⟩) (Nat.le_refl _) _
      · have HE : Hid (unbE s.data.toList = 41 ∧ unbA s.data.toList = s.size ∧ unbL s.data.toList = []) := by
          refine ⟨?_, ?_, ?_⟩
          · unfold unbE
            rw [dif_neg (by omega), if_pos (by rw [len_list]; exact h4)]
          · unfold unbA
            rw [if_neg (by omega), if_pos (by rw [len_list]; exact h4), len_list]
          · unfold unbL
            rw [if_neg (by omega), if_pos (by rw [len_list]; exact h4)]
        have hq : ((s.size : Int) % 4 != 0) = true := by simp; omega
        clear hok
        go_wp2
        refine bodyPost_ret (v := .tuple #[.slice none 0 0, .agg #[.int .i64 41, .int .i64 (s.size : Nat)]]) (by simp [results, Tryd.results62, go_sem]) rfl ⟨_, by rw [HE.out.1, HE.out.2.1]; rfl, ?_, ?_⟩
        · rw [HE.out.2.2]
          exact own_nil _ _
        · exact HB0.out _
end Go.Proofs.YtdgepnfgjgbkoaaDoor
