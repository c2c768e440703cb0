/-
  The document's One.
-/
import Derived.Test.YtdgepnfgjgbkoaaDoorRMd
import Derived.Test.YtdgepnfgjgbkoaaDoorBase
import Derived.Test.YtdgepnfgjgbkoaaDoorUnhex4
import Derived.Lib.OthersKept
import Derived.Lib.ConvBytes
namespace Go.Proofs.YtdgepnfgjgbkoaaDoor
open Go.RowKit

theorem bts_drop {g o : Nat} {l : List UInt8} {w : World} (h : Bts (some ⟨g, o, none⟩) l w) (k : Nat) : Bts (some ⟨g, o + k, none⟩) (l.drop k) w := by
  rcases h with rfl | ⟨g', o', e, hg, hr⟩
  · exact .inl (by simp)
  · injection e with e
    injection e with e1 e2
    subst e1 e2
    refine .inr ⟨g, o + k, rfl, hg, fun j hj => ?_⟩
    rw [List.length_drop] at hj
    rw [Nat.add_assoc, hr (k + j) (by omega), List.getElem_drop]
/-- What One tells of a row. -/
def oneT (l : List UInt8) : Int × Nat := (oneN l).getD (0, 0)

set_option maxHeartbeats 4000000 in
set_option maxRecDepth 100000 in
theorem done_any (a : Option Addr) (l : List UInt8) (cap at' : Nat) (w : World) (hb : Bts a l w) (hc : l.length ≤ cap) (hat : at' ≤ l.length) (hs : l.length ≤ 9223372036854775000) :
    Calls Tryd.prog 51 #[.slice a l.length cap, .int .i64 at'] w fun e w' => e = .returned (.tuple #[.int .i32 (oneT (l.drop at')).1, .int .i64 (oneT (l.drop at')).2]) ∧ Below w.heap.size w w' := by
  have HL : Hid (Bts a l w) := hb
  have HW0 : Hid (Below w.heap.size w w) := Below.refl _ w
  clear hb
  go_enter Tryd.func51, Tryd.ntmps51
  go_wp2_with fail
  go_loopw [6, 7, 8] (fun n _ _ wr => ∃ j : Nat, n = .int .i64 j ∧ 1 ≤ j ∧ j ≤ 5 ∧ Hid (Below w.heap.size w wr) ∧ Hid (∀ m, 1 ≤ m → m < j → m ≤ (l.drop at').length → ¬ okX ((l.drop at').take m))) (fun n _ _ _ => 5 - (intOf n).toNat)
  case atStart => exact ⟨1, rfl, Nat.le_refl _, by omega, HW0, fun m h1 h2 _ => by omega⟩
  case round =>
    obtain ⟨j, rfl, hj1, hj5, HW, HP⟩ := hrel
    by_cases hgo : j ≤ 4 ∧ at' + j ≤ l.length
    · obtain ⟨hj4, hjl⟩ := hgo
      obtain ⟨g, o, rfl, hg, -⟩ := HL.out.cell at' (by omega)
      have hlen : ((l.drop at').take j).length = j := by rw [List.length_take, List.length_drop]; omega
      have hm := dmade_any g (o + at') (cap - at') ((l.drop at').take j) (by omega) (by omega) (by omega) wr (((bts_drop HL.out at').take j).below HW.out)
      rw [hlen] at hm
      have HON : Hid (okX ((l.drop at').take j) → oneT (l.drop at') = (mkX ((l.drop at').take j), j)) := fun h => by
        unfold oneT
        rw [okX_one (by rw [List.length_drop]; omega) h]
        rfl
      have hcq : cap - at' ≠ 0 := by omega
      have hij : (at' : Int) + (j : Int) ≤ (l.length : Int) := by omega
      go_wp2_with fail
      refine hm.mono ?_
      rintro e w1 ⟨⟨r, rfl, hr⟩, b1⟩
      have HB1 : Hid (Below w.heap.size w w1) := HW.out.trans (b1.mono HW.out.size)
      clear hm b1
      by_cases hk : okX ((l.drop at').take j)
      · have HE : Hid (oneT (l.drop at') = (r, j)) := (HON.out hk).trans (by rw [hr hk])
        rw [decide_eq_true hk]
        clear hr HON HP hlen hk
        go_wp2
        (try simp only [Exit.inBlock, Exit.then])
        refine bodyPost_ret (v := .tuple #[.int .i32 r, .int .i64 j]) (by simp [results, Tryd.results51, go_sem]) rfl ⟨by rw [HE.out], HB1.out⟩
      · have HP2 : Hid (∀ m, 1 ≤ m → m < j + 1 → m ≤ (l.drop at').length → ¬ okX ((l.drop at').take m)) := fun m h1 h2 h3 => by
          rcases Nat.lt_or_ge m j with h | h
          · exact HP.out m h1 h h3
          · obtain rfl : m = j := by omega
            exact hk
        rw [decide_eq_false hk]
        clear hr HON HP hlen hk
        go_wp2
        go_roundw
        case rel => exact ⟨j + 1, by go_num, by omega, by omega, HB1, HP2⟩
        case measure => simp [intOf]; omega
    · have HE : Hid (oneT (l.drop at') = (0, 0)) := by
        show _ = _
        unfold oneT
        cases h : oneN (l.drop at') with
        | none => rfl
        | some p =>
          obtain ⟨r, n⟩ := p
          obtain ⟨h1, h2, h3, h4, -⟩ := one_okX h
          rw [List.length_drop] at h1
          refine absurd h4 (HP.out n h2 ?_ (by rw [List.length_drop]; exact h1))
          omega
      by_cases hj4 : j ≤ 4
      · have hij : ¬ ((at' : Int) + (j : Int) ≤ (l.length : Int)) := by omega
        clear hgo
        go_wp2
        (try simp only [Exit.inBlock, Exit.then])
        refine bodyPost_ret (v := .tuple #[.int .i32 0, .int .i64 0]) (by simp [results, Tryd.results51, go_sem]) rfl ⟨by rw [HE.out]; rfl, HW.out⟩
      · obtain rfl : j = 5 := by omega
        clear hgo hj4
        go_wp2
        (try simp only [Exit.inBlock, Exit.then])
        refine bodyPost_ret (v := .tuple #[.int .i32 0, .int .i64 0]) (by simp [results, Tryd.results51, go_sem]) rfl ⟨by rw [HE.out]; rfl, HW.out⟩

set_option maxHeartbeats 4000000 in
set_option maxRecDepth 100000 in
theorem dbad_any (a : Option Addr) (l : List UInt8) (cap : Nat) (w : World) (hb : Bts a l w) (hc : l.length ≤ cap) (hs : l.length ≤ 9223372036854775000) :
    Calls Tryd.prog 50 #[.slice a l.length cap] w fun e w' => e = .returned (.int .i64 (badU l)) ∧ Below w.heap.size w w' := by
  have HL : Hid (Bts a l w) := hb
  have HW0 : Hid (Below w.heap.size w w) := Below.refl _ w
  clear hb
  go_enter Tryd.func50, Tryd.ntmps50
  go_wp2_with fail
  go_loopw [3, 4, 5] (fun p _ _ wr => ∃ j : Nat, p = .int .i64 j ∧ j ≤ l.length ∧ Hid (Below w.heap.size w wr) ∧ Hid (badU l = j + badU (l.drop j))) (fun p _ _ _ => l.length - (intOf p).toNat)
  case atStart => exact ⟨0, rfl, Nat.zero_le _, HW0, by show _ = _; rw [List.drop_zero]; omega⟩
  case round =>
    obtain ⟨j, rfl, hj, HW, HP⟩ := hrel
    have hm := done_any a l cap j wr (HL.out.below HW.out) hc hj hs
    cases h : oneN (l.drop j) with
    | none =>
      have e1 : oneT (l.drop j) = (0, 0) := by unfold oneT; rw [h]; rfl
      rw [e1] at hm
      have HE : Hid (badU l = j) := by show _ = _; rw [HP.out, badU_none h]; rfl
      clear h e1
      go_wp2_with fail
      refine hm.mono ?_
      rintro e w1 ⟨rfl, b1⟩
      have HB1 : Hid (Below w.heap.size w w1) := HW.out.trans (b1.mono HW.out.size)
      clear hm b1
      go_wp2
      go_ret
      exact ⟨ret_i64 (by rw [HE.out]), HB1.out⟩
    | some p =>
      obtain ⟨r, n⟩ := p
      have e1 : oneT (l.drop j) = (r, n) := by unfold oneT; rw [h]; rfl
      rw [e1] at hm
      obtain ⟨h1, h2, h3, -⟩ := one_okX h
      rw [List.length_drop] at h1
      have HE : Hid (badU l = (j + n) + badU (l.drop (j + n))) := by show _ = _; rw [HP.out, badU_some h, List.drop_drop]; omega
      have hn0 : ¬ ((n : Int) = 0) := by omega
      clear h e1
      go_wp2_with fail
      refine hm.mono ?_
      rintro e w1 ⟨rfl, b1⟩
      have HB1 : Hid (Below w.heap.size w w1) := HW.out.trans (b1.mono HW.out.size)
      clear hm b1
      go_wp2
      go_roundw
      case rel => exact ⟨j + n, by go_num, by omega, HB1, HE⟩
      case measure => simp [intOf]; omega
end Go.Proofs.YtdgepnfgjgbkoaaDoor
/-
  The shape of a row of one's own.
-/
namespace Go.Proofs.YtdgepnfgjgbkoaaDoor
open Go.RowKit

theorem own_cap {w : World} {base n cap : Nat} {a : Option Addr} {xs : List Value} (h : w.ownsRow base 5 1 (.slice a n cap) n xs) : cap ≤ 9223372036854775807 := by
  obtain ⟨_, ⟨h1, _⟩ | ⟨g, c, cur, hv, _, _, _, h3, _⟩⟩ := h
  · injection h1 with _ _ e
    omega
  · injection hv with _ _ e
    unfold maxLen at h3
    omega
theorem own_shape {w : World} {base n : Nat} {v : Value} {xs : List Value} (h : w.ownsRow base 5 1 v n xs) : ∃ a cap, v = .slice a n cap := by
  rcases h.2 with ⟨rfl, h0⟩ | ⟨g, cap, cur, hv, _⟩
  · exact ⟨none, 0, by rw [h0]⟩
  · exact ⟨_, _, hv⟩
end Go.Proofs.YtdgepnfgjgbkoaaDoor
/-
  The document's Decode.
-/
namespace Go.Proofs.YtdgepnfgjgbkoaaDoor
open Go.RowKit

/-- What Decode tells: runes, an error and its place. -/
def decR (l : List UInt8) : List Int := if badU l < l.length then [] else decL l
def decE (l : List UInt8) : Array Value := if badU l < l.length then #[.int .i64 50, .int .i64 (badU l)] else #[.int .i64 0, .int .i64 0]
theorem oneN_whole {l : List UInt8} (h : badU l = l.length) (h0 : 0 < l.length) : ∃ r n, oneN l = some (r, n) ∧ badU (l.drop n) = (l.drop n).length := by
  cases e : oneN l with
  | none => rw [badU_none e] at h; omega
  | some p =>
    obtain ⟨r, n⟩ := p
    refine ⟨r, n, rfl, ?_⟩
    have h1 := badU_some e
    have h2 := (oneN_run l r n e).1
    rw [List.length_drop]
    omega
theorem conv_bytesD (w : World) (s : ByteArray) : ∃ c w', (convert 9 38 (.string s)).run Tryd.prog w = .ok (.slice (some ⟨w.heap.size, 0, none⟩) s.size c) w' ∧ RowL s.data.toList w.heap.size 0 w' ∧ s.size ≤ c ∧ (s.size ≤ maxLen → c ≤ maxLen) ∧ Below w.heap.size w w' ∧ w.heap.size < w'.heap.size ∧ w'.heap.size = w.heap.size + 1 := by
  refine ⟨_, _, Lib.run_convert_string_bytes w 9 38 5 s Tryd.underlying9 Tryd.underlying38 Tryd.underlying5, fun j hj => ?_, grownCap_ge _ _ _ _, fun h => grownCap_le_maxLen _ _ _ _ h, ?_, ?_, Lib.bytesWorld_size _ _ _⟩
  · rw [Nat.zero_add, Lib.bytesWorld_cell w 5 s j (by rw [len_list] at hj; exact hj)]
    congr 3
    rw [List.getD_eq_getElem?_getD, List.getElem?_eq_getElem hj]
    rfl
  · exact ⟨rfl, rfl, rfl, by rw [Lib.bytesWorld_size]; omega, fun k hk => Lib.bytesWorld_at_old w 5 s k hk⟩
  · rw [Lib.bytesWorld_size]
    omega

set_option maxHeartbeats 4000000 in
set_option maxRecDepth 100000 in
theorem ddec_any (s : ByteArray) (w : World) (hs : s.size ≤ 35184372088000) :
    Calls Tryd.prog 25 #[.string s] w fun e w' => (∃ v, e = .returned (.tuple #[v, .agg (decE s.data.toList)]) ∧ w'.ownsRow w.heap.size 21 1 v (decR s.data.toList).length (cellsN .i32 (decR s.data.toList))) ∧ Below w.heap.size w w' := by
  have hll := len_list s
  obtain ⟨c, w2, hconv, hrow, hc1, -, hb2, hz2, hl2⟩ := conv_bytesD (w.alloc (.cells #[.int .i64 0, .int .i64 0] 25)) s
  have HW2 : Hid (Below w.heap.size w w2) := ((Below.refl _ w).alloc (Nat.le_refl _) _).trans (hb2.mono (by simp))
  have HS2 : Hid (Lies w2 w.heap.size #[.int .i64 0, .int .i64 0] 25) := (Lies.new w _ _).below hb2 (by simp)
  have hq2 : w2.heap.size = w.heap.size + 2 := by rw [hl2]; simp
  have HBT : Hid (Bts (some ⟨w.heap.size + 1, 0, none⟩) s.data.toList w2) := .inr ⟨w.heap.size + 1, 0, rfl, by omega, by rw [World.size_alloc] at hrow; exact hrow⟩
  have hD := dbad_any (some ⟨w.heap.size + 1, 0, none⟩) s.data.toList c w2 HBT.out (by omega) (by omega)
  rw [hll] at hD
  rw [World.size_alloc] at hconv
  have hbl := badU_le s.data.toList
  rw [hll] at hbl
  clear hrow hb2 hz2 hl2
  go_enter Tryd.func25, Tryd.ntmps25
  go_wp2_with fail
  refine hD.mono ?_
  rintro e w3 ⟨rfl, b3⟩
  have HW3 : Hid (Below w.heap.size w w3) := HW2.out.trans (b3.mono (by omega))
  have HS3 : Hid (Lies w3 w.heap.size #[.int .i64 0, .int .i64 0] 25) := HS2.out.below b3 (by omega)
  have HBT3 : Hid (Bts (some ⟨w.heap.size + 1, 0, none⟩) s.data.toList w3) := HBT.out.below b3
  have hq3 : w.heap.size + 2 ≤ w3.heap.size := by have := b3.size; omega
  clear hD b3 hconv HBT HS2 HW2 hq2
  by_cases hA : badU s.data.toList < s.size
  · have HE : Hid (decE s.data.toList = #[.int .i64 50, .int .i64 (badU s.data.toList)]) := if_pos (by omega)
    have HR : Hid (decR s.data.toList = []) := if_pos (by omega)
    have c0 := HS3.out.cell 0
    have c1 := HS3.out.cell 1
    have f0 := HS3.out.frozen 0
    have f1 := HS3.out.frozen 1
    simp at c0 c1
    generalize badU s.data.toList = bd at *
    go_wp2
    have HZ : Hid (Lies ((w3.setCell ⟨w.heap.size, 0, none⟩ (.int .i64 50)).setCell ⟨w.heap.size, 1, none⟩ (.int .i64 bd)) w.heap.size #[.int .i64 50, .int .i64 bd] 25) := (HS3.out.set 0 _).set 1 _
    have z0 := HZ.out.cell 0
    have z1 := HZ.out.cell 1
    simp at z0 z1
    (try simp only [Exit.inBlock, Exit.then])
    refine bodyPost_ret (v := .tuple #[.slice none 0 0, .agg #[.int .i64 50, .int .i64 bd]]) (by simp [results, Tryd.results25, go_sem, z0, z1]) rfl ⟨⟨_, by rw [HE.out], by rw [HR.out]; exact ⟨rfl, .inl ⟨rfl, rfl⟩⟩⟩, (HW3.out.setCell (p := ⟨w.heap.size, 0, none⟩) (Nat.le_refl _) _).setCell (p := ⟨w.heap.size, 1, none⟩) (Nat.le_refl _) _⟩
  · have HE : Hid (decE s.data.toList = #[.int .i64 0, .int .i64 0]) := if_neg (by omega)
    have HR : Hid (decR s.data.toList = decL s.data.toList) := if_neg (by omega)
    have hbe : badU s.data.toList = s.size := by omega
    have HBE : Hid (badU s.data.toList = s.data.toList.length) := hbe.trans hll.symm
    clear hA hbl
    rw [hbe]
    clear hbe
    go_wp2_with fail
    go_loopw [6, 7, 8, 9] (fun u p _ _ wr => ∃ (j : Nat) (acc : List Int), p = .int .i64 j ∧ j ≤ s.size ∧ acc.length ≤ j ∧ Hid (Below w3.heap.size w3 wr) ∧ Hid (wr.ownsRow w3.heap.size 21 1 u acc.length (cellsN .i32 acc)) ∧ Hid (decL s.data.toList = acc ++ decL (s.data.toList.drop j)) ∧ Hid (badU (s.data.toList.drop j) = (s.data.toList.drop j).length)) (fun _ p _ _ _ => s.size - (intOf p).toNat)
    case atStart => exact ⟨0, [], rfl, Nat.zero_le _, Nat.le_refl _, Below.refl _ _, ⟨rfl, .inl ⟨rfl, rfl⟩⟩, by show _ = _; rw [List.drop_zero]; rfl, by show _ = _; rw [List.drop_zero]; exact HBE.out⟩
    case round =>
      obtain ⟨j, acc, rfl, hj, hal, HW, HO, HP, HQ⟩ := hrel
      have hwz := HW.out.size
      by_cases hjs : j < s.size
      · obtain ⟨r, n, h, hrest⟩ := oneN_whole HQ.out (by rw [List.length_drop]; omega)
        have hm := done_any (some ⟨w.heap.size + 1, 0, none⟩) s.data.toList c j wr (HBT3.out.below HW.out) (by omega) (by omega) (by omega)
        have e1 : oneT (s.data.toList.drop j) = (r, n) := by unfold oneT; rw [h]; rfl
        rw [e1, hll] at hm
        obtain ⟨h1, h2, h3, -⟩ := one_okX h
        rw [List.length_drop] at h1
        have HP2 : Hid (decL s.data.toList = (acc ++ [r]) ++ decL (s.data.toList.drop (j + n))) := by show _ = _; rw [HP.out, decL_some h, List.drop_drop]; simp
        have HQ2 : Hid (badU (s.data.toList.drop (j + n)) = (s.data.toList.drop (j + n)).length) := by show _ = _; rw [List.drop_drop] at hrest; exact hrest
        clear h e1 hrest HP HQ
        go_wp2_with fail
        refine hm.mono ?_
        rintro e w5 ⟨rfl, b5⟩
        have HW5 : Hid (Below w3.heap.size w3 w5) := HW.out.trans (b5.mono HW.out.size)
        have HO5 : Hid (w5.ownsRow w3.heap.size 21 1 _ acc.length (cellsN .i32 acc)) := ownN_below HO.out b5
        have hz5 := HW5.out.size
        clear hm b5 HO HW
        go_wp2_with (at_builtin; refine wpList_append_num rfl _ _ 50 21 4 .i32 Tryd.underlying50 infoR (by omega) rfl w3.heap.size _ acc.length acc rfl (HO5.out.alloc _) ⟨w5.heap.size, 0, none⟩ r 1 rfl (one_nts _ _ _ _) (by omega) (by simp; omega) ?_)
        intro v4 w4 hown4 hgrow4
        have hg4 := grown_on (World.grownBy_alloc w5 _ (u6 : Value).ownBlock) hgrow4 (fun _ h => .inl h.symm)
        have HW4 : Hid (Below w3.heap.size w3 w4) := HW5.out.grown hg4 HW5.out.size (fun q hq => (HO5.out.lt q hq).1)
        have HO4 : Hid (w4.ownsRow w3.heap.size 21 1 v4 (acc ++ [r]).length (cellsN .i32 (acc ++ [r]))) := by
          show World.ownsRow _ _ _ _ _ _ _
          rw [List.length_append]
          exact hown4
        clear hown4 hgrow4 hg4 HO5 HW5
        go_wp2
        go_roundw
        case rel => exact ⟨j + n, acc ++ [r], by go_num, by omega, by simp; omega, HW4, HO4, HP2, HQ2⟩
        case measure => simp [intOf]; omega
      · obtain rfl : j = s.size := by omega
        have HP3 : Hid (decL s.data.toList = acc) := by
          show _ = _
          rw [HP.out, List.drop_eq_nil_of_le (by omega), decL_none (l := []) rfl, List.append_nil]
        have HS4 : Hid (Lies wr w.heap.size #[.int .i64 0, .int .i64 0] 25) := HS3.out.below HW.out (by omega)
        have HW4 : Hid (Below w.heap.size w wr) := HW3.out.trans (HW.out.mono (by omega))
        have c0 := HS4.out.cell 0
        have c1 := HS4.out.cell 1
        have f0 := HS4.out.frozen 0
        have f1 := HS4.out.frozen 1
        simp at c0 c1
        clear HW hjs
        go_wp2
        have hS5 : ((wr.setCell ⟨w.heap.size, 0, none⟩ (.int .i64 0)).setCell ⟨w.heap.size, 1, none⟩ (.int .i64 0)).ownsRow w3.heap.size 21 1 u6 acc.length (cellsN .i32 acc) := by
          have hap := ownN_apart HO.out HS4.out (by decide)
          exact ownN_keep HO.out (fun k hk => (Below.heap_setCell _ _ _ _ (hap k hk)).trans (Below.heap_setCell _ _ _ _ (hap k hk)))
        (try simp only [Exit.inBlock, Exit.then])
        refine bodyPost_ret (v := .tuple #[u6, .agg #[.int .i64 0, .int .i64 0]]) (by simp [results, Tryd.results25, go_sem, c0, c1]) rfl ⟨⟨u6, by rw [HE.out], by rw [HR.out, HP3.out]; exact base_le hS5 (by omega)⟩, (HW4.out.setCell (p := ⟨w.heap.size, 0, none⟩) (Nat.le_refl _) _).setCell (p := ⟨w.heap.size, 1, none⟩) (Nat.le_refl _) _⟩
end Go.Proofs.YtdgepnfgjgbkoaaDoor
