/-
  Octets of a chunk.
-/
import Derived.Test.YthnjbnhmdjpfpaaFo15
namespace Go.Proofs.Ythnjbnhmdjpfpaa
open Go.RowKit

theorem own_low {w : World} {B n : Nat} {v : Value} {xs : List Value} (h : w.ownsRow B 5 1 v n xs) : w.ownsRow 0 5 1 v n xs := by
  obtain ⟨h0, e | ⟨g, cap, cur, e, hg, hr⟩⟩ := h
  · exact ⟨h0, .inl e⟩
  · exact ⟨h0, .inr ⟨g, cap, cur, e, Nat.zero_le _, hr⟩⟩
/-- What a Take of a chunk leaves behind. -/
structure Oct (w : World) (b : Nat) (i : Fi) (cs : Array Value) (v : Value) (w' : World) : Prop where
  ow : w'.ownsRow 0 5 1 v (fiB i).length (cellsB (fiB i))
  nw : ∀ k, v.ownBlock = some k → w.heap.size ≤ k
  li : Lies w' b cs 41
  ch : Chg (fun k => k = b) w w'
theorem xoct_fin (b K : Nat) (i : Fi) (cs : Array Value) (v : Value) (w wr V : World) (tmps : Array Value) (hV : V = ((((wr.setCell ⟨w.heap.size, 0, none⟩ (.int .i64 (fiK i))).setCell ⟨w.heap.size, 1, none⟩ (.string ⟨(fiT i).toArray⟩)).setCell ⟨w.heap.size, 2, none⟩ v).setCell ⟨w.heap.size, 3, none⟩ (.int .i64 (fiY i))).setCell ⟨w.heap.size, 4, none⟩ (.bool (fiH i))) (h0 : Lies wr w.heap.size zit 50) (ho : wr.ownsRow 0 5 1 v (fiB i).length (cellsB (fiB i))) (hv : ∀ k, v.ownBlock = some k → w.heap.size < k) (hx : Lies wr b cs 41) (hb : b < w.heap.size) (hc : Chg (fun k => k = b) w wr) (hp : tmps.getD 4 undef = .int .i64 (K : Int)) (hr : tmps.getD 5 undef = .pointer (some ⟨w.heap.size, 0, none⟩)) :
    bodyPost Try.prog Try.f49 (fun e w' => ∃ v, e = .returned (.tuple #[.int .i64 (K : Int), fiV i v]) ∧ Oct w b i cs v w') .ret { tmps := tmps, defers := [] } V := by
  have hl : Lies V w.heap.size (fiC i v) 50 := by subst hV; exact ((((h0.set 0 _).set 1 _).set 2 _).set 3 _).set 4 _
  have hB : But w.heap.size wr V := by subst hV; exact (((((But.refl _ _).set _ _).set _ _).set _ _).set _ _).set _ _
  clear hV
  refine res_vc rfl w.heap.size 50 (fiC i v) _ _ hp hr hl Try.underlying50 rfl (by rw [infoIT]; rfl) ⟨v, rfl, ?_, ?_, ?_, ?_⟩
  · exact own_keep ho (fun k e => hB.block k (ho.lt k e).2 (fun h => by have := hv k e; omega))
  · exact fun k e => Nat.le_of_lt (hv k e)
  · exact (hB.block b hx.lt (by omega)).trans hx
  · exact hc.then (hB.chg (F := fun k => k = w.heap.size) rfl) (fun i e => .inr (by omega))
set_option maxHeartbeats 8000000 in
set_option maxRecDepth 20000 in
theorem xoct_cells (b n r K Q : Nat) (ad : Option Addr) (l : List UInt8) (k cap : Nat) (hk : k = l.length) (hl : l.length ≤ 17592186044416) (hc : l.length ≤ cap) (hca : ad = none → cap = 0) (hn0 : n ≤ 9223372036854775807) (hr0 : r ≤ 9223372036854775807) (hK : min l.length n = K) (hQ : min K r = Q) (w : World) (c0 c1 c2 c3 c4 c5 c6 : Value) (hL : Lies w b #[c0, c1, c2, c3, c4, c5, c6, .int .i64 (n : Int), .int .i64 (r : Int)] 41) (hb : Bts ad l w) (hnb : ∀ a', ad = some a' → a'.block ≠ b) :
    Calls Try.prog 49 #[.pointer (some ⟨b, 0, none⟩), .slice ad k cap] w fun e w' => ∃ v, e = .returned (.tuple #[.int .i64 (K : Int), fiV (chI n r l) v]) ∧ Oct w b (chI n r l) #[c0, c1, c2, c3, c4, c5, c6, .int .i64 ((n - K : Nat) : Int), .int .i64 ((r - Q : Nat) : Int)] v w' := by
  subst hk
  obtain ⟨W, hW⟩ : ∃ W, W = w.alloc (.cells zit 50) := ⟨_, rfl⟩
  have hB : Below w.heap.size w W := by subst hW; exact (Below.refl _ _).alloc (Nat.le_refl _) _
  have hWs : W.heap.size = w.heap.size + 1 := by subst hW; simp
  have hL0 : Lies W w.heap.size zit 50 := by subst hW; exact Lies.new w _ _
  have hLW : Lies W b #[c0, c1, c2, c3, c4, c5, c6, .int .i64 (n : Int), .int .i64 (r : Int)] 41 := by subst hW; exact hL.alloc _
  have HWW : Hid (w.alloc (.cells #[.int .i64 0, .string ⟨#[]⟩, .slice none 0 0, .int .i64 0, .bool false] 50) = W) := hW.symm
  have hne' : b ≠ w.heap.size := Nat.ne_of_lt hL.lt
  have d7 : W.cell? ⟨b, 7, none⟩ = some (.int .i64 (n : Int)) := hLW.cell 7
  have d8 : W.cell? ⟨b, 8, none⟩ = some (.int .i64 (r : Int)) := hLW.cell 8
  have f7 := hLW.frozen 7
  have f8 := hLW.frozen 8
  obtain ⟨V, hV⟩ : ∃ V, V = (W.setCell ⟨b, 7, none⟩ (.int .i64 ((n - K : Nat) : Int))).setCell ⟨b, 8, none⟩ (.int .i64 ((r - Q : Nat) : Int)) := ⟨_, rfl⟩
  have hVB : But b W V := by subst hV; exact ((But.refl _ _).set _ _).set _ _
  have HLV : Hid (Lies V b #[c0, c1, c2, c3, c4, c5, c6, .int .i64 ((n - K : Nat) : Int), .int .i64 ((r - Q : Nat) : Int)] 41) := by subst hV; exact (hLW.set 7 _).set 8 _
  have HCV : Hid (Chg (fun k => k = b) w V) := (Chg.of_below hB).trans (hVB.chg rfl)
  have hL0V : Lies V w.heap.size zit 50 := (hVB.block _ (by omega) (Ne.symm hne')).trans hL0
  have HL0V : Hid (Lies V w.heap.size zit 50) := hL0V
  have HBV : Hid (Bts ad l V) := (hb.below hB).chg (hVB.chg (F := fun k => k = b) rfl) (fun a' e h => hnb a' e h)
  have HVS : Hid (w.heap.size < V.heap.size) := by have := hVB.size; show _ < _; omega
  have HLT : Hid (b < w.heap.size) := hL.lt
  have HKQ : Hid (min l.length n = K ∧ min K r = Q) := ⟨hK, hQ⟩
  have HCL : Hid (∀ q, q ≤ l.length → Calls Try.prog 61 #[.slice ad q cap] V fun e w' => ∃ v, e = .returned v ∧ w'.ownsRow V.heap.size 5 1 v q (cellsB (l.take q)) ∧ Below V.heap.size V w') := fun q hq => by
    have hlt : (l.take q).length = q := by rw [List.length_take]; omega
    have := clone_any ad (l.take q) cap V (HBV.out.take q) (by rw [hlt]; omega) hca
    rw [hlt] at this
    exact this
  have g7 : V.cell? ⟨b, 7, none⟩ = some (.int .i64 ((n - K : Nat) : Int)) := HLV.out.cell 7
  obtain ⟨⟨i0, i1, i2, i3, i4⟩, j0, j1, j2, j3, j4⟩ := it_cells (show Lies V w.heap.size #[.int .i64 0, .string ⟨#[]⟩, .slice none 0 0, .int .i64 0, .bool false] 50 from hL0V)
  have hKn : K = if n < l.length then n else l.length := by split <;> omega
  have hQn : Q = if r < K then r else K := by split <;> omega
  clear hW hB hb hL hL0 hLW hK hQ hWs hVB hL0V hnb
  by_cases h1 : n < l.length
  · by_cases h2 : r < K
    · rw [if_pos h1] at hKn
      subst K
      rw [if_pos h2] at hQn
      subst Q
      have e7 : ((n - n : Nat) : Int) = 0 := by omega
      have e8 : ((r - r : Nat) : Int) = 0 := by omega
      have HVV : Hid ((W.setCell ⟨b, 7, none⟩ (.int .i64 0)).setCell ⟨b, 8, none⟩ (.int .i64 0) = V) := by show _ = _; rw [hV, e7, e8]
      rw [e7] at g7
      clear hV e7 e8
      by_cases h3 : 0 < r
      · have hci : chI n r l = .body (l.take r) := by unfold chI; rw [HKQ.out.1, HKQ.out.2, if_pos h3]
        rw [hci]
        have HC := HCL.out r (by omega)
        have HQL : Hid (r = (l.take r).length) := by show _ = _; rw [List.length_take]; omega
        clear HCL hci i0 i1 i2 i3 i4 j0 j1 j2 j3 j4
        go_enter Try.func49, Try.ntmps49
        go_wp2_with (first | rw [HWW.out] | rw [HVV.out])
        refine HC.mono ?_
        rintro e w3 ⟨v, rfl, hO, hB3⟩
        have hL3 : Lies w3 w.heap.size zit 50 := HL0V.out.below hB3 HVS.out
        have HL3 : Hid (Lies w3 w.heap.size zit 50) := hL3
        have HO3 : Hid (w3.ownsRow V.heap.size 5 1 v r (cellsB (l.take r))) := hO
        have HB3 : Hid (Below V.heap.size V w3) := hB3
        obtain ⟨⟨i0, i1, i2, i3, i4⟩, j0, j1, j2, j3, j4⟩ := it_cells (show Lies w3 w.heap.size #[.int .i64 0, .string ⟨#[]⟩, .slice none 0 0, .int .i64 0, .bool false] 50 from hL3)
        obtain ⟨ga, gc, rfl, -⟩ := own_bts (own_low hO)
        clear hL3 hO hB3 HC HWW HVV
        go_wp2_with fail
        refine xoct_fin b n (.body (l.take r)) _ (.slice ga r gc) w w3 _ _ rfl HL3.out ?_ ?_ ?_ HLT.out ?_ rfl rfl
        · have := own_low HO3.out
          show w3.ownsRow 0 5 1 _ (l.take r).length _
          rw [← HQL.out]
          exact this
        · exact fun k e => Nat.lt_of_lt_of_le HVS.out (HO3.out.lt k e).1
        · exact HLV.out.below HB3.out HLV.out.lt
        · exact HCV.out.below HB3.out
      · have hci : chI n r l = (.fin 0 false) := by unfold chI; rw [HKQ.out.1, HKQ.out.2, if_neg h3, if_pos (by omega)]
        rw [hci]
        clear HCL hci
        go_enter Try.func49, Try.ntmps49
        go_wp2_with (first | rw [HWW.out] | rw [HVV.out])
        refine xoct_fin b n (.fin 0 false) _ (.slice none 0 0) w V _ _ rfl HL0V.out (own_none _) (fun k e => by cases e) HLV.out HLT.out HCV.out rfl rfl
    · rw [if_pos h1] at hKn
      subst K
      rw [if_neg h2] at hQn
      subst Q
      have e7 : ((n - n : Nat) : Int) = 0 := by omega
      have e8 : ((r - n : Nat) : Int) = ((r : Int) - (n : Int)) := by omega
      have HVV : Hid ((W.setCell ⟨b, 7, none⟩ (.int .i64 0)).setCell ⟨b, 8, none⟩ (.int .i64 ((r : Int) - (n : Int))) = V) := by show _ = _; rw [hV, e7, e8]
      rw [e7] at g7
      clear hV e7 e8
      by_cases h3 : 0 < n
      · have hci : chI n r l = .body (l.take n) := by unfold chI; rw [HKQ.out.1, HKQ.out.2, if_pos h3]
        rw [hci]
        have HC := HCL.out n (by omega)
        have HQL : Hid (n = (l.take n).length) := by show _ = _; rw [List.length_take]; omega
        clear HCL hci i0 i1 i2 i3 i4 j0 j1 j2 j3 j4
        go_enter Try.func49, Try.ntmps49
        go_wp2_with (first | rw [HWW.out] | rw [HVV.out])
        refine HC.mono ?_
        rintro e w3 ⟨v, rfl, hO, hB3⟩
        have hL3 : Lies w3 w.heap.size zit 50 := HL0V.out.below hB3 HVS.out
        have HL3 : Hid (Lies w3 w.heap.size zit 50) := hL3
        have HO3 : Hid (w3.ownsRow V.heap.size 5 1 v n (cellsB (l.take n))) := hO
        have HB3 : Hid (Below V.heap.size V w3) := hB3
        obtain ⟨⟨i0, i1, i2, i3, i4⟩, j0, j1, j2, j3, j4⟩ := it_cells (show Lies w3 w.heap.size #[.int .i64 0, .string ⟨#[]⟩, .slice none 0 0, .int .i64 0, .bool false] 50 from hL3)
        obtain ⟨ga, gc, rfl, -⟩ := own_bts (own_low hO)
        clear hL3 hO hB3 HC HWW HVV
        go_wp2_with fail
        refine xoct_fin b n (.body (l.take n)) _ (.slice ga n gc) w w3 _ _ rfl HL3.out ?_ ?_ ?_ HLT.out ?_ rfl rfl
        · have := own_low HO3.out
          show w3.ownsRow 0 5 1 _ (l.take n).length _
          rw [← HQL.out]
          exact this
        · exact fun k e => Nat.lt_of_lt_of_le HVS.out (HO3.out.lt k e).1
        · exact HLV.out.below HB3.out HLV.out.lt
        · exact HCV.out.below HB3.out
      · have hci : chI n r l = (.fin 0 false) := by unfold chI; rw [HKQ.out.1, HKQ.out.2, if_neg h3, if_pos (by omega)]
        rw [hci]
        clear HCL hci
        go_enter Try.func49, Try.ntmps49
        go_wp2_with (first | rw [HWW.out] | rw [HVV.out])
        refine xoct_fin b n (.fin 0 false) _ (.slice none 0 0) w V _ _ rfl HL0V.out (own_none _) (fun k e => by cases e) HLV.out HLT.out HCV.out rfl rfl
  · by_cases h2 : r < K
    · rw [if_neg h1] at hKn
      subst K
      rw [if_pos h2] at hQn
      subst Q
      have e7 : ((n - l.length : Nat) : Int) = ((n : Int) - (l.length : Int)) := by omega
      have e8 : ((r - r : Nat) : Int) = 0 := by omega
      have HVV : Hid ((W.setCell ⟨b, 7, none⟩ (.int .i64 ((n : Int) - (l.length : Int)))).setCell ⟨b, 8, none⟩ (.int .i64 0) = V) := by show _ = _; rw [hV, e7, e8]
      rw [e7] at g7
      clear hV e7 e8
      by_cases h3 : 0 < r
      · have hci : chI n r l = .body (l.take r) := by unfold chI; rw [HKQ.out.1, HKQ.out.2, if_pos h3]
        rw [hci]
        have HC := HCL.out r (by omega)
        have HQL : Hid (r = (l.take r).length) := by show _ = _; rw [List.length_take]; omega
        clear HCL hci i0 i1 i2 i3 i4 j0 j1 j2 j3 j4
        go_enter Try.func49, Try.ntmps49
        go_wp2_with (first | rw [HWW.out] | rw [HVV.out])
        refine HC.mono ?_
        rintro e w3 ⟨v, rfl, hO, hB3⟩
        have hL3 : Lies w3 w.heap.size zit 50 := HL0V.out.below hB3 HVS.out
        have HL3 : Hid (Lies w3 w.heap.size zit 50) := hL3
        have HO3 : Hid (w3.ownsRow V.heap.size 5 1 v r (cellsB (l.take r))) := hO
        have HB3 : Hid (Below V.heap.size V w3) := hB3
        obtain ⟨⟨i0, i1, i2, i3, i4⟩, j0, j1, j2, j3, j4⟩ := it_cells (show Lies w3 w.heap.size #[.int .i64 0, .string ⟨#[]⟩, .slice none 0 0, .int .i64 0, .bool false] 50 from hL3)
        obtain ⟨ga, gc, rfl, -⟩ := own_bts (own_low hO)
        clear hL3 hO hB3 HC HWW HVV
        go_wp2_with fail
        refine xoct_fin b l.length (.body (l.take r)) _ (.slice ga r gc) w w3 _ _ rfl HL3.out ?_ ?_ ?_ HLT.out ?_ rfl rfl
        · have := own_low HO3.out
          show w3.ownsRow 0 5 1 _ (l.take r).length _
          rw [← HQL.out]
          exact this
        · exact fun k e => Nat.lt_of_lt_of_le HVS.out (HO3.out.lt k e).1
        · exact HLV.out.below HB3.out HLV.out.lt
        · exact HCV.out.below HB3.out
      · by_cases h4 : n = l.length
        · have e4 : ((n : Int) - (l.length : Int) == 0) = true := by simp; omega
          have hci : chI n r l = (.fin 0 false) := by unfold chI; rw [HKQ.out.1, HKQ.out.2, if_neg h3, if_pos (by omega)]
          rw [hci]
          clear HCL hci h4
          go_enter Try.func49, Try.ntmps49
          go_wp2_with (first | rw [HWW.out] | rw [HVV.out])
          refine xoct_fin b l.length (.fin 0 false) _ (.slice none 0 0) w V _ _ rfl HL0V.out (own_none _) (fun k e => by cases e) HLV.out HLT.out HCV.out rfl rfl
        · have e4 : ((n : Int) - (l.length : Int) == 0) = false := by simp; omega
          have hci : chI n r l = .no := by unfold chI; rw [HKQ.out.1, HKQ.out.2, if_neg h3, if_neg (by omega)]
          rw [hci]
          clear HCL hci h4
          go_enter Try.func49, Try.ntmps49
          go_wp2_with (first | rw [HWW.out] | rw [HVV.out])
          refine xoct_fin b l.length .no _ (.slice none 0 0) w V _ _ rfl HL0V.out (own_none _) (fun k e => by cases e) HLV.out HLT.out HCV.out rfl rfl
    · rw [if_neg h1] at hKn
      subst K
      rw [if_neg h2] at hQn
      subst Q
      have e7 : ((n - l.length : Nat) : Int) = ((n : Int) - (l.length : Int)) := by omega
      have e8 : ((r - l.length : Nat) : Int) = ((r : Int) - (l.length : Int)) := by omega
      have HVV : Hid ((W.setCell ⟨b, 7, none⟩ (.int .i64 ((n : Int) - (l.length : Int)))).setCell ⟨b, 8, none⟩ (.int .i64 ((r : Int) - (l.length : Int))) = V) := by show _ = _; rw [hV, e7, e8]
      rw [e7] at g7
      clear hV e7 e8
      by_cases h3 : 0 < l.length
      · have hci : chI n r l = .body (l.take l.length) := by unfold chI; rw [HKQ.out.1, HKQ.out.2, if_pos h3]
        rw [hci]
        have HC := HCL.out l.length (by omega)
        have HQL : Hid (l.length = (l.take l.length).length) := by show _ = _; rw [List.length_take]; omega
        clear HCL hci i0 i1 i2 i3 i4 j0 j1 j2 j3 j4
        go_enter Try.func49, Try.ntmps49
        go_wp2_with (first | rw [HWW.out] | rw [HVV.out])
        refine HC.mono ?_
        rintro e w3 ⟨v, rfl, hO, hB3⟩
        have hL3 : Lies w3 w.heap.size zit 50 := HL0V.out.below hB3 HVS.out
        have HL3 : Hid (Lies w3 w.heap.size zit 50) := hL3
        have HO3 : Hid (w3.ownsRow V.heap.size 5 1 v l.length (cellsB (l.take l.length))) := hO
        have HB3 : Hid (Below V.heap.size V w3) := hB3
        obtain ⟨⟨i0, i1, i2, i3, i4⟩, j0, j1, j2, j3, j4⟩ := it_cells (show Lies w3 w.heap.size #[.int .i64 0, .string ⟨#[]⟩, .slice none 0 0, .int .i64 0, .bool false] 50 from hL3)
        obtain ⟨ga, gc, rfl, -⟩ := own_bts (own_low hO)
        clear hL3 hO hB3 HC HWW HVV
        go_wp2_with fail
        refine xoct_fin b l.length (.body (l.take l.length)) _ (.slice ga l.length gc) w w3 _ _ rfl HL3.out ?_ ?_ ?_ HLT.out ?_ rfl rfl
        · have := own_low HO3.out
          show w3.ownsRow 0 5 1 _ (l.take l.length).length _
          rw [← HQL.out]
          exact this
        · exact fun k e => Nat.lt_of_lt_of_le HVS.out (HO3.out.lt k e).1
        · exact HLV.out.below HB3.out HLV.out.lt
        · exact HCV.out.below HB3.out
      · by_cases h4 : n = l.length
        · have e4 : ((n : Int) - (l.length : Int) == 0) = true := by simp; omega
          have hci : chI n r l = (.fin 0 false) := by unfold chI; rw [HKQ.out.1, HKQ.out.2, if_neg h3, if_pos (by omega)]
          rw [hci]
          clear HCL hci h4
          go_enter Try.func49, Try.ntmps49
          go_wp2_with (first | rw [HWW.out] | rw [HVV.out])
          refine xoct_fin b l.length (.fin 0 false) _ (.slice none 0 0) w V _ _ rfl HL0V.out (own_none _) (fun k e => by cases e) HLV.out HLT.out HCV.out rfl rfl
        · have e4 : ((n : Int) - (l.length : Int) == 0) = false := by simp; omega
          have hci : chI n r l = .no := by unfold chI; rw [HKQ.out.1, HKQ.out.2, if_neg h3, if_neg (by omega)]
          rw [hci]
          clear HCL hci h4
          go_enter Try.func49, Try.ntmps49
          go_wp2_with (first | rw [HWW.out] | rw [HVV.out])
          refine xoct_fin b l.length .no _ (.slice none 0 0) w V _ _ rfl HL0V.out (own_none _) (fun k e => by cases e) HLV.out HLT.out HCV.out rfl rfl
end Go.Proofs.Ythnjbnhmdjpfpaa
