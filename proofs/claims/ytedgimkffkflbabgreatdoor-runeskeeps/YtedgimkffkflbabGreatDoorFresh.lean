/-
  The statements' fresh: what Decode and Unpuny tell is new memory.
-/
import Derived.Test.YtedgimkffkflbabGreatDoorFrS
import Derived.Test.YtedgimkffkflbabGreatDoorRDec
import Derived.Test.YtedgimkffkflbabGreatDoorRUnw
import Derived.Test.YtedgimkffkflbabGreatDoorWak
namespace Go.Proofs.YtedgimkffkflbabGreatDoor
open Go.RowKit

theorem decE_two (l : List UInt8) : ∃ x y, decE l = #[.int .i64 x, .int .i64 y] := by
  unfold decE
  split
  · exact ⟨_, _, rfl⟩
  · exact ⟨_, _, rfl⟩
theorem decR_short (l : List UInt8) : (decR l).length ≤ l.length := by
  unfold decR
  split
  · simp
  · exact decL_length l
theorem unpT_short (l : List UInt8) : (unpT l).length ≤ 2 * l.length := by
  unfold unpT
  split
  · simp
  · cases h : unpD l with
    | inl e => simp
    | inr ps =>
      simp only
      have h0 : (lowR (l.take (mrkN l))).length = mrkN l := by
        unfold lowR
        rw [List.length_map, List.length_take]
        have := mrkN_le l
        omega
      obtain ⟨h1, h2⟩ := unL_ok l _ _ _ _ _ _ _ _ (by omega) h
      rw [insAll_length _ _ (by rw [h0]; exact h1), h0]
      have := mrkN_le l
      omega
theorem own_kindN {w : World} {B B' e e' m m' n n' k : Nat} {v v' : Value} {xs xs' : List Value} (h : w.ownsRow B e m v n xs) (h' : w.ownsRow B' e' m' v' n' xs') (hv : v.ownBlock = some k) (hv' : v'.ownBlock = some k) : e = e' := by
  rcases h.2 with ⟨rfl, _⟩ | ⟨g, cap, cur, rfl, _, hg, _⟩
  · cases hv
  · rcases h'.2 with ⟨rfl, _⟩ | ⟨g', cap', cur', rfl, _, hg', _⟩
    · cases hv'
    · injection hv with hv
      injection hv' with hv'
      subst hv hv'
      exact lies_kind hg hg'
def sz4 (F : Nat → List Int) (k : Nat) : List Int := (List.range k).map fun i => ((F i).length : Int)
theorem sz4_succ (F : Nat → List Int) (k : Nat) : sz4 F (k + 1) = sz4 F k ++ [((F k).length : Int)] := by unfold sz4; rw [List.range_succ, List.map_append]; rfl
theorem sz4_length (F : Nat → List Int) (k : Nat) : (sz4 F k).length = k := by simp [sz4]
theorem fill_set (l : List Int) (j : Nat) (x : Int) (hj : j < l.length) : (List.replicate j x ++ l.drop j).set j x = List.replicate (j + 1) x ++ l.drop (j + 1) := by
  rw [List.set_append, if_neg (by simp), List.length_replicate, Nat.sub_self, List.drop_eq_getElem_cons hj, List.set_cons_zero, List.replicate_succ', List.append_assoc]
  rfl

set_option maxHeartbeats 16000000 in
set_option maxRecDepth 100000 in
theorem fresh_any (s p : ByteArray) (hs : s.size ≤ 1048576) (hp : p.size ≤ 1048576) (w : World) (ht : Tb w) :
    Calls Tryz.prog 4 #[.string s, .string p] w fun e w' => e = .returned (.bool true) ∧ Below w.heap.size w w' := by
  have HT : Hid (Tb w) := ht
  obtain ⟨x1, y1, hxy⟩ := decE_two s.data.toList
  obtain ⟨x2, y2, hxy2⟩ : ∃ x y, unpV p.data.toList = #[.int .i64 x, .int .i64 y] := ⟨_, _, rfl⟩
  have hls := len_list s
  have hlp := len_list p
  have hr1 := decR_short s.data.toList
  have hr2 := unpT_short p.data.toList
  rw [hls] at hr1
  rw [hlp] at hr2
  have HDDEC : Hid (∀ wx, Below w.heap.size w wx → Calls Tryz.prog 7 #[.string s] wx fun e w' => (∃ v, e = .returned (.tuple #[v, .agg #[.int .i64 x1, .int .i64 y1]]) ∧ w'.ownsRow wx.heap.size 21 1 v (decR s.data.toList).length (cellsN .i32 (decR s.data.toList))) ∧ Below wx.heap.size wx w') := fun wx _ => by
    have := ddec_any s wx (by omega)
    rw [hxy] at this
    exact this
  have HDEC : Hid (∀ wx, Below w.heap.size w wx → Calls Tryz.prog 9 #[.string s] wx fun e w' => (∃ v, e = .returned (.tuple #[v, .agg #[.int .i64 x1, .int .i64 y1]]) ∧ w'.ownsRow wx.heap.size 21 1 v (decR s.data.toList).length (cellsN .i32 (decR s.data.toList))) ∧ Below wx.heap.size wx w') := fun wx hx => by
    have := dec_any s wx ((HT.out.below hx (Nat.le_refl _)).fst) (by omega)
    rw [hxy] at this
    exact this
  have HDUNP : Hid (∀ wx, Below w.heap.size w wx → Calls Tryz.prog 8 #[.string p] wx fun e w' => (∃ v, e = .returned (.tuple #[v, .agg #[.int .i64 x2, .int .i64 y2]]) ∧ w'.ownsRow wx.heap.size 21 1 v (unpT p.data.toList).length (cellsN .i32 (unpT p.data.toList))) ∧ Below wx.heap.size wx w') := fun wx _ => by
    have := dunp_any p wx (by omega)
    rw [hxy2] at this
    exact this
  have HUNP : Hid (∀ wx, Below w.heap.size w wx → Calls Tryz.prog 10 #[.string p] wx fun e w' => (∃ v, e = .returned (.tuple #[v, .agg #[.int .i64 x2, .int .i64 y2]]) ∧ w'.ownsRow wx.heap.size 21 1 v (unpT p.data.toList).length (cellsN .i32 (unpT p.data.toList))) ∧ Below wx.heap.size wx w') := fun wx hx => by
    have := unp_any p wx ((HT.out.below hx (Nat.le_refl _)).tab) ((HT.out.below hx (Nat.le_refl _)).gcl) (by omega)
    rw [hxy2] at this
    exact this
  generalize decR s.data.toList = R1 at *
  generalize unpT p.data.toList = R2 at *
  clear ht hxy hxy2 hls hlp
  obtain ⟨N1, hN1⟩ : ∃ N1, N1 = R1.length := ⟨_, rfl⟩
  obtain ⟨N2, hN2⟩ : ∃ N2, N2 = R2.length := ⟨_, rfl⟩
  have HN1 : Hid (N1 = R1.length) := hN1
  have HN2 : Hid (N2 = R2.length) := hN2
  rw [← hN1] at hr1 HDDEC HDEC
  rw [← hN2] at hr2 HDUNP HUNP
  clear hN1 hN2
  go_enter Tryz.func4, Tryz.ntmps4
  go_wp2_with fail
  refine (HDDEC.out w (Below.refl _ _)).mono ?_
  rintro e m1 ⟨⟨u1, rfl, o1⟩, b1⟩
  obtain ⟨a1, c1, rfl⟩ := ownN_shape o1
  have B1 : Below w.heap.size w (m1.alloc (.cells #[.int .i64 x1, .int .i64 y1] 30)) := b1.alloc b1.size _
  have HB1 : Hid (Below w.heap.size w (m1.alloc (.cells #[.int .i64 x1, .int .i64 y1] 30))) := B1
  have HO1_1 : Hid ((m1.alloc (.cells #[.int .i64 x1, .int .i64 y1] 30)).ownsRow w.heap.size 21 1 (.slice a1 N1 c1) N1 (cellsN .i32 R1)) := base_le (o1.alloc _) (Nat.le_refl _)
  clear o1 b1 B1
  go_wp2_with fail
  generalize m1.alloc (.cells #[.int .i64 x1, .int .i64 y1] 30) = z1 at *
  refine (HDUNP.out z1 HB1.out).mono ?_
  rintro e m2 ⟨⟨u2, rfl, o2⟩, b2⟩
  obtain ⟨a2, c2, rfl⟩ := ownN_shape o2
  have B2 : Below z1.heap.size z1 (m2.alloc (.cells #[.int .i64 x2, .int .i64 y2] 30)) := b2.alloc b2.size _
  have HB2 : Hid (Below w.heap.size w (m2.alloc (.cells #[.int .i64 x2, .int .i64 y2] 30))) := HB1.out.trans (B2.mono HB1.out.size)
  have HO2_2 : Hid ((m2.alloc (.cells #[.int .i64 x2, .int .i64 y2] 30)).ownsRow w.heap.size 21 1 (.slice a2 N2 c2) N2 (cellsN .i32 R2)) := base_le (o2.alloc _) HB1.out.size
  have HP1_2 : Hid (∀ q, (Value.slice a1 N1 c1).ownBlock = some q → (Value.slice a2 N2 c2).ownBlock ≠ some q) := fun q hq e => by
    have h1 := (HO1_1.out.lt q hq).2
    have h2 := (o2.lt q e).1
    omega
  have HO1_2 : Hid ((m2.alloc (.cells #[.int .i64 x2, .int .i64 y2] 30)).ownsRow w.heap.size 21 1 (.slice a1 N1 c1) N1 (cellsN .i32 R1)) := ownN_below HO1_1.out B2
  clear o2 b2 B2 HB1 HO1_1
  go_wp2_with fail
  generalize m2.alloc (.cells #[.int .i64 x2, .int .i64 y2] 30) = z2 at *
  refine (HDEC.out z2 HB2.out).mono ?_
  rintro e m3 ⟨⟨v0, rfl, o3⟩, b3⟩
  obtain ⟨a3, c3, rfl⟩ := ownN_shape o3
  have B3 : Below z2.heap.size z2 (m3.alloc (.cells #[.int .i64 x1, .int .i64 y1] 30)) := b3.alloc b3.size _
  have HB3 : Hid (Below w.heap.size w (m3.alloc (.cells #[.int .i64 x1, .int .i64 y1] 30))) := HB2.out.trans (B3.mono HB2.out.size)
  have HO3_3 : Hid ((m3.alloc (.cells #[.int .i64 x1, .int .i64 y1] 30)).ownsRow w.heap.size 21 1 (.slice a3 N1 c3) N1 (cellsN .i32 R1)) := base_le (o3.alloc _) HB2.out.size
  have HP1_3 : Hid (∀ q, (Value.slice a1 N1 c1).ownBlock = some q → (Value.slice a3 N1 c3).ownBlock ≠ some q) := fun q hq e => by
    have h1 := (HO1_2.out.lt q hq).2
    have h2 := (o3.lt q e).1
    omega
  have HO1_3 : Hid ((m3.alloc (.cells #[.int .i64 x1, .int .i64 y1] 30)).ownsRow w.heap.size 21 1 (.slice a1 N1 c1) N1 (cellsN .i32 R1)) := ownN_below HO1_2.out B3
  have HP2_3 : Hid (∀ q, (Value.slice a2 N2 c2).ownBlock = some q → (Value.slice a3 N1 c3).ownBlock ≠ some q) := fun q hq e => by
    have h1 := (HO2_2.out.lt q hq).2
    have h2 := (o3.lt q e).1
    omega
  have HO2_3 : Hid ((m3.alloc (.cells #[.int .i64 x1, .int .i64 y1] 30)).ownsRow w.heap.size 21 1 (.slice a2 N2 c2) N2 (cellsN .i32 R2)) := ownN_below HO2_2.out B3
  clear o3 b3 B3 HB2 HO1_2 HO2_2
  go_wp2_with fail
  generalize m3.alloc (.cells #[.int .i64 x1, .int .i64 y1] 30) = z3 at *
  refine (HDEC.out z3 HB3.out).mono ?_
  rintro e m4 ⟨⟨v1, rfl, o4⟩, b4⟩
  obtain ⟨a4, c4, rfl⟩ := ownN_shape o4
  have B4 : Below z3.heap.size z3 (m4.alloc (.cells #[.int .i64 x1, .int .i64 y1] 30)) := b4.alloc b4.size _
  have HB4 : Hid (Below w.heap.size w (m4.alloc (.cells #[.int .i64 x1, .int .i64 y1] 30))) := HB3.out.trans (B4.mono HB3.out.size)
  have HO4_4 : Hid ((m4.alloc (.cells #[.int .i64 x1, .int .i64 y1] 30)).ownsRow w.heap.size 21 1 (.slice a4 N1 c4) N1 (cellsN .i32 R1)) := base_le (o4.alloc _) HB3.out.size
  have HP1_4 : Hid (∀ q, (Value.slice a1 N1 c1).ownBlock = some q → (Value.slice a4 N1 c4).ownBlock ≠ some q) := fun q hq e => by
    have h1 := (HO1_3.out.lt q hq).2
    have h2 := (o4.lt q e).1
    omega
  have HO1_4 : Hid ((m4.alloc (.cells #[.int .i64 x1, .int .i64 y1] 30)).ownsRow w.heap.size 21 1 (.slice a1 N1 c1) N1 (cellsN .i32 R1)) := ownN_below HO1_3.out B4
  have HP2_4 : Hid (∀ q, (Value.slice a2 N2 c2).ownBlock = some q → (Value.slice a4 N1 c4).ownBlock ≠ some q) := fun q hq e => by
    have h1 := (HO2_3.out.lt q hq).2
    have h2 := (o4.lt q e).1
    omega
  have HO2_4 : Hid ((m4.alloc (.cells #[.int .i64 x1, .int .i64 y1] 30)).ownsRow w.heap.size 21 1 (.slice a2 N2 c2) N2 (cellsN .i32 R2)) := ownN_below HO2_3.out B4
  have HP3_4 : Hid (∀ q, (Value.slice a3 N1 c3).ownBlock = some q → (Value.slice a4 N1 c4).ownBlock ≠ some q) := fun q hq e => by
    have h1 := (HO3_3.out.lt q hq).2
    have h2 := (o4.lt q e).1
    omega
  have HO3_4 : Hid ((m4.alloc (.cells #[.int .i64 x1, .int .i64 y1] 30)).ownsRow w.heap.size 21 1 (.slice a3 N1 c3) N1 (cellsN .i32 R1)) := ownN_below HO3_3.out B4
  clear o4 b4 B4 HB3 HO1_3 HO2_3 HO3_3
  go_wp2_with fail
  generalize m4.alloc (.cells #[.int .i64 x1, .int .i64 y1] 30) = z4 at *
  refine (HUNP.out z4 HB4.out).mono ?_
  rintro e m5 ⟨⟨v2, rfl, o5⟩, b5⟩
  obtain ⟨a5, c5, rfl⟩ := ownN_shape o5
  have B5 : Below z4.heap.size z4 (m5.alloc (.cells #[.int .i64 x2, .int .i64 y2] 30)) := b5.alloc b5.size _
  have HB5 : Hid (Below w.heap.size w (m5.alloc (.cells #[.int .i64 x2, .int .i64 y2] 30))) := HB4.out.trans (B5.mono HB4.out.size)
  have HO5_5 : Hid ((m5.alloc (.cells #[.int .i64 x2, .int .i64 y2] 30)).ownsRow w.heap.size 21 1 (.slice a5 N2 c5) N2 (cellsN .i32 R2)) := base_le (o5.alloc _) HB4.out.size
  have HP1_5 : Hid (∀ q, (Value.slice a1 N1 c1).ownBlock = some q → (Value.slice a5 N2 c5).ownBlock ≠ some q) := fun q hq e => by
    have h1 := (HO1_4.out.lt q hq).2
    have h2 := (o5.lt q e).1
    omega
  have HO1_5 : Hid ((m5.alloc (.cells #[.int .i64 x2, .int .i64 y2] 30)).ownsRow w.heap.size 21 1 (.slice a1 N1 c1) N1 (cellsN .i32 R1)) := ownN_below HO1_4.out B5
  have HP2_5 : Hid (∀ q, (Value.slice a2 N2 c2).ownBlock = some q → (Value.slice a5 N2 c5).ownBlock ≠ some q) := fun q hq e => by
    have h1 := (HO2_4.out.lt q hq).2
    have h2 := (o5.lt q e).1
    omega
  have HO2_5 : Hid ((m5.alloc (.cells #[.int .i64 x2, .int .i64 y2] 30)).ownsRow w.heap.size 21 1 (.slice a2 N2 c2) N2 (cellsN .i32 R2)) := ownN_below HO2_4.out B5
  have HP3_5 : Hid (∀ q, (Value.slice a3 N1 c3).ownBlock = some q → (Value.slice a5 N2 c5).ownBlock ≠ some q) := fun q hq e => by
    have h1 := (HO3_4.out.lt q hq).2
    have h2 := (o5.lt q e).1
    omega
  have HO3_5 : Hid ((m5.alloc (.cells #[.int .i64 x2, .int .i64 y2] 30)).ownsRow w.heap.size 21 1 (.slice a3 N1 c3) N1 (cellsN .i32 R1)) := ownN_below HO3_4.out B5
  have HP4_5 : Hid (∀ q, (Value.slice a4 N1 c4).ownBlock = some q → (Value.slice a5 N2 c5).ownBlock ≠ some q) := fun q hq e => by
    have h1 := (HO4_4.out.lt q hq).2
    have h2 := (o5.lt q e).1
    omega
  have HO4_5 : Hid ((m5.alloc (.cells #[.int .i64 x2, .int .i64 y2] 30)).ownsRow w.heap.size 21 1 (.slice a4 N1 c4) N1 (cellsN .i32 R1)) := ownN_below HO4_4.out B5
  clear o5 b5 B5 HB4 HO1_4 HO2_4 HO3_4 HO4_4
  go_wp2_with fail
  generalize m5.alloc (.cells #[.int .i64 x2, .int .i64 y2] 30) = z5 at *
  refine (HUNP.out z5 HB5.out).mono ?_
  rintro e m6 ⟨⟨v3, rfl, o6⟩, b6⟩
  obtain ⟨a6, c6, rfl⟩ := ownN_shape o6
  have B6 : Below z5.heap.size z5 (m6.alloc (.cells #[.int .i64 x2, .int .i64 y2] 30)) := b6.alloc b6.size _
  have HB6 : Hid (Below w.heap.size w (m6.alloc (.cells #[.int .i64 x2, .int .i64 y2] 30))) := HB5.out.trans (B6.mono HB5.out.size)
  have HO6_6 : Hid ((m6.alloc (.cells #[.int .i64 x2, .int .i64 y2] 30)).ownsRow w.heap.size 21 1 (.slice a6 N2 c6) N2 (cellsN .i32 R2)) := base_le (o6.alloc _) HB5.out.size
  have HP1_6 : Hid (∀ q, (Value.slice a1 N1 c1).ownBlock = some q → (Value.slice a6 N2 c6).ownBlock ≠ some q) := fun q hq e => by
    have h1 := (HO1_5.out.lt q hq).2
    have h2 := (o6.lt q e).1
    omega
  have HO1_6 : Hid ((m6.alloc (.cells #[.int .i64 x2, .int .i64 y2] 30)).ownsRow w.heap.size 21 1 (.slice a1 N1 c1) N1 (cellsN .i32 R1)) := ownN_below HO1_5.out B6
  have HP2_6 : Hid (∀ q, (Value.slice a2 N2 c2).ownBlock = some q → (Value.slice a6 N2 c6).ownBlock ≠ some q) := fun q hq e => by
    have h1 := (HO2_5.out.lt q hq).2
    have h2 := (o6.lt q e).1
    omega
  have HO2_6 : Hid ((m6.alloc (.cells #[.int .i64 x2, .int .i64 y2] 30)).ownsRow w.heap.size 21 1 (.slice a2 N2 c2) N2 (cellsN .i32 R2)) := ownN_below HO2_5.out B6
  have HP3_6 : Hid (∀ q, (Value.slice a3 N1 c3).ownBlock = some q → (Value.slice a6 N2 c6).ownBlock ≠ some q) := fun q hq e => by
    have h1 := (HO3_5.out.lt q hq).2
    have h2 := (o6.lt q e).1
    omega
  have HO3_6 : Hid ((m6.alloc (.cells #[.int .i64 x2, .int .i64 y2] 30)).ownsRow w.heap.size 21 1 (.slice a3 N1 c3) N1 (cellsN .i32 R1)) := ownN_below HO3_5.out B6
  have HP4_6 : Hid (∀ q, (Value.slice a4 N1 c4).ownBlock = some q → (Value.slice a6 N2 c6).ownBlock ≠ some q) := fun q hq e => by
    have h1 := (HO4_5.out.lt q hq).2
    have h2 := (o6.lt q e).1
    omega
  have HO4_6 : Hid ((m6.alloc (.cells #[.int .i64 x2, .int .i64 y2] 30)).ownsRow w.heap.size 21 1 (.slice a4 N1 c4) N1 (cellsN .i32 R1)) := ownN_below HO4_5.out B6
  have HP5_6 : Hid (∀ q, (Value.slice a5 N2 c5).ownBlock = some q → (Value.slice a6 N2 c6).ownBlock ≠ some q) := fun q hq e => by
    have h1 := (HO5_5.out.lt q hq).2
    have h2 := (o6.lt q e).1
    omega
  have HO5_6 : Hid ((m6.alloc (.cells #[.int .i64 x2, .int .i64 y2] 30)).ownsRow w.heap.size 21 1 (.slice a5 N2 c5) N2 (cellsN .i32 R2)) := ownN_below HO5_5.out B6
  clear o6 b6 B6 HB5 HO1_5 HO2_5 HO3_5 HO4_5 HO5_5
  clear HDDEC HDUNP
  have HZ6 : Hid ((m6.alloc (.cells #[.int .i64 x2, .int .i64 y2] 30)).heap.size = m6.heap.size + 1) := by
    show _ = _
    simp
  go_wp2_with fail
  generalize m6.alloc (.cells #[.int .i64 x2, .int .i64 y2] 30) = z6 at *
  rw [← HZ6.out]
  clear HZ6
  have HF0 : Hid (Frs w (z6.alloc (.cells #[.slice a3 N1 c3, .slice a4 N1 c4, .slice a5 N2 c5, .slice a6 N2 c6] 22)) z6.heap.size (f4 (Value.slice a3 N1 c3) (Value.slice a4 N1 c4) (Value.slice a5 N2 c5) (Value.slice a6 N2 c6)) (f4 R1 R1 R2 R2) (.slice a1 N1 c1) (.slice a2 N2 c2) R1 R2) := by
    have ab : Below z6.heap.size z6 (z6.alloc (.cells #[.slice a3 N1 c3, .slice a4 N1 c4, .slice a5 N2 c5, .slice a6 N2 c6] 22)) := (Below.refl _ _).alloc (Nat.le_refl _) _
    refine ⟨HB6.out.trans (ab.mono HB6.out.size), HB6.out.size, Lies.new z6 _ _, fun i hi => ?_, fun i j hi hj hne q hq => ?_, ?_, ?_, fun i hi q hq => ?_, fun i hi q hq => ?_⟩
    · match i, hi with
      | 0, _ =>
        show World.ownsRow _ _ _ _ _ _ _
        have := ownN_below HO3_6.out ab
        rw [HN1.out] at this
        simpa [f4, ← HN1.out] using ownN_below HO3_6.out ab
      | 1, _ =>
        show World.ownsRow _ _ _ _ _ _ _
        have := ownN_below HO4_6.out ab
        rw [HN1.out] at this
        simpa [f4, ← HN1.out] using ownN_below HO4_6.out ab
      | 2, _ =>
        show World.ownsRow _ _ _ _ _ _ _
        have := ownN_below HO5_6.out ab
        rw [HN2.out] at this
        simpa [f4, ← HN2.out] using ownN_below HO5_6.out ab
      | 3, _ =>
        show World.ownsRow _ _ _ _ _ _ _
        have := ownN_below HO6_6.out ab
        rw [HN2.out] at this
        simpa [f4, ← HN2.out] using ownN_below HO6_6.out ab
    · match i, j, hi, hj, hne with
      | 0, 0, _, _, h => exact absurd rfl h
      | 0, 1, _, _, _ => exact HP3_4.out q hq
      | 0, 2, _, _, _ => exact HP3_5.out q hq
      | 0, 3, _, _, _ => exact HP3_6.out q hq
      | 1, 0, _, _, _ => exact fun e => HP3_4.out q e hq
      | 1, 1, _, _, h => exact absurd rfl h
      | 1, 2, _, _, _ => exact HP4_5.out q hq
      | 1, 3, _, _, _ => exact HP4_6.out q hq
      | 2, 0, _, _, _ => exact fun e => HP3_5.out q e hq
      | 2, 1, _, _, _ => exact fun e => HP4_5.out q e hq
      | 2, 2, _, _, h => exact absurd rfl h
      | 2, 3, _, _, _ => exact HP5_6.out q hq
      | 3, 0, _, _, _ => exact fun e => HP3_6.out q e hq
      | 3, 1, _, _, _ => exact fun e => HP4_6.out q e hq
      | 3, 2, _, _, _ => exact fun e => HP5_6.out q e hq
      | 3, 3, _, _, h => exact absurd rfl h
    · rw [← HN1.out]; exact ownN_below HO1_6.out ab
    · rw [← HN2.out]; exact ownN_below HO2_6.out ab
    · match i, hi with
      | 0, _ => exact fun e => HP1_3.out q e hq
      | 1, _ => exact fun e => HP1_4.out q e hq
      | 2, _ => exact fun e => HP1_5.out q e hq
      | 3, _ => exact fun e => HP1_6.out q e hq
    · match i, hi with
      | 0, _ => exact fun e => HP2_3.out q e hq
      | 1, _ => exact fun e => HP2_4.out q e hq
      | 2, _ => exact fun e => HP2_5.out q e hq
      | 3, _ => exact fun e => HP2_6.out q e hq
  have HV0 : Hid (∀ i, i < 2 → (f4 R1 R1 R2 R2) i = R1) := fun i hi => by
    match i, hi with
    | 0, _ => rfl
    | 1, _ => rfl
  have HV1 : Hid (∀ i, i < 4 → ¬ i < 2 → (f4 R1 R1 R2 R2) i = R2) := fun i hi h2 => by
    match i, hi with
    | 0, _ => omega
    | 1, _ => omega
    | 2, _ => rfl
    | 3, _ => rfl
  clear HB6 HO1_6 HO2_6 HO3_6 HO4_6 HO5_6 HO6_6 HP1_2 HP1_3 HP2_3 HP1_4 HP2_4 HP3_4 HP1_5 HP2_5 HP3_5 HP4_5 HP1_6 HP2_6 HP3_6 HP4_6 HP5_6
  generalize z6.alloc (.cells #[.slice a3 N1 c3, .slice a4 N1 c4, .slice a5 N2 c5, .slice a6 N2 c6] 22) = z7 at *
  generalize z6.heap.size = gL at *
  generalize (f4 (Value.slice a3 N1 c3) (Value.slice a4 N1 c4) (Value.slice a5 N2 c5) (Value.slice a6 N2 c6)) = V at *
  generalize (f4 R1 R1 R2 R2) = F at *
  have HNF : Hid (∀ i, i < 4 → (F i).length ≤ 2097152) := fun i hi => by
    by_cases h : i < 2
    · rw [HV0.out i h, ← HN1.out]; omega
    · rw [HV1.out i hi h, ← HN2.out]; omega
  go_loopw [18, 19, 66] (fun _ _ kv wr => ∃ k : Nat, kv = .int .i64 k ∧ k ≤ 4 ∧ Hid (Frs w wr gL V F (.slice a1 N1 c1) (.slice a2 N2 c2) R1 R2)) (fun _ _ kv _ => 4 - (intOf kv).toNat)
  case atStart => exact ⟨0, rfl, Nat.zero_le _, HF0⟩
  case round =>
    clear HF0
    obtain ⟨k, rfl, hk, HF⟩ := hrel
    by_cases hk4 : k < 4
    · have hki : (k : Int) < 4 := by omega
      have hcell := HF.out.cell k hk4
      have hgl := HF.out.lst.lt
      obtain ⟨ak, ck, ev, nk, -⟩ := own_nts (HF.out.own k hk4)
      rw [ev] at hcell
      by_cases hk2 : k < 2
      · have hk2i : (k : Int) < 2 := by omega
        have hk2j : ¬ (2 : Int) ≤ (k : Int) := by omega
        obtain ⟨a', c', e1, n1, -⟩ := own_nts HF.out.r1
        injection e1 with e1 e2 e3
        subst e1 e3
        rw [HV0.out k hk2] at nk hcell
        have hE := eqr_any ak a1 R1 R1 ck c1 wr nk n1 (by rw [← HN1.out]; omega)
        rw [decide_eq_true rfl, ← HN1.out] at hE
        rw [← HN1.out] at hcell
        clear nk n1 ev e2
        go_wp2_with fail
        refine hE.mono ?_
        rintro e w9 ⟨rfl, q9, rfl⟩
        have HF9 : Hid (Frs w (wr.drewN q9) gL V F (.slice a1 N1 c1) (.slice a2 N2 c2) R1 R2) := HF.out.keep ⟨rfl, rfl, rfl, Nat.le_refl _, fun _ _ => rfl⟩
        clear hE HF hcell
        go_wp2
        go_roundw
        case rel => exact ⟨k + 1, by go_num, by omega, HF9⟩
        case measure => simp [intOf]; omega
      · have hk2i : ¬ (k : Int) < 2 := by omega
        have hk2j : (2 : Int) ≤ (k : Int) := by omega
        obtain ⟨a', c', e1, n1, -⟩ := own_nts HF.out.r2
        injection e1 with e1 e2 e3
        subst e1 e3
        rw [HV1.out k hk4 hk2] at nk hcell
        have hE := eqr_any ak a2 R2 R2 ck c2 wr nk n1 (by rw [← HN2.out]; omega)
        rw [decide_eq_true rfl, ← HN2.out] at hE
        rw [← HN2.out] at hcell
        clear nk n1 ev e2
        go_wp2_with fail
        refine hE.mono ?_
        rintro e w9 ⟨rfl, q9, rfl⟩
        have HF9 : Hid (Frs w (wr.drewN q9) gL V F (.slice a1 N1 c1) (.slice a2 N2 c2) R1 R2) := HF.out.keep ⟨rfl, rfl, rfl, Nat.le_refl _, fun _ _ => rfl⟩
        clear hE HF hcell
        go_wp2
        go_roundw
        case rel => exact ⟨k + 1, by go_num, by omega, HF9⟩
        case measure => simp [intOf]; omega
    · have hki : ¬ (k : Int) < 4 := by omega
      clear hk4 hk
      go_wp2_with fail
      go_loopw [20, 21, 22, 23, 92] (fun sv _ _ _ kv wr => ∃ (k : Nat) (G : Nat → List Int), kv = .int .i64 k ∧ k ≤ 4 ∧ Hid (Frs w wr gL V G (.slice a1 N1 c1) (.slice a2 N2 c2) R1 R2) ∧ Hid (∀ i, (G i).length = (F i).length) ∧ Hid (∀ i, i < k → G i = List.replicate (F i).length ((2 * i + 1 : Nat) : Int)) ∧ Hid (wr.ownsRow w.heap.size 3 1 sv k (cellsN .i64 (sz4 F k)))) (fun _ _ _ _ kv _ => 4 - (intOf kv).toNat)
      case atStart => exact ⟨0, F, rfl, Nat.zero_le _, HF, fun _ => rfl, fun i h => absurd h (Nat.not_lt_zero _), own_nilN _ _ _ _⟩
      case round =>
        clear HF
        obtain ⟨k, G, rfl, hk, HF, HLE, HRE, HSZ⟩ := hrel
        by_cases hk4 : k < 4
        · have hki2 : (k : Int) < 4 := by omega
          have hcell := HF.out.cell k hk4
          have hgl := HF.out.lst.lt
          obtain ⟨ak, ck, ev⟩ := ownN_shape (HF.out.own k hk4)
          rw [HLE.out k] at ev
          rw [ev] at hcell
          have HEV : Hid (V k = .slice ak (F k).length ck) := ev
          have hnk := HNF.out k hk4
          obtain ⟨NK, hNK⟩ : ∃ NK, NK = (F k).length := ⟨_, rfl⟩
          have HNK : Hid (NK = (F k).length) := hNK
          rw [← hNK] at hcell HEV hnk
          clear ev hNK
          have hsz := HF.out.below.size
          go_wp2_with (at_builtin; refine wpList_append_num rfl _ _ 35 3 8 .i64 Tryz.underlying35 infoI (by omega) rfl w.heap.size _ k (sz4 F k) rfl (HSZ.out.alloc _) ⟨wr.heap.size, 0, none⟩ (NK : Int) 1 rfl (one_nts wr 3 .i64 NK) (by omega) (by simp; omega) ?_; intro v4 w4 hown4 hgrow4; apply Hid.out)
          unfold Hid
          have HSZ4 : Hid (w4.ownsRow w.heap.size 3 1 v4 (k + 1) (cellsN .i64 (sz4 F (k + 1)))) := by
            show World.ownsRow _ _ _ _ _ _ _
            rw [sz4_succ, ← HNK.out]
            exact hown4
          have HF4 : Hid (Frs w w4 gL V G (.slice a1 N1 c1) (.slice a2 N2 c2) R1 R2) := (HF.out.keep ((Below.refl _ _).alloc (Nat.le_refl _) _)).grown (HSZ.out.alloc _) hgrow4
          clear hown4 hgrow4 HF HSZ hcell
          go_wp2_with fail
          have hw1 : IntKind.i64.wrap (2 * (k : Int)) = 2 * (k : Int) := by rw [IntKind.wrap_i64]; omega
          have hw2 : IntKind.i64.wrap (2 * (k : Int) + 1) = 2 * (k : Int) + 1 := by rw [IntKind.wrap_i64]; omega
          have hw3 : IntKind.i32.wrap (2 * (k : Int) + 1) = 2 * (k : Int) + 1 := by rw [IntKind.wrap_i32]; omega
          have HCK : Hid (((2 * k + 1 : Nat) : Int) = 2 * (k : Int) + 1) := by show _ = _; push_cast; rfl
          go_loopw [23, 104] (fun _ jv wr => ∃ (j : Nat) (H : Nat → List Int), jv = .int .i64 j ∧ j ≤ NK ∧ Hid (Frs w wr gL V H (.slice a1 N1 c1) (.slice a2 N2 c2) R1 R2) ∧ Hid (H k = List.replicate j (2 * (k : Int) + 1) ++ (G k).drop j) ∧ Hid (∀ i, i ≠ k → H i = G i) ∧ Hid (wr.ownsRow w.heap.size 3 1 v4 (k + 1) (cellsN .i64 (sz4 F (k + 1))))) (fun _ jv _ => NK - (intOf jv).toNat)
          case atStart => exact ⟨0, G, rfl, Nat.zero_le _, HF4, by show _ = _; simp, fun _ _ => rfl, HSZ4⟩
          case round =>
            clear HF4 HSZ4
            obtain ⟨j, H, rfl, hj, HF, HHK, HHO, HSZ⟩ := hrel
            have HLK : Hid ((H k).length = NK) := by
              show _ = _
              rw [HHK.out, List.length_append, List.length_replicate, List.length_drop, HLE.out k, ← HNK.out]
              omega
            by_cases hjn : j < NK
            · have hji : (j : Int) < (NK : Int) := by omega
              have hjl : j < (H k).length := by rw [HLK.out]; exact hjn
              obtain ⟨g, c, ev, hglt, hgb, hob, hc, hf⟩ := own_at (HF.out.own k hk4) j hjl _ (List.getElem?_eq_getElem hjl)
              have HFP := HF.out.put k hk4 g (H k).length c ev rfl hgb j hjl (2 * (k : Int) + 1)
              have hak : ak = some ⟨g, 0, none⟩ := by
                have := HEV.out.symm.trans ev
                injection this
              subst hak
              generalize (H k)[j] = z at hc
              have HF2 : Hid (Frs w (wr.setCell ⟨g, j, none⟩ (.int .i32 (2 * (k : Int) + 1))) gL V (updF H k ((H k).set j (2 * (k : Int) + 1))) (.slice a1 N1 c1) (.slice a2 N2 c2) R1 R2) := HFP
              have HS2 : Hid ((wr.setCell ⟨g, j, none⟩ (.int .i32 (2 * (k : Int) + 1))).ownsRow w.heap.size 3 1 v4 (k + 1) (cellsN .i64 (sz4 F (k + 1)))) := ownN_keep HSZ.out (fun q hq => Below.heap_setCell _ _ _ q (fun e => by
                have h1 : some q = some g := by rw [show q = g from e]
                exact absurd (own_kindN HSZ.out (HF.out.own k hk4) hq (by rw [hob, h1])) (by decide)))
              have HHK2 : Hid (updF H k ((H k).set j (2 * (k : Int) + 1)) k = List.replicate (j + 1) (2 * (k : Int) + 1) ++ (G k).drop (j + 1)) := by
                show _ = _
                rw [updF_self, HHK.out, fill_set _ _ _ (by rw [HLE.out k, ← HNK.out]; exact hjn)]
              have HHO2 : Hid (∀ i, i ≠ k → updF H k ((H k).set j (2 * (k : Int) + 1)) i = G i) := fun i hi => by rw [updF_ne _ _ _ hi]; exact HHO.out i hi
              clear HFP ev hob HF HSZ hjl HLK
              go_wp2
              go_roundw
              case rel => exact ⟨j + 1, _, by go_num, by omega, HF2, HHK2, HHO2, HS2⟩
              case measure => simp [intOf]; omega
            · obtain rfl : j = NK := by omega
              have hji : ¬ (j : Int) < (j : Int) := by omega
              have HLE2 : Hid (∀ i, (H i).length = (F i).length) := fun i => by
                by_cases e : i = k
                · rw [e, HLK.out, HNK.out]
                · rw [HHO.out i e]; exact HLE.out i
              have HRE2 : Hid (∀ i, i < k + 1 → H i = List.replicate (F i).length ((2 * i + 1 : Nat) : Int)) := fun i hi => by
                by_cases e : i = k
                · rw [e, HHK.out, List.drop_eq_nil_of_le (by rw [HLE.out k, ← HNK.out]; omega), List.append_nil, HCK.out, ← HNK.out]
                · rw [HHO.out i e]; exact HRE.out i (by omega)
              clear HLK HHK HHO HLE HRE
              go_wp2
              go_roundw
              case rel => exact ⟨k + 1, H, by go_num, by omega, HF, HLE2, HRE2, HSZ⟩
              case measure => simp [intOf]; omega
        · have hk4e : k = 4 := by omega
          have hki3 : ¬ (k : Int) < 4 := by omega
          obtain ⟨asz, csz, hu⟩ := ownN_shape HSZ.out
          rw [hk4e] at hu HSZ HRE
          subst hu
          clear hk4 hk HLE hk4e
          go_wp2_with fail
          go_loopw [24, 118] (fun _ kv wr => ∃ (k : Nat) (V : Nat → Value) (G : Nat → List Int), kv = .int .i64 k ∧ k ≤ 4 ∧ Hid (Frs w wr gL V G (.slice a1 N1 c1) (.slice a2 N2 c2) R1 R2) ∧ Hid (∀ i, i < k → G i = List.replicate (F i).length ((2 * i + 1 : Nat) : Int) ++ List.replicate 70 ((2 * i + 2 : Nat) : Int)) ∧ Hid (∀ i, k ≤ i → i < 4 → G i = List.replicate (F i).length ((2 * i + 1 : Nat) : Int)) ∧ Hid (wr.ownsRow w.heap.size 3 1 (.slice asz 4 csz) 4 (cellsN .i64 (sz4 F 4)))) (fun _ kv _ => 4 - (intOf kv).toNat)
          case atStart => exact ⟨0, V, G, rfl, Nat.zero_le _, HF, fun i h => absurd h (Nat.not_lt_zero _), fun i _ h => HRE.out i h, HSZ⟩
          case round =>
            clear HF HRE HSZ
            obtain ⟨k, V, G, rfl, hk, HF, HDN, HTO, HSZ⟩ := hrel
            by_cases hk4 : k < 4
            · have hki2 : (k : Int) < 4 := by omega
              have hw1 : IntKind.i64.wrap (2 * (k : Int)) = 2 * (k : Int) := by rw [IntKind.wrap_i64]; omega
              have hw2 : IntKind.i64.wrap (2 * (k : Int) + 2) = 2 * (k : Int) + 2 := by rw [IntKind.wrap_i64]; omega
              have hw3 : IntKind.i32.wrap (2 * (k : Int) + 2) = 2 * (k : Int) + 2 := by rw [IntKind.wrap_i32]; omega
              have HCK : Hid (((2 * k + 2 : Nat) : Int) = 2 * (k : Int) + 2) := by show _ = _; push_cast; rfl
              have hnk := HNF.out k hk4
              obtain ⟨i0, hi, hz0, hz1, hz2⟩ := info_parts infoR
              have HI0 : Hid (Tryz.prog.info? 21 = some i0 ∧ i0.zero = some (.int .i32 0) ∧ i0.size = 1 ∧ i0.bytes = 4) := ⟨hi, hz0, hz1, hz2⟩
              clear hi hz0 hz1 hz2
              go_wp2_with fail
              go_loopw [121] (fun tv wr => ∃ (t : Nat) (V' : Nat → Value) (H : Nat → List Int), tv = .int .i64 t ∧ t ≤ 70 ∧ Hid (Frs w wr gL V' H (.slice a1 N1 c1) (.slice a2 N2 c2) R1 R2) ∧ Hid (H k = List.replicate (F k).length ((2 * k + 1 : Nat) : Int) ++ List.replicate t (2 * (k : Int) + 2)) ∧ Hid (∀ i, i ≠ k → H i = G i) ∧ Hid (wr.ownsRow w.heap.size 3 1 (.slice asz 4 csz) 4 (cellsN .i64 (sz4 F 4)))) (fun tv _ => 70 - (intOf tv).toNat)
              case atStart => exact ⟨0, V, G, rfl, Nat.zero_le _, HF, by show _ = _; rw [List.replicate_zero, List.append_nil]; exact HTO.out k (Nat.le_refl _) hk4, fun _ _ => rfl, HSZ⟩
              case round =>
                clear HF HSZ
                obtain ⟨t, V', H, rfl, ht7, HF, HHK, HHO, HSZ⟩ := hrel
                by_cases ht : t < 70
                · have hti : (t : Int) < 70 := by omega
                  have hcell := HF.out.cell k hk4
                  have hgl := HF.out.lst.lt
                  have hfz := HF.out.lst.frozen k
                  have hl := congrArg List.length HHK.out
                  rw [List.length_append, List.length_replicate, List.length_replicate] at hl
                  obtain ⟨ak, ck, ev⟩ := ownN_shape (HF.out.own k hk4)
                  obtain ⟨NK, hNK⟩ : ∃ NK, NK = (H k).length := ⟨_, rfl⟩
                  have HNK : Hid (NK = (H k).length) := hNK
                  have hown := HF.out.own k hk4
                  rw [← hNK] at ev hown
                  rw [ev] at hcell hown
                  have HEV : Hid (V' k = .slice ak NK ck) := ev
                  have HOW : Hid (wr.ownsRow w.heap.size 21 1 (.slice ak NK ck) NK (cellsN .i32 (H k))) := hown
                  have hNKb : NK ≤ 2097222 := by omega
                  have hsz := HF.out.below.size
                  clear ev hNK hown hl
                  go_wp2_with (at_builtin; refine wpList_append_lies _ rfl _ _ 22 rfl w.heap.size 21 i0 (.int .i32 0) 1 4 Tryz.underlying22 HI0.out.1 HI0.out.2.1 HI0.out.2.2.1 HI0.out.2.2.2 rfl (by decide) _ NK _ rfl (HOW.out.alloc _) ⟨wr.heap.size, 0, none⟩ 1 1 (cellsN .i32 [2 * (k : Int) + 2]) rfl rfl (nts_news (one_nts wr 21 .i32 (2 * (k : Int) + 2))) (cellsN_one .i32 _) (by decide) (by unfold maxLen; omega) (by omega) (by simp; omega) _ rfl ?_; intro g6 c6 w6 hown6 hgrow6 hat6 hlt6; apply Hid.out)
                  unfold Hid
                  have hFk := HF.out.keep ((Below.refl _ wr).alloc (Nat.le_refl _) (.cells #[.int .i32 (2 * (k : Int) + 2)] 21))
                  have hob : (V' k).ownBlock = (Value.slice ak NK ck).ownBlock := by rw [HEV.out]
                  rw [← cellsN_append] at hown6
                  have HF6 : Hid (Frs w (w6.setCell ⟨gL, k, none⟩ (.slice (some ⟨g6, 0, none⟩) (NK + 1) c6)) gL (updF V' k (.slice (some ⟨g6, 0, none⟩) (NK + 1) c6)) (updF H k (H k ++ [2 * (k : Int) + 2])) (.slice a1 N1 c1) (.slice a2 N2 c2) R1 R2) :=
                    hFk.longer k hk4 g6 (NK + 1) c6 (H k ++ [2 * (k : Int) + 2]) (by rw [List.length_append, ← HNK.out]; rfl) hown6 (by rw [hob]; exact hgrow6) (by rw [hob]; exact hat6)
                  have hlL : some gL ≠ (Value.slice ak NK ck).ownBlock := fun e => (ownN_apart HOW.out HF.out.lst (by decide) gL e.symm) rfl
                  have hL6 : Lies w6 gL #[V' 0, V' 1, V' 2, V' 3] 22 := (hgrow6.block gL (by simp; omega) hlL).trans (HF.out.lst.alloc _)
                  have hc6 : w6.cell? ⟨gL, k, none⟩ = some (.slice ak NK ck) := (World.cell?_of_block (a := ⟨gL, k, none⟩) ((hgrow6.block gL (by simp; omega) hlL).trans (Below.heap_alloc wr _ gL hgl))).trans hcell
                  have hf6 := hL6.frozen k
                  have hgl6 := hL6.lt
                  have hs6a : w6.ownsRow w.heap.size 3 1 (.slice asz 4 csz) 4 (cellsN .i64 (sz4 F 4)) := ownN_keep (HSZ.out.alloc _) (fun q hq => hgrow6.block q ((HSZ.out.alloc _).lt q hq).2 (fun e => absurd (own_kindN HSZ.out HOW.out hq e.symm) (by decide)))
                  have HS6 : Hid ((w6.setCell ⟨gL, k, none⟩ (.slice (some ⟨g6, 0, none⟩) (NK + 1) c6)).ownsRow w.heap.size 3 1 (.slice asz 4 csz) 4 (cellsN .i64 (sz4 F 4))) := ownN_keep hs6a (fun q hq => Below.heap_setCell _ _ _ q (ownN_apart hs6a hL6 (by decide) q hq))
                  have HHK2 : Hid (updF H k (H k ++ [2 * (k : Int) + 2]) k = List.replicate (F k).length ((2 * k + 1 : Nat) : Int) ++ List.replicate (t + 1) (2 * (k : Int) + 2)) := by
                    show _ = _
                    rw [updF_self, HHK.out, List.replicate_succ', List.append_assoc]
                  have HHO2 : Hid (∀ i, i ≠ k → updF H k (H k ++ [2 * (k : Int) + 2]) i = G i) := fun i hi => by rw [updF_ne _ _ _ hi]; exact HHO.out i hi
                  clear hFk hob hown6 hgrow6 hat6 hlt6 hlL hL6 hs6a HF HSZ HOW HEV hcell hfz hgl HHK HHO
                  go_wp2
                  go_roundw
                  case rel => exact ⟨t + 1, _, _, by go_num, by omega, HF6, HHK2, HHO2, HS6⟩
                  case measure => simp [intOf]; omega
                · obtain rfl : t = 70 := by omega
                  have HDN2 : Hid (∀ i, i < k + 1 → H i = List.replicate (F i).length ((2 * i + 1 : Nat) : Int) ++ List.replicate 70 ((2 * i + 2 : Nat) : Int)) := fun i hi => by
                    by_cases e : i = k
                    · rw [e, HHK.out, HCK.out]
                    · rw [HHO.out i e]; exact HDN.out i (by omega)
                  have HTO2 : Hid (∀ i, k + 1 ≤ i → i < 4 → H i = List.replicate (F i).length ((2 * i + 1 : Nat) : Int)) := fun i h1 h2 => by
                    rw [HHO.out i (by omega)]; exact HTO.out i (by omega) h2
                  clear HHK HHO HDN HTO
                  go_wp2
                  go_roundw
                  case rel => exact ⟨k + 1, V', H, by go_num, by omega, HF, HDN2, HTO2, HSZ⟩
                  case measure => simp [intOf]; omega
            · have hk4e : k = 4 := by omega
              have hki4 : ¬ (k : Int) < 4 := by omega
              rw [hk4e] at HDN
              clear hk4 hk HTO hk4e
              go_wp2_with fail
              go_loop [25, 26, 140] (fun _ _ kv => ∃ k : Nat, kv = .int .i64 k ∧ k ≤ 4) (fun _ _ kv => 4 - (intOf kv).toNat)
              case atStart => exact ⟨0, rfl, Nat.zero_le _⟩
              case round =>
                obtain ⟨k, rfl, hk⟩ := hrel
                by_cases hk4 : k < 4
                · have hki5 : (k : Int) < 4 := by omega
                  have hcell := HF.out.cell k hk4
                  have hgl := HF.out.lst.lt
                  have hGk := HDN.out k hk4
                  have HGL : Hid ((G k).length = (F k).length + 70) := by show _ = _; rw [hGk]; simp
                  obtain ⟨ak, ck, ev⟩ := ownN_shape (HF.out.own k hk4)
                  rw [HGL.out] at ev
                  rw [ev] at hcell
                  have HEV : Hid (V k = .slice ak ((F k).length + 70) ck) := ev
                  have hnk := HNF.out k hk4
                  have HGK : Hid (G k = List.replicate (F k).length ((2 * k + 1 : Nat) : Int) ++ List.replicate 70 ((2 * k + 2 : Nat) : Int)) := hGk
                  obtain ⟨asz', csz', es, nsz, -⟩ := own_nts HSZ.out
                  injection es with es1 es2 es3
                  subst es1 es3
                  obtain ⟨gz, oz, rfl, hgz, hcz⟩ := nsz.cell k (by rw [sz4_length]; exact hk4)
                  rw [show (sz4 F 4)[k]'(by rw [sz4_length]; exact hk4) = ((F k).length : Int) from by simp [sz4]] at hcz
                  obtain ⟨NK, hNK⟩ : ∃ NK, NK = (F k).length := ⟨_, rfl⟩
                  have HNK : Hid (NK = (F k).length) := hNK
                  rw [← hNK] at hcell HEV hnk hcz HGL HGK
                  have hw1 : IntKind.i64.wrap (2 * (k : Int)) = 2 * (k : Int) := by rw [IntKind.wrap_i64]; omega
                  have hw2 : IntKind.i64.wrap (2 * (k : Int) + 2) = 2 * (k : Int) + 2 := by rw [IntKind.wrap_i64]; omega
                  have hw3 : IntKind.i32.wrap (2 * (k : Int) + 2) = 2 * (k : Int) + 2 := by rw [IntKind.wrap_i32]; omega
                  have hw4 : IntKind.i64.wrap (2 * (k : Int) + 1) = 2 * (k : Int) + 1 := by rw [IntKind.wrap_i64]; omega
                  have hw5 : IntKind.i32.wrap (2 * (k : Int) + 1) = 2 * (k : Int) + 1 := by rw [IntKind.wrap_i32]; omega
                  clear ev hNK hGk es2 nsz
                  go_wp2_with fail
                  go_loop [27, 28, 147] (fun _ _ jv => ∃ j : Nat, jv = .int .i64 j ∧ j ≤ NK + 70) (fun _ _ jv => NK + 70 - (intOf jv).toNat)
                  case atStart => exact ⟨0, rfl, Nat.zero_le _⟩
                  case round =>
                    obtain ⟨j, rfl, hj⟩ := hrel
                    by_cases hjn : j < NK + 70
                    · have hji : (j : Int) < (NK : Int) + 70 := by omega
                      have hjl : j < (G k).length := by rw [HGL.out]; exact hjn
                      obtain ⟨g, c, ev, hglt, hgb, hob, hc, hf⟩ := own_at (HF.out.own k hk4) j hjl _ (List.getElem?_eq_getElem hjl)
                      have hak : ak = some ⟨g, 0, none⟩ := by
                        have := HEV.out.symm.trans ev
                        injection this
                      subst hak
                      by_cases hjN : j < NK
                      · have hjNi : (j : Int) < (NK : Int) := by omega
                        have hjNj : ¬ (NK : Int) ≤ (j : Int) := by omega
                        have hx : (G k)[j] = 2 * (k : Int) + 1 := by
                          have h1 : (G k)[j]? = some (2 * (k : Int) + 1) := by
                            rw [HGK.out, List.getElem?_append_left (by simpa using hjN), List.getElem?_replicate, if_pos hjN]
                            push_cast
                            rfl
                          rw [List.getElem?_eq_getElem hjl] at h1
                          injection h1
                        rw [hx] at hc
                        clear hx hob ev hjl hf hgb
                        go_wp2
                        go_round
                        case rel => exact ⟨j + 1, by go_num, by omega⟩
                        case measure => simp [intOf]; omega
                      · have hjNi : ¬ (j : Int) < (NK : Int) := by omega
                        have hjNj : (NK : Int) ≤ (j : Int) := by omega
                        have hx : (G k)[j] = 2 * (k : Int) + 2 := by
                          have h1 : (G k)[j]? = some (2 * (k : Int) + 2) := by
                            rw [HGK.out, List.getElem?_append_right (by simp; omega), List.getElem?_replicate, List.length_replicate, if_pos (by omega)]
                            push_cast
                            rfl
                          rw [List.getElem?_eq_getElem hjl] at h1
                          injection h1
                        rw [hx] at hc
                        clear hx hob ev hjl hf hgb
                        go_wp2
                        go_round
                        case rel => exact ⟨j + 1, by go_num, by omega⟩
                        case measure => simp [intOf]; omega
                    · have hji : ¬ (j : Int) < (NK : Int) + 70 := by omega
                      go_wp2
                      go_round
                      case rel => exact ⟨k + 1, by go_num, by omega⟩
                      case measure => simp [intOf]; omega
                · have hki5 : ¬ (k : Int) < 4 := by omega
                  clear hk4 hk HDN
                  go_wp2_with fail
                  refine (HDEC.out wr HF.out.below).mono ?_
                  rintro e w20 ⟨⟨v20, rfl, o20⟩, b20⟩
                  obtain ⟨a20, c20, rfl, n20, -⟩ := own_nts o20
                  have HF20 : Hid (Frs w w20 gL V G (.slice a1 N1 c1) (.slice a2 N2 c2) R1 R2) := HF.out.keep b20
                  have HN20 : Hid (Nts .i32 a20 R1 w20) := n20
                  clear o20 b20 n20 HF HSZ HDEC
                  go_wp2_with fail
                  refine (HUNP.out w20 HF20.out.below).mono ?_
                  rintro e w21 ⟨⟨v21, rfl, o21⟩, b21⟩
                  obtain ⟨a21, c21, rfl, n21, -⟩ := own_nts o21
                  have HF21 : Hid (Frs w w21 gL V G (.slice a1 N1 c1) (.slice a2 N2 c2) R1 R2) := HF20.out.keep b21
                  have HN21 : Hid (Nts .i32 a21 R2 w21) := n21
                  obtain ⟨a', c', e1, nu1, -⟩ := own_nts HF21.out.r1
                  injection e1 with e1 e2 e3
                  subst e1 e3
                  have hE1 := eqr_any a20 a1 R1 R1 c20 c1 w21 (HN20.out.below b21) nu1 (by rw [← HN1.out]; omega)
                  rw [decide_eq_true rfl, ← HN1.out] at hE1
                  clear o21 b21 n21 nu1 e2 HF20 HN20 HUNP
                  go_wp2_with fail
                  refine hE1.mono ?_
                  rintro e w22 ⟨rfl, q22, rfl⟩
                  obtain ⟨a', c', e1, nu2, -⟩ := own_nts HF21.out.r2
                  injection e1 with e1 e2 e3
                  subst e1 e3
                  have hE2 := eqr_any a21 a2 R2 R2 c21 c2 (w21.drewN q22) HN21.out nu2 (by rw [← HN2.out]; omega)
                  rw [decide_eq_true rfl, ← HN2.out] at hE2
                  clear nu2 e2 hE1
                  go_wp2_with fail
                  refine hE2.mono ?_
                  rintro e w23 ⟨rfl, q23, rfl⟩
                  have hb := HF21.out.below
                  have HBZ : Hid (Below w.heap.size w (w21.drewN (q22 + q23))) := ⟨hb.os, hb.tape, hb.output, hb.size, hb.block⟩
                  clear hE2 hb HF21 HN21
                  go_wp2
                  go_ret
                  exact ⟨rfl, HBZ.out⟩
end Go.Proofs.YtedgimkffkflbabGreatDoor
