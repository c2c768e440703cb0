/-
  The program's Parse.
-/
import Derived.Test.YtjpmfgmoekpcpabGreatDoorPq10
namespace Go.Proofs.YtjpmfgmoekpcpabGreatDoor
open Go.RowKit

/-- What Parse tells: an error, or a row of its own. -/
def PsA (B : Nat) (x : Except (Nat × Nat) (List Pm)) (v : Value) (w' : World) : Prop := match x with
  | .error (e, p) => v = .tuple #[.slice none 0 0, .agg #[.int .i64 (e : Nat), .int .i64 (p : Nat)]]
  | .ok ps => ∃ sl, v = .tuple #[sl, .agg #[.int .i64 0, .int .i64 0]] ∧ w'.ownsRow B 54 3 sl ps.length (cellsP ps)
theorem pmC_one (p : Pm) : (pmC p).all (·.oneCell') = true := by simp [pmC, Value.oneCell']
theorem pm1_room {wide : Bool} {l : List UInt8} {p : Pm} {n : Nat} (h : pm1 wide l = .ok (p, n)) : 1 ≤ n ∧ n ≤ l.length := by
  have hk := kwN_le l
  unfold pm1 at h
  by_cases h0 : kwN l = 0
  · rw [if_pos h0] at h; cases h
  · rw [if_neg h0] at h
    have hd : (l.drop (kwN l)).length = l.length - kwN l := List.length_drop
    rcases hl : l.drop (kwN l) with _ | ⟨c, t⟩
    · rw [hl] at h
      injection h with h
      injection h with _ h
      omega
    · rw [hl] at h hd
      simp only at h
      have ht := tilB_len 32 t
      simp only [List.length_cons] at hd
      split at h
      · injection h with h
        injection h with _ h
        omega
      · split at h
        · split at h
          · cases h
          · injection h with h
            injection h with _ h
            omega
        · cases h
theorem pm1_err {wide : Bool} {l : List UInt8} {e p : Nat} (h : pm1 wide l = .error (e, p)) : e ≠ 0 := by
  unfold pm1 at h
  split at h
  · injection h with h; injection h with h _; omega
  · split at h
    · cases h
    · split at h
      · cases h
      · split at h
        · split at h
          · injection h with h; injection h with h _; omega
          · cases h
        · injection h with h; injection h with h _; omega

set_option maxHeartbeats 16000000 in
set_option maxRecDepth 100000 in
theorem pparse_any (s : ByteArray) (wide : Bool) (hs : s.size ≤ 140737488355328) (w : World) (ht : Table w) (hfs : Fst w) :
    Calls Tryz.prog 11 #[.string s, .bool wide] w fun e w' => ∃ v, e = .returned v ∧ PsA w.heap.size (prs wide 16 s.data.toList) v w' ∧ Below w.heap.size w w' := by
  have HP1 : Hid (∀ f, f ≤ s.size → ∀ wx, Below w.heap.size w wx → Calls Tryz.prog 37 #[.string s, .int .i64 (f : Nat), .bool wide] wx fun e w' => e = .returned (p1V f (pm1 wide (s.data.toList.drop f))) ∧ Below wx.heap.size wx w') := fun f hf wx hx => pone_any s f wide hf hs wx (ht.keep hx) (hfs.below hx hfs.lt)
  obtain ⟨X, hX⟩ : ∃ X, X = prs wide 16 s.data.toList := ⟨_, rfl⟩
  rw [← hX]
  have HX0 : Hid (X = Pq.on [] 0 (prs wide (16 - 0) (s.data.toList.drop 0))) := by show _ = _; rw [hX, List.drop_zero]; exact Pq.on_nil _
  have HL0 : Hid (Lies (w.alloc (.cells #[.int .i64 0, .int .i64 0] 28)) w.heap.size #[.int .i64 0, .int .i64 0] 28) := Lies.new w _ _
  have HK0 : Hid (Below w.heap.size w (w.alloc (.cells #[.int .i64 0, .int .i64 0] 28))) := (Below.refl _ _).alloc (Nat.le_refl _) _
  clear hX ht hfs
  go_enter Tryz.func11, Tryz.ntmps11
  go_upto_region 1 with fail
  generalize w.alloc (.cells #[.int .i64 0, .int .i64 0] 28) = v0 at HL0 HK0 ⊢
  go_wp2_with fail
  go_loopw [6, 7] (fun u c wr => ∃ (i : Nat) (acc : List Pm), i ≤ s.size ∧ acc.length ≤ 16 ∧ c = .int .i64 i ∧ Hid (wr.ownsRow v0.heap.size 54 3 u acc.length (cellsP acc)) ∧ Hid (Below v0.heap.size v0 wr) ∧ Hid (X = Pq.on acc i (prs wide (16 - acc.length) (s.data.toList.drop i)))) (fun _ c _ => s.size - (intOf c).toNat)
  case atStart => exact ⟨0, [], Nat.zero_le _, Nat.zero_le _, rfl, ⟨rfl, .inl ⟨rfl, rfl⟩⟩, Below.refl _ _, HX0⟩
  case round =>
    obtain ⟨i, acc, hi, hacc, rfl, HO, HB, HX⟩ := hrel
    have HL : Hid (Lies wr w.heap.size #[.int .i64 0, .int .i64 0] 28) := HL0.out.below HB.out HL0.out.lt
    have KB : Hid (Below w.heap.size w wr) := HK0.out.trans (HB.out.mono HK0.out.size)
    have HV0 : Hid (w.heap.size < v0.heap.size) := HL0.out.lt
    clear HX0
    obtain ⟨ua, uc, hu⟩ := ownP_len HO.out
    subst hu
    by_cases hlt : i < s.size
    · have hlt' : (i : Int) < (s.size : Int) := by omega
      have hil : i < s.data.toList.length := by rw [len_list]; exact hlt
      have HD : Hid (s.data.toList.drop i = s[i] :: s.data.toList.drop (i + 1)) := List.drop_eq_getElem_cons hil
      obtain ⟨_, n32⟩ := beq_u8 s[i] 32 32 rfl
      by_cases h32 : s[i] = 32
      · rw [decide_eq_true h32] at n32
        by_cases h16 : acc.length = 16
        · have hb16 : ((acc.length : Int) == 16) = true := by rw [h16]; rfl
          have HVV : Hid (∀ w', PsA w.heap.size X (.tuple #[.slice none 0 0, .agg #[.int .i64 4, .int .i64 (i : Int)]]) w') := fun w' => by
            rw [HX.out, h16, Nat.sub_self, HD.out, prs_full _ _ _ h32, Pq.on, Nat.add_zero]
            rfl
          clear HX HP1 h32 HD HO HB h16
          go_wp2_with (refine wpList_store_row rfl 28 _ _ rfl w.heap.size rfl _ #[.int .i64 4, .int .i64 (i : Int)] rfl 28 HL.out infoSp rfl (by simp [Value.oneCell']) rfl ?_)
          refine bodyPost_ret (res_vc (p := 4) (r := 5) (by kernel_rfl) _ _ w.heap.size #[.int .i64 4, .int .i64 (i : Int)] _ (.slice none 0 0) rfl rfl (HL.out.row _) Tryz.underlying28 rfl infoSp) rfl ⟨_, rfl, HVV.out _, below_row KB.out (Nat.le_refl _) _⟩
        · have hb16 : ((acc.length : Int) == 16) = false := by rw [beq_eq_false_iff_ne]; omega
          obtain ⟨m, hm⟩ : ∃ m, 16 - acc.length = m + 1 := ⟨15 - acc.length, by omega⟩
          have hm2 : 16 - (acc.length + 1) = m := by omega
          have HS := HP1.out (i + 1) hlt wr KB.out
          have HX2 : Hid (X = Pq.on acc i (match pm1 wide (s.data.toList.drop (i + 1)) with
              | .error (e, p) => .error (e, 1 + p)
              | .ok (p, n) => Pq.on [p] (1 + n) (prs wide m ((s.data.toList.drop (i + 1)).drop n)))) := by
            show _ = _
            rw [HX.out, hm, HD.out, prs_step _ _ _ _ h32]
            rfl
          have HM2 : Hid (16 - (acc.length + 1) = m) := hm2
          have e1 : ((i + 1 : Nat) : Int) = (i : Int) + 1 := by omega
          rcases hp : pm1 wide (s.data.toList.drop (i + 1)) with ⟨e, p⟩ | ⟨p, n⟩
          · have hne := pm1_err hp
            rw [hp] at HS HX2
            have HVV : Hid (∀ w', PsA w.heap.size X (.tuple #[.slice none 0 0, .agg #[.int .i64 (e : Int), .int .i64 ((i + 1 + p : Nat) : Int)]]) w') := fun w' => by
              rw [HX2.out]
              show _ = _
              rw [Nat.add_assoc]
            have HSS : Hid (Calls Tryz.prog 37 #[.string s, .int .i64 ((i : Int) + 1), .bool wide] wr fun e' w' => e' = .returned (.tuple #[.agg #[.string ⟨#[]⟩, .string ⟨#[]⟩, .bool false], .int .i64 0, .agg #[.int .i64 (e : Int), .int .i64 ((i + 1 + p : Nat) : Int)]]) ∧ Below wr.heap.size wr w') := by
              rw [← e1]
              exact HS
            have hne' : ((e : Int) != 0) = true := by simp; omega
            generalize ((i + 1 + p : Nat) : Int) = q at HVV HSS
            clear HS HX2 HX hp HD HP1 HO h32 hm hm2 HM2 h16 hne
            go_upto_region 9 with (first | (go_at_call 37; refine HSS.out.mono ?_; rintro e w1 ⟨rfl, hb1⟩))
            have N5 : Hid (Lies ((w1.alloc (.cells #[.string ⟨#[]⟩, .string ⟨#[]⟩, .bool false] 54)).alloc (.cells #[.int .i64 (e : Int), .int .i64 q] 28)) w.heap.size #[.int .i64 0, .int .i64 0] 28) := ((HL.out.below hb1 HL.out.lt).alloc _).alloc _
            have N10 : Hid (Lies ((w1.alloc (.cells #[.string ⟨#[]⟩, .string ⟨#[]⟩, .bool false] 54)).alloc (.cells #[.int .i64 (e : Int), .int .i64 q] 28)) (w1.heap.size + 1) #[.int .i64 (e : Int), .int .i64 q] 28) := by
              have := Lies.new (w1.alloc (.cells #[.string ⟨#[]⟩, .string ⟨#[]⟩, .bool false] 54)) #[.int .i64 (e : Int), .int .i64 q] 28
              rw [World.size_alloc] at this
              exact this
            have NB : Hid (Below w.heap.size w ((w1.alloc (.cells #[.string ⟨#[]⟩, .string ⟨#[]⟩, .bool false] 54)).alloc (.cells #[.int .i64 (e : Int), .int .i64 q] 28))) := by
              have k1 := KB.out.trans (hb1.mono KB.out.size)
              exact (k1.alloc k1.size _).alloc (by have := k1.size; simp; omega) _
            have hbw : w.heap.size < w1.heap.size := Nat.lt_of_lt_of_le HL.out.lt hb1.size
            generalize (w1.alloc (.cells #[.string ⟨#[]⟩, .string ⟨#[]⟩, .bool false] 54)).alloc (.cells #[.int .i64 (e : Int), .int .i64 q] 28) = v4 at N5 N10 NB ⊢
            clear hb1
            generalize w1.heap.size = b at N10 hbw ⊢
            have k0 : v4.cell? ⟨b + 1, 0, none⟩ = some (.int .i64 (e : Int)) := N10.out.cell 0
            have k1 : v4.cell? ⟨b + 1, 1, none⟩ = some (.int .i64 q) := N10.out.cell 1
            have n0 : v4.cell? ⟨w.heap.size, 0, none⟩ = some (.int .i64 0) := N5.out.cell 0
            have n1 : v4.cell? ⟨w.heap.size, 1, none⟩ = some (.int .i64 0) := N5.out.cell 1
            have r0 := N5.out.frozen 0
            have r1 := N5.out.frozen 1
            have hne3 : w.heap.size ≠ b + 1 := by omega
            go_wp2_with fail
            go_region
            have W5 : Hid _ := ((N5.out.set 0 (.int .i64 (e : Int))).set 1 (.int .i64 q)).drew
            have WB : Hid _ := ((NB.out.setCell (p := ⟨w.heap.size, 0, none⟩) (Nat.le_refl _) (.int .i64 (e : Int))).setCell (p := ⟨w.heap.size, 1, none⟩) (Nat.le_refl _) (.int .i64 q)).drew
            clear k0 k1 n0 n1 r0 r1
            go_wp2
            refine bodyPost_ret (res_vc (p := 4) (r := 5) (by kernel_rfl) _ _ w.heap.size #[.int .i64 (e : Int), .int .i64 q] _ (.slice none 0 0) rfl rfl W5.out Tryz.underlying28 rfl infoSp) rfl ⟨_, rfl, HVV.out _, WB.out⟩
          · obtain ⟨hn1, hn2⟩ := pm1_room hp
            rw [List.length_drop, len_list] at hn2
            rw [hp] at HS HX2
            have HXX : Hid (X = Pq.on (acc ++ [p]) (i + 1 + n) (prs wide (16 - (acc ++ [p]).length) (s.data.toList.drop (i + 1 + n)))) := by
              show _ = _
              rw [HX2.out]
              show Pq.on acc i (Pq.on [p] (1 + n) (prs wide m ((s.data.toList.drop (i + 1)).drop n))) = _
              rw [Pq.on_on, List.length_append, show 16 - (acc.length + [p].length) = m from HM2.out, List.drop_drop, show i + (1 + n) = i + 1 + n by omega]
            obtain ⟨C, hC⟩ : ∃ C, C = pmC p := ⟨_, rfl⟩
            have HSS : Hid (Calls Tryz.prog 37 #[.string s, .int .i64 ((i : Int) + 1), .bool wide] wr fun e' w' => e' = .returned (.tuple #[.agg #[.string (tx p.name), .string (tx p.val), .bool p.has], .int .i64 ((i + 1 + n : Nat) : Int), .agg #[.int .i64 0, .int .i64 0]]) ∧ Below wr.heap.size wr w') := by
              rw [← e1]
              exact HS
            have hpC : pmC p = #[.string (tx p.name), .string (tx p.val), .bool p.has] := rfl
            have HPC : Hid (pmC p = #[.string (tx p.name), .string (tx p.val), .bool p.has]) := hpC
            have hjs : i + 1 + n ≤ s.size := by omega
            obtain ⟨j, hj⟩ : ∃ j, j = i + 1 + n := ⟨_, rfl⟩
            rw [← hj] at HSS HXX hjs
            have hji : i < j := by omega
            generalize tx p.name = nm at HSS HPC
            generalize tx p.val = vl at HSS HPC
            generalize p.has = hs' at HSS HPC
            clear HS HX2 HX hp HD HP1 h32 hm hm2 HM2 hpC hC C hj hn2 hn1
            go_upto_region 9 with (first | (go_at_call 37; refine HSS.out.mono ?_; rintro e w1 ⟨rfl, hb1⟩))
            have N8 : Hid (Lies ((w1.alloc (.cells #[.string nm, .string vl, .bool hs'] 54)).alloc (.cells #[.int .i64 0, .int .i64 0] 28)) w1.heap.size #[.string nm, .string vl, .bool hs'] 54) := (Lies.new w1 _ _).alloc _
            have N10 : Hid (Lies ((w1.alloc (.cells #[.string nm, .string vl, .bool hs'] 54)).alloc (.cells #[.int .i64 0, .int .i64 0] 28)) (w1.heap.size + 1) #[.int .i64 0, .int .i64 0] 28) := by
              have := Lies.new (w1.alloc (.cells #[.string nm, .string vl, .bool hs'] 54)) #[.int .i64 0, .int .i64 0] 28
              rw [World.size_alloc] at this
              exact this
            have kb1 := HB.out.trans (hb1.mono HB.out.size)
            have NB : Hid (Below v0.heap.size v0 ((w1.alloc (.cells #[.string nm, .string vl, .bool hs'] 54)).alloc (.cells #[.int .i64 0, .int .i64 0] 28))) := (kb1.alloc kb1.size _).alloc (by have := kb1.size; simp; omega) _
            have NO : Hid (((w1.alloc (.cells #[.string nm, .string vl, .bool hs'] 54)).alloc (.cells #[.int .i64 0, .int .i64 0] 28)).ownsRow v0.heap.size 54 3 (.slice ua acc.length uc) acc.length (cellsP acc)) := ((ownP_below HO.out hb1).alloc _).alloc _
            generalize (w1.alloc (.cells #[.string nm, .string vl, .bool hs'] 54)).alloc (.cells #[.int .i64 0, .int .i64 0] 28) = v4 at N8 N10 NB NO ⊢
            clear hb1 kb1 HO HB
            generalize w1.heap.size = b at N8 N10 ⊢
            have k0 : v4.cell? ⟨b + 1, 0, none⟩ = some (.int .i64 0) := N10.out.cell 0
            have HLA : Hid (Lies (v4.alloc (.cells #[.string nm, .string vl, .bool hs'] 54)) v4.heap.size #[.string nm, .string vl, .bool hs'] 54) := Lies.new v4 _ _
            have HZA : Hid (v0.heap.size ≤ (v4.alloc (.cells #[.string nm, .string vl, .bool hs'] 54)).heap.size) := by show _ ≤ _; have := NB.out.size; simp; omega
            have hac : acc.length ≤ 1000000000000 := by omega
            have HAC : Hid (acc.length ≤ 1000000000000) := hac
            clear hac
            go_wp2_with (first
              | (refine wpList_load_row rfl 54 _ rfl b rfl #[.string nm, .string vl, .bool hs'] 54 _ N8.out Tryz.underlying54 rfl infoPm ?_)
              | (at_builtin; refine wpList_append_pm rfl _ _ rfl v0.heap.size _ acc.length (cellsP acc) rfl (NO.out.alloc _) _ _ #[.string nm, .string vl, .bool hs'] rfl (by simp [Value.oneCell']) rfl HLA.out HAC.out HZA.out ?_))
            intro v7 w7 ho7 hg7
            have HO7 : Hid (w7.ownsRow v0.heap.size 54 3 v7 (acc ++ [p]).length (cellsP (acc ++ [p]))) := by
              show World.ownsRow _ _ _ _ _ _ _
              rw [List.length_append, cellsP_append, cellsP_one, HPC.out]
              exact ho7
            have HB7 : Hid (Below v0.heap.size v0 w7) := (NB.out.alloc NB.out.size _).grown hg7 HZA.out (fun q hq => (NO.out.lt q hq).1)
            have hal : (acc ++ [p]).length ≤ 16 := by rw [List.length_append]; simp; omega
            clear ho7 hg7 k0
            go_wp2
            go_roundw
            case rel => exact ⟨j, acc ++ [p], hjs, hal, rfl, HO7, HB7, HXX⟩
            case measure => simp [intOf]; omega
      · rw [decide_eq_false h32] at n32
        have HVV : Hid (∀ w', PsA w.heap.size X (.tuple #[.slice none 0 0, .agg #[.int .i64 100, .int .i64 (i : Int)]]) w') := fun w' => by
          rw [HX.out, HD.out, prs_no _ _ _ _ h32, Pq.on, Nat.add_zero]
          rfl
        clear HX HP1 h32 HD HO HB
        go_wp2_with (refine wpList_store_row rfl 28 _ _ rfl w.heap.size rfl _ #[.int .i64 100, .int .i64 (i : Int)] rfl 28 HL.out infoSp rfl (by simp [Value.oneCell']) rfl ?_)
        refine bodyPost_ret (res_vc (p := 4) (r := 5) (by kernel_rfl) _ _ w.heap.size #[.int .i64 100, .int .i64 (i : Int)] _ (.slice none 0 0) rfl rfl (HL.out.row _) Tryz.underlying28 rfl infoSp) rfl ⟨_, rfl, HVV.out _, below_row KB.out (Nat.le_refl _) _⟩
    · have hlt' : ¬ (i : Int) < (s.size : Int) := by omega
      have HXX : Hid (X = .ok acc) := by
        show _ = _
        rw [HX.out, List.drop_eq_nil_of_le (by rw [len_list]; omega), prs_end, Pq.on, List.append_nil]
      have HVV : Hid (∀ w' : World, w'.ownsRow w.heap.size 54 3 (.slice ua acc.length uc) acc.length (cellsP acc) → PsA w.heap.size X (.tuple #[.slice ua acc.length uc, .agg #[.int .i64 0, .int .i64 0]]) w') := fun w' hw => by
        rw [HXX.out]
        exact ⟨_, rfl, hw⟩
      clear HX HXX HP1
      go_wp2_with (refine wpList_store_row rfl 28 _ _ rfl w.heap.size rfl _ #[.int .i64 0, .int .i64 0] rfl 28 HL.out infoSp rfl (by simp [Value.oneCell']) rfl ?_)
      refine bodyPost_ret (res_vc (p := 4) (r := 5) (by kernel_rfl) _ _ w.heap.size #[.int .i64 0, .int .i64 0] _ (.slice ua acc.length uc) rfl rfl (HL.out.row _) Tryz.underlying28 rfl infoSp) rfl ⟨_, rfl, HVV.out _ (ownP_base (ownP_row HO.out HV0.out _) (Nat.le_of_lt HV0.out)), below_row KB.out (Nat.le_refl _) _⟩
end Go.Proofs.YtjpmfgmoekpcpabGreatDoor
