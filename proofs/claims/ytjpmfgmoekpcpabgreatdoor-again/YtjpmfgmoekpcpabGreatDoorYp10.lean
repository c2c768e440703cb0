/-
  The document's Parse.
-/
import Derived.Test.YtjpmfgmoekpcpabGreatDoorYk10
import Derived.Test.YtjpmfgmoekpcpabGreatDoorPr10
import Derived.Test.YtjpmfgmoekpcpabGreatDoorRUpT
namespace Go.Proofs.YtjpmfgmoekpcpabGreatDoor
open Go.RowKit

theorem idx10 (s : ByteArray) (a b : Nat) (h : a = b) (ha : a < s.size) (hb : b < s.size) : s[a] = s[b] := by
  subst h
  rfl
theorem pm1_eq (wide : Bool) (l : List UInt8) : pm1 wide l = if kwN l = 0 then .error (100, 0) else
      match l.drop (kwN l) with
      | [] => .ok (⟨upL (l.take (kwN l)), [], false⟩, kwN l)
      | c :: t =>
        if c = 32 then .ok (⟨upL (l.take (kwN l)), [], false⟩, kwN l)
        else if c = 61 then
          (if (tilB 32 t).length = 0 ∨ badV wide (tilB 32 t) < (tilB 32 t).length then .error (101, kwN l + 1 + badV wide (tilB 32 t))
           else .ok (⟨upL (l.take (kwN l)), tilB 32 t, true⟩, kwN l + 1 + (tilB 32 t).length))
        else .error (100, kwN l) := rfl
set_option maxHeartbeats 16000000 in
set_option maxRecDepth 100000 in
theorem yparse_any (s : ByteArray) (wide : Bool) (hs : s.size ≤ 140737488351232) (w : World) :
    Calls Tryz.prog 14 #[.string s, .bool wide] w fun e w' => ∃ v, e = .returned v ∧ PsA w.heap.size (prs wide 16 s.data.toList) v w' ∧ Below w.heap.size w w' := by
  obtain ⟨X, hX⟩ : ∃ X, X = prs wide 16 s.data.toList := ⟨_, rfl⟩
  rw [← hX]
  have HX0 : Hid (X = Pq.on [] 0 (prs wide (16 - 0) (s.data.toList.drop 0))) := by show _ = _; rw [hX, List.drop_zero]; exact Pq.on_nil _
  have HL0 : Hid (Lies (w.alloc (.cells #[.int .i64 0, .int .i64 0] 28)) w.heap.size #[.int .i64 0, .int .i64 0] 28) := Lies.new w _ _
  have HK0 : Hid (Below w.heap.size w (w.alloc (.cells #[.int .i64 0, .int .i64 0] 28))) := (Below.refl _ _).alloc (Nat.le_refl _) _
  clear hX
  go_enter Tryz.func14, Tryz.ntmps14
  go_upto_region 1 with fail
  generalize w.alloc (.cells #[.int .i64 0, .int .i64 0] 28) = v0 at HL0 HK0 ⊢
  go_wp2_with fail
  go_loopw [6, 7] (fun u c wr => ∃ (i : Nat) (acc : List Pm), i ≤ s.size ∧ acc.length ≤ 16 ∧ c = .int .i64 i ∧ Hid (wr.ownsRow v0.heap.size 54 3 u acc.length (cellsP acc)) ∧ Hid (Below v0.heap.size v0 wr) ∧ Hid (X = Pq.on acc i (prs wide (16 - acc.length) (s.data.toList.drop i)))) (fun _ c _ => s.size - (intOf c).toNat)
  case atStart => exact ⟨0, [], Nat.zero_le _, Nat.zero_le _, rfl, ⟨rfl, .inl ⟨rfl, rfl⟩⟩, Below.refl _ _, HX0⟩
  case round =>
    obtain ⟨i, acc, hi, hacc, rfl, HO, HB, HX⟩ := hrel
    have HL : Hid (Lies wr w.heap.size #[.int .i64 0, .int .i64 0] 28) := HL0.out.below HB.out HL0.out.lt
    have KB : Hid (Below w.heap.size w wr) := HK0.out.trans (HB.out.mono HK0.out.size)
    have HV0 : Hid (w.heap.size < v0.heap.size) := HL0.out.lt
    clear HX0
    obtain ⟨ua, uc, hu⟩ := ownP_len HO.out
    subst hu
    by_cases hlt : i < s.size
    · have hlt' : (i : Int) < (s.size : Int) := by omega
      have hil : i < s.data.toList.length := by rw [len_list]; exact hlt
      have HD : Hid (s.data.toList.drop i = s[i] :: s.data.toList.drop (i + 1)) := List.drop_eq_getElem_cons hil
      obtain ⟨_, n32⟩ := beq_u8 s[i] 32 32 rfl
      by_cases h32 : s[i] = 32
      · rw [decide_eq_true h32] at n32
        by_cases h16 : acc.length = 16
        · have hb16 : ((acc.length : Int) == 16) = true := by rw [h16]; rfl
          have HVV : Hid (∀ w', PsA w.heap.size X (.tuple #[.slice none 0 0, .agg #[.int .i64 4, .int .i64 (i : Int)]]) w') := fun w' => by
            rw [HX.out, h16, Nat.sub_self, HD.out, prs_full _ _ _ h32, Pq.on, Nat.add_zero]
            rfl
          clear HX h32 HD HO HB h16
          go_wp2_with (refine wpList_store_row rfl 28 _ _ rfl w.heap.size rfl _ #[.int .i64 4, .int .i64 (i : Int)] rfl 28 HL.out infoSp rfl (by simp [Value.oneCell']) rfl ?_)
          refine bodyPost_ret (res_vc (p := 4) (r := 5) (by kernel_rfl) _ _ w.heap.size #[.int .i64 4, .int .i64 (i : Int)] _ (.slice none 0 0) rfl rfl (HL.out.row _) Tryz.underlying28 rfl infoSp) rfl ⟨_, rfl, HVV.out _, below_row KB.out (Nat.le_refl _) _⟩
        · have hb16 : ((acc.length : Int) == 16) = false := by rw [beq_eq_false_iff_ne]; omega
          obtain ⟨m, hm⟩ : ∃ m, 16 - acc.length = m + 1 := ⟨15 - acc.length, by omega⟩
          have hm2 : 16 - (acc.length + 1) = m := by omega
          have hpe := pm1_eq wide (s.data.toList.drop (i + 1))
          have hkl := kwN_le (s.data.toList.drop (i + 1))
          rw [List.length_drop, len_list] at hkl
          have HKW0 := ykw_any s (i + 1) hlt (by omega) wr
          have HX2 : Hid (X = Pq.on acc i (match pm1 wide (s.data.toList.drop (i + 1)) with
              | .error (e, p) => .error (e, 1 + p)
              | .ok (p, n) => Pq.on [p] (1 + n) (prs wide m ((s.data.toList.drop (i + 1)).drop n)))) := by
            show _ = _
            rw [HX.out, hm, HD.out, prs_step _ _ _ _ h32]
            rfl
          have HM2 : Hid (16 - (acc.length + 1) = m) := hm2
          have HOK : Hid (∀ P n, pm1 wide (s.data.toList.drop (i + 1)) = .ok (P, n) → X = Pq.on (acc ++ [P]) (i + 1 + n) (prs wide (16 - (acc ++ [P]).length) (s.data.toList.drop (i + 1 + n)))) := fun P n hp => by
            rw [HX2.out, hp]
            show Pq.on acc i (Pq.on [P] (1 + n) (prs wide m ((s.data.toList.drop (i + 1)).drop n))) = _
            rw [Pq.on_on, List.length_append, show 16 - (acc.length + [P].length) = m from HM2.out, List.drop_drop, show i + (1 + n) = i + 1 + n by omega]
          have HER : Hid (∀ e p, pm1 wide (s.data.toList.drop (i + 1)) = .error (e, p) → ∀ w', PsA w.heap.size X (.tuple #[.slice none 0 0, .agg #[.int .i64 (e : Int), .int .i64 ((i + 1 + p : Nat) : Int)]]) w') := fun e p hp w' => by
            rw [HX2.out, hp]
            show _ = _
            rw [Nat.add_assoc]
          have hdd : ∀ n, (s.data.toList.drop (i + 1)).drop n = s.data.toList.drop (i + 1 + n) := fun n => by rw [List.drop_drop]
          have hup : ∀ n, i + 1 + n ≤ s.size → upS (s.extract (i + 1) (i + 1 + n)) = tx (upL ((s.data.toList.drop (i + 1)).take n)) := fun n hn => by
            show (⟨(upL (s.extract (i + 1) (i + 1 + n)).data.toList).toArray⟩ : ByteArray) = _
            rw [tx_sub, tx_list]
            rfl
          obtain ⟨l, hl⟩ : ∃ l, l = s.data.toList.drop (i + 1) := ⟨_, rfl⟩
          rw [← hl] at hpe hkl HKW0 HOK HER hdd hup
          obtain ⟨n, hn⟩ : ∃ n, n = kwN l := ⟨_, rfl⟩
          rw [← hn] at hpe hkl HKW0
          have hE : i + 1 + n ≤ s.size := by omega
          have HKW : Hid (Calls Tryz.prog 34 #[.string s, .int .i64 ((i : Int) + 1)] wr fun e w' => e = .returned (.int .i64 (n : Int)) ∧ w' = wr) := by
            rw [show (i : Int) + 1 = ((i + 1 : Nat) : Int) by omega]
            exact HKW0
          obtain ⟨U, hU⟩ : ∃ U, U = tx (upL (l.take n)) := ⟨_, rfl⟩
          have HU : Hid (∀ wx, Calls Tryz.prog 35 #[.string (s.extract (i + 1) (i + 1 + n))] wx fun e w' => e = .returned (.string U) ∧ Below wx.heap.size wx w') := fun wx => by
            have := rupper_any (s.extract (i + 1) (i + 1 + n)) wx (by rw [ByteArray.size_extract]; omega)
            rw [hup n hE, ← hU] at this
            exact this
          have hEi : (i : Int) + 1 + (n : Int) ≤ (s.size : Int) := by omega
          have hEj : (i : Int) + 1 ≤ (i : Int) + 1 + (n : Int) := by omega
          clear HKW0 HX2 HX HD h32 hm hm2 HM2 hup
          by_cases h0 : n = 0
          · have HVV : Hid (∀ w', PsA w.heap.size X (.tuple #[.slice none 0 0, .agg #[.int .i64 100, .int .i64 ((i : Int) + 1)]]) w') := HER.out 100 0 (by rw [hpe, if_pos h0])
            have hn0 : ((n : Int) == 0) = true := by rw [beq_iff_eq]; omega
            clear HOK HER hpe hdd hn h0 HU HO HB
            go_wp2_with (first
              | (go_at_call 34; refine HKW.out.mono ?_; rintro e wd ⟨rfl, rfl⟩)
              | (refine wpList_store_row rfl 28 _ _ rfl w.heap.size rfl _ #[.int .i64 100, .int .i64 ((i : Int) + 1)] rfl 28 HL.out infoSp rfl (by simp [Value.oneCell']) rfl ?_))
            refine bodyPost_ret (res_vc (p := 4) (r := 5) (by kernel_rfl) _ _ w.heap.size #[.int .i64 100, .int .i64 ((i : Int) + 1)] _ (.slice none 0 0) rfl rfl (HL.out.row _) Tryz.underlying28 rfl infoSp) rfl ⟨_, rfl, HVV.out _, below_row KB.out (Nat.le_refl _) _⟩
          · have hn0 : ((n : Int) == 0) = false := by rw [beq_eq_false_iff_ne]; omega
            rw [if_neg h0] at hpe
            by_cases hlt2 : i + 1 + n < s.size
            · have hdn : l.drop n = s[i + 1 + n] :: s.data.toList.drop (i + 1 + n + 1) := by
                rw [hdd n, List.drop_eq_getElem_cons (by rw [len_list]; exact hlt2)]
                rfl
              rw [hdn] at hpe
              have hb2 : (i : Int) + 1 + (n : Int) < (s.size : Int) := by omega
              obtain ⟨c, hc⟩ : ∃ c, c = s[i + 1 + n] := ⟨_, rfl⟩
              have j1 : ((i : Int) + 1 + (n : Int)).toNat < s.size := by omega
              have hc' : (s[((i : Int) + 1 + (n : Int)).toNat]'j1) = c := by
                rw [hc]
                exact idx10 s _ _ (by omega) _ _
              have hc2 : s[i + 1 + n] = c := hc.symm
              rw [hc2] at hpe
              obtain ⟨_, d32⟩ := beq_u8 c 32 32 rfl
              obtain ⟨d61e, d61⟩ := beq_u8 c 61 61 rfl
              clear hc hdd hdn
              by_cases h32 : c = 32
              · have h61 : c ≠ 61 := by rw [h32]; decide
                rw [decide_eq_true h32] at d32
                rw [decide_eq_false h61] at d61 d61e
                have hpp : pm1 wide l = .ok (⟨upL (l.take n), [], false⟩, n) := by rw [hpe]; simp only [h32, if_true]
                have HXX : Hid (X = Pq.on (acc ++ [(⟨upL (l.take n), [], false⟩ : Pm)]) (i + 1 + n) (prs wide (16 - (acc ++ [(⟨upL (l.take n), [], false⟩ : Pm)]).length) (s.data.toList.drop (i + 1 + n)))) := HOK.out _ _ hpp
                have HPC : Hid (pmC ⟨upL (l.take n), [], false⟩ = #[.string U, .string ⟨#[]⟩, .bool false]) := by show _ = _; rw [hU]; rfl
                obtain ⟨P, hP⟩ : ∃ P : Pm, P = ⟨upL (l.take n), [], false⟩ := ⟨_, rfl⟩
                rw [← hP] at HXX HPC
                have hjs : i + 1 + n ≤ s.size := hE
                clear HOK HER hpe hpp h32 h61 hU hP hn hl h0
                go_upto_region 13 with (first | (go_at_call 34; refine HKW.out.mono ?_; rintro e wd ⟨rfl, rfl⟩) | (go_at_call 35; refine (HU.out _).mono ?_; rintro e w1 ⟨rfl, hb1⟩))
                have M5 : Hid (Lies (w1.alloc (.cells #[.string U, .string ⟨#[]⟩, .bool false] 54)) w.heap.size #[.int .i64 0, .int .i64 0] 28) := (HL.out.below hb1 HL.out.lt).alloc _
                have M9 : Hid (Lies (w1.alloc (.cells #[.string U, .string ⟨#[]⟩, .bool false] 54)) w1.heap.size #[.string U, .string ⟨#[]⟩, .bool false] 54) := Lies.new w1 _ _
                have k1 := HB.out.trans (hb1.mono HB.out.size)
                have k2 := KB.out.trans (hb1.mono KB.out.size)
                have MB : Hid (Below v0.heap.size v0 (w1.alloc (.cells #[.string U, .string ⟨#[]⟩, .bool false] 54))) := k1.alloc k1.size _
                have MK : Hid (Below w.heap.size w (w1.alloc (.cells #[.string U, .string ⟨#[]⟩, .bool false] 54))) := k2.alloc k2.size _
                have MO : Hid ((w1.alloc (.cells #[.string U, .string ⟨#[]⟩, .bool false] 54)).ownsRow v0.heap.size 54 3 (.slice ua acc.length uc) acc.length (cellsP acc)) := (ownP_below HO.out hb1).alloc _
                have hbv : v0.heap.size ≤ w1.heap.size := k1.size
                have MNE : Hid (∀ k, (Value.slice ua acc.length uc).ownBlock = some k → k ≠ w1.heap.size) := fun k hk => Nat.ne_of_lt ((ownP_below HO.out hb1).lt k hk).2
                have hbw : w.heap.size < w1.heap.size := Nat.lt_of_lt_of_le HV0.out hbv
                clear hb1 k1 k2 HO HB HL KB HU HKW
                generalize w1.alloc (.cells #[.string U, .string ⟨#[]⟩, .bool false] 54) = v1 at M5 M9 MB MK MO ⊢
                generalize w1.heap.size = b at M9 hbv hbw MNE ⊢
                have HLA : Hid (Lies (v1.alloc (.cells #[.string U, .string ⟨#[]⟩, .bool false] 54)) v1.heap.size #[.string U, .string ⟨#[]⟩, .bool false] 54) := Lies.new v1 _ _
                have HZA : Hid (v0.heap.size ≤ (v1.alloc (.cells #[.string U, .string ⟨#[]⟩, .bool false] 54)).heap.size) := by show _ ≤ _; have := MB.out.size; simp; omega
                have HAC : Hid (acc.length ≤ 1000000000000) := by show _ ≤ _; omega
                go_wp2_with (first
                  | (refine wpList_load_row rfl 54 _ rfl b rfl #[.string U, .string ⟨#[]⟩, .bool false] 54 _ M9.out Tryz.underlying54 rfl infoPm ?_) | (at_builtin; refine wpList_append_pm rfl _ _ rfl v0.heap.size _ acc.length (cellsP acc) rfl (MO.out.alloc _) _ _ #[.string U, .string ⟨#[]⟩, .bool false] rfl (by simp [Value.oneCell']) rfl HLA.out HAC.out HZA.out ?_))
                intro v7 w7 ho7 hg7
                have HO7 : Hid (w7.ownsRow v0.heap.size 54 3 v7 (acc ++ [P]).length (cellsP (acc ++ [P]))) := by
                  show World.ownsRow _ _ _ _ _ _ _
                  rw [List.length_append, cellsP_append, cellsP_one, HPC.out]
                  exact ho7
                have HB7 : Hid (Below v0.heap.size v0 w7) := (MB.out.alloc MB.out.size _).grown hg7 HZA.out (fun q hq => (MO.out.lt q hq).1)
                have hal : (acc ++ [P]).length ≤ 16 := by rw [List.length_append]; simp; omega
                clear ho7 hg7
                go_wp2
                go_roundw
                case rel => exact ⟨i + 1 + n, acc ++ [P], hjs, hal, by go_num, HO7, HB7, HXX⟩
                case measure =>
                  show s.size - ((i : Int) + 1 + (n : Int)).toNat < s.size - ((i : Int)).toNat
                  omega
              · rw [decide_eq_false h32] at d32
                by_cases h61 : c = 61
                · rw [decide_eq_true h61] at d61 d61e
                  simp only [h61, show ¬ (61 : UInt8) = 32 from by decide, if_true, if_false] at hpe
                  have HTL := fun wx => ytill_any s (i + 1 + n + 1) 32 hlt2 (by omega) wx
                  obtain ⟨t, hT⟩ : ∃ t, t = s.data.toList.drop (i + 1 + n + 1) := ⟨_, rfl⟩
                  rw [← hT] at hpe HTL
                  have htl : t.length = s.size - (i + 1 + n + 1) := by rw [hT, List.length_drop, len_list]
                  have hvl := tilB_len 32 t
                  have hsx : s.extract (i + 1 + n + 1) (i + 1 + n + 1 + (tilB 32 t).length) = tx (tilB 32 t) := by rw [tx_sub, ← hT, ← tilB_take]
                  have HVL := fun wx => yval_any (tx (tilB 32 t)) wide (by rw [tx_size]; omega) wx
                  rw [tx_list] at HVL
                  have hvi : valI wide (tilB 32 t) = if (tilB 32 t).length = 0 ∨ badV wide (tilB 32 t) < (tilB 32 t).length then (badV wide (tilB 32 t) : Int) else -1 := rfl
                  have hbu : badV wide (tilB 32 t) ≤ s.size := by
                    have h1 : badV wide (tilB 32 t) ≤ (tilB 32 t).length := by
                      unfold badV
                      split
                      · omega
                      · exact badU_le _
                    omega
                  have hAs : (tx (tilB 32 t)).size = (tilB 32 t).length := tx_size _
                  have HP1 : Hid (pmC ⟨upL (l.take n), tilB 32 t, true⟩ = #[.string U, .string (tx (tilB 32 t)), .bool true]) := by show _ = _; rw [hU]; rfl
                  obtain ⟨A, hA⟩ : ∃ A, A = tx (tilB 32 t) := ⟨_, rfl⟩
                  rw [← hA] at HVL hsx hAs HP1
                  obtain ⟨q, hq⟩ : ∃ q, q = (tilB 32 t).length := ⟨_, rfl⟩
                  rw [← hq] at HTL hvl hsx hvi hAs hpe
                  obtain ⟨r, hr⟩ : ∃ r, r = badV wide (tilB 32 t) := ⟨_, rfl⟩
                  rw [← hr] at hvi hbu hpe
                  have HT : Hid (∀ wx, Calls Tryz.prog 39 #[.string s, .int .i64 ((i : Int) + 1 + (n : Int) + 1), .int .u8 32] wx fun e w' => e = .returned (.int .i64 ((i : Int) + 1 + (n : Int) + 1 + (q : Int))) ∧ w' = wx) := fun wx => by
                    have := HTL wx
                    rw [show ((i + 1 + n + 1 : Nat) : Int) = (i : Int) + 1 + (n : Int) + 1 by omega, show ((i + 1 + n + 1 + q : Nat) : Int) = (i : Int) + 1 + (n : Int) + 1 + (q : Int) by omega] at this
                    exact this
                  have hq2 : i + 1 + n + 1 + q ≤ s.size := by omega
                  have HER2 : Hid (q = 0 ∨ r < q → (∀ w', PsA w.heap.size X (.tuple #[.slice none 0 0, .agg #[.int .i64 101, .int .i64 ((i : Int) + 1 + (n : Int) + 1 + (r : Int))]]) w') ∧ valI wide (tilB 32 t) = (r : Int)) := fun hbd => by
                    refine ⟨fun w' => ?_, by rw [hvi, if_pos hbd]⟩
                    have := HER.out 101 (n + 1 + r) (by rw [hpe, if_pos hbd]) w'
                    rw [show ((i + 1 + (n + 1 + r) : Nat) : Int) = (i : Int) + 1 + (n : Int) + 1 + (r : Int) by omega] at this
                    exact this
                  have HOK2 : Hid (¬ (q = 0 ∨ r < q) → (X = Pq.on (acc ++ [(⟨upL (l.take n), tilB 32 t, true⟩ : Pm)]) (i + 1 + n + 1 + q) (prs wide (16 - (acc ++ [(⟨upL (l.take n), tilB 32 t, true⟩ : Pm)]).length) (s.data.toList.drop (i + 1 + n + 1 + q)))) ∧ valI wide (tilB 32 t) = -1) := fun hbd => by
                    refine ⟨?_, by rw [hvi, if_neg hbd]⟩
                    have := HOK.out ⟨upL (l.take n), tilB 32 t, true⟩ (n + 1 + q) (by rw [hpe, if_neg hbd])
                    rw [show i + 1 + (n + 1 + q) = i + 1 + n + 1 + q by omega] at this
                    exact this
                  obtain ⟨P, hP⟩ : ∃ P : Pm, P = ⟨upL (l.take n), tilB 32 t, true⟩ := ⟨_, rfl⟩
                  rw [← hP] at HP1 HOK2
                  have HVV0 : Hid (∀ wx, Calls Tryz.prog 36 #[.string A, .bool wide] wx fun e w' => e = .returned (.int .i64 (valI wide (tilB 32 t))) ∧ Below wx.heap.size wx w') := HVL
                  generalize valI wide (tilB 32 t) = V at HVV0 HER2 HOK2
                  have HAS : Hid (A.size = q) := hAs
                  clear HTL hl hn h61 h32 h0 hlt2 hc2 hT htl hU hP HVL hvi hpe hr hq hA HOK HER hvl hAs
                  go_upto_region 13 with (first | (go_at_call 34; refine HKW.out.mono ?_; rintro e wd ⟨rfl, rfl⟩) | (go_at_call 35; refine (HU.out _).mono ?_; rintro e w1 ⟨rfl, hb1⟩))
                  have M5 : Hid (Lies (w1.alloc (.cells #[.string U, .string ⟨#[]⟩, .bool false] 54)) w.heap.size #[.int .i64 0, .int .i64 0] 28) := (HL.out.below hb1 HL.out.lt).alloc _
                  have M9 : Hid (Lies (w1.alloc (.cells #[.string U, .string ⟨#[]⟩, .bool false] 54)) w1.heap.size #[.string U, .string ⟨#[]⟩, .bool false] 54) := Lies.new w1 _ _
                  have k1 := HB.out.trans (hb1.mono HB.out.size)
                  have k2 := KB.out.trans (hb1.mono KB.out.size)
                  have MB : Hid (Below v0.heap.size v0 (w1.alloc (.cells #[.string U, .string ⟨#[]⟩, .bool false] 54))) := k1.alloc k1.size _
                  have MK : Hid (Below w.heap.size w (w1.alloc (.cells #[.string U, .string ⟨#[]⟩, .bool false] 54))) := k2.alloc k2.size _
                  have MO : Hid ((w1.alloc (.cells #[.string U, .string ⟨#[]⟩, .bool false] 54)).ownsRow v0.heap.size 54 3 (.slice ua acc.length uc) acc.length (cellsP acc)) := (ownP_below HO.out hb1).alloc _
                  have hbv : v0.heap.size ≤ w1.heap.size := k1.size
                  have MNE : Hid (∀ k, (Value.slice ua acc.length uc).ownBlock = some k → k ≠ w1.heap.size) := fun k hk => Nat.ne_of_lt ((ownP_below HO.out hb1).lt k hk).2
                  have hbw : w.heap.size < w1.heap.size := Nat.lt_of_lt_of_le HV0.out hbv
                  clear hb1 k1 k2 HO HB HL KB HU HKW
                  generalize w1.alloc (.cells #[.string U, .string ⟨#[]⟩, .bool false] 54) = v1 at M5 M9 MB MK MO ⊢
                  generalize w1.heap.size = b at M9 hbv hbw MNE ⊢
                  have c2 := M9.out.cell 2
                  have f2 := M9.out.frozen 2
                  go_upto_region 19 with fail
                  have N5 : Hid (Lies (v1.setCell ⟨b, 2, none⟩ (.bool true)) w.heap.size #[.int .i64 0, .int .i64 0] 28) := M5.out.set_other (a := ⟨b, 2, none⟩) (show w.heap.size ≠ b by omega) _
                  have N9 : Hid (Lies (v1.setCell ⟨b, 2, none⟩ (.bool true)) b #[.string U, .string ⟨#[]⟩, .bool true] 54) := M9.out.set 2 _
                  have NB : Hid (Below v0.heap.size v0 (v1.setCell ⟨b, 2, none⟩ (.bool true))) := MB.out.setCell (p := ⟨b, 2, none⟩) hbv _
                  have NK : Hid (Below w.heap.size w (v1.setCell ⟨b, 2, none⟩ (.bool true))) := MK.out.setCell (p := ⟨b, 2, none⟩) (show w.heap.size ≤ b by omega) _
                  have NO : Hid ((v1.setCell ⟨b, 2, none⟩ (.bool true)).ownsRow v0.heap.size 54 3 (.slice ua acc.length uc) acc.length (cellsP acc)) := ownP_keep MO.out (fun k hk => Below.heap_setCell _ _ _ _ (fun e => MNE.out k hk e))
                  clear M5 M9 MB MK MO c2 f2
                  generalize v1.setCell ⟨b, 2, none⟩ (.bool true) = v2 at N5 N9 NB NK NO ⊢
                  have c1 := N9.out.cell 1
                  have f1 := N9.out.frozen 1
                  have b5 : (i : Int) + 1 + (n : Int) + 1 ≤ (i : Int) + 1 + (n : Int) + 1 + (q : Int) := by omega
                  have b6 : (i : Int) + 1 + (n : Int) + 1 + (q : Int) ≤ (s.size : Int) := by omega
                  go_upto_region 20 with (go_at_call 39; refine (HT.out _).mono ?_; rintro e wd ⟨rfl, rfl⟩)
                  have P5 : Hid (Lies (wd.setCell ⟨b, 1, none⟩ (.string A)) w.heap.size #[.int .i64 0, .int .i64 0] 28) := N5.out.set_other (a := ⟨b, 1, none⟩) (show w.heap.size ≠ b by omega) _
                  have P9 : Hid (Lies (wd.setCell ⟨b, 1, none⟩ (.string A)) b #[.string U, .string A, .bool true] 54) := N9.out.set 1 _
                  have PB : Hid (Below v0.heap.size v0 (wd.setCell ⟨b, 1, none⟩ (.string A))) := NB.out.setCell (p := ⟨b, 1, none⟩) hbv _
                  have PK : Hid (Below w.heap.size w (wd.setCell ⟨b, 1, none⟩ (.string A))) := NK.out.setCell (p := ⟨b, 1, none⟩) (show w.heap.size ≤ b by omega) _
                  have PO : Hid ((wd.setCell ⟨b, 1, none⟩ (.string A)).ownsRow v0.heap.size 54 3 (.slice ua acc.length uc) acc.length (cellsP acc)) := ownP_keep NO.out (fun k hk => Below.heap_setCell _ _ _ _ (fun e => MNE.out k hk e))
                  clear N5 N9 NB NK NO c1 f1 HT MNE
                  generalize wd.setCell ⟨b, 1, none⟩ (.string A) = v3 at P5 P9 PB PK PO ⊢
                  have c1 := P9.out.cell 1
                  have HV3 : Hid (Calls Tryz.prog 36 #[.string A, .bool wide] v3 fun e w' => e = .returned (.int .i64 V) ∧ Below v0.heap.size v0 w' ∧ Below w.heap.size w w' ∧ Lies w' w.heap.size #[.int .i64 0, .int .i64 0] 28 ∧ Lies w' b #[.string U, .string A, .bool true] 54 ∧ w'.ownsRow v0.heap.size 54 3 (.slice ua acc.length uc) acc.length (cellsP acc)) := by
                    show Calls _ _ _ _ _
                    refine (HVV0.out v3).mono ?_
                    rintro e w' ⟨rfl, hb⟩
                    exact ⟨rfl, PB.out.trans (hb.mono PB.out.size), PK.out.trans (hb.mono PK.out.size), P5.out.below hb P5.out.lt, P9.out.below hb P9.out.lt, ownP_below PO.out hb⟩
                  clear P5 P9 PB PK PO HVV0
                  go_upto_region 21 with (go_at_call 36; refine HV3.out.mono ?_; rintro e v4 ⟨rfl, kb, kk, l5, l9, lo⟩)
                  have Q5 : Hid (Lies v4 w.heap.size #[.int .i64 0, .int .i64 0] 28) := l5
                  have Q9 : Hid (Lies v4 b #[.string U, .string A, .bool true] 54) := l9
                  have QB : Hid (Below v0.heap.size v0 v4) := kb
                  have QK : Hid (Below w.heap.size w v4) := kk
                  have QO : Hid (v4.ownsRow v0.heap.size 54 3 (.slice ua acc.length uc) acc.length (cellsP acc)) := lo
                  clear kb kk l5 l9 lo c1 HV3
                  by_cases hbd : q = 0 ∨ r < q
                  · obtain ⟨hvv, hV⟩ := HER2.out hbd
                    subst hV
                    have HVV : Hid (∀ w', PsA w.heap.size X (.tuple #[.slice none 0 0, .agg #[.int .i64 101, .int .i64 ((i : Int) + 1 + (n : Int) + 1 + (r : Int))]]) w') := hvv
                    clear hvv HER2 HOK2 QO QB
                    go_wp2_with (refine wpList_store_row rfl 28 _ _ rfl w.heap.size rfl _ #[.int .i64 101, .int .i64 ((i : Int) + 1 + (n : Int) + 1 + (r : Int))] rfl 28 Q5.out infoSp rfl (by simp [Value.oneCell']) rfl ?_)
                    refine bodyPost_ret (res_vc (p := 4) (r := 5) (by kernel_rfl) _ _ w.heap.size #[.int .i64 101, .int .i64 ((i : Int) + 1 + (n : Int) + 1 + (r : Int))] _ (.slice none 0 0) rfl rfl (Q5.out.row _) Tryz.underlying28 rfl infoSp) rfl ⟨_, rfl, HVV.out _, below_row QK.out (Nat.le_refl _) _⟩
                  · obtain ⟨hxx, hV⟩ := HOK2.out hbd
                    subst hV
                    have HXX : Hid (X = Pq.on (acc ++ [P]) (i + 1 + n + 1 + q) (prs wide (16 - (acc ++ [P]).length) (s.data.toList.drop (i + 1 + n + 1 + q)))) := hxx
                    have HPC : Hid (pmC P = #[.string U, .string A, .bool true]) := HP1.out
                    have hjs : i + 1 + n + 1 + q ≤ s.size := hq2
                    have c1 : v4.cell? ⟨b, 1, none⟩ = some (.string A) := Q9.out.cell 1
                    have hAs := HAS.out
                    clear hxx HER2 HOK2 hbd
                    have HLA : Hid (Lies (v4.alloc (.cells #[.string U, .string A, .bool true] 54)) v4.heap.size #[.string U, .string A, .bool true] 54) := Lies.new v4 _ _
                    have HZA : Hid (v0.heap.size ≤ (v4.alloc (.cells #[.string U, .string A, .bool true] 54)).heap.size) := by show _ ≤ _; have := QB.out.size; simp; omega
                    have HAC : Hid (acc.length ≤ 1000000000000) := by show _ ≤ _; omega
                    go_wp2_with (first
                      | (refine wpList_load_row rfl 54 _ rfl b rfl #[.string U, .string A, .bool true] 54 _ Q9.out Tryz.underlying54 rfl infoPm ?_) | (at_builtin; refine wpList_append_pm rfl _ _ rfl v0.heap.size _ acc.length (cellsP acc) rfl (QO.out.alloc _) _ _ #[.string U, .string A, .bool true] rfl (by simp [Value.oneCell']) rfl HLA.out HAC.out HZA.out ?_))
                    intro v7 w7 ho7 hg7
                    have HO7 : Hid (w7.ownsRow v0.heap.size 54 3 v7 (acc ++ [P]).length (cellsP (acc ++ [P]))) := by
                      show World.ownsRow _ _ _ _ _ _ _
                      rw [List.length_append, cellsP_append, cellsP_one, HPC.out]
                      exact ho7
                    have HB7 : Hid (Below v0.heap.size v0 w7) := (QB.out.alloc QB.out.size _).grown hg7 HZA.out (fun q hq => (QO.out.lt q hq).1)
                    have hal : (acc ++ [P]).length ≤ 16 := by rw [List.length_append]; simp; omega
                    clear ho7 hg7
                    go_wp2
                    go_roundw
                    case rel => exact ⟨i + 1 + n + 1 + q, acc ++ [P], hjs, hal, by go_num, HO7, HB7, HXX⟩
                    case measure =>
                      show s.size - ((i : Int) + 1 + (n : Int) + 1 + (q : Int)).toNat < s.size - ((i : Int)).toNat
                      omega
                · rw [decide_eq_false h61] at d61 d61e
                  have HVV : Hid (∀ w', PsA w.heap.size X (.tuple #[.slice none 0 0, .agg #[.int .i64 100, .int .i64 ((i : Int) + 1 + (n : Int))]]) w') := fun w' => by
                    have := HER.out 100 n (by rw [hpe]; simp only [h32, h61, if_false]) w'
                    rw [show ((i + 1 + n : Nat) : Int) = (i : Int) + 1 + (n : Int) by omega] at this
                    exact this
                  clear HOK HER hpe h32 h61 hU hn hl h0
                  go_upto_region 13 with (first | (go_at_call 34; refine HKW.out.mono ?_; rintro e wd ⟨rfl, rfl⟩) | (go_at_call 35; refine (HU.out _).mono ?_; rintro e w1 ⟨rfl, hb1⟩))
                  have M5 : Hid (Lies (w1.alloc (.cells #[.string U, .string ⟨#[]⟩, .bool false] 54)) w.heap.size #[.int .i64 0, .int .i64 0] 28) := (HL.out.below hb1 HL.out.lt).alloc _
                  have M9 : Hid (Lies (w1.alloc (.cells #[.string U, .string ⟨#[]⟩, .bool false] 54)) w1.heap.size #[.string U, .string ⟨#[]⟩, .bool false] 54) := Lies.new w1 _ _
                  have k1 := HB.out.trans (hb1.mono HB.out.size)
                  have k2 := KB.out.trans (hb1.mono KB.out.size)
                  have MB : Hid (Below v0.heap.size v0 (w1.alloc (.cells #[.string U, .string ⟨#[]⟩, .bool false] 54))) := k1.alloc k1.size _
                  have MK : Hid (Below w.heap.size w (w1.alloc (.cells #[.string U, .string ⟨#[]⟩, .bool false] 54))) := k2.alloc k2.size _
                  have MO : Hid ((w1.alloc (.cells #[.string U, .string ⟨#[]⟩, .bool false] 54)).ownsRow v0.heap.size 54 3 (.slice ua acc.length uc) acc.length (cellsP acc)) := (ownP_below HO.out hb1).alloc _
                  have hbv : v0.heap.size ≤ w1.heap.size := k1.size
                  have MNE : Hid (∀ k, (Value.slice ua acc.length uc).ownBlock = some k → k ≠ w1.heap.size) := fun k hk => Nat.ne_of_lt ((ownP_below HO.out hb1).lt k hk).2
                  have hbw : w.heap.size < w1.heap.size := Nat.lt_of_lt_of_le HV0.out hbv
                  clear hb1 k1 k2 HO HB HL KB HU HKW
                  generalize w1.alloc (.cells #[.string U, .string ⟨#[]⟩, .bool false] 54) = v1 at M5 M9 MB MK MO ⊢
                  generalize w1.heap.size = b at M9 hbv hbw MNE ⊢
                  clear MO MB
                  go_wp2_with (refine wpList_store_row rfl 28 _ _ rfl w.heap.size rfl _ #[.int .i64 100, .int .i64 ((i : Int) + 1 + (n : Int))] rfl 28 M5.out infoSp rfl (by simp [Value.oneCell']) rfl ?_)
                  refine bodyPost_ret (res_vc (p := 4) (r := 5) (by kernel_rfl) _ _ w.heap.size #[.int .i64 100, .int .i64 ((i : Int) + 1 + (n : Int))] _ (.slice none 0 0) rfl rfl (M5.out.row _) Tryz.underlying28 rfl infoSp) rfl ⟨_, rfl, HVV.out _, below_row MK.out (Nat.le_refl _) _⟩
            · have hb2 : ¬ (i : Int) + 1 + (n : Int) < (s.size : Int) := by omega
              have hdn : l.drop n = [] := by rw [hdd n, List.drop_eq_nil_of_le (by rw [len_list]; omega)]
              rw [hdn] at hpe
              have HXX : Hid (X = Pq.on (acc ++ [(⟨upL (l.take n), [], false⟩ : Pm)]) (i + 1 + n) (prs wide (16 - (acc ++ [(⟨upL (l.take n), [], false⟩ : Pm)]).length) (s.data.toList.drop (i + 1 + n)))) := HOK.out _ _ hpe
              have HPC : Hid (pmC ⟨upL (l.take n), [], false⟩ = #[.string U, .string ⟨#[]⟩, .bool false]) := by show _ = _; rw [hU]; rfl
              obtain ⟨P, hP⟩ : ∃ P : Pm, P = ⟨upL (l.take n), [], false⟩ := ⟨_, rfl⟩
              rw [← hP] at HXX HPC
              have hjs : i + 1 + n ≤ s.size := hE
              clear HOK HER hpe hdn hdd hU hP hn hl h0
              go_upto_region 13 with (first | (go_at_call 34; refine HKW.out.mono ?_; rintro e wd ⟨rfl, rfl⟩) | (go_at_call 35; refine (HU.out _).mono ?_; rintro e w1 ⟨rfl, hb1⟩))
              have M5 : Hid (Lies (w1.alloc (.cells #[.string U, .string ⟨#[]⟩, .bool false] 54)) w.heap.size #[.int .i64 0, .int .i64 0] 28) := (HL.out.below hb1 HL.out.lt).alloc _
              have M9 : Hid (Lies (w1.alloc (.cells #[.string U, .string ⟨#[]⟩, .bool false] 54)) w1.heap.size #[.string U, .string ⟨#[]⟩, .bool false] 54) := Lies.new w1 _ _
              have k1 := HB.out.trans (hb1.mono HB.out.size)
              have k2 := KB.out.trans (hb1.mono KB.out.size)
              have MB : Hid (Below v0.heap.size v0 (w1.alloc (.cells #[.string U, .string ⟨#[]⟩, .bool false] 54))) := k1.alloc k1.size _
              have MK : Hid (Below w.heap.size w (w1.alloc (.cells #[.string U, .string ⟨#[]⟩, .bool false] 54))) := k2.alloc k2.size _
              have MO : Hid ((w1.alloc (.cells #[.string U, .string ⟨#[]⟩, .bool false] 54)).ownsRow v0.heap.size 54 3 (.slice ua acc.length uc) acc.length (cellsP acc)) := (ownP_below HO.out hb1).alloc _
              have hbv : v0.heap.size ≤ w1.heap.size := k1.size
              have MNE : Hid (∀ k, (Value.slice ua acc.length uc).ownBlock = some k → k ≠ w1.heap.size) := fun k hk => Nat.ne_of_lt ((ownP_below HO.out hb1).lt k hk).2
              have hbw : w.heap.size < w1.heap.size := Nat.lt_of_lt_of_le HV0.out hbv
              clear hb1 k1 k2 HO HB HL KB HU HKW
              generalize w1.alloc (.cells #[.string U, .string ⟨#[]⟩, .bool false] 54) = v1 at M5 M9 MB MK MO ⊢
              generalize w1.heap.size = b at M9 hbv hbw MNE ⊢
              have HLA : Hid (Lies (v1.alloc (.cells #[.string U, .string ⟨#[]⟩, .bool false] 54)) v1.heap.size #[.string U, .string ⟨#[]⟩, .bool false] 54) := Lies.new v1 _ _
              have HZA : Hid (v0.heap.size ≤ (v1.alloc (.cells #[.string U, .string ⟨#[]⟩, .bool false] 54)).heap.size) := by show _ ≤ _; have := MB.out.size; simp; omega
              have HAC : Hid (acc.length ≤ 1000000000000) := by show _ ≤ _; omega
              go_wp2_with (first
                | (refine wpList_load_row rfl 54 _ rfl b rfl #[.string U, .string ⟨#[]⟩, .bool false] 54 _ M9.out Tryz.underlying54 rfl infoPm ?_) | (at_builtin; refine wpList_append_pm rfl _ _ rfl v0.heap.size _ acc.length (cellsP acc) rfl (MO.out.alloc _) _ _ #[.string U, .string ⟨#[]⟩, .bool false] rfl (by simp [Value.oneCell']) rfl HLA.out HAC.out HZA.out ?_))
              intro v7 w7 ho7 hg7
              have HO7 : Hid (w7.ownsRow v0.heap.size 54 3 v7 (acc ++ [P]).length (cellsP (acc ++ [P]))) := by
                show World.ownsRow _ _ _ _ _ _ _
                rw [List.length_append, cellsP_append, cellsP_one, HPC.out]
                exact ho7
              have HB7 : Hid (Below v0.heap.size v0 w7) := (MB.out.alloc MB.out.size _).grown hg7 HZA.out (fun q hq => (MO.out.lt q hq).1)
              have hal : (acc ++ [P]).length ≤ 16 := by rw [List.length_append]; simp; omega
              clear ho7 hg7
              go_wp2
              go_roundw
              case rel => exact ⟨i + 1 + n, acc ++ [P], hjs, hal, by go_num, HO7, HB7, HXX⟩
              case measure =>
                show s.size - ((i : Int) + 1 + (n : Int)).toNat < s.size - ((i : Int)).toNat
                omega
      · rw [decide_eq_false h32] at n32
        have HVV : Hid (∀ w', PsA w.heap.size X (.tuple #[.slice none 0 0, .agg #[.int .i64 100, .int .i64 (i : Int)]]) w') := fun w' => by
          rw [HX.out, HD.out, prs_no _ _ _ _ h32, Pq.on, Nat.add_zero]
          rfl
        clear HX h32 HD HO HB
        go_wp2_with (refine wpList_store_row rfl 28 _ _ rfl w.heap.size rfl _ #[.int .i64 100, .int .i64 (i : Int)] rfl 28 HL.out infoSp rfl (by simp [Value.oneCell']) rfl ?_)
        refine bodyPost_ret (res_vc (p := 4) (r := 5) (by kernel_rfl) _ _ w.heap.size #[.int .i64 100, .int .i64 (i : Int)] _ (.slice none 0 0) rfl rfl (HL.out.row _) Tryz.underlying28 rfl infoSp) rfl ⟨_, rfl, HVV.out _, below_row KB.out (Nat.le_refl _) _⟩
    · have hlt' : ¬ (i : Int) < (s.size : Int) := by omega
      have HXX : Hid (X = .ok acc) := by
        show _ = _
        rw [HX.out, List.drop_eq_nil_of_le (by rw [len_list]; omega), prs_end, Pq.on, List.append_nil]
      have HVV : Hid (∀ w' : World, w'.ownsRow w.heap.size 54 3 (.slice ua acc.length uc) acc.length (cellsP acc) → PsA w.heap.size X (.tuple #[.slice ua acc.length uc, .agg #[.int .i64 0, .int .i64 0]]) w') := fun w' hw => by
        rw [HXX.out]
        exact ⟨_, rfl, hw⟩
      clear HX HXX
      go_wp2_with (refine wpList_store_row rfl 28 _ _ rfl w.heap.size rfl _ #[.int .i64 0, .int .i64 0] rfl 28 HL.out infoSp rfl (by simp [Value.oneCell']) rfl ?_)
      refine bodyPost_ret (res_vc (p := 4) (r := 5) (by kernel_rfl) _ _ w.heap.size #[.int .i64 0, .int .i64 0] _ (.slice ua acc.length uc) rfl rfl (HL.out.row _) Tryz.underlying28 rfl infoSp) rfl ⟨_, rfl, HVV.out _ (ownP_base (ownP_row HO.out HV0.out _) (Nat.le_of_lt HV0.out)), below_row KB.out (Nat.le_refl _) _⟩
end Go.Proofs.YtjpmfgmoekpcpabGreatDoor
