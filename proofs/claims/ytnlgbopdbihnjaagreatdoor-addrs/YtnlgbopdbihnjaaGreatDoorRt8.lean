/-
  The contract of domain.V4.
-/
import Derived.Test.YtnlgbopdbihnjaaGreatDoorLate5
import Derived.Test.YtnlgbopdbihnjaaGreatDoorRowl
namespace Go.Proofs.YtnlgbopdbihnjaaGreatDoor
open Go.RowKit

def bytesV (l : List Nat) : Array Value := (l.map fun n => Value.int .u8 (n : Nat)).toArray
/-- What V4 answers. -/
def v4V (r : Except Nat (List Nat)) : Value := match r with
  | .ok l => .tuple #[.agg (bytesV l), .agg #[.int .i64 0, .int .i64 0]]
  | .error p => .tuple #[.agg #[.int .u8 0, .int .u8 0, .int .u8 0, .int .u8 0], .agg #[.int .i64 82, .int .i64 (p : Nat)]]

theorem info4 : (Tryz.prog.info? 46).map (·.size) = some 4 := by kernel_rfl
theorem infoSp : (Tryz.prog.info? 30).map (·.size) = some 2 := by kernel_rfl
theorem results_two {P : Program} {fn : Func} {p q : Tmp} {ty tz : TypeId} (h : fn.results = #[.cell p ty, .cell q tz]) (tmps : Array Value) (w : World) (g1 g2 : Nat) (t1 t2 : TypeId) (cs ds : Array Value) (f1 f2 : Nat × Nat) (d1 d2 : TypeDesc)
    (hp : tmps.getD p undef = .pointer (some ⟨g1, 0, none⟩)) (hq : tmps.getD q undef = .pointer (some ⟨g2, 0, none⟩)) (hg1 : w.heap[g1]? = some (.cells cs t1 f1)) (hg2 : w.heap[g2]? = some (.cells ds t2 f2))
    (hu1 : P.underlying ty = some d1) (hd1 : (match d1 with | .struct _ | .array _ _ => true | _ => false) = true) (hi1 : (P.info? ty).map (·.size) = some cs.size)
    (hu2 : P.underlying tz = some d2) (hd2 : (match d2 with | .struct _ | .array _ _ => true | _ => false) = true) (hi2 : (P.info? tz).map (·.size) = some ds.size) :
    (results fn tmps).run P w = .ok (.tuple #[.agg cs, .agg ds]) w := by
  have hp' : tmps[p]?.getD undef = .pointer (some ⟨g1, 0, none⟩) := by simpa using hp
  have hq' : tmps[q]?.getD undef = .pointer (some ⟨g2, 0, none⟩) := by simpa using hq
  simp [results, h, hp', hq', asAddr, run_loadVar_row w g1 t1 ty cs f1 d1 hg1 hu1 hd1 hi1, run_loadVar_row w g2 t2 tz ds f2 d2 hg2 hu2 hd2 hi2]
theorem Table.below {w w' : World} (h : Table w) (hg : 0 < w.heap.size) (hb : Below w.heap.size w w') : Table w' := fun c hc => by
  rw [hb.cell (p := ⟨0, c, none⟩) hg]
  exact h c hc

set_option maxHeartbeats 1000000 in
set_option maxRecDepth 100000 in
theorem v4wrong_any (b : Nat) (p : Int) (w : World) (hc : w.cell? ⟨b, 0, none⟩ = some (.int .i64 p)) (hb : b < w.heap.size) :
    Calls Tryz.prog 63 #[.pointer (some ⟨b, 0, none⟩)] w fun e w' => e = .returned (.tuple #[.agg #[.int .u8 0, .int .u8 0, .int .u8 0, .int .u8 0], .agg #[.int .i64 82, .int .i64 p]]) ∧ Below w.heap.size w w' := by
  have HB : Hid (Below w.heap.size w ((w.alloc (.cells #[.int .u8 0, .int .u8 0, .int .u8 0, .int .u8 0] 46)).alloc (.cells #[.int .i64 82, .int .i64 p] 30)).drew) := (((Below.refl _ _).alloc (Nat.le_refl _) _).alloc (by simp) _).drew
  go_enter Tryz.func63, Tryz.ntmps63
  go_wp2_with fail
  go_region
  all_goals go_wp2
  all_goals refine bodyPost_ret (results_two (p := 1) (q := 2) (by kernel_rfl) _ _ w.heap.size (w.heap.size + 1) 46 30 _ _ (0, 0) (0, 0) _ _ rfl rfl ((Lies.new w _ _).alloc _) (new_one w _ _ _) Tryz.underlying46 rfl info4 Tryz.underlying30 rfl infoSp) rfl ⟨rfl, HB.out⟩

/-- The blocks of V4: its two results, the numbers so far, the place. -/
structure V4S (w : World) (l : List Nat) (k : Nat) (wr : World) : Prop where
  r1 : Lies wr w.heap.size #[.int .u8 0, .int .u8 0, .int .u8 0, .int .u8 0] 46
  r2 : Lies wr (w.heap.size + 1) #[.int .i64 0, .int .i64 0] 30
  a : Lies wr (w.heap.size + 2) (bytesV (l ++ List.replicate (4 - l.length) 0)) 46
  pl : Lies wr (w.heap.size + 3) #[.int .i64 (k : Nat)] 3
  below : Below w.heap.size w wr
theorem V4S.later {w wr wx : World} {l : List Nat} {k : Nat} (h : V4S w l k wr) (hb : Below wr.heap.size wr wx) : V4S w l k wx :=
  ⟨h.r1.below hb h.r1.lt, h.r2.below hb h.r2.lt, h.a.below hb h.a.lt, h.pl.below hb h.pl.lt, h.below.trans (hb.mono (Nat.le_of_lt h.r1.lt))⟩
theorem V4S.move {w wr : World} {l : List Nat} {k : Nat} (h : V4S w l k wr) (m : Nat) : V4S w l m (wr.setCell ⟨w.heap.size + 3, 0, none⟩ (.int .i64 (m : Nat))) :=
  ⟨h.r1.set_other (a := ⟨w.heap.size + 3, 0, none⟩) (by show w.heap.size ≠ w.heap.size + 3; omega) _, h.r2.set_other (a := ⟨w.heap.size + 3, 0, none⟩) (by show w.heap.size + 1 ≠ w.heap.size + 3; omega) _, h.a.set_other (a := ⟨w.heap.size + 3, 0, none⟩) (by show w.heap.size + 2 ≠ w.heap.size + 3; omega) _, h.pl.set 0 _, h.below.setCell (p := ⟨w.heap.size + 3, 0, none⟩) (by show w.heap.size ≤ w.heap.size + 3; omega) _⟩
theorem bytesV_put (l : List Nat) (n : Nat) (h : l.length < 4) : (bytesV (l ++ List.replicate (4 - l.length) 0)).setIfInBounds l.length (.int .u8 (n : Nat)) = bytesV ((l ++ [n]) ++ List.replicate (4 - (l ++ [n]).length) 0) := by
  unfold bytesV
  rw [List.setIfInBounds_toArray]
  congr 1
  match l, h with
  | [], _ => rfl
  | [_], _ => rfl
  | [_, _], _ => rfl
  | [_, _, _], _ => rfl
theorem V4S.put {w wr : World} {l : List Nat} {k : Nat} (h : V4S w l k wr) (n : Nat) (hl : l.length < 4) : V4S w (l ++ [n]) k (wr.setCell ⟨w.heap.size + 2, l.length, none⟩ (.int .u8 (n : Nat))) :=
  ⟨h.r1.set_other (a := ⟨w.heap.size + 2, l.length, none⟩) (by show w.heap.size ≠ w.heap.size + 2; omega) _, h.r2.set_other (a := ⟨w.heap.size + 2, l.length, none⟩) (by show w.heap.size + 1 ≠ w.heap.size + 2; omega) _, by have := h.a.set l.length (.int .u8 (n : Nat)); rw [bytesV_put l n hl] at this; exact this, h.pl.set_other (a := ⟨w.heap.size + 2, l.length, none⟩) (by show w.heap.size + 3 ≠ w.heap.size + 2; omega) _, h.below.setCell (p := ⟨w.heap.size + 2, l.length, none⟩) (by show w.heap.size ≤ w.heap.size + 2; omega) _⟩
theorem V4S.acell {w wr : World} {l : List Nat} {k : Nat} (h : V4S w l k wr) (hl : l.length < 4) : wr.cell? ⟨w.heap.size + 2, l.length, none⟩ = some (.int .u8 0) := by
  rw [h.a.cell]
  unfold bytesV
  match l, hl with
  | [], _ => rfl
  | [_], _ => rfl
  | [_, _], _ => rfl
  | [_, _, _], _ => rfl
/-- V4's answer, laid into its blocks. -/
theorem V4S.ret {w wr : World} {l : List Nat} {k : Nat} (h : V4S w l k wr) (cs ds : Array Value) (R : Ending → World → Prop) (tmps : Array Value) (hp : tmps.getD 2 undef = .pointer (some ⟨w.heap.size, 0, none⟩)) (hq : tmps.getD 3 undef = .pointer (some ⟨w.heap.size + 1, 0, none⟩)) (hc : cs.size = 4) (hd : ds.size = 2)
    (hR : R (.returned (.tuple #[.agg cs, .agg ds])) ((wr.setRow w.heap.size cs).setRow (w.heap.size + 1) ds)) : bodyPost Tryz.prog Tryz.f23 R .ret { tmps := tmps, defers := [] } ((wr.setRow w.heap.size cs).setRow (w.heap.size + 1) ds) :=
  bodyPost_ret (results_two (p := 2) (q := 3) (by kernel_rfl) tmps _ w.heap.size (w.heap.size + 1) 46 30 cs ds (0, 0) (0, 0) _ _ hp hq ((h.r1.row cs).row_other (by omega) ds) ((h.r2.row_other (by omega) cs).row ds) Tryz.underlying46 rfl (by rw [hc]; exact info4) Tryz.underlying30 rfl (by rw [hd]; exact infoSp)) rfl hR
theorem below_two {w wr : World} {cs ds : Array Value} {g : Nat} (h : Below w.heap.size w wr) (hg : w.heap.size ≤ g) : Below w.heap.size w ((wr.setRow w.heap.size cs).setRow g ds) := below_row (below_row h (Nat.le_refl _) cs) hg ds

theorem v4Go_end {l : List Nat} {a : Nat} {s : List UInt8} : v4Go 0 l a s = if s = [] then .ok l else .error a := by rw [v4Go]
theorem v4Go_first {k : Nat} {l : List Nat} {a : Nat} {s : List UInt8} {n len : Nat} (hl : l = []) (h : numGo 0 0 s = (n, len)) : v4Go (k + 1) l a s = if len = 0 then .error a else v4Go k (l ++ [n]) (a + len) (s.drop len) := by
  rw [v4Go, if_pos hl, h]
theorem v4Go_no {k : Nat} {l : List Nat} {a : Nat} {s : List UInt8} (hl : l ≠ []) (h : ¬ s.head? = some 46) : v4Go (k + 1) l a s = .error a := by
  rw [v4Go, if_neg hl, if_neg h]
theorem v4Go_dot {k : Nat} {l : List Nat} {a : Nat} {s : List UInt8} {n len : Nat} (hl : l ≠ []) (hd : s.head? = some 46) (h : numGo 0 0 (s.drop 1) = (n, len)) : v4Go (k + 1) l a s = if len = 0 then .error (a + 1) else v4Go k (l ++ [n]) (a + 1 + len) ((s.drop 1).drop len) := by
  rw [v4Go, if_neg hl, if_pos hd, h]

set_option maxHeartbeats 4000000 in
set_option maxRecDepth 100000 in
theorem v4_any (s : ByteArray) (w : World) (ht : Table w) (hg : 0 < w.heap.size) (hs : s.size ≤ 140737488351232) :
    Calls Tryz.prog 23 #[.string s] w fun e w' => e = .returned (v4V (v4 s.data.toList)) ∧ Below w.heap.size w w' := by
  have HT : Hid (∀ wx, Below w.heap.size w wx → Table wx) := fun wx hb => ht.below hg hb
  have HNUM : Hid (∀ (k : Nat) (wx : World), Below w.heap.size w wx → Calls Tryz.prog 64 #[.string (s.extract k s.size)] wx fun e w' => e = .returned (.tuple #[.int .u8 ((numGo 0 0 (s.data.toList.drop k)).1 : Nat), .int .i64 ((numGo 0 0 (s.data.toList.drop k)).2 : Nat)]) ∧ w' = wx) := fun k wx hb => by
    have h := number_any (s.extract k s.size) wx (HT.out wx hb) (by rw [ByteArray.size_extract]; unfold maxLen; omega)
    rw [ext_drop] at h
    exact h
  have HPRE : Hid (∀ (k : Nat) (wx : World), k ≤ s.size → Calls Tryz.prog 31 #[.string (s.extract k s.size), .string ⟨#[46]⟩] wx fun e w' => e = .returned (.bool (decide ((s.data.toList.drop k).head? = some 46))) ∧ w' = wx) := fun k wx hk => by
    have h := hasp_any (s.extract k s.size) ⟨#[46]⟩ wx
    rw [ext_drop] at h
    have e : ((s.data.toList.drop k).take (⟨#[46]⟩ : ByteArray).size == (⟨#[46]⟩ : ByteArray).data.toList) = decide ((s.data.toList.drop k).head? = some 46) := by
      rw [show (⟨#[46]⟩ : ByteArray).size = 1 from rfl, show (⟨#[46]⟩ : ByteArray).data.toList = [46] from rfl]
      cases s.data.toList.drop k with
      | nil => rfl
      | cons c r => rw [Bool.eq_iff_iff]; simp
    rw [e] at h
    exact h
  have H0 : Hid (V4S w [] 0 ((((w.alloc (.cells #[.int .u8 0, .int .u8 0, .int .u8 0, .int .u8 0] 46)).alloc (.cells #[.int .i64 0, .int .i64 0] 30)).alloc (.cells #[.int .u8 0, .int .u8 0, .int .u8 0, .int .u8 0] 46)).alloc (.cells #[.int .i64 0] 3))) :=
    ⟨(((Lies.new w _ _).alloc _).alloc _).alloc _, ((new_one w _ _ _).alloc _).alloc _, (new_two w _ _ _ _).alloc _, by simpa using Lies.new (((w.alloc (.cells #[.int .u8 0, .int .u8 0, .int .u8 0, .int .u8 0] 46)).alloc (.cells #[.int .i64 0, .int .i64 0] 30)).alloc (.cells #[.int .u8 0, .int .u8 0, .int .u8 0, .int .u8 0] 46)) #[.int .i64 0] 3, ((((Below.refl _ _).alloc (Nat.le_refl _) _).alloc (by simp) _).alloc (by simp; omega) _).alloc (by simp; omega) _⟩
  clear ht
  go_enter Tryz.func23, Tryz.ntmps23
  go_wp2_with fail
  go_loopw [11] (fun c wr => ∃ (i a : Nat) (l : List Nat), i ≤ 4 ∧ a ≤ s.size ∧ c = .int .i64 i ∧ l.length = i ∧ Hid (V4S w l a wr) ∧ Hid (v4 s.data.toList = v4Go (4 - i) l a (s.data.toList.drop a))) (fun c _ => 4 - (intOf c).toNat)
  case atStart => exact ⟨0, 0, [], by omega, by omega, rfl, rfl, H0, rfl⟩
  case round =>
    obtain ⟨i, a, l, hi, ha, rfl, hl, HS, HV⟩ := hrel
    clear H0
    have hz := HS.out.pl.lt
    have hp3 : wr.cell? ⟨w.heap.size + 3, 0, none⟩ = some (.int .i64 (a : Int)) := HS.out.pl.cell 0
    have hf3 : wr.frozen? ⟨w.heap.size + 3, 0, none⟩ = false := HS.out.pl.frozen 0
    by_cases h4 : i < 4
    · by_cases h0 : i = 0
      · subst h0
        obtain rfl : l = [] := List.eq_nil_of_length_eq_zero hl
        have HSx : Hid (V4S w [] a wr) := HS
        clear HS
        go_wp2_with fail
        refine (HNUM.out (a) _ HSx.out.below).mono ?_
        rintro e w4 ⟨rfl, rfl⟩
        obtain ⟨n, len, hnum⟩ : ∃ n len, numGo 0 0 (s.data.toList.drop (a)) = (n, len) := ⟨_, _, rfl⟩
        have hb := numGo_le (s.data.toList.drop (a)) 0 0 (by omega)
        rw [hnum] at hb ⊢
        rw [List.length_drop, len_list] at hb
        dsimp only at hb ⊢
        have HV2 : Hid (v4 s.data.toList = if len = 0 then .error (a) else v4Go (3 - 0) ([] ++ [n]) (a + len) (s.data.toList.drop (a + len))) := by
          show _ = _
          rw [HV.out, show 4 - 0 = 3 - 0 + 1 from by omega, v4Go_first rfl hnum, List.drop_drop]
        clear hnum HV
        have hq3 : w4.cell? ⟨w.heap.size + 3, 0, none⟩ = some (.int .i64 ((a : Nat) : Int)) := HSx.out.pl.cell 0
        have hg3 : w4.frozen? ⟨w.heap.size + 3, 0, none⟩ = false := HSx.out.pl.frozen 0
        have hz3 := HSx.out.pl.lt
        by_cases hlen : len = 0
        · have HV : Hid (v4 s.data.toList = .error (a)) := by
            show _ = _
            rw [HV2.out, if_pos hlen]
          subst hlen
          clear HV2
          go_wp2_with fail
          refine (v4wrong_any (w.heap.size + 3) ((a : Nat) : Int) _ (HSx.out.pl.cell 0) HSx.out.pl.lt).mono ?_
          rintro e w5 ⟨rfl, hb5⟩
          have HS5 : Hid (V4S w [] (a) w5) := HSx.out.later hb5
          clear hb5
          go_wp2_with (first | (refine wpList_store_row rfl 46 _ _ rfl w.heap.size rfl _ #[.int .u8 0, .int .u8 0, .int .u8 0, .int .u8 0] rfl 46 HS5.out.r1 info4 rfl (by simp [Value.oneCell']) rfl ?_) | (refine wpList_store_row rfl 30 _ _ rfl (w.heap.size + 1) rfl _ #[.int .i64 82, .int .i64 ((a : Nat) : Int)] rfl 30 (HS5.out.r2.row_other (by omega) _) infoSp rfl (by simp [Value.oneCell']) rfl ?_))
          exact HS5.out.ret #[.int .u8 0, .int .u8 0, .int .u8 0, .int .u8 0] #[.int .i64 82, .int .i64 ((a : Nat) : Int)] _ _ rfl rfl rfl rfl ⟨by rw [HV.out]; rfl, below_two HS5.out.below (by omega)⟩
        · have HV : Hid (v4 s.data.toList = v4Go (3 - 0) ([] ++ [n]) (a + len) (s.data.toList.drop (a + len))) := by
            show _ = _
            rw [HV2.out, if_neg hlen]
          have hle : ((len : Int) == 0) = false := by rw [beq_eq_false_iff_ne]; omega
          clear HV2
          have hac : w4.cell? ⟨w.heap.size + 2, 0, none⟩ = some (.int .u8 0) := HSx.out.acell (by first | omega | (simp only [List.length_nil]; omega))
          have hai := HSx.out.a.frozen 0
          have HSn : Hid (V4S w ([] ++ [n]) (a + len) ((w4.setCell ⟨w.heap.size + 2, 0, none⟩ (.int .u8 (n : Int))).setCell ⟨w.heap.size + 3, 0, none⟩ (.int .i64 (((a : Nat) : Int) + (len : Int))))) := by
            have := (HSx.out.put n (by first | omega | (simp only [List.length_nil]; omega))).move (a + len)
            rw [Int.natCast_add (a) len] at this
            exact this
          clear HSx hlen
          go_wp2_with fail
          go_roundw
          case rel => exact ⟨0 + 1, a + len, [] ++ [n], by omega, by omega, by first | rfl | go_num, by simp, HSn, by show _ = _; rw [HV.out, show 4 - (0 + 1) = 3 - 0 from by omega]⟩
          case measure => first | (simp [intOf]; done) | (simp [intOf]; omega)
      · have hi1 : (0 : Int) < (i : Int) := by omega
        go_wp2_with fail
        refine (HPRE.out a _ ha).mono ?_
        rintro e w3 ⟨rfl, rfl⟩
        by_cases hdot : (s.data.toList.drop a).head? = some 46
        · rw [decide_eq_true hdot]
          have ha1 : a < s.size := by
            rcases Nat.lt_or_ge a s.size with h | h
            · exact h
            · rw [drop_end s a h] at hdot; cases hdot
          have HSx : Hid (V4S w l (a + 1) (w3.setCell ⟨w.heap.size + 3, 0, none⟩ (.int .i64 ((a : Int) + 1)))) := HS.out.move (a + 1)
          have HD : Hid ((s.data.toList.drop a).head? = some 46) := hdot
          clear hdot HS
          go_wp2_with fail
          have hdot := HD.out
          clear HD hp3 hf3
          generalize w3.setCell ⟨w.heap.size + 3, 0, none⟩ (.int .i64 ((a : Int) + 1)) = wy at HSx ⊢
          refine (HNUM.out (a + 1) _ HSx.out.below).mono ?_
          rintro e w4 ⟨rfl, rfl⟩
          obtain ⟨n, len, hnum⟩ : ∃ n len, numGo 0 0 (s.data.toList.drop (a + 1)) = (n, len) := ⟨_, _, rfl⟩
          have hb := numGo_le (s.data.toList.drop (a + 1)) 0 0 (by omega)
          rw [hnum] at hb ⊢
          rw [List.length_drop, len_list] at hb
          dsimp only at hb ⊢
          have HV2 : Hid (v4 s.data.toList = if len = 0 then .error (a + 1) else v4Go (3 - i) (l ++ [n]) (a + 1 + len) (s.data.toList.drop (a + 1 + len))) := by
            show _ = _
            rw [HV.out, show 4 - i = 3 - i + 1 from by omega, v4Go_dot (n := n) (len := len) (fun h => by rw [h] at hl; simp at hl; omega) hdot (by rw [List.drop_drop]; exact hnum), List.drop_drop, List.drop_drop, ← Nat.add_assoc]
          clear hnum HV h0
          have hq3 : w4.cell? ⟨w.heap.size + 3, 0, none⟩ = some (.int .i64 ((a + 1 : Nat) : Int)) := HSx.out.pl.cell 0
          have hg3 : w4.frozen? ⟨w.heap.size + 3, 0, none⟩ = false := HSx.out.pl.frozen 0
          have hz3 := HSx.out.pl.lt
          by_cases hlen : len = 0
          · have HV : Hid (v4 s.data.toList = .error (a + 1)) := by
              show _ = _
              rw [HV2.out, if_pos hlen]
            subst hlen
            clear HV2
            go_wp2_with fail
            refine (v4wrong_any (w.heap.size + 3) ((a + 1 : Nat) : Int) _ (HSx.out.pl.cell 0) HSx.out.pl.lt).mono ?_
            rintro e w5 ⟨rfl, hb5⟩
            have HS5 : Hid (V4S w l (a + 1) w5) := HSx.out.later hb5
            clear hb5
            go_wp2_with (first | (refine wpList_store_row rfl 46 _ _ rfl w.heap.size rfl _ #[.int .u8 0, .int .u8 0, .int .u8 0, .int .u8 0] rfl 46 HS5.out.r1 info4 rfl (by simp [Value.oneCell']) rfl ?_) | (refine wpList_store_row rfl 30 _ _ rfl (w.heap.size + 1) rfl _ #[.int .i64 82, .int .i64 ((a + 1 : Nat) : Int)] rfl 30 (HS5.out.r2.row_other (by omega) _) infoSp rfl (by simp [Value.oneCell']) rfl ?_))
            exact HS5.out.ret #[.int .u8 0, .int .u8 0, .int .u8 0, .int .u8 0] #[.int .i64 82, .int .i64 ((a + 1 : Nat) : Int)] _ _ rfl rfl rfl rfl ⟨by rw [HV.out]; rfl, below_two HS5.out.below (by omega)⟩
          · have HV : Hid (v4 s.data.toList = v4Go (3 - i) (l ++ [n]) (a + 1 + len) (s.data.toList.drop (a + 1 + len))) := by
              show _ = _
              rw [HV2.out, if_neg hlen]
            have hle : ((len : Int) == 0) = false := by rw [beq_eq_false_iff_ne]; omega
            clear HV2
            subst hl
            have hac : w4.cell? ⟨w.heap.size + 2, l.length, none⟩ = some (.int .u8 0) := HSx.out.acell (by first | omega | (simp only [List.length_nil]; omega))
            have hai := HSx.out.a.frozen l.length
            have hi0 : (0 : Int) ≤ (l.length : Int) := by omega
            have hi4 : (l.length : Int) < 4 := by omega
            have HSn : Hid (V4S w (l ++ [n]) (a + 1 + len) ((w4.setCell ⟨w.heap.size + 2, l.length, none⟩ (.int .u8 (n : Int))).setCell ⟨w.heap.size + 3, 0, none⟩ (.int .i64 (((a + 1 : Nat) : Int) + (len : Int))))) := by
              have := (HSx.out.put n (by first | omega | (simp only [List.length_nil]; omega))).move (a + 1 + len)
              rw [Int.natCast_add (a + 1) len] at this
              exact this
            clear HSx hlen
            go_wp2_with fail
            go_roundw
            case rel => exact ⟨l.length + 1, a + 1 + len, l ++ [n], by omega, by omega, by first | rfl | go_num, by simp, HSn, by show _ = _; rw [HV.out, show 4 - (l.length + 1) = 3 - l.length from by omega]⟩
            case measure => first | (simp [intOf]; done) | (simp [intOf]; omega)
        · rw [decide_eq_false hdot]
          have HSx : Hid (V4S w l a w3) := HS
          have HV0 : Hid (v4 s.data.toList = .error a) := by
            show _ = _
            rw [HV.out, show 4 - i = 3 - i + 1 from by omega, v4Go_no (fun h => by rw [h] at hl; simp at hl; omega) hdot]
          clear HS HV hdot
          have HV := HV0
          clear HV0
          go_wp2_with fail
          refine (v4wrong_any (w.heap.size + 3) ((a : Nat) : Int) _ (HSx.out.pl.cell 0) HSx.out.pl.lt).mono ?_
          rintro e w5 ⟨rfl, hb5⟩
          have HS5 : Hid (V4S w l a w5) := HSx.out.later hb5
          clear hb5
          go_wp2_with (first | (refine wpList_store_row rfl 46 _ _ rfl w.heap.size rfl _ #[.int .u8 0, .int .u8 0, .int .u8 0, .int .u8 0] rfl 46 HS5.out.r1 info4 rfl (by simp [Value.oneCell']) rfl ?_) | (refine wpList_store_row rfl 30 _ _ rfl (w.heap.size + 1) rfl _ #[.int .i64 82, .int .i64 ((a : Nat) : Int)] rfl 30 (HS5.out.r2.row_other (by omega) _) infoSp rfl (by simp [Value.oneCell']) rfl ?_))
          exact HS5.out.ret #[.int .u8 0, .int .u8 0, .int .u8 0, .int .u8 0] #[.int .i64 82, .int .i64 ((a : Nat) : Int)] _ _ rfl rfl rfl rfl ⟨by rw [HV.out]; rfl, below_two HS5.out.below (by omega)⟩
    · obtain rfl : i = 4 := by omega
      have HV1 : Hid (v4 s.data.toList = if s.data.toList.drop a = [] then .ok l else .error a) := by
        show _ = _
        rw [HV.out, v4Go_end]
      clear HV
      by_cases hend : a < s.size
      · have HV : Hid (v4 s.data.toList = .error a) := by
          show _ = _
          rw [HV1.out, if_neg (by rw [drop_head s a hend]; simp)]
        have hend' : (a : Int) < (s.size : Int) := by omega
        have HSx := HS
        clear HV1 HS
        go_wp2_with fail
        refine (v4wrong_any (w.heap.size + 3) ((a : Nat) : Int) _ (HSx.out.pl.cell 0) HSx.out.pl.lt).mono ?_
        rintro e w5 ⟨rfl, hb5⟩
        have HS5 : Hid (V4S w l a w5) := HSx.out.later hb5
        clear hb5
        go_wp2_with (first | (refine wpList_store_row rfl 46 _ _ rfl w.heap.size rfl _ #[.int .u8 0, .int .u8 0, .int .u8 0, .int .u8 0] rfl 46 HS5.out.r1 info4 rfl (by simp [Value.oneCell']) rfl ?_) | (refine wpList_store_row rfl 30 _ _ rfl (w.heap.size + 1) rfl _ #[.int .i64 82, .int .i64 ((a : Nat) : Int)] rfl 30 (HS5.out.r2.row_other (by omega) _) infoSp rfl (by simp [Value.oneCell']) rfl ?_))
        exact HS5.out.ret #[.int .u8 0, .int .u8 0, .int .u8 0, .int .u8 0] #[.int .i64 82, .int .i64 ((a : Nat) : Int)] _ _ rfl rfl rfl rfl ⟨by rw [HV.out]; rfl, below_two HS5.out.below (by omega)⟩
      · have HV : Hid (v4 s.data.toList = .ok l) := by
          show _ = _
          rw [HV1.out, if_pos (drop_end s a (by omega))]
        have hend' : ¬ (a : Int) < (s.size : Int) := by omega
        have HA : Hid (Lies wr (w.heap.size + 2) (bytesV l) 46) := by
          have := HS.out.a
          rw [hl, List.replicate_zero, List.append_nil] at this
          exact this
        have hsz : (bytesV l).size = 4 := by simp [bytesV, hl]
        clear HV1
        go_wp2_with (first | (refine wpList_load_row rfl 46 _ rfl (w.heap.size + 2) rfl (bytesV l) 46 _ HA.out Tryz.underlying46 rfl (by rw [hsz]; exact info4) ?_) | (refine wpList_store_row rfl 46 _ _ rfl w.heap.size rfl _ (bytesV l) rfl 46 HS.out.r1 (by rw [hsz]; exact info4) hsz.symm (by simp [bytesV, Value.oneCell']) rfl ?_) | (refine wpList_store_row rfl 30 _ _ rfl (w.heap.size + 1) rfl _ #[.int .i64 0, .int .i64 0] rfl 30 (HS.out.r2.row_other (by omega) _) infoSp rfl (by simp [Value.oneCell']) rfl ?_))
        exact HS.out.ret (bytesV l) #[.int .i64 0, .int .i64 0] _ _ rfl rfl hsz rfl ⟨by rw [HV.out]; rfl, below_two HS.out.below (by omega)⟩
end Go.Proofs.YtnlgbopdbihnjaaGreatDoor
/-
  The document's Sixth and Tagged.
-/
namespace Go.Proofs.YtnlgbopdbihnjaaGreatDoor
open Go.RowKit

theorem sml_six (t : ByteArray) (h5 : 5 ≤ t.size) : sixB t.data.toList = ((smS (t.extract 0 5)).data.toList == [105, 112, 118, 54, 58]) := by
  unfold sixB smS
  rw [decide_eq_true (by rw [len_list]; exact h5), Bool.true_and]
  have : (t.extract 0 5).data.toList = t.data.toList.take 5 := by simp
  rw [this]
  rw [Bool.eq_iff_iff]
  simp
set_option maxHeartbeats 1000000 in
set_option maxRecDepth 100000 in
theorem sixth_any (t : ByteArray) (w : World) : Calls Tryz.prog 52 #[.string t] w fun e w' => e = .returned (.bool (sixB t.data.toList)) ∧ Below w.heap.size w w' := by
  by_cases h5 : 5 ≤ t.size
  · have h5' : (4 : Int) < (t.size : Int) := by omega
    have HS : Hid (Calls Tryz.prog 56 #[.string (t.extract 0 5)] w fun e w' => e = .returned (.string (smS (t.extract 0 5))) ∧ Below w.heap.size w w') := rsmall_any (t.extract 0 5) w (by rw [ByteArray.size_extract]; unfold maxLen; omega)
    have HR : Hid (sixB t.data.toList = ((smS (t.extract 0 5)).data.toList == [105, 112, 118, 54, 58])) := sml_six t h5
    generalize smS (t.extract 0 5) = X at HS HR
    go_enter Tryz.func52, Tryz.ntmps52
    go_wp2_with fail
    refine HS.out.mono ?_
    rintro e w1 ⟨rfl, hb1⟩
    have HB1 : Hid (Below w.heap.size w w1) := hb1
    clear hb1
    go_wp2_with fail
    go_ret
    exact ⟨by rw [HR.out, ← ByteArray.toList_eq]; rfl, HB1.out⟩
  · have h5' : ¬ (4 : Int) < (t.size : Int) := by omega
    have hr : sixB t.data.toList = false := by
      unfold sixB
      rw [decide_eq_false (by rw [len_list]; exact h5), Bool.false_and]
    rw [hr]
    go_enter Tryz.func52, Tryz.ntmps52
    go_wp2_with fail
    go_ret
    exact ⟨rfl, Below.refl _ _⟩

def optI (o : Option Nat) : Int := match o with
  | none => -1
  | some p => p
theorem b_eq (c : UInt8) (n : UInt8) (m : Int) (hm : m = (n.toNat : Int)) : ((c.toNat : Int) == m) = decide (c = n) ∧ ((c.toNat : Int) != m) = !decide (c = n) := by
  have : ((c.toNat : Int) == m) = decide (c = n) := by
    subst hm
    rw [Bool.eq_iff_iff, beq_iff_eq, decide_eq_true_eq, Int.natCast_inj, UInt8.toNat_inj]
  refine ⟨this, ?_⟩
  rw [bne, this]
/-- The first k bytes are of a label. -/
def AllF (f : UInt8 → Bool) (t : ByteArray) (a k : Nat) : Prop := ∀ j (h : j < t.size), a ≤ j → j < k → f t[j] = true
theorem AllF.step {f : UInt8 → Bool} {t : ByteArray} {a k : Nat} (h : AllF f t a k) (hk : k < t.size) (hc : f t[k] = true) : AllF f t a (k + 1) := fun j hj h1 h2 => by
  rcases Nat.lt_or_ge j k with h' | h'
  · exact h j hj h1 h'
  · obtain rfl : j = k := by omega
    exact hc
theorem AllF.none (f : UInt8 → Bool) (t : ByteArray) (a : Nat) : AllF f t a a := fun j _ h1 h2 => absurd h1 (by omega)
theorem get_list (t : ByteArray) (k : Nat) (h : k < t.data.toList.length) : t.data.toList[k] = t[k]'(by rw [len_list] at h; exact h) := rfl
theorem AllF.sp {f : UInt8 → Bool} {t : ByteArray} {k : Nat} (h : AllF f t 0 k) (hk : k ≤ t.size) (hs : ∀ h : k < t.size, f t[k] = false) : spB f t.data.toList = k :=
  spB_eq f _ k (by rw [len_list]; exact hk) (fun j hj h' => by rw [get_list]; exact h j _ (Nat.zero_le _) h') (fun hj => by rw [get_list]; exact hs _)
theorem AllF.sp2 {f : UInt8 → Bool} {t : ByteArray} {a k : Nat} (h : AllF f t a k) (ha : a ≤ k) (hk : k ≤ t.size) (hs : ∀ h : k < t.size, f t[k] = false) : spB f (t.data.toList.drop a) = k - a :=
  spB_eq f _ (k - a) (by rw [List.length_drop, len_list]; omega) (fun j hj h' => by
    rw [List.getElem_drop, get_list]
    exact h (a + j) _ (by omega) (by omega)) (fun hj => by
    rw [List.getElem_drop, get_list]
    have := hs (by rw [List.length_drop, len_list] at hj; omega)
    simp only [show a + (k - a) = k from by omega]
    exact this)
theorem tg_one {t : ByteArray} {k : Nat} (h : AllF lbB t 0 k) (hk : k < t.size) (h1 : lbB t[k] = false) (h2 : t[k] ≠ 58) : tgD t.data.toList = some k := by
  have e := h.sp (by omega) (fun _ => h1)
  unfold tgD
  rw [e, if_pos ⟨by rw [len_list]; exact hk, by rw [List.getElem?_eq_getElem (by rw [len_list]; exact hk), get_list]; simpa using h2⟩]
theorem tg_two {t : ByteArray} {k : Nat} (h : AllF lbB t 0 k) (hk : k ≤ t.size) (h1 : ∀ h : k < t.size, t[k] = 58) (h2 : k = t.size ∨ k = 0 ∨ t.data.toList[k - 1]? = some 45) : tgD t.data.toList = some k := by
  have e := h.sp hk (fun hh => by rw [h1 hh]; exact lb_colon)
  unfold tgD
  rw [e, if_neg, if_pos (by rw [len_list]; exact h2)]
  rintro ⟨a, b⟩
  rw [len_list] at a
  exact b (by rw [List.getElem?_eq_getElem (by rw [len_list]; exact a), get_list, h1 a])
theorem tg_last {t : ByteArray} {k i : Nat} (h : AllF lbB t 0 k) (hk : k < t.size) (h1 : t[k] = 58) (h2 : ¬ (k = t.size ∨ k = 0 ∨ t.data.toList[k - 1]? = some 45)) (g : AllF plB t (k + 1) i) (hi : k + 1 ≤ i) (hl : i ≤ t.size) (hs : ∀ h : i < t.size, plB t[i] = false) :
    tgD t.data.toList = if i < t.size then some i else if k + 1 = t.size then some t.size else none := by
  have e := h.sp (by omega) (fun hh => by rw [h1]; exact lb_colon)
  have e2 := g.sp2 hi hl hs
  unfold tgD
  have n1 : ¬ (k < t.data.toList.length ∧ ¬ t.data.toList[k]? = some 58) := by
    rintro ⟨a, b⟩
    exact b (by rw [List.getElem?_eq_getElem a, get_list, h1])
  rw [e, if_neg n1, if_neg (by rw [len_list]; exact h2), e2, len_list, show k + 1 + (i - (k + 1)) = i from by omega]

set_option maxHeartbeats 8000000 in
set_option maxRecDepth 100000 in
theorem tagged_any (t : ByteArray) (w : World) (ht : t.size ≤ maxLen) : Calls Tryz.prog 54 #[.string t] w fun e w' => e = .returned (.int .i64 (optI (tgD t.data.toList))) ∧ Below w.heap.size w w' := by
  unfold maxLen at ht
  have HL : Hid (∀ c : UInt8, ∀ w : World, Calls Tryz.prog 93 #[.int .u8 (c.toNat : Int)] w fun e w' => e = .returned (.bool (letB c)) ∧ w' = w) := letter_any
  have HD : Hid (∀ c : UInt8, ∀ w : World, Calls Tryz.prog 94 #[.int .u8 (c.toNat : Int)] w fun e w' => e = .returned (.bool (dgB c)) ∧ w' = w) := digit_any
  go_enter Tryz.func54, Tryz.ntmps54
  go_wp2_with fail
  go_loopw [3] (fun c wr => ∃ k : Nat, k ≤ t.size ∧ c = .int .i64 k ∧ Hid (AllF lbB t 0 k) ∧ Hid (wr = w)) (fun c _ => t.size - (intOf c).toNat)
  case atStart => exact ⟨0, Nat.zero_le _, rfl, AllF.none _ _ _, rfl⟩
  case round =>
    obtain ⟨k, hk, rfl, HA, HV⟩ := hrel
    obtain rfl : w = wr := HV.out.symm
    clear HV
    by_cases hgo : ∃ h : k < t.size, t[k] ≠ 58
    · obtain ⟨hlt, hc⟩ := hgo
      obtain ⟨e58, n58⟩ := b_eq t[k] 58 58 rfl
      rw [decide_eq_false hc] at e58 n58
      have HL1 := HL.out t[k] w
      have HD1 := HD.out t[k] w
      obtain ⟨e45, n45⟩ := b_eq t[k] 45 45 rfl
      have HLB : Hid (lbB t[k] = (letB t[k] || dgB t[k] || decide (t[k] = 45))) := by show _ = _; unfold lbB; rw [ld_let]
      have HC : Hid (t[k] ≠ 58) := hc
      clear HL HD hc
      obtain ⟨x1, h1⟩ : ∃ x, x = letB t[k] := ⟨_, rfl⟩
      obtain ⟨x2, h2⟩ : ∃ x, x = dgB t[k] := ⟨_, rfl⟩
      obtain ⟨x3, h3⟩ : ∃ x, x = decide (t[k] = 45) := ⟨_, rfl⟩
      rw [← h1] at HL1 HLB
      rw [← h2] at HD1 HLB
      rw [← h3] at e45 n45 HLB
      clear h1 h2 h3
      cases x1
      · cases x2
        · cases x3
          · have HT : Hid (tgD t.data.toList = some k) := tg_one HA.out hlt HLB.out HC.out
            go_wp2_with fail
            refine HL1.mono ?_
            rintro e w1 ⟨rfl, rfl⟩
            go_wp2_with fail
            refine HD1.mono ?_
            rintro e w1 ⟨rfl, rfl⟩
            go_wp2_with fail
            go_ret
            exact ⟨by rw [HT.out]; rfl, Below.refl _ _⟩
          · have HN : Hid (AllF lbB t 0 (k + 1)) := HA.out.step hlt HLB.out
            go_wp2_with fail
            refine HL1.mono ?_
            rintro e w1 ⟨rfl, rfl⟩
            go_wp2_with fail
            refine HD1.mono ?_
            rintro e w1 ⟨rfl, rfl⟩
            go_wp2_with fail
            go_roundw
            case rel => exact ⟨k + 1, by omega, by go_num, HN, trivial⟩
            case measure => simp [intOf]; omega
        · have HN : Hid (AllF lbB t 0 (k + 1)) := HA.out.step hlt HLB.out
          go_wp2_with fail
          refine HL1.mono ?_
          rintro e w1 ⟨rfl, rfl⟩
          go_wp2_with fail
          refine HD1.mono ?_
          rintro e w1 ⟨rfl, rfl⟩
          go_wp2_with fail
          go_roundw
          case rel => exact ⟨k + 1, by omega, by go_num, HN, trivial⟩
          case measure => simp [intOf]; omega
      · have HN : Hid (AllF lbB t 0 (k + 1)) := HA.out.step hlt HLB.out
        go_wp2_with fail
        refine HL1.mono ?_
        rintro e w1 ⟨rfl, rfl⟩
        go_wp2_with fail
        go_roundw
        case rel => exact ⟨k + 1, by omega, by go_num, HN, trivial⟩
        case measure => simp [intOf]; omega
    · have HB : Hid (∀ h : k < t.size, t[k] = 58) := fun h => Classical.byContradiction fun h' => hgo ⟨h, h'⟩
      clear hgo HL HD
      by_cases hz : k = t.size
      · have HT : Hid (tgD t.data.toList = some t.size) := by have := tg_two HA.out hk HB.out (.inl hz); rw [hz] at this; exact this
        subst hz
        clear HB HA
        go_wp2_with fail
        go_ret
        exact ⟨by rw [HT.out]; rfl, Below.refl _ _⟩
      · have hlt : k < t.size := by omega
        have hzb : ((k : Int) == (t.size : Int)) = false := by rw [beq_eq_false_iff_ne]; omega
        have hc := HB.out hlt
        have HC : Hid (t[k] = 58) := hc
        obtain ⟨e58, n58⟩ := b_eq t[k] 58 58 rfl
        rw [decide_eq_true hc] at e58 n58
        have HZ : Hid (¬ k = t.size) := hz
        clear hc hz
        by_cases h0 : k = 0
        · have HT : Hid (tgD t.data.toList = some 0) := by have := tg_two HA.out hk HB.out (.inr (.inl h0)); rw [h0] at this; exact this
          subst h0
          clear HB HA
          go_wp2_with fail
          go_ret
          exact ⟨by rw [HT.out]; rfl, Below.refl _ _⟩
        · obtain ⟨m, rfl⟩ : ∃ m, k = m + 1 := ⟨k - 1, by omega⟩
          have hm : m < t.size := by omega
          have h0b : ((m : Int) + 1 == 0) = false := by rw [beq_eq_false_iff_ne]; omega
          have hzc : ((m : Int) + 1 == (t.size : Int)) = false := by rw [beq_eq_false_iff_ne]; have := HZ.out; omega
          clear hzb
          have hl45 : t.data.toList[m]? = some t[m] := by rw [List.getElem?_eq_getElem (by rw [len_list]; exact hm), get_list]
          obtain ⟨e45, n45⟩ := b_eq t[m] 45 45 rfl
          by_cases h45 : t[m] = 45
          · have HT : Hid (tgD t.data.toList = some (m + 1)) := tg_two HA.out hk HB.out (.inr (.inr (by rw [Nat.add_sub_cancel, hl45, h45])))
            rw [decide_eq_true h45] at e45 n45
            clear HB HA h45 hl45 h0
            go_wp2_with fail
            go_ret
            exact ⟨by rw [HT.out]; rfl, Below.refl _ _⟩
          · rw [decide_eq_false h45] at e45 n45
            have HE : Hid (¬ (m + 1 = t.size ∨ m + 1 = 0 ∨ t.data.toList[m + 1 - 1]? = some 45)) := by
              rintro (h | h | h)
              · exact HZ.out h
              · omega
              · rw [Nat.add_sub_cancel, hl45] at h
                exact h45 (by simpa using h)
            clear HB h45 hl45 h0
            go_wp2_with fail
            go_loopw [4] (fun c wv => ∃ i : Nat, m + 2 ≤ i ∧ i ≤ t.size ∧ c = .int .i64 i ∧ Hid (AllF plB t (m + 2) i) ∧ Hid (wv = w)) (fun c _ => t.size - (intOf c).toNat)
            case atStart => exact ⟨m + 2, by omega, by omega, by go_num, AllF.none _ _ _, rfl⟩
            case round =>
              obtain ⟨i, hi2, hi, rfl, HP, HV⟩ := hrel
              obtain rfl : w = wr := HV.out.symm
              clear HV
              by_cases hil : i < t.size
              · have hil' : (i : Int) < (t.size : Int) := by omega
                have HPL : Hid (plB t[i] = (decide (33 ≤ t[i].toNat) && decide (t[i].toNat ≤ 126) && !decide (t[i] = 91) && !decide (t[i] = 92) && !decide (t[i] = 93))) := rfl
                obtain ⟨e91, n91⟩ := b_eq t[i] 91 91 rfl
                obtain ⟨e92, n92⟩ := b_eq t[i] 92 92 rfl
                obtain ⟨e93, n93⟩ := b_eq t[i] 93 93 rfl
                obtain ⟨x1, h1⟩ : ∃ x, x = decide (t[i] = 91) := ⟨_, rfl⟩
                obtain ⟨x2, h2⟩ : ∃ x, x = decide (t[i] = 92) := ⟨_, rfl⟩
                obtain ⟨x3, h3⟩ : ∃ x, x = decide (t[i] = 93) := ⟨_, rfl⟩
                rw [← h1] at e91 n91 HPL
                rw [← h2] at e92 n92 HPL
                rw [← h3] at e93 n93 HPL
                clear h1 h2 h3
                have HS : Hid (plB t[i] = false → tgD t.data.toList = some i) := fun h => by
                  have := tg_last HA.out hlt HC.out HE.out HP.out hi2 hi (fun _ => h)
                  rw [if_pos hil] at this
                  exact this
                have HN : Hid (plB t[i] = true → AllF plB t (m + 2) (i + 1)) := fun h => HP.out.step hil h
                clear HA HC HE HP HZ e58 n58 e45 n45 h0b hzc
                by_cases c1 : 33 ≤ t[i].toNat
                · by_cases c2 : t[i].toNat ≤ 126
                  · rw [decide_eq_true c1, decide_eq_true c2] at HPL
                    cases x1
                    · cases x3
                      · cases x2
                        · have HN2 : Hid (AllF plB t (m + 2) (i + 1)) := HN.out HPL.out
                          go_wp2_with fail
                          go_roundw
                          case rel => exact ⟨i + 1, by omega, by omega, by go_num, HN2, trivial⟩
                          case measure => simp [intOf]; omega
                        · have HT : Hid (tgD t.data.toList = some i) := HS.out (HPL.out.trans (by rfl))
                          go_wp2_with fail
                          go_ret
                          exact ⟨by rw [HT.out]; rfl, Below.refl _ _⟩
                      · have HT : Hid (tgD t.data.toList = some i) := HS.out (HPL.out.trans (by cases x2 <;> rfl))
                        go_wp2_with fail
                        go_ret
                        exact ⟨by rw [HT.out]; rfl, Below.refl _ _⟩
                    · have HT : Hid (tgD t.data.toList = some i) := HS.out (HPL.out.trans (by cases x2 <;> cases x3 <;> rfl))
                      go_wp2_with fail
                      go_ret
                      exact ⟨by rw [HT.out]; rfl, Below.refl _ _⟩
                  · have HT : Hid (tgD t.data.toList = some i) := HS.out (HPL.out.trans (by rw [decide_eq_false c2]; cases x1 <;> cases x2 <;> cases x3 <;> simp))
                    go_wp2_with fail
                    go_ret
                    exact ⟨by rw [HT.out]; rfl, Below.refl _ _⟩
                · have HT : Hid (tgD t.data.toList = some i) := HS.out (HPL.out.trans (by rw [decide_eq_false c1]; simp))
                  go_wp2_with fail
                  go_ret
                  exact ⟨by rw [HT.out]; rfl, Below.refl _ _⟩
              · have HS : Hid (tgD t.data.toList = if m + 1 + 1 = t.size then some t.size else none) := by
                  have := tg_last HA.out hlt HC.out HE.out HP.out hi2 hi (fun h => absurd h hil)
                  rw [if_neg hil] at this
                  exact this
                have hil' : ¬ (i : Int) < (t.size : Int) := by omega
                clear HA HC HE HP HZ e58 n58 e45 n45 h0b hzc
                by_cases hl : m + 1 + 1 = t.size
                · have HT : Hid (tgD t.data.toList = some t.size) := by have := HS.out; rw [if_pos hl] at this; exact this
                  have hlb : ((m : Int) + 1 + 1 == (t.size : Int)) = true := by rw [beq_iff_eq]; omega
                  clear HS hl
                  go_wp2_with fail
                  go_ret
                  exact ⟨by rw [HT.out]; rfl, Below.refl _ _⟩
                · have HT : Hid (tgD t.data.toList = none) := by have := HS.out; rw [if_neg hl] at this; exact this
                  have hlb : ((m : Int) + 1 + 1 == (t.size : Int)) = false := by rw [beq_eq_false_iff_ne]; omega
                  clear HS hl
                  go_wp2_with fail
                  go_ret
                  exact ⟨by rw [HT.out]; rfl, Below.refl _ _⟩
end Go.Proofs.YtnlgbopdbihnjaaGreatDoor
