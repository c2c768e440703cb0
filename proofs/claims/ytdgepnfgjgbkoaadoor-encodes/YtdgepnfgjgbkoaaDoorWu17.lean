/-
  unquote: a text in Q read.
-/
import Derived.Test.YtdgepnfgjgbkoaaDoorSpan4
import Derived.Test.YtdgepnfgjgbkoaaDoorUnhexOk4
import Derived.Lib.Strings
namespace Go.Proofs.YtdgepnfgjgbkoaaDoor
open Go.RowKit

def uqE (l : List UInt8) : Nat := if (uqB 0 l).2.isSome then 170 else 0
def uqP (l : List UInt8) : Nat := (uqB 0 l).2.getD 0
def uqR (l : List UInt8) : List UInt8 := if (uqB 0 l).2.isSome then [] else (uqB 0 l).1
theorem uqB_nil (k : Nat) : uqB k [] = ([], none) := by simp [uqB]
theorem uqB_c (k : Nat) (c : UInt8) (t : List UInt8) (h : c ≠ 61) : uqB k (c :: t) = ((if c = 95 then 32 else c) :: (uqB (k + 1) t).1, (uqB (k + 1) t).2) := by
  rw [uqB.eq_def]
  dsimp only
  rw [if_neg h]
theorem uqB_at (l : List UInt8) (k : Nat) (h : k < l.length) (hc : l[k] ≠ 61) : uqB k (l.drop k) = ((if l[k] = 95 then 32 else l[k]) :: (uqB (k + 1) (l.drop (k + 1))).1, (uqB (k + 1) (l.drop (k + 1))).2) := by
  rw [List.drop_eq_getElem_cons h, uqB_c _ _ _ hc]
theorem drop_two (l : List UInt8) (k : Nat) (h : k + 1 < l.length) : l.drop k = l[k] :: l[k + 1] :: l.drop (k + 2) := by rw [List.drop_eq_getElem_cons (by omega), List.drop_eq_getElem_cons h]
theorem cut_two (l : List UInt8) (k : Nat) (h : k + 1 < l.length) : cutW l k (k + 2) = [l[k], l[k + 1]] := by
  unfold cutW
  rw [drop_two l k h, show k + 2 - k = 2 by omega]
  rfl
theorem cutW_len (l : List UInt8) (f t : Nat) (h : t ≤ l.length) : (cutW l f t).length = t - f := by
  unfold cutW
  rw [List.length_take, List.length_drop]
  omega
/-- An = behind which two digits stand. -/
theorem uqB_hit (l : List UInt8) (k : Nat) (h : k < l.length) (hc : l[k] = 61) (hb : 2 ≤ badN 4 (cutW l (k + 1) (min (k + 3) l.length))) :
    k + 3 ≤ l.length ∧ (cutW l (k + 1) (min (k + 3) l.length)).length = 2 ∧ badN 4 (cutW l (k + 1) (min (k + 3) l.length)) = 2 ∧
    uqB k (l.drop k) = (unL (cutW l (k + 1) (min (k + 3) l.length)) ++ (uqB (k + 3) (l.drop (k + 3))).1, (uqB (k + 3) (l.drop (k + 3))).2) := by
  have h1 := badN_le 4 (cutW l (k + 1) (min (k + 3) l.length))
  have h2 := cutW_len l (k + 1) (min (k + 3) l.length) (Nat.min_le_right _ _)
  have h3 : k + 3 ≤ l.length := by omega
  have hm : min (k + 3) l.length = k + 3 := by omega
  rw [hm] at hb h1 h2 ⊢
  refine ⟨h3, by omega, by omega, ?_⟩
  have e := cut_two l (k + 1) (by omega)
  rw [show k + 1 + 2 = k + 3 by omega] at e
  rw [e] at hb h1 ⊢
  rw [List.drop_eq_getElem_cons h, drop_two l (k + 1) (by omega), hc, uqB.eq_def]
  dsimp only
  rw [if_pos rfl]
  rw [if_pos (by simp only [List.length_cons, List.length_nil] at h1; omega), show k + 1 + 2 = k + 3 by omega]
theorem uqB_miss (l : List UInt8) (k : Nat) (h : k < l.length) (hc : l[k] = 61) (hb : badN 4 (cutW l (k + 1) (min (k + 3) l.length)) < 2) : uqB k (l.drop k) = ([], some k) := by
  rw [List.drop_eq_getElem_cons h, hc, uqB.eq_def]
  dsimp only
  rw [if_pos rfl]
  by_cases h3 : k + 3 ≤ l.length
  · rw [drop_two l (k + 1) (by omega)]
    dsimp only
    have hm : min (k + 3) l.length = k + 3 := by omega
    have e := cut_two l (k + 1) (by omega)
    rw [show k + 1 + 2 = k + 3 by omega] at e
    rw [hm, e] at hb
    rw [if_neg (by omega)]
  · have hl : (l.drop (k + 1)).length < 2 := by rw [List.length_drop]; omega
    generalize l.drop (k + 1) = X at hl
    rcases X with _ | ⟨x, _ | ⟨y, z⟩⟩
    · rfl
    · rfl
    · simp only [List.length_cons] at hl
      omega
/-- How far unquote is. -/
structure Uqs (l : List UInt8) (k : Nat) (D : List UInt8) : Prop where
  all : uqB 0 l = (D ++ (uqB k (l.drop k)).1, (uqB k (l.drop k)).2)
theorem Uqs.start (l : List UInt8) : Uqs l 0 [] := ⟨by simp⟩
theorem Uqs.one {l : List UInt8} {k : Nat} {D : List UInt8} (h : Uqs l k D) (hk : k < l.length) (hc : l[k] ≠ 61) : Uqs l (k + 1) (D ++ [if l[k] = 95 then 32 else l[k]]) :=
  ⟨by rw [h.all, uqB_at l k hk hc, List.append_assoc]; rfl⟩
theorem Uqs.fin {l : List UInt8} {D : List UInt8} (h : Uqs l l.length D) : uqE l = 0 ∧ uqP l = 0 ∧ uqR l = D := by
  have e := h.all
  rw [List.drop_length, uqB_nil] at e
  unfold uqE uqP uqR
  rw [e]
  simp
theorem Uqs.err {l : List UInt8} {k : Nat} {D : List UInt8} (h : Uqs l k D) (hm : uqB k (l.drop k) = ([], some k)) : uqE l = 170 ∧ uqP l = k ∧ uqR l = [] := by
  have e := h.all
  rw [hm] at e
  unfold uqE uqP uqR
  rw [e]
  simp
theorem Uqs.two {l : List UInt8} {k : Nat} {D X : List UInt8} (h : Uqs l k D) (he : uqB k (l.drop k) = (unL X ++ (uqB (k + 3) (l.drop (k + 3))).1, (uqB (k + 3) (l.drop (k + 3))).2)) : Uqs l (k + 3) (D ++ unL X) :=
  ⟨by rw [h.all, he, List.append_assoc]⟩
set_option maxRecDepth 100000 in
set_option maxHeartbeats 4000000 in
theorem wunq_any (s : ByteArray) (hs : s.size ≤ 1099511627776) (w : World) (ht : Table w) :
    Calls Tryd.prog 63 #[.string s] w fun e w' => ∃ v, e = .returned (.tuple #[v, .agg #[.int .i64 (uqE s.data.toList : Nat), .int .i64 (uqP s.data.toList : Nat)]]) ∧
      w'.ownsRow w.heap.size 5 1 v (uqR s.data.toList).length (cellsB (uqR s.data.toList)) ∧ Below w.heap.size w w' := by
  have HT : Hid (Table w) := ht
  obtain ⟨n, hn⟩ : ∃ n, n = s.size := ⟨_, rfl⟩
  have hll := len_list s
  obtain ⟨w1, hmk, hO1, hB1⟩ := make_room (w.alloc (.cells #[.int .i64 0, .int .i64 0] 25)) 0 s.size 0 s.size rfl rfl (Nat.zero_le _) (by omega) (w.heap.size + 1) (by simp)
  have hsz : (w.alloc (.cells #[.int .i64 0, .int .i64 0] 25)).heap.size = w.heap.size + 1 := by simp
  rw [hsz] at hmk hO1 hB1
  have HO1 : Hid (w1.ownsRow (w.heap.size + 1) 5 1 (.slice (some ⟨w.heap.size + 1, 0, none⟩) 0 s.size) 0 (cellsB [])) := hO1
  have HB1 : Hid (Below w.heap.size w w1) := ((Below.refl _ w).alloc (Nat.le_refl _) _).trans (hB1.mono (by omega))
  have HL1 : Hid (Lies w1 w.heap.size #[.int .i64 0, .int .i64 0] 25) := (Lies.new w _ _).below hB1 (by omega)
  clear ht hO1 hB1 hsz
  go_enter Tryd.func63, Tryd.ntmps63
  go_wp2
  go_loopw [4, 5] (fun v i wr => ∃ (k : Nat) (D : List UInt8), k ≤ s.size ∧ D.length ≤ k ∧ i = .int .i64 k ∧ Hid (Uqs s.data.toList k D) ∧ Hid (wr.ownsRow (w.heap.size + 1) 5 1 v D.length (cellsB D)) ∧ Hid (Below w.heap.size w wr) ∧ Hid (Lies wr w.heap.size #[.int .i64 0, .int .i64 0] 25)) (fun _ i _ => s.size - (intOf i).toNat)
  case atStart => exact ⟨0, [], Nat.zero_le _, Nat.zero_le _, rfl, Uqs.start _, HO1, HB1, HL1⟩
  case round =>
    obtain ⟨k, D, hk, hD, rfl, HU, HO, HB, HL⟩ := hrel
    clear HO1 HB1 HL1 hmk
    have hzr : w.heap.size + 1 ≤ wr.heap.size := HL.out.lt
    by_cases hlt : k < s.size
    · have hkl : k < s.data.toList.length := by omega
      obtain ⟨c, hcc⟩ : ∃ c, c = s[k] := ⟨_, rfl⟩
      have hc' : s.data.toList[k] = c := by rw [hcc]; rfl
      have k95 := u8x c 95 95
      have k61 := u8x c 61 61
      have hsk : s[k] = c := hcc.symm
      have fin : ∀ (x : UInt8) (v3 : Value) (w3 : World), Uqs s.data.toList (k + 1) (D ++ [x]) → w3.ownsRow (w.heap.size + 1) 5 1 v3 (D.length + 1) (cellsB (D ++ [x])) → (∀ B w1, Below B w1 wr → B ≤ w.heap.size + 1 → Below B w1 w3) →
          (∃ (k_1 : Nat) (D : List UInt8), k_1 ≤ s.size ∧ D.length ≤ k_1 ∧ Value.int IntKind.i64 ((k : Int) + 1) = Value.int IntKind.i64 (k_1 : Int) ∧ Hid (Uqs s.data.toList k_1 D) ∧ Hid (w3.ownsRow (w.heap.size + 1) 5 1 v3 D.length (cellsB D)) ∧ Hid (Below w.heap.size w w3) ∧ Hid (Lies w3 w.heap.size #[Value.int IntKind.i64 0, Value.int IntKind.i64 0] 25)) ∧
          s.size - (intOf (Value.int IntKind.i64 ((k : Int) + 1))).toNat < s.size - (intOf (Value.int IntKind.i64 (k : Int))).toNat := fun x v3 w3 h1 h2 h3 =>
        ⟨⟨k + 1, D ++ [x], by omega, by simp only [List.length_append, List.length_cons, List.length_nil]; omega, by go_num, h1, by rw [List.length_append]; exact h2, h3 _ _ HB.out (by omega), HL.out.below (h3 _ _ (Below.refl _ _) (Nat.le_refl _)) (by omega)⟩, by simp [intOf]; omega⟩
      have HF : Hid (∀ (x : UInt8) (v3 : Value) (w3 : World), Uqs s.data.toList (k + 1) (D ++ [x]) → w3.ownsRow (w.heap.size + 1) 5 1 v3 (D.length + 1) (cellsB (D ++ [x])) → (∀ B w1, Below B w1 wr → B ≤ w.heap.size + 1 → Below B w1 w3) →
          (∃ (k_1 : Nat) (D : List UInt8), k_1 ≤ s.size ∧ D.length ≤ k_1 ∧ Value.int IntKind.i64 ((k : Int) + 1) = Value.int IntKind.i64 (k_1 : Int) ∧ Hid (Uqs s.data.toList k_1 D) ∧ Hid (w3.ownsRow (w.heap.size + 1) 5 1 v3 D.length (cellsB D)) ∧ Hid (Below w.heap.size w w3) ∧ Hid (Lies w3 w.heap.size #[Value.int IntKind.i64 0, Value.int IntKind.i64 0] 25)) ∧
          s.size - (intOf (Value.int IntKind.i64 ((k : Int) + 1))).toNat < s.size - (intOf (Value.int IntKind.i64 (k : Int))).toNat) := fin
      clear fin hcc
      by_cases h61 : c = 61
      · have e61 : (c == 61) = true := by simp [h61]
        rw [e61] at k61
        have e95 : (c == 95) = false := by simp [h61]
        rw [e95] at k95
        by_cases h3 : k + 3 ≤ s.size
        · skip
          obtain ⟨X, hX⟩ : ∃ X, X = s.extract (k + 1) (k + 3) := ⟨_, rfl⟩
          have hXL : X.data.toList = cutW s.data.toList (k + 1) (min (k + 3) s.data.toList.length) := by
            rw [hll, show min (k + 3) s.size = (k + 3) by omega, hX, Lib.extract_data]
            rfl
          have hXs : X.size = 2 := by rw [hX]; simp; omega
          have hBN := bad_anyT 4 X wr (HT.out.keep HB.out) (by unfold maxLen; omega)
          have HHIT := uqB_hit s.data.toList k hkl (by rw [hc']; exact h61)
          have HMIS := uqB_miss s.data.toList k hkl (by rw [hc']; exact h61)
          rw [← hXL] at HHIT HMIS
          have hbl := badN_le 4 X.data.toList
          rw [len_list] at hbl
          obtain ⟨y, hy⟩ : ∃ y, y = badN 4 X.data.toList := ⟨_, rfl⟩
          rw [← hy] at hBN HHIT HMIS hbl
          clear h61 e61 e95 hc'
          by_cases hy2 : y < 2
          · have hf : uqE s.data.toList = 170 ∧ uqP s.data.toList = k ∧ uqR s.data.toList = [] := HU.out.err (HMIS hy2)
            have HE : Hid (uqE s.data.toList = 170 ∧ uqP s.data.toList = k ∧ uqR s.data.toList = []) := hf
            have hy2i : (y : Int) < 2 := by omega
            have c0 := HL.out.cell 0
            have c1 := HL.out.cell 1
            have f0 := HL.out.frozen 0
            have f1 := HL.out.frozen 1
            rw [hX] at hBN
            clear HHIT HMIS hf HU HF hXL hy hX
            go_wp2_with fail
            refine hBN.mono ?_
            rintro e w2 ⟨rfl, rfl⟩
            go_wp2
            refine bodyPost_ret (v := .tuple #[.slice none 0 0, .agg #[.int .i64 170, .int .i64 (k : Nat)]]) (by simp [results, Tryd.results63, go_sem, c0, c1]) rfl ⟨_, by rw [HE.out.1, HE.out.2.1]; rfl, ?_, ?_⟩
            · rw [HE.out.2.2]
              exact own_nil _ _
            · exact (HB.out.setCell (p := ⟨w.heap.size, 0, none⟩) (Nat.le_refl _) _).setCell (p := ⟨w.heap.size, 1, none⟩) (Nat.le_refl _) _
          · obtain ⟨_, _, hyy, he⟩ := HHIT (by omega)
            have hy3 : y = 2 := hyy
            have hUH := unhex_okn X 1 (by omega) wr (HT.out.keep HB.out) (by omega) ⟨by rw [← hy, hy3, len_list, hXs], by rw [len_list, hXs]⟩
            have HU2 : Hid (Uqs s.data.toList (k + 3) (D ++ unL X.data.toList)) := HU.out.two he
            have HUL : Hid ((unL X.data.toList).length = 1) := by show _ = _; rw [unL_length, len_list, hXs]
            have hy2i : ¬ (y : Int) < 2 := by omega
            have HXS : Hid (X.size = 2) := hXs
            obtain ⟨U, hU⟩ : ∃ U, U = unL X.data.toList := ⟨_, rfl⟩
            rw [← hU] at hUH HU2 HUL
            rw [hX] at hBN hUH
            have HUH := hUH
            clear hU HHIT HMIS HU HF hXL hy he hy2 hyy hy3 hbl hXs hUH hX
            go_wp2_with fail
            refine hBN.mono ?_
            rintro e w2 ⟨rfl, rfl⟩
            go_wp2_with fail
            refine HUH.mono ?_
            rintro e w4 ⟨g, rfl, hg, hown4, hb4⟩
            have HBT4 : Hid (Bts (some ⟨g, 0, none⟩) U w4) := by
              obtain ⟨a4, cp4, hs4, hbt4, _⟩ := own_bts hown4
              injection hs4 with ha4 _ hcp4
              rw [← ha4] at hbt4
              exact hbt4
            have HO4 : Hid (w4.ownsRow (w.heap.size + 1) 5 1 _ D.length (cellsB D)) := own_below HO.out hb4
            have HB4 : Hid (Below w.heap.size w w4) := HB.out.trans (hb4.mono (by omega))
            have HL4 : Hid (Lies w4 w.heap.size #[Value.int IntKind.i64 0, Value.int IntKind.i64 0] 25) := HL.out.below hb4 (by omega)
            have hz4 := HL4.out.lt
            have HUL2 : Hid (1 = U.length) := HUL.out.symm
            clear HUH hown4 HO HB HL hb4 HT hzr hg
            go_wp2_with (at_builtin; refine wpList_append_keep rfl _ _ rfl (w.heap.size + 1) _ _ D rfl ((HO4.out.alloc _)) (some ⟨g, 0, none⟩) U 1 1 rfl HUL2.out (HBT4.out.below ((Below.refl _ _).alloc (Nat.le_refl _) _)) (fun e => by cases e) (by omega) (by simp; omega) ?_; intro v5 w5 ho5 hg5)
            have hb5 : Below (w.heap.size + 1) w4 w5 := ((Below.refl _ _).alloc (by omega) _).grown hg5 (by simp; omega) (fun q hq => (HO4.out.lt q hq).1)
            have hlD : (D ++ U).length = D.length + 1 := by rw [List.length_append, HUL.out]
            refine ⟨⟨k + 3, D ++ U, h3, by omega, by go_num, HU2, by rw [hlD]; exact ho5, HB4.out.trans (hb5.mono (by omega)), HL4.out.below hb5 (by omega)⟩, by simp [intOf]; omega⟩
        · skip
          obtain ⟨X, hX⟩ : ∃ X, X = s.extract (k + 1) s.size := ⟨_, rfl⟩
          have hXL : X.data.toList = cutW s.data.toList (k + 1) (min (k + 3) s.data.toList.length) := by
            rw [hll, show min (k + 3) s.size = s.size by omega, hX, Lib.extract_data]
            rfl
          have hXs : X.size = s.size - (k + 1) := by rw [hX]; simp
          have hBN := bad_anyT 4 X wr (HT.out.keep HB.out) (by unfold maxLen; omega)
          have HHIT := uqB_hit s.data.toList k hkl (by rw [hc']; exact h61)
          have HMIS := uqB_miss s.data.toList k hkl (by rw [hc']; exact h61)
          rw [← hXL] at HHIT HMIS
          have hbl := badN_le 4 X.data.toList
          rw [len_list] at hbl
          obtain ⟨y, hy⟩ : ∃ y, y = badN 4 X.data.toList := ⟨_, rfl⟩
          rw [← hy] at hBN HHIT HMIS hbl
          clear h61 e61 e95 hc'
          by_cases hy2 : y < 2
          · have hf : uqE s.data.toList = 170 ∧ uqP s.data.toList = k ∧ uqR s.data.toList = [] := HU.out.err (HMIS hy2)
            have HE : Hid (uqE s.data.toList = 170 ∧ uqP s.data.toList = k ∧ uqR s.data.toList = []) := hf
            have hy2i : (y : Int) < 2 := by omega
            have c0 := HL.out.cell 0
            have c1 := HL.out.cell 1
            have f0 := HL.out.frozen 0
            have f1 := HL.out.frozen 1
            rw [hX] at hBN
            clear HHIT HMIS hf HU HF hXL hy hX
            go_wp2_with fail
            refine hBN.mono ?_
            rintro e w2 ⟨rfl, rfl⟩
            go_wp2
            refine bodyPost_ret (v := .tuple #[.slice none 0 0, .agg #[.int .i64 170, .int .i64 (k : Nat)]]) (by simp [results, Tryd.results63, go_sem, c0, c1]) rfl ⟨_, by rw [HE.out.1, HE.out.2.1]; rfl, ?_, ?_⟩
            · rw [HE.out.2.2]
              exact own_nil _ _
            · exact (HB.out.setCell (p := ⟨w.heap.size, 0, none⟩) (Nat.le_refl _) _).setCell (p := ⟨w.heap.size, 1, none⟩) (Nat.le_refl _) _
          · have := (HHIT (by omega)).1
            omega
      · have HU2 : Hid (Uqs s.data.toList (k + 1) (D ++ [if c = 95 then 32 else c])) := by
          have := HU.out.one hkl (by rw [hc']; exact h61)
          rw [hc'] at this
          exact this
        have e61 : (c == 61) = false := by simp [h61]
        rw [e61] at k61
        by_cases h95 : c = 95
        · have e95 : (c == 95) = true := by simp [h95]
          rw [e95] at k95
          rw [if_pos h95] at HU2
          clear h95 e95 h61 e61 hc' HU HT
          go_wp2_with (at_builtin; refine wpList_append_byte rfl _ _ rfl (w.heap.size + 1) _ _ D rfl (HO.out.alloc _) wr 32 _ rfl rfl 1 rfl (by omega) hzr ?_; intro v3 w3 ho3 hb3)
          exact HF.out _ v3 w3 HU2.out ho3 hb3
        · have e95 : (c == 95) = false := by simp [h95]
          rw [e95] at k95
          rw [if_neg h95] at HU2
          clear h95 e95 h61 e61 hc' HU HT
          go_wp2_with (at_builtin; refine wpList_append_byte rfl _ _ rfl (w.heap.size + 1) _ _ D rfl (HO.out.alloc _) wr c _ rfl rfl 1 rfl (by omega) hzr ?_; intro v3 w3 ho3 hb3)
          exact HF.out _ v3 w3 HU2.out ho3 hb3
    · obtain rfl : k = s.size := by omega
      have hf : uqE s.data.toList = 0 ∧ uqP s.data.toList = 0 ∧ uqR s.data.toList = D := by
        rw [← hll] at HU
        exact HU.out.fin
      have HE : Hid (uqE s.data.toList = 0 ∧ uqP s.data.toList = 0 ∧ uqR s.data.toList = D) := hf
      have c0 := HL.out.cell 0
      have c1 := HL.out.cell 1
      have f0 := HL.out.frozen 0
      have f1 := HL.out.frozen 1
      clear hf HU HT hk hlt
      go_wp2
      refine bodyPost_ret (by simp [results, Tryd.results63, go_sem, c0, c1]; rfl) rfl ⟨_, by rw [HE.out.1, HE.out.2.1]; rfl, ?_, ?_⟩
      · rw [HE.out.2.2]
        refine base_le (own_keep HO.out (fun q hq => ?_)) (Nat.le_succ _)
        have hne : q ≠ w.heap.size := by have := (HO.out.lt q hq).1; omega
        exact (Below.heap_setCell _ ⟨w.heap.size, 1, none⟩ _ _ hne).trans (Below.heap_setCell _ ⟨w.heap.size, 0, none⟩ _ _ hne)
      · exact (HB.out.setCell (p := ⟨w.heap.size, 0, none⟩) (Nat.le_refl _) _).setCell (p := ⟨w.heap.size, 1, none⟩) (Nat.le_refl _) _
end Go.Proofs.YtdgepnfgjgbkoaaDoor
