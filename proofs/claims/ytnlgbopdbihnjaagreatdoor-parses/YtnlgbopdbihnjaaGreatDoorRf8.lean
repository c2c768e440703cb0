/-
  The document's number.
-/
import Derived.Test.YtnlgbopdbihnjaaGreatDoorRt8
import Derived.Test.YtnlgbopdbihnjaaGreatDoorAdD
import Derived.Test.YtnlgbopdbihnjaaGreatDoorAd8
namespace Go.Proofs.YtnlgbopdbihnjaaGreatDoor
open Go.RowKit

theorem decV_nil (n : Nat) : decV n [] = n := rfl
theorem decV_cons (n : Nat) (c : UInt8) (r : List UInt8) (k : Nat) (hk : 10 * n + (c.toNat - 48) = k) : decV n (c :: r) = decV k r := by
  subst hk
  kernel_rfl
theorem decV_snoc (l : List UInt8) (c : UInt8) : ∀ n : Nat, decV n (l ++ [c]) = 10 * decV n l + (c.toNat - 48) := by
  induction l with
  | nil =>
    intro n
    rw [List.nil_append, decV_cons n c [] _ rfl, decV_nil, decV_nil]
  | cons d l ih => intro n; rw [List.cons_append, decV_cons n d (l ++ [c]) _ rfl, decV_cons n d l _ rfl, ih]
theorem dNum_no {s : List UInt8} (h : ¬ (s ≠ [] ∧ s.length ≤ 3 ∧ s.all dgB = true ∧ decV 0 s ≤ 255 ∧ (s.head? ≠ some 48 ∨ s = [48]))) : dNum s = none := if_neg h
theorem dNum_yes {s : List UInt8} (h : s ≠ [] ∧ s.length ≤ 3 ∧ s.all dgB = true ∧ decV 0 s ≤ 255 ∧ (s.head? ≠ some 48 ∨ s = [48])) : dNum s = some (decV 0 s) := if_pos h
/-- What number answers. -/
def NumA (s : List UInt8) (v : Value) : Prop := ∃ x : Int, v = .tuple #[.int .i64 x, .bool (dNum s).isSome] ∧ ∀ n, dNum s = some n → x = (n : Int)
theorem NumA.no {s : List UInt8} (h : dNum s = none) (x : Int) : NumA s (.tuple #[.int .i64 x, .bool false]) := ⟨x, by rw [h]; rfl, fun n e => by rw [h] at e; cases e⟩
theorem NumA.yes {s : List UInt8} {n : Nat} (h : dNum s = some n) : NumA s (.tuple #[.int .i64 (n : Int), .bool true]) := ⟨n, by rw [h]; rfl, fun m e => by rw [h] at e; cases e; rfl⟩
set_option maxHeartbeats 4000000 in
set_option maxRecDepth 100000 in
theorem rnum_any (s : ByteArray) (w : World) (hs : s.size ≤ maxLen) : Calls Tryz.prog 103 #[.string s] w fun e w' => ∃ v, e = .returned v ∧ NumA s.data.toList v ∧ w' = w := by
  unfold maxLen at hs
  have HD : Hid (∀ c : UInt8, ∀ w : World, Calls Tryz.prog 94 #[.int .u8 (c.toNat : Int)] w fun e w' => e = .returned (.bool (dgB c)) ∧ w' = w) := digit_any
  go_enter Tryz.func103, Tryz.ntmps103
  go_wp2_with fail
  go_loopw [4, 5] (fun u c wr => ∃ i n : Nat, i ≤ s.size ∧ i ≤ 3 ∧ n ≤ 999 ∧ u = .int .i64 n ∧ c = .int .i64 i ∧ Hid (AllF dgB s 0 i) ∧ Hid (n = decV 0 (s.data.toList.take i)) ∧ Hid (10 ^ (3 - i) * (n + 1) ≤ 1000) ∧ Hid (wr = w)) (fun _ c _ => s.size - (intOf c).toNat)
  case atStart => exact ⟨0, 0, Nat.zero_le _, by omega, by omega, rfl, rfl, AllF.none _ _ _, rfl, by show 10 ^ (3 - 0) * (0 + 1) ≤ 1000; decide, rfl⟩
  case round =>
    obtain ⟨i, n, hi, hi3, hn, rfl, rfl, HA, HN, HP, HV⟩ := hrel
    obtain rfl : w = wr := HV.out.symm
    clear HV
    by_cases hlt : i < s.size
    · have hlt' : (i : Int) < (s.size : Int) := by omega
      have HD1 := HD.out s[i] w
      have HL : Hid (s.data.toList[i]? = some s[i]) := by show _ = _; rw [List.getElem?_eq_getElem (by rw [len_list]; exact hlt), get_list]
      have HX : Hid (dgB s[i] = false → dNum s.data.toList = none) := fun h => dNum_no fun hh => by
        have := List.all_eq_true.1 hh.2.2.1 s[i] (List.mem_of_getElem? HL.out)
        rw [h] at this
        cases this
      have HY : Hid (i = 3 → dNum s.data.toList = none) := fun h => dNum_no fun hh => by
        have := hh.2.1
        rw [len_list] at this
        omega
      have HZ : Hid (dgB s[i] = true → 48 ≤ s[i].toNat ∧ s[i].toNat ≤ 57 ∧ AllF dgB s 0 (i + 1) ∧ 10 * n + (s[i].toNat - 48) = decV 0 (s.data.toList.take (i + 1))) := fun h => by
        have h2 := h
        unfold dgB at h2
        rw [Bool.and_eq_true, decide_eq_true_eq, decide_eq_true_eq] at h2
        refine ⟨h2.1, h2.2, HA.out.step hlt h, ?_⟩
        have hl : i < s.data.toList.length := by rw [len_list]; exact hlt
        rw [List.take_succ_eq_append_getElem hl, decV_snoc, ← HN.out, get_list]
      clear HD HL
      obtain ⟨d, hd⟩ : ∃ d, d = dgB s[i] := ⟨_, rfl⟩
      rw [← hd] at HD1 HX HZ
      clear hd
      cases d
      · have HT := HX.out rfl
        clear HX HY HZ
        go_wp2_with fail
        refine HD1.mono ?_
        rintro e w1 ⟨rfl, rfl⟩
        go_wp2_with fail
        refine bodyPost_ret (v := .tuple #[.int .i64 0, .bool false]) (by simp [results, Tryz.results103, go_sem]) rfl ⟨_, rfl, NumA.no HT 0, rfl⟩
      · obtain ⟨z1, z2, z3, z4⟩ := HZ.out rfl
        have HZ3 : Hid (AllF dgB s 0 (i + 1)) := z3
        by_cases h3 : i = 3
        · have HT := HY.out h3
          have h3' : (3 : Int) ≤ (i : Int) := by omega
          clear HX HY HZ z3 z4 h3
          go_wp2_with fail
          refine HD1.mono ?_
          rintro e w1 ⟨rfl, rfl⟩
          go_wp2_with fail
          refine bodyPost_ret (v := .tuple #[.int .i64 0, .bool false]) (by simp [results, Tryz.results103, go_sem]) rfl ⟨_, rfl, NumA.no HT 0, rfl⟩
        · have h3' : ¬ (3 : Int) ≤ (i : Int) := by omega
          have HZ4 : Hid (10 * n + (s[i].toNat - 48) = decV 0 (s.data.toList.take (i + 1))) := z4
          have hn99 : n ≤ 99 := by
            have := HP.out
            have h4 : 3 - i = (2 - i) + 1 := by omega
            rw [h4, Nat.pow_succ] at this
            have h5 : 1 ≤ 10 ^ (2 - i) := Nat.pow_pos (by omega)
            have h6 : 1 * 10 * (n + 1) ≤ 10 ^ (2 - i) * 10 * (n + 1) := Nat.mul_le_mul_right _ (Nat.mul_le_mul_right _ h5)
            omega
          have HP2 : Hid (10 ^ (3 - (i + 1)) * (10 * n + (s[i].toNat - 48) + 1) ≤ 1000) := by
            have := HP.out
            have h4 : 3 - i = 3 - (i + 1) + 1 := by omega
            rw [h4, Nat.pow_succ, Nat.mul_assoc] at this
            exact Nat.le_trans (Nat.mul_le_mul_left _ (by omega)) this
          clear HX HY HZ z3 z4
          go_wp2_with fail
          refine HD1.mono ?_
          rintro e w1 ⟨rfl, rfl⟩
          go_wp2_with fail
          go_roundw
          case rel => exact ⟨i + 1, 10 * n + (s[i].toNat - 48), by omega, by omega, by omega, by go_num, by go_num, HZ3, HZ4, HP2, trivial⟩
          case measure => simp [intOf]; omega
    · obtain rfl : i = s.size := by omega
      have hlt' : ¬ (s.size : Int) < (s.size : Int) := by omega
      have HE : Hid (n = decV 0 s.data.toList) := by
        have := HN.out
        rw [List.take_of_length_le (by rw [len_list]; omega)] at this
        exact this
      have HALL : Hid (s.data.toList.all dgB = true) := by
        show _ = _
        rw [List.all_eq_true]
        intro c hc
        obtain ⟨j, hj, rfl⟩ := List.getElem_of_mem hc
        rw [get_list]
        exact HA.out j _ (Nat.zero_le _) (by rw [len_list] at hj; exact hj)
      clear HA HN HP HD
      by_cases he : s.data.toList = []
      · have HT : dNum s.data.toList = none := dNum_no fun h => h.1 he
        have hem : s.toList.isEmpty = true := by rw [ByteArray.toList_eq, he]; rfl
        clear he HE HALL
        go_wp2_with fail
        refine bodyPost_ret (v := .tuple #[.int .i64 (n : Int), .bool false]) (by simp [results, Tryz.results103, go_sem]) rfl ⟨_, rfl, NumA.no HT _, rfl⟩
      · have hem : s.toList.isEmpty = false := by rw [ByteArray.toList_eq]; cases hq : s.data.toList with
          | nil => exact absurd hq he
          | cons c r => rfl
        have h0 : 0 < s.size := by
          rcases Nat.eq_zero_or_pos s.size with h | h
          · exact absurd (List.eq_nil_of_length_eq_zero (by rw [len_list]; exact h)) he
          · exact h
        have hhead : s.data.toList.head? = some s[0] := by
          rw [List.head?_eq_getElem?, List.getElem?_eq_getElem (by rw [len_list]; exact h0), get_list]
        by_cases h255 : n ≤ 255
        · have h255' : (n : Int) ≤ 255 := by omega
          obtain ⟨e48, n48⟩ := b_eq s[0] 48 48 rfl
          have h0' : (0 : Int) < (s.size : Int) := by omega
          by_cases h48 : s[0] = 48
          · rw [decide_eq_true h48] at e48 n48
            by_cases h1 : s.data.toList = [48]
            · have HT : dNum s.data.toList = some n := by rw [HE.out]; exact dNum_yes ⟨he, by rw [len_list]; exact hi3, HALL.out, by rw [← HE.out]; exact h255, .inr h1⟩
              have hq : (s.toList == [48]) = true := by rw [ByteArray.toList_eq, h1]; rfl
              clear h1 he HE HALL hhead h48
              go_wp2_with fail
              refine bodyPost_ret (v := .tuple #[.int .i64 (n : Int), .bool true]) (by simp [results, Tryz.results103, go_sem]) rfl ⟨_, rfl, NumA.yes HT, rfl⟩
            · have HT : dNum s.data.toList = none := dNum_no fun h => h.2.2.2.2.elim (fun h => h (by rw [hhead, h48])) h1
              have hq : (s.toList == [48]) = false := by rw [ByteArray.toList_eq, beq_eq_false_iff_ne]; exact h1
              clear h1 he HE HALL hhead h48
              go_wp2_with fail
              refine bodyPost_ret (v := .tuple #[.int .i64 (n : Int), .bool false]) (by simp [results, Tryz.results103, go_sem]) rfl ⟨_, rfl, NumA.no HT _, rfl⟩
          · rw [decide_eq_false h48] at e48 n48
            have HT : dNum s.data.toList = some n := by rw [HE.out]; exact dNum_yes ⟨he, by rw [len_list]; exact hi3, HALL.out, by rw [← HE.out]; exact h255, .inl (by rw [hhead]; simpa using h48)⟩
            clear he HE HALL hhead h48
            go_wp2_with fail
            refine bodyPost_ret (v := .tuple #[.int .i64 (n : Int), .bool true]) (by simp [results, Tryz.results103, go_sem]) rfl ⟨_, rfl, NumA.yes HT, rfl⟩
        · have h255' : ¬ (n : Int) ≤ 255 := by omega
          have HT : dNum s.data.toList = none := dNum_no fun h => h255 (by rw [HE.out]; exact h.2.2.2.1)
          clear he HE HALL hhead
          go_wp2_with fail
          refine bodyPost_ret (v := .tuple #[.int .i64 (n : Int), .bool false]) (by simp [results, Tryz.results103, go_sem]) rfl ⟨_, rfl, NumA.no HT _, rfl⟩
end Go.Proofs.YtnlgbopdbihnjaaGreatDoor
/-
  The document's whole4.
-/
namespace Go.Proofs.YtnlgbopdbihnjaaGreatDoor
open Go.RowKit

theorem results_mixR {P : Program} {fn : Func} {p q : Tmp} {ty : TypeId} (h : fn.results = #[.cell p ty, .tmp q]) (tmps : Array Value) (w : World) (g : Nat) (cs : Array Value) (d : TypeDesc) (v : Value) (hp : tmps.getD p undef = .pointer (some ⟨g, 0, none⟩)) (hq : tmps.getD q undef = v) (hg : Lies w g cs ty)
    (hu : P.underlying ty = some d) (ha : (match d with | .struct _ | .array _ _ => true | _ => false) = true) (hz : (P.info? ty).map (·.size) = some cs.size) : (results fn tmps).run P w = .ok (.tuple #[.agg cs, v]) w := by
  have hp' : tmps[p]?.getD undef = .pointer (some ⟨g, 0, none⟩) := by simpa using hp
  have hq' : tmps[q]?.getD undef = v := by simpa using hq
  simp [results, h, hp', hq', asAddr, run_loadVar_row w g ty ty cs (0, 0) d hg hu ha hz]
def w4V (s : List UInt8) : Value := .tuple #[.agg (bytesV ((whole4 s).getD [0, 0, 0, 0])), .bool (whole4 s).isSome]
/-- The numbers of the first texts. -/
def Nms (L : List (List UInt8)) (ns : List Nat) : Prop := ns.length ≤ L.length ∧ ∀ j (h : j < ns.length) (h' : j < L.length), dNum L[j] = some ns[j] ∧ ns[j] < 256
theorem Nms.nil (L : List (List UInt8)) : Nms L [] := ⟨Nat.zero_le _, fun j h => by simp at h⟩
theorem Nms.step {L : List (List UInt8)} {ns : List Nat} (h : Nms L ns) (hl : ns.length < L.length) {n : Nat} (hn : dNum L[ns.length] = some n) : Nms L (ns ++ [n]) := by
  refine ⟨by simp; omega, fun j hj hj' => ?_⟩
  rcases Nat.lt_or_ge j ns.length with h1 | h1
  · rw [List.getElem_append_left h1]
    exact h.2 j h1 hj'
  · obtain rfl : j = ns.length := by simp at hj; omega
    rw [List.getElem_append_right (Nat.le_refl _)]
    simp
    exact ⟨hn, ((dNum_iff _ _).1 hn).2⟩
theorem w4_len {s : List UInt8} (h : (splitB 46 s).length ≠ 4) : whole4 s = none := by
  unfold whole4
  split
  · rename_i p q r t e
    rw [e] at h
    exact absurd rfl h
  · rfl
theorem w4_bad {s : List UInt8} {j : Nat} (hj : j < (splitB 46 s).length) (h4 : (splitB 46 s).length = 4) (h : dNum (splitB 46 s)[j] = none) : whole4 s = none := by
  unfold whole4
  generalize splitB 46 s = L at *
  match L, h4 with
  | [p, q, r, t], _ =>
    dsimp only
    match j, hj with
    | 0, _ => have h' : dNum p = none := h; rw [h']
    | 1, _ => have h' : dNum q = none := h; rw [h']; cases dNum p <;> rfl
    | 2, _ => have h' : dNum r = none := h; rw [h']; cases dNum p <;> cases dNum q <;> rfl
    | 3, _ => have h' : dNum t = none := h; rw [h']; cases dNum p <;> cases dNum q <;> cases dNum r <;> rfl
    | j + 4, hj => exact absurd hj (by simp)
theorem w4_all {s : List UInt8} {ns : List Nat} (h4 : (splitB 46 s).length = 4) (hn : ns.length = 4) (h : Nms (splitB 46 s) ns) : whole4 s = some ns := by
  unfold whole4
  generalize splitB 46 s = L at *
  match L, h4, ns, hn with
  | [p, q, r, t], _, [a, b, c, d], _ =>
    dsimp only
    have h0 := (h.2 0 (by simp) (by simp)).1
    have h1 := (h.2 1 (by simp) (by simp)).1
    have h2 := (h.2 2 (by simp) (by simp)).1
    have h3 := (h.2 3 (by simp) (by simp)).1
    simp at h0 h1 h2 h3
    rw [h0, h1, h2, h3]
theorem pad_set (ns : List Nat) (n : Nat) (h : ns.length < 4) : (ns ++ List.replicate (4 - ns.length) 0).set ns.length n = (ns ++ [n]) ++ List.replicate (4 - (ns ++ [n]).length) 0 := by
  rw [List.set_append_right _ _ (Nat.le_refl _), Nat.sub_self, show 4 - ns.length = (4 - (ns ++ [n]).length) + 1 from by simp; omega, List.replicate_succ, List.set_cons_zero]
  simp
structure W4S (w : World) (L : List (List UInt8)) (ns : List Nat) (wr : World) : Prop where
  r : Lies wr w.heap.size (bytesV [0, 0, 0, 0]) 46
  a : Lies wr (w.heap.size + 1) (bytesV (ns ++ List.replicate (4 - ns.length) 0)) 46
  l : Lies wr (w.heap.size + 2) (strsV L) 9
  below : Below w.heap.size w wr
set_option maxHeartbeats 8000000 in
set_option maxRecDepth 100000 in
theorem rw4_any (s : ByteArray) (w : World) (hT : ∃ m, w.cell? ⟨1, 0, none⟩ = some (.int .i64 m)) (hs : s.size ≤ 2000000) : Calls Tryz.prog 65 #[.string s] w fun e w' => e = .returned (w4V s.data.toList) ∧ Below w.heap.size w w' := by
  obtain ⟨m, hm⟩ := hT
  have hgm : 1 < w.heap.size := World.block_lt_of_cell? w _ hm
  obtain ⟨L, hL⟩ : ∃ L, L = splitB 46 s.data.toList := ⟨_, rfl⟩
  obtain ⟨hsp1, hsp2⟩ := split_cells s 46
  rw [← hL] at hsp1 hsp2
  have hln : L.length ≤ s.size + 1 := by
    have := (splitD_short s.data.toList).2
    rw [splitD_B, ← hL, len_list] at this
    exact this
  have hll : ∀ l ∈ L, l.length ≤ s.size := by
    have := (splitD_short s.data.toList).1
    rw [splitD_B, ← hL, len_list] at this
    exact this
  have HSP : Hid (∀ wx, Below w.heap.size w wx → Calls Tryz.prog 57 #[.string s, .string ⟨#[46]⟩] wx fun e w' => e = .returned (.slice (some ⟨wx.heap.size, 0, none⟩) L.length L.length) ∧ w' = wx.alloc (.cells (strsV L) 9)) := fun wx hx => by
    have := Tryz.strings_Split s ⟨#[46]⟩ m wx (by omega) ((hx.cell (p := ⟨1, 0, none⟩) hgm).trans hm) (by decide)
    rw [hsp1, hsp2] at this
    exact this
  have HB0 : Hid (Below w.heap.size w ((w.alloc (.cells (bytesV [0, 0, 0, 0]) 46)).alloc (.cells (bytesV [0, 0, 0, 0]) 46))) := ((Below.refl _ _).alloc (Nat.le_refl _) _).alloc (by simp) _
  have H0 : Hid (W4S w L [] (((w.alloc (.cells (bytesV [0, 0, 0, 0]) 46)).alloc (.cells (bytesV [0, 0, 0, 0]) 46)).alloc (.cells (strsV L) 9))) :=
    ⟨((Lies.new w _ _).alloc _).alloc _, (new_one w _ _ _).alloc _, new_two w _ _ _ _, HB0.out.alloc (by simp; omega) _⟩
  have HW : Hid (L = splitB 46 s.data.toList) := hL
  have HLL : Hid (∀ l ∈ L, l.length ≤ s.size) := hll
  clear hsp1 hsp2 hL hm hgm hll
  go_enter Tryz.func65, Tryz.ntmps65
  go_wp2_with fail
  refine (HSP.out _ HB0.out).mono ?_
  rintro e w2 ⟨rfl, hw2⟩
  obtain ⟨wa, hwa⟩ : ∃ wa, wa = ((w.alloc (.cells (bytesV [0, 0, 0, 0]) 46)).alloc (.cells (bytesV [0, 0, 0, 0]) 46)).alloc (.cells (strsV L) 9) := ⟨_, rfl⟩
  obtain rfl : w2 = wa := hw2.trans hwa.symm
  have HS0 : Hid (W4S w L [] w2) := by rw [hw2]; exact H0.out
  have hq : ((w.alloc (.cells (bytesV [0, 0, 0, 0]) 46)).alloc (.cells (bytesV [0, 0, 0, 0]) 46)).heap.size = w.heap.size + 2 := by simp
  rw [hq]
  clear hw2 hwa H0 HSP HB0 hq
  have hln' : (L.length : Int) ≤ 3000000 := by omega
  by_cases h4 : L.length = 4
  · have h4b : ((L.length : Int) != 4) = false := by rw [h4]; rfl
    have H4 : Hid (L.length = 4) := h4
    have hL4 : (L.length : Int) = 4 := by omega
    clear h4
    go_wp2_with fail
    go_loopw [18] (fun c wr => ∃ ns : List Nat, ns.length ≤ 4 ∧ c = .int .i64 ns.length ∧ Hid (W4S w L ns wr) ∧ Hid (Nms L ns)) (fun c _ => 4 - (intOf c).toNat)
    case atStart => exact ⟨[], by simp, rfl, HS0, Nms.nil L⟩
    case round =>
      obtain ⟨ns, hns, rfl, HS, HN⟩ := hrel
      clear HS0
      by_cases hlt : ns.length < 4
      · have hil : ns.length < L.length := by rw [H4.out]; exact hlt
        have hlt' : (ns.length : Int) < (L.length : Int) := by omega
        have hc : wr.cell? ⟨w.heap.size + 2, ns.length, none⟩ = some (.string ⟨(L[ns.length]).toArray⟩) := (HS.out.l.cell _).trans (strsV_at L _ hil)
        have hz2 : w.heap.size + 2 < wr.heap.size := HS.out.l.lt
        have HX : Hid (∀ n, dNum L[ns.length] = some n → Nms L (ns ++ [n])) := fun n h => HN.out.step hil h
        have HY : Hid (dNum L[ns.length] = none → whole4 s.data.toList = none) := fun h => w4_bad (j := ns.length) (by rw [← HW.out]; exact hil) (by rw [← HW.out]; exact H4.out) (by
          have h' := h
          simp only [HW.out] at h'
          exact h')
        have HNU : Hid (Calls Tryz.prog 103 #[.string ⟨(L[ns.length]).toArray⟩] wr fun e w' => ∃ v, e = .returned v ∧ NumA L[ns.length] v ∧ w' = wr) := by
          have := rnum_any ⟨(L[ns.length]).toArray⟩ wr (by
            have h1 := HLL.out _ (List.getElem_mem hil)
            show (L[ns.length]).toArray.size ≤ maxLen
            rw [List.size_toArray]
            unfold maxLen
            omega)
          rw [show (⟨(L[ns.length]).toArray⟩ : ByteArray).data.toList = L[ns.length] from by simp] at this
          exact this
        generalize L[ns.length] = x at hc HX HY HNU
        have hi0 : (0 : Int) ≤ (ns.length : Int) := by omega
        clear HN
        go_wp2_with fail
        refine HNU.out.mono ?_
        rintro e w3 ⟨v, rfl, ⟨y, rfl, hy⟩, hw3⟩
        obtain rfl : wr = w3 := hw3.symm
        clear hw3 HNU hc
        cases hx : dNum x with
        | none =>
          have HR : Hid (w4V s.data.toList = .tuple #[.agg #[.int .u8 0, .int .u8 0, .int .u8 0, .int .u8 0], .bool false]) := by
            show _ = _
            unfold w4V
            rw [HY.out hx]
            rfl
          have HRR : Hid (Lies wr w.heap.size #[.int .u8 0, .int .u8 0, .int .u8 0, .int .u8 0] 46) := HS.out.r
          have HB : Hid (Below w.heap.size w wr) := HS.out.below
          clear HX HY HS hx hy
          go_wp2_with (refine wpList_store_row rfl 46 _ _ rfl w.heap.size rfl _ #[.int .u8 0, .int .u8 0, .int .u8 0, .int .u8 0] rfl 46 HRR.out info4 rfl (by simp [Value.oneCell']) rfl ?_)
          exact bodyPost_ret (results_mixR (p := 2) (q := 3) (by kernel_rfl) _ _ w.heap.size _ _ (.bool false) rfl rfl (HRR.out.row _) Tryz.underlying46 rfl info4) rfl ⟨by rw [HR.out], below_row HB.out (Nat.le_refl _) _⟩
        | some n =>
          obtain rfl := hy n hx
          have hn2 : n < 256 := ((dNum_iff _ _).1 hx).2
          have HN2 : Hid (Nms L (ns ++ [n])) := HX.out n hx
          have HS2 : Hid (W4S w L (ns ++ [n]) (wr.setCell ⟨w.heap.size + 1, ns.length, none⟩ (.int .u8 (n : Nat)))) := by
            refine ⟨HS.out.r.set_other (a := ⟨w.heap.size + 1, ns.length, none⟩) (by show w.heap.size ≠ w.heap.size + 1; omega) _, ?_, HS.out.l.set_other (a := ⟨w.heap.size + 1, ns.length, none⟩) (by show w.heap.size + 2 ≠ w.heap.size + 1; omega) _, HS.out.below.setCell (p := ⟨w.heap.size + 1, ns.length, none⟩) (by show w.heap.size ≤ w.heap.size + 1; omega) _⟩
            have := HS.out.a.set ns.length (.int .u8 (n : Nat))
            rw [bytesV_set, pad_set ns n hlt] at this
            exact this
          obtain ⟨v9, hv9⟩ : ∃ v, wr.cell? ⟨w.heap.size + 1, ns.length, none⟩ = some v := by
            refine ⟨_, (HS.out.a.cell _).trans (bytesV_at _ _ (by simp; omega))⟩
          have hf9 := HS.out.a.frozen ns.length
          have hz9 : w.heap.size + 1 < wr.heap.size := HS.out.a.lt
          have hn4 : (ns.length : Int) < 4 := by omega
          have hns2 : (ns ++ [n]).length = ns.length + 1 := by simp
          have HNL : Hid ((ns ++ [n]).length = ns.length + 1) := hns2
          clear HX HY HS hx hy hns2
          go_wp2_with fail
          go_roundw
          case rel => exact ⟨ns ++ [n], by rw [HNL.out]; omega, by rw [HNL.out]; go_num, HS2, HN2⟩
          case measure => simp [intOf]; omega
      · have hn4 : ns.length = 4 := by omega
        have hlt' : ¬ (ns.length : Int) < (L.length : Int) := by omega
        have HR : Hid (w4V s.data.toList = .tuple #[.agg (bytesV ns), .bool true]) := by
          show _ = _
          unfold w4V
          rw [w4_all (by rw [← HW.out]; exact H4.out) hn4 (by rw [← HW.out]; exact HN.out)]
          rfl
        have HA : Hid (Lies wr (w.heap.size + 1) (bytesV ns) 46) := by
          have := HS.out.a
          rw [hn4, Nat.sub_self, List.replicate_zero, List.append_nil] at this
          exact this
        have HRR : Hid (Lies wr w.heap.size #[.int .u8 0, .int .u8 0, .int .u8 0, .int .u8 0] 46) := HS.out.r
        have HB : Hid (Below w.heap.size w wr) := HS.out.below
        have hbz : (bytesV ns).size = 4 := by rw [bytesV_size]; exact hn4
        have hbo : (bytesV ns).all (·.oneCell') = true := by
          rw [Array.all_eq_true_iff_forall_mem]
          intro v hv
          unfold bytesV at hv
          rw [List.mem_toArray] at hv
          obtain ⟨n, _, rfl⟩ := List.mem_map.1 hv
          rfl
        generalize bytesV ns = V at HR HA hbz hbo
        clear HS HN
        go_wp2_with (first | (refine wpList_load_row rfl 46 _ rfl (w.heap.size + 1) rfl V 46 _ HA.out Tryz.underlying46 rfl (by rw [hbz]; exact info4) ?_) | (refine wpList_store_row rfl 46 _ _ rfl w.heap.size rfl _ V rfl 46 HRR.out (by rw [hbz]; exact info4) (by rw [hbz]; rfl) hbo rfl ?_))
        exact bodyPost_ret (results_mixR (p := 2) (q := 3) (by kernel_rfl) _ _ w.heap.size _ _ (.bool true) rfl rfl (HRR.out.row _) Tryz.underlying46 rfl (by rw [hbz]; exact info4)) rfl ⟨by rw [HR.out], below_row HB.out (Nat.le_refl _) _⟩
  · have h4b : ((L.length : Int) != 4) = true := by rw [bne_iff_ne]; omega
    have HR : Hid (w4V s.data.toList = .tuple #[.agg #[.int .u8 0, .int .u8 0, .int .u8 0, .int .u8 0], .bool false]) := by
      show _ = _
      unfold w4V
      rw [w4_len (by rw [← HW.out]; exact h4)]
      rfl
    have HA : Hid (Lies w2 (w.heap.size + 1) #[.int .u8 0, .int .u8 0, .int .u8 0, .int .u8 0] 46) := HS0.out.a
    have HRR : Hid (Lies w2 w.heap.size #[.int .u8 0, .int .u8 0, .int .u8 0, .int .u8 0] 46) := HS0.out.r
    have HB : Hid (Below w.heap.size w w2) := HS0.out.below
    clear h4 HS0 HW HLL
    go_wp2_with (first | (refine wpList_load_row rfl 46 _ rfl (w.heap.size + 1) rfl #[.int .u8 0, .int .u8 0, .int .u8 0, .int .u8 0] 46 _ HA.out Tryz.underlying46 rfl info4 ?_) | (refine wpList_store_row rfl 46 _ _ rfl w.heap.size rfl _ #[.int .u8 0, .int .u8 0, .int .u8 0, .int .u8 0] rfl 46 HRR.out info4 rfl (by simp [Value.oneCell']) rfl ?_))
    exact bodyPost_ret (results_mixR (p := 2) (q := 3) (by kernel_rfl) _ _ w.heap.size _ _ (.bool false) rfl rfl (HRR.out.row _) Tryz.underlying46 rfl info4) rfl ⟨by rw [HR.out], below_row HB.out (Nat.le_refl _) _⟩
end Go.Proofs.YtnlgbopdbihnjaaGreatDoor
