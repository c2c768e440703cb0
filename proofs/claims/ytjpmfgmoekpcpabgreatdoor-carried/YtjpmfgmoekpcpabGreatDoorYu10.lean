/-
  The document's capital and Unxtext.
-/
import Derived.Test.YtjpmfgmoekpcpabGreatDoorYx10
import Derived.Test.YtjpmfgmoekpcpabGreatDoorRd10
import Derived.Test.YtjpmfgmoekpcpabGreatDoorXu10
namespace Go.Proofs.YtjpmfgmoekpcpabGreatDoor
open Go.RowKit

theorem cap_one (s : ByteArray) (k : Nat) (hk : k < s.size) : s.extract k (k + 1) = tx [s[k]] := by
  rw [tx_sub, List.drop_eq_getElem_cons (by rw [len_list]; exact hk)]
  rfl
theorem xcap_fin : ∀ b : Fin 256, isB 4 ((UInt8.ofNat b.val).toNat : Int) = true → (upL [UInt8.ofNat b.val] == [UInt8.ofNat b.val]) = xdg (UInt8.ofNat b.val) := by decide +kernel
theorem xcap (c : UInt8) (h : isB 4 (c.toNat : Int) = true) : (upL [c] == [c]) = xdg c := by
  have := xcap_fin ⟨c.toNat, c.toNat_lt⟩
  have e : UInt8.ofNat c.toNat = c := by simp
  simp only [e] at this
  exact this h
set_option maxRecDepth 100000 in
set_option maxHeartbeats 2000000 in
theorem ycap_any (s : ByteArray) (k : Nat) (hk : k < s.size) (hs : s.size ≤ 140737488355328) (w : World) :
    Calls Tryz.prog 45 #[.string s, .int .i64 (k : Nat)] w fun e w' => e = .returned (.bool (xdg s[k])) ∧ Below w.heap.size w w' := by
  have HIS := fun wx => ris_is 4 s[k] wx
  have b1 : (0 : Int) ≤ (k : Int) := by omega
  have b2 : (k : Int) + 1 ≤ (s.size : Int) := by omega
  have b3 : (0 : Int) ≤ (k : Int) + 1 := by omega
  have b4 : (k : Int) ≤ (k : Int) + 1 := by omega
  have q1 : IntKind.i64.wrap ((k : Int) + 1) = (k : Int) + 1 := by rw [IntKind.wrap_i64]; omega
  cases hx : isB 4 (s[k].toNat : Int) with
  | false =>
    have e : xdg s[k] = false := by unfold xdg; rw [hx]; rfl
    rw [e]
    rw [hx] at HIS
    have HI : Hid (∀ wx, Calls Tryz.prog 44 #[.int .i64 4, .int .u8 (s[k].toNat : Int)] wx fun e w' => e = .returned (.bool false) ∧ w' = wx) := HIS
    clear HIS e hx
    go_enter Tryz.func45, Tryz.ntmps45
    go_wp2_with fail
    go_quiet ((go_at_call 44; exact Calls.quiet_of_same (HI.out _)))
    go_wp2
    go_ret
    exact ⟨rfl, below_drN _ _⟩
  | true =>
    rw [hx] at HIS
    have HI : Hid (∀ wx, Calls Tryz.prog 44 #[.int .i64 4, .int .u8 (s[k].toNat : Int)] wx fun e w' => e = .returned (.bool true) ∧ w' = wx) := HIS
    obtain ⟨S, hS⟩ : ∃ S, S = s.extract k (k + 1) := ⟨_, rfl⟩
    have hS1 : S = tx [s[k]] := by rw [hS, cap_one s k hk]
    have HU : Hid (∀ wx, Calls Tryz.prog 35 #[.string S] wx fun e w' => e = .returned (.string (upS S)) ∧ Below wx.heap.size wx w') := fun wx => rupper_any S wx (by rw [hS1, tx_size]; show 1 ≤ _; omega)
    have hq : ((upS S).toList == S.toList) = xdg s[k] := by
      rw [ByteArray.toList_eq, ByteArray.toList_eq, hS1, ← xcap s[k] hx]
      rfl
    have hS' : s.extract k (k + 1) = S := hS.symm
    obtain ⟨U, hU⟩ : ∃ U, U = upS S := ⟨_, rfl⟩
    rw [← hU] at HU hq
    obtain ⟨x, hxx⟩ : ∃ x, x = xdg s[k] := ⟨_, rfl⟩
    rw [← hxx] at hq ⊢
    clear HIS hx hS hS1 hU hxx
    go_enter Tryz.func45, Tryz.ntmps45
    go_wp2_with fail
    go_region_held3 (fun w' => True) (trivial) (first | (go_at_call 44; refine (HI.out _).mono ?_; rintro e w' ⟨rfl, rfl⟩) | (go_at_call 35; refine (HU.out _).mono ?_; rintro e w' ⟨rfl, hb1⟩))
    all_goals
      have hb2 : Below w.heap.size w w' := ((Below.refl _ w).drew).trans hb1
      go_wp2
      go_ret
      exact ⟨rfl, hb2⟩

theorem rdigit_nat (x : Nat) (w : World) (hx : x < 256) (hb : isB 4 (x : Int) = true) :
    Calls Tryz.prog 46 #[.int .u8 (x : Int)] w fun e w' => e = .returned (.int .i64 (hexV x : Int)) ∧ Below w.heap.size w w' := by
  have e : (UInt8.ofNat x).toNat = x := by simp; omega
  have := rdigit_any (UInt8.ofNat x) w (by rw [e]; exact hb)
  rw [e] at this
  exact this
theorem below_owns {w w' : World} {base e size n : Nat} {v : Value} {xs : List Value} (h : w.ownsRow base e size v n xs) (hb : Below w.heap.size w w') : w'.ownsRow base e size v n xs := by
  have hg : w.grownBy w' none := ⟨hb.os, hb.tape, hb.output, hb.size, fun k hk _ => hb.block k hk⟩
  refine h.kept hg ?_
  cases v.ownBlock with
  | none => exact .inl rfl
  | some g => exact .inr (by simp)
theorem base_two {a : Nat} {wr w1 w2 : World} (o : Obj) (h0 : a ≤ wr.heap.size) (h1 : Below wr.heap.size wr.drew w1) (h2 : Below w1.heap.size w1 w2) : a ≤ (w2.alloc o).heap.size := by
  have s1 : wr.heap.size ≤ w1.heap.size := h1.size
  have s2 := h2.size
  simp
  omega
theorem owns_two {wr w1 w2 : World} {base e size n : Nat} {v : Value} {xs : List Value} (o : Obj) (h : wr.ownsRow base e size v n xs) (h1 : Below wr.heap.size wr.drew w1) (h2 : Below w1.heap.size w1 w2) : (w2.alloc o).ownsRow base e size v n xs :=
  (below_owns (below_owns (w := wr.drew) h.drew h1) h2).alloc o
theorem byte_atx (s : ByteArray) (i j : Nat) (h : i = j) (hi : i < s.size) (hj : j < s.size) : (s[i]'hi).toNat = (s[j]'hj).toNat := by
  subst h
  rfl

set_option maxHeartbeats 8000000 in
set_option maxRecDepth 100000 in
theorem yunx_any (s : ByteArray) (hs : s.size ≤ 140737488355000) (w : World) :
    Calls Tryz.prog 19 #[.string s] w fun e w' => e = .returned (uxV (unx s.data.toList)) ∧ Below w.heap.size w w' := by
  obtain ⟨i0, hi0, hz0, hz1, hz2⟩ := info_parts info5
  obtain ⟨X, hX⟩ : ∃ X, X = unx s.data.toList := ⟨_, rfl⟩
  rw [← hX]
  have HX0 : Hid (X = (unx (s.data.toList.drop 0)).on 0 []) := by show _ = _; rw [hX, Ux.on_zero, List.drop_zero]
  have HL0 : Hid (Lies (w.alloc (.cells #[.int .i64 0, .int .i64 0] 28)) w.heap.size #[.int .i64 0, .int .i64 0] 28) := Lies.new w _ _
  have HK0 : Hid (Below w.heap.size w (w.alloc (.cells #[.int .i64 0, .int .i64 0] 28))) := (Below.refl _ _).alloc (Nat.le_refl _) _
  clear hX
  go_enter Tryz.func19, Tryz.ntmps19
  go_upto_region 1 with fail
  generalize w.alloc (.cells #[.int .i64 0, .int .i64 0] 28) = v0 at HL0 HK0 ⊢
  go_wp2_with fail
  go_loopw [4, 5] (fun u c wr => ∃ (i : Nat) (acc : List UInt8), i ≤ s.size ∧ c = .int .i64 i ∧ acc.length ≤ i ∧ Hid (wr.ownsRow v0.heap.size 5 1 u acc.length (cellsB acc)) ∧ Hid (Below v0.heap.size v0 wr) ∧ Hid (X = (unx (s.data.toList.drop i)).on i acc)) (fun _ c _ => s.size - (intOf c).toNat)
  case atStart => exact ⟨0, [], Nat.zero_le _, rfl, Nat.zero_le _, ⟨rfl, .inl ⟨rfl, rfl⟩⟩, Below.refl _ _, HX0⟩
  case round =>
    obtain ⟨i, acc, hi, rfl, hacc, HO, HB, HX⟩ := hrel
    have HL : Hid (Lies wr w.heap.size #[.int .i64 0, .int .i64 0] 28) := HL0.out.below HB.out HL0.out.lt
    have KB : Hid (Below w.heap.size w wr) := HK0.out.trans (HB.out.mono HK0.out.size)
    have HSZ : Hid (v0.heap.size ≤ wr.heap.size) := HB.out.size
    clear HX0
    have HLL : Hid (s.data.toList.length = s.size) := len_list s
    by_cases hlt : i < s.size
    · have hlt' : (i : Int) < (s.size : Int) := by omega
      have hil : i < s.data.toList.length := by rw [HLL.out]; exact hlt
      obtain ⟨_, e43⟩ := beq_u8 s[i] 43 43 rfl
      by_cases h43 : s[i] = 43
      · rw [decide_eq_true h43] at e43
        have HIN : Hid (∀ m, m < xdn s.data.toList (i + 1) → ∃ h : i + 1 + m < s.size, xdg s[i + 1 + m] = true) := fun m hm => by
          obtain ⟨h, e⟩ := xdn_in _ _ _ hm
          exact ⟨by rw [← HLL.out]; exact h, e⟩
        have HOUT : Hid (∀ m, m = xdn s.data.toList (i + 1) → m < 2 → ∀ h : i + 1 + m < s.size, xdg s[i + 1 + m] = false) := fun m hm h2 h => xdn_out _ _ _ hm h2 (by rw [HLL.out]; exact h)
        have hx2 := xdn_le s.data.toList (i + 1)
        have HFEW : Hid (xdn s.data.toList (i + 1) < 2 → X = .bad (i + (1 + xdn s.data.toList (i + 1)))) := fun h2 => by
          rw [HX.out, unx_few _ _ hil h43 h2]
          rfl
        have HTWO : Hid (¬ xdn s.data.toList (i + 1) < 2 → ∃ (a : i + 2 < s.size), xdg s[i + 1] = true ∧ xdg s[i + 2] = true ∧ X = (unx (s.data.toList.drop (i + 3))).on (i + 3) (acc ++ [xpair s[i + 1] s[i + 2]])) := fun h2 => by
          obtain ⟨a, b, c⟩ := xdn_two _ _ h2
          refine ⟨by rw [← HLL.out]; exact a, b, c, ?_⟩
          rw [HX.out, unx_p4 _ _ a h43 b c, Ux.on_on]
          rfl
        obtain ⟨n, hn⟩ : ∃ n, n = xdn s.data.toList (i + 1) := ⟨_, rfl⟩
        rw [← hn] at HIN HOUT hx2 HFEW HTWO
        clear hn HX h43
        have HCP : Hid (∀ (k : Nat) (hk : k < s.size) (wx : World), Calls Tryz.prog 45 #[.string s, .int .i64 (k : Int)] wx fun e w' => e = .returned (.bool (xdg s[k])) ∧ Below wx.heap.size wx w') := fun k hk wx => ycap_any s k hk (by omega) wx
        go_wp2_with fail
        obtain ⟨wo, hwo⟩ : ∃ wo : World, wo = wr := ⟨_, rfl⟩
        have HWI0 : Hid (Below wo.heap.size wo wr) := by rw [hwo]; exact Below.refl _ _
        rw [← hwo] at HL KB HSZ HO HB
        clear hwo
        go_loopw [6] (fun c wi => ∃ m : Nat, m ≤ n ∧ c = .int .i64 ((m : Int) + 1) ∧ Hid (Below wo.heap.size wo wi)) (fun c _ => 4 - (intOf c).toNat)
        case atStart => exact ⟨0, Nat.zero_le _, by go_num, HWI0⟩
        case round =>
          clear HWI0
          obtain ⟨m, hm, rfl, HW⟩ := hrel
          have HLI : Hid (Lies wr w.heap.size #[.int .i64 0, .int .i64 0] 28) := HL.out.below HW.out HL.out.lt
          have KBI : Hid (Below w.heap.size w wr) := KB.out.trans (HW.out.mono KB.out.size)
          by_cases hm2 : m < 2
          · have bm : (m : Int) + 1 ≤ 2 := by omega
            by_cases hmn : m < n
            · obtain ⟨h1, h2⟩ := HIN.out m hmn
              have HC := HCP.out (i + 1 + m) h1 wr
              rw [h2, show ((i + 1 + m : Nat) : Int) = (i : Int) + ((m : Int) + 1) from by omega] at HC
              have HCC : Hid (Calls Tryz.prog 45 #[.string s, .int .i64 ((i : Int) + ((m : Int) + 1))] wr fun e w' => e = .returned (.bool true) ∧ Below wr.heap.size wr w') := HC
              have b1 : ¬ (s.size : Int) ≤ (i : Int) + ((m : Int) + 1) := by omega
              clear HC h2 HOUT HFEW HTWO
              go_wp2_with (go_at_call 45; refine HCC.out.mono ?_; rintro e w2 ⟨rfl, hb2⟩)
              have HW2 : Hid (Below wo.heap.size wo w2) := HW.out.trans (hb2.mono HW.out.size)
              go_roundw
              case rel => exact ⟨m + 1, by omega, by go_num, HW2⟩
              case measure => simp [intOf]; omega
            · obtain rfl : m = n := by omega
              have HXX : Hid (X = .bad (i + (1 + m))) := HFEW.out hm2
              by_cases hl : i + 1 + m < s.size
              · have h2 := HOUT.out m rfl hm2 hl
                have HC := HCP.out (i + 1 + m) hl wr
                rw [h2, show ((i + 1 + m : Nat) : Int) = (i : Int) + ((m : Int) + 1) from by omega] at HC
                have HCC : Hid (Calls Tryz.prog 45 #[.string s, .int .i64 ((i : Int) + ((m : Int) + 1))] wr fun e w' => e = .returned (.bool false) ∧ Lies w' w.heap.size #[.int .i64 0, .int .i64 0] 28 ∧ Below w.heap.size w w') := by
                  show Calls _ _ _ _ _
                  refine HC.mono ?_
                  rintro e w' ⟨rfl, hb⟩
                  exact ⟨rfl, HLI.out.below hb HLI.out.lt, KBI.out.trans (hb.mono KBI.out.size)⟩
                have b1 : ¬ (s.size : Int) ≤ (i : Int) + ((m : Int) + 1) := by omega
                clear HC h2 HOUT HFEW HTWO HIN HCP
                go_wp2_with (first
                  | (go_at_call 45; refine HCC.out.mono ?_; rintro e w2 ⟨rfl, hl2, hb2⟩)
                  | (refine wpList_store_row rfl 28 _ _ rfl w.heap.size rfl _ #[.int .i64 104, .int .i64 ((i : Int) + ((m : Int) + 1))] rfl 28 hl2 infoSp rfl (by simp [Value.oneCell']) rfl ?_))
                refine bodyPost_ret (res_vc (p := 2) (r := 3) (by kernel_rfl) _ _ w.heap.size #[.int .i64 104, .int .i64 ((i : Int) + ((m : Int) + 1))] _ (.string ⟨#[]⟩) rfl rfl (hl2.row _) Tryz.underlying28 rfl infoSp) rfl ⟨by rw [HXX.out, uxV]; push_cast; rw [Int.add_comm 1 (m : Int)], below_row hb2 (Nat.le_refl _) _⟩
              · have b1 : (s.size : Int) ≤ (i : Int) + ((m : Int) + 1) := by omega
                clear HOUT HFEW HTWO HIN HCP
                go_wp2_with (refine wpList_store_row rfl 28 _ _ rfl w.heap.size rfl _ #[.int .i64 104, .int .i64 ((i : Int) + ((m : Int) + 1))] rfl 28 HLI.out infoSp rfl (by simp [Value.oneCell']) rfl ?_)
                refine bodyPost_ret (res_vc (p := 2) (r := 3) (by kernel_rfl) _ _ w.heap.size #[.int .i64 104, .int .i64 ((i : Int) + ((m : Int) + 1))] _ (.string ⟨#[]⟩) rfl rfl (HLI.out.row _) Tryz.underlying28 rfl infoSp) rfl ⟨by rw [HXX.out, uxV]; push_cast; rw [Int.add_comm 1 (m : Int)], below_row KBI.out (Nat.le_refl _) _⟩
          · have bm : ¬ (m : Int) + 1 ≤ 2 := by omega
            obtain ⟨h2s, hd1, hd2, hXX⟩ := HTWO.out (by omega)
            have HXX : Hid (X = (unx (s.data.toList.drop (i + 3))).on (i + 3) (acc ++ [xpair s[i + 1] s[i + 2]])) := hXX
            have x1 := xdg_hex hd1
            have y1 := xdg_hex hd2
            have vx := hexV_lt _ x1
            have vy := hexV_lt _ y1
            have x256 := s[i + 1].toNat_lt
            have y256 := s[i + 2].toNat_lt
            have HOI : wr.ownsRow v0.heap.size 5 1 u4 acc.length (cellsB acc) := own_below HO.out HW.out
            have HBI : Hid (Below v0.heap.size v0 wr) := HB.out.trans (HW.out.mono HSZ.out)
            obtain ⟨x, hx⟩ : ∃ x : Nat, x = s[i + 1].toNat := ⟨_, rfl⟩
            obtain ⟨y, hy⟩ : ∃ y : Nat, y = s[i + 2].toNat := ⟨_, rfl⟩
            have hx' : s[i + 1].toNat = x := hx.symm
            have j2 : ((i : Int) + 2).toNat < s.size := by omega
            have hy' : (s[((i : Int) + 2).toNat]'j2).toNat = y := by rw [hy]; exact byte_atx s _ _ (by omega) _ _
            have HP : Hid (xpair s[i + 1] s[i + 2] = UInt8.ofNat (hexV x * 16 + hexV y)) := by show xpair _ _ = _; unfold xpair; rw [hx', ← hy]
            rw [HP.out] at HXX
            rw [← hx] at x1 vx x256
            rw [← hy] at y1 vy y256
            obtain ⟨z, hzz⟩ : ∃ z : Nat, z = hexV x * 16 + hexV y := ⟨_, rfl⟩
            have hz256 : z < 256 := by omega
            have hzi : 16 * (hexV x : Int) + (hexV y : Int) = (z : Int) := by omega
            rw [← hzz] at HXX
            clear hzz hx hy hXX hd1 hd2 HP HFEW HTWO HIN HOUT HCP
            have b1 : (0 : Int) ≤ (i : Int) + 1 := by omega
            have b2 : (i : Int) + 1 < (s.size : Int) := by omega
            have b3 : (0 : Int) ≤ (i : Int) + 2 := by omega
            have b4 : (i : Int) + 2 < (s.size : Int) := by omega
            have q1 : IntKind.i64.wrap ((i : Int) + 1) = (i : Int) + 1 := by rw [IntKind.wrap_i64]; omega
            have q2 : IntKind.i64.wrap ((i : Int) + 2) = (i : Int) + 2 := by rw [IntKind.wrap_i64]; omega
            have q3 : IntKind.i64.wrap (16 * (hexV x : Int)) = 16 * (hexV x : Int) := by rw [IntKind.wrap_i64]; omega
            have q4 : IntKind.i64.wrap (z : Int) = (z : Int) := by rw [IntKind.wrap_i64]; omega
            have q5 : IntKind.u8.wrap (z : Int) = (z : Int) := by rw [IntKind.wrap_u8]; omega
            clear vx vy
            go_wp2_with fail
            have hwr : v0.heap.size ≤ wr.heap.size := HBI.out.size
            have tok : True := trivial
            go_region_held3 (fun w' => True) (trivial)
              (first
                | (go_at_call 46; have _t := tok; refine (rdigit_nat _ _ (by omega) (by assumption)).mono ?_; rintro e w1 ⟨rfl, hb1⟩; clear tok)
                | (go_at_call 46; refine (rdigit_nat _ _ (by omega) (by assumption)).mono ?_; rintro e w2 ⟨rfl, hb2⟩)
                | (refine step_append_lies _ (by rfl) _ _ _ (by rfl) v0.heap.size 5 i0 _ 1 1 Tryz.underlying57 hi0 hz0 hz1 hz2 rfl (by omega) u4 _ _ (by rfl) (owns_two _ HOI hb1 hb2) ⟨w2.heap.size, 0, none⟩ 1 1 [.int .u8 (z : Int)] (by rfl) (by rfl) (World.news_of_block (cs := #[.int .u8 (z : Int)]) (t := 5) (fr := (0, 0)) (heap_alloc_new w2 _)) (by simp [Value.oneCell']) (by omega) (by unfold maxLen; omega) (by omega) (base_two _ hwr hb1 hb2) (w2.heap.size + 1) (by simp) ?_; intro gg cap w3 hown3 hgrow hat hlt3))
            all_goals
              have hb02 : Below wr.heap.size wr w2 := ⟨hb2.os.trans hb1.os, hb2.tape.trans hb1.tape, hb2.output.trans hb1.output, Nat.le_trans hb1.size hb2.size, fun q hq => (hb2.block q (Nat.lt_of_lt_of_le hq hb1.size)).trans (hb1.block q hq)⟩
              have R : Hid (w3.ownsRow v0.heap.size 5 1 (.slice (some ⟨gg, 0, none⟩) (acc.length + 1) cap) (acc ++ [UInt8.ofNat z]).length (cellsB (acc ++ [UInt8.ofNat z]))) := by
                show w3.ownsRow _ _ _ _ _ _
                rw [List.length_append, cellsB_append]
                have e : (UInt8.ofNat z).toNat = z := by simp; omega
                have e2 : cellsB [UInt8.ofNat z] = [.int .u8 (z : Int)] := by
                  show [Value.int .u8 (((UInt8.ofNat z).toNat : Nat) : Int)] = _
                  rw [e]
                rw [e2]
                exact hown3
              have HB1 : Hid (Below v0.heap.size v0 w2) := HBI.out.trans (hb02.mono hwr)
              have HB3 : Hid (Below v0.heap.size v0 w3) := (HB1.out.alloc HB1.out.size _).grown hgrow (by have := HB1.out.size; simp; omega) (fun q hq => (HOI.lt q hq).1)
              have hal : (acc ++ [UInt8.ofNat z]).length ≤ i + 3 := by rw [List.length_append]; simp; omega
              clear HOI hown3 hgrow hat hlt3 hb1 hb2 hb02 HO HB HB1 HBI
              go_wp2
              go_roundw
              case rel => exact ⟨i + 3, acc ++ [UInt8.ofNat z], by omega, by go_num, hal, R, HB3, HXX⟩
              case measure => simp [intOf]; omega
      · rw [decide_eq_false h43] at e43
        have HIS := ris_is 9 s[i] wr
        cases hx : xch s[i] with
        | true =>
          have e : isB 9 (s[i].toNat : Int) = true := hx
          rw [e] at HIS
          have HI : Hid (Calls Tryz.prog 44 #[.int .i64 9, .int .u8 (s[i].toNat : Int)] wr fun e w' => e = .returned (.bool true) ∧ w' = wr) := HIS
          have HXX : Hid (X = (unx (s.data.toList.drop (i + 1))).on (i + 1) (acc ++ [s[i]])) := by
            show _ = _
            rw [HX.out, unx_ch _ _ hil h43 hx, Ux.on_on]
            rfl
          have HONE : Hid (Bts (some ⟨wr.heap.size, 0, none⟩) [s[i]] (wr.alloc (.cells #[.int .u8 (s[i].toNat : Int)] 5))) := .inr ⟨wr.heap.size, 0, rfl, by simp, fun j hj => by
            obtain rfl : j = 0 := by simpa using hj
            simp⟩
          have HZA : Hid (v0.heap.size ≤ (wr.alloc (.cells #[.int .u8 (s[i].toNat : Int)] 5)).heap.size) := by show _ ≤ _; have := HSZ.out; simp; omega
          have HOA : Hid ((wr.alloc (.cells #[.int .u8 (s[i].toNat : Int)] 5)).ownsRow v0.heap.size 5 1 u4 acc.length (cellsB acc)) := HO.out.alloc _
          clear HX h43 hx HLL HIS e
          go_wp2_with (first
            | (go_at_call 44; refine HI.out.mono ?_; rintro e wd ⟨rfl, rfl⟩)
            | (at_builtin; refine wpList_append_keep rfl _ _ rfl v0.heap.size _ acc.length acc rfl HOA.out (some ⟨_, 0, none⟩) [s[i]] 1 1 rfl rfl HONE.out (fun e => by cases e) (by omega) HZA.out ?_))
          intro v7 w7 ho7 hg7
          have HO7 : Hid (w7.ownsRow v0.heap.size 5 1 v7 (acc ++ [s[i]]).length (cellsB (acc ++ [s[i]]))) := by
            show World.ownsRow _ _ _ _ _ _ _
            rw [List.length_append]
            exact ho7
          have HB7 : Hid (Below v0.heap.size v0 w7) := (HB.out.alloc HB.out.size _).grown hg7 HZA.out (fun q hq => (HO.out.lt q hq).1)
          have hal : (acc ++ [s[i]]).length ≤ i + 1 := by simp; omega
          clear ho7 hg7
          go_wp2
          go_roundw
          case rel => exact ⟨i + 1, acc ++ [s[i]], by omega, by go_num, hal, HO7, HB7, HXX⟩
          case measure => simp [intOf]; omega
        | false =>
          have e : isB 9 (s[i].toNat : Int) = false := hx
          rw [e] at HIS
          have HI : Hid (Calls Tryz.prog 44 #[.int .i64 9, .int .u8 (s[i].toNat : Int)] wr fun e w' => e = .returned (.bool false) ∧ w' = wr) := HIS
          have HXX : Hid (X = .bad (i + 0)) := by
            show _ = _
            rw [HX.out, unx_no _ _ hil h43 hx]
            rfl
          clear HX h43 hx HLL HO HIS e
          go_wp2_with (first
            | (go_at_call 44; refine HI.out.mono ?_; rintro e wd ⟨rfl, rfl⟩)
            | (refine wpList_store_row rfl 28 _ _ rfl w.heap.size rfl _ #[.int .i64 104, .int .i64 (i : Int)] rfl 28 HL.out infoSp rfl (by simp [Value.oneCell']) rfl ?_))
          refine bodyPost_ret (res_vc (p := 2) (r := 3) (by kernel_rfl) _ _ w.heap.size #[.int .i64 104, .int .i64 (i : Int)] _ (.string ⟨#[]⟩) rfl rfl (HL.out.row _) Tryz.underlying28 rfl infoSp) rfl ⟨by rw [HXX.out, uxV]; rfl, below_row KB.out (Nat.le_refl _) _⟩
    · have hlt' : ¬ (i : Int) < (s.size : Int) := by omega
      have HXX : Hid (X = .ok acc) := by
        show _ = _
        rw [HX.out, unx_end _ _ (by rw [HLL.out]; omega)]
        show Ux.ok (acc ++ []) = _
        rw [List.append_nil]
      have hback := own_tx HO.out
      clear HX HLL
      go_wp2_with (refine wpList_store_row rfl 28 _ _ rfl w.heap.size rfl _ #[.int .i64 0, .int .i64 0] rfl 28 HL.out infoSp rfl (by simp [Value.oneCell']) rfl ?_)
      refine bodyPost_ret (res_vc (p := 2) (r := 3) (by kernel_rfl) _ _ w.heap.size #[.int .i64 0, .int .i64 0] _ (.string (tx acc)) rfl rfl (HL.out.row _) Tryz.underlying28 rfl infoSp) rfl ⟨by rw [HXX.out, uxV], below_row KB.out (Nat.le_refl _) _⟩
end Go.Proofs.YtjpmfgmoekpcpabGreatDoor
