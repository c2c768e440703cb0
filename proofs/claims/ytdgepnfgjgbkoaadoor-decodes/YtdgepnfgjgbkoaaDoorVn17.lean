/-
  wakes.
-/
import Derived.Test.YtdgepnfgjgbkoaaDoorKn17
import Derived.Test.YtdgepnfgjgbkoaaDoorWdm17
import Derived.Test.YtdgepnfgjgbkoaaDoorWd17
import Derived.Test.YtdgepnfgjgbkoaaDoorWn17
import Derived.Test.YtdgepnfgjgbkoaaDoorNd17
import Derived.Test.YtdgepnfgjgbkoaaDoorVs17
namespace Go.Proofs.YtdgepnfgjgbkoaaDoor
open Go.RowKit

theorem bS_lit (l : List UInt8) : (⟨l.toArray⟩ : ByteArray).data.toList = l := by simp
theorem enc_at (l t : List UInt8) (sh : Bool) (n : Nat) (hl : l.length ≤ 1048576) (h : encW l sh = t ∧ encE l = n) (w : World) (tb : Tb w) :
    Calls Tryd.prog 11 #[.string ⟨l.toArray⟩, .bool sh] w fun e w' => e = .returned (.tuple #[.string ⟨t.toArray⟩, .int .i64 (n : Int)]) ∧ Below w.heap.size w w' := by
  have := wenc_any ⟨l.toArray⟩ sh (by show l.toArray.size ≤ _; simpa using hl) w tb
  rw [bS_lit, h.1, h.2] at this
  exact this
theorem dec_at (l t : List UInt8) (e a : Nat) (hl : l.length ≤ 1048576) (h : decW l = (t, e, a)) (w : World) (tb : Tb w) :
    Calls Tryd.prog 10 #[.string ⟨l.toArray⟩] w fun er w' => er = .returned (.tuple #[.string ⟨t.toArray⟩, .agg #[.int .i64 (e : Int), .int .i64 (a : Int)]]) ∧ Below w.heap.size w w' := by
  have := wdec_any ⟨l.toArray⟩ (by show l.toArray.size ≤ _; simp; omega) w tb
  rw [bS_lit, h] at this
  exact this
theorem needs_at (l : List UInt8) (b : Bool) (hl : l.length ≤ 1048576) (h : needW l = b) (w : World) (tb : Tb w) :
    Calls Tryd.prog 12 #[.string ⟨l.toArray⟩] w fun e w' => e = .returned (.bool b) ∧ Below w.heap.size w w' := by
  have := wneeds_any ⟨l.toArray⟩ (by show l.toArray.size ≤ _; simp; omega) w tb
  rw [bS_lit, h] at this
  exact this
set_option maxRecDepth 100000 in
set_option maxHeartbeats 2000000 in
theorem wakes_any (w : World) (tb : Tb w) : Calls Tryd.prog 9 #[] w fun e w' => e = .returned (.bool true) ∧ Below w.heap.size w w' := by
  have HTB : Hid (∀ wx, Below w.heap.size w wx → Tb wx) := fun wx h => tb.below h
  have h1 := enc_at _ _ _ _ (by decide) kn_e1 w tb
  clear tb
  go_enter Tryd.func9, Tryd.ntmps9
  go_wp2_with fail
  refine h1.mono ?_
  rintro e w1 ⟨rfl, hb1⟩
  have h2 := enc_at _ _ _ _ (by decide) kn_e2 w1 (HTB.out w1 hb1)
  have HB1 : Hid (Below w.heap.size w w1) := hb1
  clear h1 hb1
  go_wp2_with fail
  refine h2.mono ?_
  rintro e w2 ⟨rfl, hb2⟩
  have HB2 : Hid (Below w.heap.size w w2) := HB1.out.trans (hb2.mono HB1.out.size)
  have h3 := dec_at _ _ _ _ (by decide) kn_d1 w2 (HTB.out w2 HB2.out)
  clear h2 hb2 HB1
  go_wp2_with fail
  refine h3.mono ?_
  rintro e w3 ⟨rfl, hb3⟩
  have HB3 : Hid (Below w.heap.size w w3) := HB2.out.trans (hb3.mono HB2.out.size)
  have HB4 : Hid (Below w.heap.size w (w3.alloc (.cells #[.int .i64 0, .int .i64 0] 25))) := HB3.out.alloc HB3.out.size _
  have h4 := needs_at _ _ (by decide) kn_n1 (w3.alloc (.cells #[.int .i64 0, .int .i64 0] 25)) (HTB.out _ HB4.out)
  clear h3 hb3 HB2
  go_wp2_with fail
  refine h4.mono ?_
  rintro e w5 ⟨rfl, hb5⟩
  have HB5 : Hid (Below w.heap.size w w5) := HB4.out.trans (hb5.mono HB4.out.size)
  have h5 := needs_at _ _ (by decide) kn_n2 w5 (HTB.out _ HB5.out)
  clear h4 hb5 HB4
  go_wp2_with fail
  refine h5.mono ?_
  rintro e w6 ⟨rfl, hb6⟩
  have HB6 : Hid (Below w.heap.size w w6) := HB5.out.trans (hb6.mono HB5.out.size)
  go_wp2
  go_ret
  exact ⟨rfl, HB6.out⟩
end Go.Proofs.YtdgepnfgjgbkoaaDoor
/-
  The document's Needs.
-/
namespace Go.Proofs.YtdgepnfgjgbkoaaDoor
open Go.RowKit
theorem full_all (k : Int) : ∀ l : List UInt8, badN k l = l.length → ∀ c ∈ l, isB k (c.toNat : Int) = true
  | [], _, c, hc => by simp at hc
  | b :: l, h, c, hc => by
    rw [badN] at h
    by_cases hb : isB k (b.toNat : Int) = true
    · rw [if_pos hb] at h
      rcases List.mem_cons.1 hc with rfl | hc
      · exact hb
      · exact full_all k l (by simpa using h) c hc
    · rw [if_neg hb] at h
      simp at h
theorem full_of (c : Int) : ∀ (l : List UInt8), (∀ b ∈ l, isB c (b.toNat : Int) = true) → badN c l = l.length
  | [], _ => rfl
  | x :: t, h => by
    have h1 := h x (by simp)
    have h2 := full_of c t (fun b hb => h b (by simp [hb]))
    have := badN_yes c (x :: t) 0 (by simp) h1
    simpa [h2] using this
theorem need_split (s : ByteArray) : needW s.data.toList = (decide (badN 12 s.data.toList < s.data.toList.length) || ((vS s s.size).any fun x => (vP (ptx x)).isSome && !x.2.2)) := by
  rw [any_all]
  rfl
set_option maxRecDepth 100000 in
set_option maxHeartbeats 4000000 in
theorem vneeds_any (s : ByteArray) (hs : s.size ≤ 4294967000) (w : World) :
    Calls Tryd.prog 15 #[.string s] w fun e w' => e = .returned (.bool (needW s.data.toList)) ∧ Below w.heap.size w w' := by
  have hl : s.data.toList.length = s.size := by rw [Array.length_toList]; rfl
  have HNS := need_split s
  have HSP := vsplit_any s hs w
  have HIS : Hid (∀ (a : Int) (t : ByteArray) (g : Bool) wx, t.size ≤ 4294967000 → Calls Tryd.prog 28 #[.agg #[.int .i64 a, .string t, .bool g]] wx fun e w' => e = .returned (.bool ((vP t.data.toList).isSome && !g)) ∧ Below wx.heap.size wx w') := fun a t g wx h => vis_any a t g h wx
  go_enter Tryd.func15, Tryd.ntmps15
  go_wp2_with fail
  go_loopw [3] (fun kv wr => ∃ k : Nat, k ≤ s.size ∧ kv = .int .i64 k ∧ Hid (wr = w) ∧ Hid (∀ j, j < k → ∀ h : j < s.data.toList.length, isB 12 ((s.data.toList[j]).toNat : Int) = true)) (fun kv _ => s.size - (intOf kv).toNat)
  case atStart => exact ⟨0, by omega, rfl, rfl, fun j h => (by omega)⟩
  case round =>
    obtain ⟨k, hk, rfl, hw, HA⟩ := hrel
    obtain rfl := hw.out
    obtain ⟨wr', hwr'⟩ : ∃ wr' : World, wr' = wr := ⟨_, rfl⟩
    subst hwr'
    clear hw
    by_cases hlt : k < s.size
    · have hlti : (k : Int) < s.size := by omega
      have hkl : k < s.data.toList.length := by omega
      have hsk : s.data.toList[k] = s[k]'hlt := by simp; rfl
      have hb4 : ((((s[k]'hlt).toNat : Int) != 9) = false ∧ isB 12 ((s[k]'hlt).toNat : Int) = true) ∨ ((((s[k]'hlt).toNat : Int) != 9) = true ∧ (¬ ((s[k]'hlt).toNat : Int) < 32 ∧ ¬ 126 < ((s[k]'hlt).toNat : Int)) ∧ isB 12 ((s[k]'hlt).toNat : Int) = true) ∨ ((((s[k]'hlt).toNat : Int) != 9) = true ∧ ((s[k]'hlt).toNat : Int) < 32 ∧ isB 12 ((s[k]'hlt).toNat : Int) = false) ∨ ((((s[k]'hlt).toNat : Int) != 9) = true ∧ (¬ ((s[k]'hlt).toNat : Int) < 32 ∧ 126 < ((s[k]'hlt).toNat : Int)) ∧ isB 12 ((s[k]'hlt).toNat : Int) = false) := by
        have := u8_all (p := fun c => decide (((((c.toNat : Int) != 9) = false ∧ isB 12 (c.toNat : Int) = true) ∨ (((c.toNat : Int) != 9) = true ∧ (¬ (c.toNat : Int) < 32 ∧ ¬ 126 < (c.toNat : Int)) ∧ isB 12 (c.toNat : Int) = true) ∨ (((c.toNat : Int) != 9) = true ∧ (c.toNat : Int) < 32 ∧ isB 12 (c.toNat : Int) = false) ∨ (((c.toNat : Int) != 9) = true ∧ (¬ (c.toNat : Int) < 32 ∧ 126 < (c.toNat : Int)) ∧ isB 12 (c.toNat : Int) = false)))) (by decide +kernel) (s[k]'hlt)
        exact of_decide_eq_true this
      have HON : isB 12 ((s[k]'hlt).toNat : Int) = true → Hid (∀ j, j < k + 1 → ∀ h : j < s.data.toList.length, isB 12 ((s.data.toList[j]).toNat : Int) = true) := fun hg j hj h => by
        rcases (by omega : j < k ∨ j = k) with h1 | rfl
        · exact HA.out j h1 h
        · rw [hsk]; exact hg
      have HBAD : isB 12 ((s[k]'hlt).toNat : Int) = false → Hid (needW s.data.toList = true) := fun hg => by
        suffices h9 : badN 12 s.data.toList < s.data.toList.length by
          show needW _ = true
          unfold needW
          rw [decide_eq_true h9]
          rfl
        rcases Nat.lt_or_ge (badN 12 s.data.toList) s.data.toList.length with h | h
        · exact h
        · have := full_all 12 s.data.toList (by have := badN_le 12 s.data.toList; omega) _ (List.getElem_mem hkl)
          rw [hsk, hg] at this
          cases this
      clear HNS
      rcases hb4 with ⟨b1, b3⟩ | ⟨b1, ⟨b2, b4⟩, b3⟩ | ⟨b1, b2, b3⟩ | ⟨b1, ⟨b2, b4⟩, b3⟩
      · have HH := HON b3
        clear HON HBAD b3
        go_wp2_with fail
        go_round
        case rel => exact ⟨k + 1, hlt, by go_num, trivial, HH.out⟩
        case measure => simp [intOf]; omega
      · have HH := HON b3
        clear HON HBAD b3
        go_wp2_with fail
        go_round
        case rel => exact ⟨k + 1, hlt, by go_num, trivial, HH.out⟩
        case measure => simp [intOf]; omega
      · have HH := HBAD b3
        clear HON HBAD b3
        go_wp2_with fail
        go_ret
        exact ⟨by rw [HH.out]; rfl, Below.refl _ _⟩
      · have HH := HBAD b3
        clear HON HBAD b3
        go_wp2_with fail
        go_ret
        exact ⟨by rw [HH.out]; rfl, Below.refl _ _⟩
    · obtain rfl : k = s.size := by omega
      have hb : badN 12 s.data.toList = s.data.toList.length := full_of 12 _ (fun x hx => by
        obtain ⟨j, hj, rfl⟩ := List.mem_iff_getElem.1 hx
        exact HA.out j (by omega) hj)
      rw [decide_eq_false (show ¬ badN 12 s.data.toList < s.data.toList.length by omega), Bool.false_or] at HNS
      have HNZ : Hid (needW s.data.toList = (vS s s.size).any fun x => (vP (ptx x)).isSome && !x.2.2) := HNS
      clear HA hb HNS
      go_wp2_with fail
      refine HSP.mono ?_
      rintro e w1 ⟨⟨v, rfl, hO⟩, hB1⟩
      obtain ⟨a, c, rfl, hne⟩ := hO.shape
      have HO : Hid (Ow celP 57 3 w1 (.slice a (vS s s.size).length c) (vS s s.size)) := hO
      have HB1 : Hid (Below wr'.heap.size wr' w1) := hB1
      have hln := vS_len s s.size
      have hsz := vS_size s s.size
      generalize vS s s.size = L at *
      clear hO hB1 hk hlt HSP
      have hL40 : L.length ≤ 4294967000 := by omega
      go_wp2_with fail
      go_loopw [31] (fun kv wx => ∃ k : Nat, k ≤ L.length ∧ kv = .int .i64 k ∧ Hid (Below wr'.heap.size wr' wx) ∧ Hid (Below w1.heap.size w1 wx) ∧ Hid (((L.take k).any fun x => (vP (ptx x)).isSome && !x.2.2) = false)) (fun kv _ => L.length - (intOf kv).toNat)
      case atStart => exact ⟨0, by omega, rfl, HB1.out, Below.refl _ _, rfl⟩
      case round =>
        obtain ⟨k, hk, rfl, HBa, HBb, HNO⟩ := hrel
        by_cases hlt : k < L.length
        · have hlti : (k : Int) < L.length := by omega
          have hLk : L[k]? = some L[k] := List.getElem?_eq_getElem hlt
          have hmem := List.getElem_mem hlt
          have hxs := hsz _ hmem
          have htk : L.take (k + 1) = L.take k ++ [L[k]] := List.take_succ_eq_append_getElem hlt
          obtain ⟨g, rfl⟩ := hne (fun e => by rw [e] at hlt; simp at hlt)
          have hO2 := HO.out.below HBb.out
          have hcl : ∀ i, i < 3 → wr.cell? ⟨g, k * 3 + i, none⟩ = (celP L[k])[i]? := fun i hi => by
            rw [hO2.cells (k * 3 + i) (by rw [flat_length celP_len]; omega)]
            exact flat_at celP_len L k i hlt hi
          have HYES : ((vP (ptx L[k])).isSome && !(L[k]).2.2) = true → Hid ((L.any fun x => (vP (ptx x)).isSome && !x.2.2) = true) := fun h => List.any_eq_true.2 ⟨_, hmem, h⟩
          generalize L[k] = X at *
          obtain ⟨xa, xt, xg⟩ := X
          have c0 : wr.cell? ⟨g, k * 3, none⟩ = some (.int .i64 (xa : Int)) := hcl 0 (by decide)
          have c1 : wr.cell? ⟨g, k * 3 + 1, none⟩ = some (.string xt) := hcl 1 (by decide)
          have c2 : wr.cell? ⟨g, k * 3 + 2, none⟩ = some (.bool xg) := hcl 2 (by decide)
          have hI : Hid (∀ wx, Calls Tryd.prog 28 #[.agg #[.int .i64 (xa : Int), .string xt, .bool xg]] wx fun e w' => e = .returned (.bool ((vP (ptx (xa, xt, xg))).isSome && !xg)) ∧ Below wx.heap.size wx w') := fun wx => HIS.out _ _ _ wx (by have : xt.size ≤ s.size := hxs; omega)
          clear hcl hO2 hmem hLk
          go_wp2_with fail
          refine (hI.out _).mono ?_
          rintro e w2 ⟨rfl, hb2⟩
          have HBc : Hid (Below wr'.heap.size wr' w2) := (HBa.out.alloc HBa.out.size _).trans (hb2.mono (HBa.out.alloc HBa.out.size _).size)
          have HBd : Hid (Below w1.heap.size w1 w2) := (HBb.out.alloc HBb.out.size _).trans (hb2.mono (HBb.out.alloc HBb.out.size _).size)
          have HST : ((vP (ptx (xa, xt, xg))).isSome && !xg) = false → Hid (((L.take (k + 1)).any fun x => (vP (ptx x)).isSome && !x.2.2) = false) := fun h => by
            show _ = _
            rw [htk, List.any_append, HNO.out]
            simpa using h
          have HYES : ((vP (ptx (xa, xt, xg))).isSome && !xg) = true → Hid ((L.any fun x => (vP (ptx x)).isSome && !x.2.2) = true) := HYES
          clear hb2 HNO c0 c1 c2 hI htk
          generalize ((vP (ptx (xa, xt, xg))).isSome && !xg) = B at *
          cases B with
          | true =>
            have hy := (HYES rfl).out
            rw [hy] at HNZ
            clear HYES HST hy
            go_wp2_with fail
            go_ret
            exact ⟨by rw [HNZ.out]; rfl, HBc.out⟩
          | false =>
            have HS := HST rfl
            clear HYES HST
            go_wp2_with fail
            go_round
            case rel => exact ⟨k + 1, hlt, by go_num, HBc.out, HBd.out, HS.out⟩
            case measure => simp [intOf]; omega
        · obtain rfl : k = L.length := by omega
          have HF := HNO.out
          rw [List.take_length] at HF
          rw [HF] at HNZ
          go_wp2_with fail
          go_ret
          exact ⟨by rw [HNZ.out]; rfl, HBa.out⟩
end Go.Proofs.YtdgepnfgjgbkoaaDoor
