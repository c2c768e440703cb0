/-
  The document's One.
-/
import Derived.Test.YtdgepnfgjgbkoaaDoorRMd
import Derived.Test.YtdgepnfgjgbkoaaDoorREnc
import Derived.Test.YtdgepnfgjgbkoaaDoorWt17
namespace Go.Proofs.YtdgepnfgjgbkoaaDoor
open Go.RowKit

theorem bts_drop {g o : Nat} {l : List UInt8} {w : World} (h : Bts (some ⟨g, o, none⟩) l w) (k : Nat) : Bts (some ⟨g, o + k, none⟩) (l.drop k) w := by
  rcases h with rfl | ⟨g', o', e, hg, hr⟩
  · exact .inl (by simp)
  · injection e with e
    injection e with e1 e2
    subst e1 e2
    refine .inr ⟨g, o + k, rfl, hg, fun j hj => ?_⟩
    rw [List.length_drop] at hj
    rw [Nat.add_assoc, hr (k + j) (by omega), List.getElem_drop]
/-- What One tells of a row. -/
def oneT (l : List UInt8) : Int × Nat := (oneN l).getD (0, 0)

set_option maxHeartbeats 4000000 in
set_option maxRecDepth 100000 in
theorem done_any (a : Option Addr) (l : List UInt8) (cap at' : Nat) (w : World) (hb : Bts a l w) (hc : l.length ≤ cap) (hat : at' ≤ l.length) (hs : l.length ≤ 9223372036854775000) :
    Calls Tryd.prog 51 #[.slice a l.length cap, .int .i64 at'] w fun e w' => e = .returned (.tuple #[.int .i32 (oneT (l.drop at')).1, .int .i64 (oneT (l.drop at')).2]) ∧ Below w.heap.size w w' := by
  have HL : Hid (Bts a l w) := hb
  have HW0 : Hid (Below w.heap.size w w) := Below.refl _ w
  clear hb
  go_enter Tryd.func51, Tryd.ntmps51
  go_wp2_with fail
  go_loopw [6, 7, 8] (fun n _ _ wr => ∃ j : Nat, n = .int .i64 j ∧ 1 ≤ j ∧ j ≤ 5 ∧ Hid (Below w.heap.size w wr) ∧ Hid (∀ m, 1 ≤ m → m < j → m ≤ (l.drop at').length → ¬ okX ((l.drop at').take m))) (fun n _ _ _ => 5 - (intOf n).toNat)
  case atStart => exact ⟨1, rfl, Nat.le_refl _, by omega, HW0, fun m h1 h2 _ => by omega⟩
  case round =>
    obtain ⟨j, rfl, hj1, hj5, HW, HP⟩ := hrel
    by_cases hgo : j ≤ 4 ∧ at' + j ≤ l.length
    · obtain ⟨hj4, hjl⟩ := hgo
      obtain ⟨g, o, rfl, hg, -⟩ := HL.out.cell at' (by omega)
      have hlen : ((l.drop at').take j).length = j := by rw [List.length_take, List.length_drop]; omega
      have hm := dmade_any g (o + at') (cap - at') ((l.drop at').take j) (by omega) (by omega) (by omega) wr (((bts_drop HL.out at').take j).below HW.out)
      rw [hlen] at hm
      have HON : Hid (okX ((l.drop at').take j) → oneT (l.drop at') = (mkX ((l.drop at').take j), j)) := fun h => by
        unfold oneT
        rw [okX_one (by rw [List.length_drop]; omega) h]
        rfl
      have hcq : cap - at' ≠ 0 := by omega
      have hij : (at' : Int) + (j : Int) ≤ (l.length : Int) := by omega
      go_wp2_with fail
      refine hm.mono ?_
      rintro e w1 ⟨⟨r, rfl, hr⟩, b1⟩
      have HB1 : Hid (Below w.heap.size w w1) := HW.out.trans (b1.mono HW.out.size)
      clear hm b1
      by_cases hk : okX ((l.drop at').take j)
      · have HE : Hid (oneT (l.drop at') = (r, j)) := (HON.out hk).trans (by rw [hr hk])
        rw [decide_eq_true hk]
        clear hr HON HP hlen hk
        go_wp2
        (try simp only [Exit.inBlock, Exit.then])
        refine bodyPost_ret (v := .tuple #[.int .i32 r, .int .i64 j]) (by simp [results, Tryd.results51, go_sem]) rfl ⟨by rw [HE.out], HB1.out⟩
      · have HP2 : Hid (∀ m, 1 ≤ m → m < j + 1 → m ≤ (l.drop at').length → ¬ okX ((l.drop at').take m)) := fun m h1 h2 h3 => by
          rcases Nat.lt_or_ge m j with h | h
          · exact HP.out m h1 h h3
          · obtain rfl : m = j := by omega
            exact hk
        rw [decide_eq_false hk]
        clear hr HON HP hlen hk
        go_wp2
        go_roundw
        case rel => exact ⟨j + 1, by go_num, by omega, by omega, HB1, HP2⟩
        case measure => simp [intOf]; omega
    · have HE : Hid (oneT (l.drop at') = (0, 0)) := by
        show _ = _
        unfold oneT
        cases h : oneN (l.drop at') with
        | none => rfl
        | some p =>
          obtain ⟨r, n⟩ := p
          obtain ⟨h1, h2, h3, h4, -⟩ := one_okX h
          rw [List.length_drop] at h1
          refine absurd h4 (HP.out n h2 ?_ (by rw [List.length_drop]; exact h1))
          omega
      by_cases hj4 : j ≤ 4
      · have hij : ¬ ((at' : Int) + (j : Int) ≤ (l.length : Int)) := by omega
        clear hgo
        go_wp2
        (try simp only [Exit.inBlock, Exit.then])
        refine bodyPost_ret (v := .tuple #[.int .i32 0, .int .i64 0]) (by simp [results, Tryd.results51, go_sem]) rfl ⟨by rw [HE.out]; rfl, HW.out⟩
      · obtain rfl : j = 5 := by omega
        clear hgo hj4
        go_wp2
        (try simp only [Exit.inBlock, Exit.then])
        refine bodyPost_ret (v := .tuple #[.int .i32 0, .int .i64 0]) (by simp [results, Tryd.results51, go_sem]) rfl ⟨by rw [HE.out]; rfl, HW.out⟩

set_option maxHeartbeats 4000000 in
set_option maxRecDepth 100000 in
theorem dbad_any (a : Option Addr) (l : List UInt8) (cap : Nat) (w : World) (hb : Bts a l w) (hc : l.length ≤ cap) (hs : l.length ≤ 9223372036854775000) :
    Calls Tryd.prog 50 #[.slice a l.length cap] w fun e w' => e = .returned (.int .i64 (badU l)) ∧ Below w.heap.size w w' := by
  have HL : Hid (Bts a l w) := hb
  have HW0 : Hid (Below w.heap.size w w) := Below.refl _ w
  clear hb
  go_enter Tryd.func50, Tryd.ntmps50
  go_wp2_with fail
  go_loopw [3, 4, 5] (fun p _ _ wr => ∃ j : Nat, p = .int .i64 j ∧ j ≤ l.length ∧ Hid (Below w.heap.size w wr) ∧ Hid (badU l = j + badU (l.drop j))) (fun p _ _ _ => l.length - (intOf p).toNat)
  case atStart => exact ⟨0, rfl, Nat.zero_le _, HW0, by show _ = _; rw [List.drop_zero]; omega⟩
  case round =>
    obtain ⟨j, rfl, hj, HW, HP⟩ := hrel
    have hm := done_any a l cap j wr (HL.out.below HW.out) hc hj hs
    cases h : oneN (l.drop j) with
    | none =>
      have e1 : oneT (l.drop j) = (0, 0) := by unfold oneT; rw [h]; rfl
      rw [e1] at hm
      have HE : Hid (badU l = j) := by show _ = _; rw [HP.out, badU_none h]; rfl
      clear h e1
      go_wp2_with fail
      refine hm.mono ?_
      rintro e w1 ⟨rfl, b1⟩
      have HB1 : Hid (Below w.heap.size w w1) := HW.out.trans (b1.mono HW.out.size)
      clear hm b1
      go_wp2
      go_ret
      exact ⟨ret_i64 (by rw [HE.out]), HB1.out⟩
    | some p =>
      obtain ⟨r, n⟩ := p
      have e1 : oneT (l.drop j) = (r, n) := by unfold oneT; rw [h]; rfl
      rw [e1] at hm
      obtain ⟨h1, h2, h3, -⟩ := one_okX h
      rw [List.length_drop] at h1
      have HE : Hid (badU l = (j + n) + badU (l.drop (j + n))) := by show _ = _; rw [HP.out, badU_some h, List.drop_drop]; omega
      have hn0 : ¬ ((n : Int) = 0) := by omega
      clear h e1
      go_wp2_with fail
      refine hm.mono ?_
      rintro e w1 ⟨rfl, b1⟩
      have HB1 : Hid (Below w.heap.size w w1) := HW.out.trans (b1.mono HW.out.size)
      clear hm b1
      go_wp2
      go_roundw
      case rel => exact ⟨j + n, by go_num, by omega, HB1, HE⟩
      case measure => simp [intOf]; omega
end Go.Proofs.YtdgepnfgjgbkoaaDoor
/-
  The document's meaning of bytes: UTF-8 and US-ASCII.
-/
namespace Go.Proofs.YtdgepnfgjgbkoaaDoor
open Go.RowKit

theorem asc_le : ∀ (l : List UInt8), badN 13 l = l.length → ∀ k (h : k < l.length), (l[k]).toNat ≤ 127
  | [], _, k, h => by simp at h
  | c :: t, hb, k, h => by
    have key := u8_all (p := fun c => decide (isB 13 (c.toNat : Int) = true ↔ c.toNat ≤ 127)) (by decide +kernel) c
    have key := of_decide_eq_true key
    rw [badN] at hb
    by_cases h1 : isB 13 (c.toNat : Int) = true
    · rw [if_pos h1] at hb
      match k, h with
      | 0, _ => exact key.1 h1
      | k + 1, h => exact asc_le t (by simpa using hb) k (by simpa using h)
    · rw [if_neg h1] at hb
      simp at hb
theorem asc_of (l : List UInt8) (h : ∀ j (hj : j < l.length), (l[j]).toNat ≤ 127) : badN 13 l = l.length := by
  induction l with
  | nil => rfl
  | cons c t ih =>
    have key := u8_all (p := fun c => decide (isB 13 (c.toNat : Int) = true ↔ c.toNat ≤ 127)) (by decide +kernel) c
    have key := of_decide_eq_true key
    have h0 := h 0 (by simp)
    rw [badN, if_pos (key.2 h0), ih (fun j hj => h (j + 1) (by simpa using hj))]
    rfl
theorem nm_beq (l t : List UInt8) : ((⟨(vN l).toArray⟩ : ByteArray).toList == t) = decide (vN l = t) := by
  rw [ByteArray.toList_eq]
  show (vN l == t) = _
  rw [Bool.eq_iff_iff]
  simp
set_option maxRecDepth 100000 in
set_option maxHeartbeats 4000000 in
theorem vmean_utf (cs : ByteArray) (hcs : cs.size ≤ 4294967000) (hk : csNo (cutC 42 cs.data.toList).1 = 1) (a : Option Addr) (l : List UInt8) (cap n : Nat) (w : World) (hn : n = l.length) (hb : Bts a l w) (hc : l.length ≤ cap) (hl : l.length ≤ 1099511627776) :
    Calls Tryd.prog 32 #[.string cs, .slice a n cap] w fun e w' => e = .returned (.tuple #[.string ⟨l.toArray⟩, .bool (decide (badU l = n))]) ∧ Below w.heap.size w w' := by
  have HNM := vname_any cs hcs w
  have hm : ((⟨(vN cs.data.toList).toArray⟩ : ByteArray).toList == [117, 116, 102, 45, 56]) = true := by
    rw [nm_beq]
    exact decide_eq_true ((sn_no _).1.1 hk)
  generalize (⟨(vN cs.data.toList).toArray⟩ : ByteArray) = C at *
  have HL : Hid (Bts a l w) := hb
  have HN : Hid (n = l.length) := hn
  have HCA : Hid (∀ wx, Below w.heap.size w wx → Calls Tryd.prog 50 #[.slice a n cap] wx.drew fun e w' => e = .returned (.int .i64 (badU l)) ∧ Below wx.heap.size wx w') := fun wx h => by
    rw [hn]
    refine (dbad_any a l cap wx.drew (hb.below h.drew) hc (by omega)).mono ?_
    exact fun e w' h => ⟨h.1, (Below.refl _ wx).drew.trans h.2⟩
  have HCV : Hid (∀ wx, Below w.heap.size w wx → (convert 38 9 (.slice a n cap)).run Tryd.prog wx = .ok (.string ⟨l.toArray⟩) wx) := fun wx hx => by
    rw [hn]
    exact bts_back (hb.below hx) cap
  obtain ⟨y, hy⟩ : ∃ y, y = badU l := ⟨_, rfl⟩
  rw [← hy] at HCA ⊢
  rw [← hn] at hl
  clear hn hb hy
  go_enter Tryd.func32, Tryd.ntmps32
  go_wp2_with fail
  refine HNM.mono ?_
  rintro e w1 ⟨rfl, hb1⟩
  have HB1 : Hid (Below w.heap.size w w1) := hb1
  have hCA := HCA.out w1 hb1
  have HCV : Hid (∀ wx, Below w1.heap.size w1 wx → (convert 38 9 (.slice a n cap)).run Tryd.prog wx = .ok (.string ⟨l.toArray⟩) wx) := fun wx h => HCV.out wx (hb1.trans (h.mono hb1.size))
  clear HNM hb1 HCA
  go_wp2_with fail
  refine wp_region_late (fun wx => Below w1.heap.size w1 wx) 9 (by kernel_rfl) (Below.refl _ _).drew (fun hHeld => ?_)
  refine wpAnyE_tk (i := 0) (d := some 15) (v := .slice a n cap) rfl (by kernel_rfl) (by kernel_rfl) (by kernel_rfl) rfl (fun _ _ _ h => h) rfl rfl ?hy (by assumption) ?_
  case hy => (intro w' hSw; (try dsimp only at hSw); go_simp <;> (first | with_reducible rfl | omega | skip))
  simp only [Act.put, List.setIfInBounds_toArray, List.set_cons_zero, List.set_cons_succ]
  refine wpAnyE_tk (i := 2) (d := some 17) (v := .slice a n cap) rfl (by kernel_rfl) (by kernel_rfl) (by kernel_rfl) rfl (fun _ _ _ h => h) rfl rfl ?hy (by assumption) ?_
  case hy => (intro w' hSw; (try dsimp only at hSw); go_simp <;> (first | with_reducible rfl | omega | skip))
  simp only [Act.put, List.setIfInBounds_toArray, List.set_cons_zero, List.set_cons_succ]
  refine wpAnyE_tk (i := 4) (d := some 19) (v := .slice a n cap) rfl (by kernel_rfl) (by kernel_rfl) (by kernel_rfl) rfl (fun _ _ _ h => h) rfl rfl ?hy (by assumption) ?_
  case hy => (intro w' hSw; (try dsimp only at hSw); go_simp <;> (first | with_reducible rfl | omega | skip))
  simp only [Act.put, List.setIfInBounds_toArray, List.set_cons_zero, List.set_cons_succ]
  refine wpAnyE_tk (i := 1) (d := some 16) (v := .string ⟨l.toArray⟩) rfl (by kernel_rfl) (by kernel_rfl) (by kernel_rfl) rfl (fun _ _ _ h => h) rfl rfl ?hy (by assumption) ?_
  case hy => (intro w' hSw; have h := HCV.out w' hSw; go_simp)
  simp only [Act.put, List.setIfInBounds_toArray, List.set_cons_zero, List.set_cons_succ]
  refine wpAnyE_tk (i := 5) (d := some 20) (v := .int .i64 (n : Int)) rfl (by kernel_rfl) (by kernel_rfl) (by kernel_rfl) rfl (fun _ _ _ h => h) rfl rfl ?hy (by assumption) ?_
  case hy => (intro w' hSw; (try dsimp only at hSw); go_simp <;> (first | with_reducible rfl | omega | skip))
  simp only [Act.put, List.setIfInBounds_toArray, List.set_cons_zero, List.set_cons_succ]
  refine wpAnyE_on (i := 3) (by kernel_rfl) rfl rfl ?_
  go_simp
  refine hCA.mono ?_
  rintro e w2 ⟨rfl, hb2⟩
  refine ⟨hb2, ?_⟩
  have HB2 : Hid (Below w1.heap.size w1 w2) := hb2
  have hdq : ((y : Int) == (n : Int)) = decide (y = n) := by rw [Bool.eq_iff_iff]; simp; omega
  refine wpAnyE_tk (i := 6) (d := some 21) (v := .bool (decide (y = n))) rfl (by kernel_rfl) (by kernel_rfl) (by kernel_rfl) rfl (fun _ _ _ h => h) rfl rfl ?hy (by assumption) ?_
  case hy => (intro w' hSw; (try dsimp only at hSw); go_simp <;> (first | with_reducible rfl | omega | skip))
  simp only [Act.put, List.setIfInBounds_toArray, List.set_cons_zero, List.set_cons_succ]
  refine wpAnyE_tk (i := 7) (d := some 4) (v := .string ⟨l.toArray⟩) rfl (by kernel_rfl) (by kernel_rfl) (by kernel_rfl) rfl (fun _ _ _ h => h) rfl rfl ?hy (by assumption) ?_
  case hy => (intro w' hSw; (try dsimp only at hSw); go_simp <;> (first | with_reducible rfl | omega | skip))
  simp only [Act.put, List.setIfInBounds_toArray, List.set_cons_zero, List.set_cons_succ]
  refine wpAnyE_tk (i := 8) (d := some 5) (v := .bool (decide (y = n))) rfl (by kernel_rfl) (by kernel_rfl) (by kernel_rfl) rfl (fun _ _ _ h => h) rfl rfl ?hy (by assumption) ?_
  case hy => (intro w' hSw; (try dsimp only at hSw); go_simp <;> (first | with_reducible rfl | omega | skip))
  simp only [Act.put, List.setIfInBounds_toArray, List.set_cons_zero, List.set_cons_succ]
  refine wpAnyE_done (by kernel_rfl) ?_ _
  clear hHeld hdq
  go_wp2
  go_ret2
  exact ⟨rfl, HB1.out.trans (HB2.out.mono HB1.out.size)⟩
set_option maxRecDepth 100000 in
set_option maxHeartbeats 4000000 in
theorem vmean_asc (cs : ByteArray) (hcs : cs.size ≤ 4294967000) (hk : csNo (cutC 42 cs.data.toList).1 = 2) (a : Option Addr) (l : List UInt8) (cap n : Nat) (w : World) (hn : n = l.length) (hb : Bts a l w) (hl : l.length ≤ 1099511627776) :
    Calls Tryd.prog 32 #[.string cs, .slice a n cap] w fun e w' => (∃ (T : ByteArray) (b : Bool), e = .returned (.tuple #[.string T, .bool b]) ∧ csT 2 l = if b then some T.data.toList else none) ∧ Below w.heap.size w w' := by
  have HNM := vname_any cs hcs w
  have hm1 : ((⟨(vN cs.data.toList).toArray⟩ : ByteArray).toList == [117, 116, 102, 45, 56]) = false := by
    rw [nm_beq]
    exact decide_eq_false (fun h => by have := (sn_no _).1.2 h; omega)
  have hm2 : ((⟨(vN cs.data.toList).toArray⟩ : ByteArray).toList == [117, 115, 45, 97, 115, 99, 105, 105]) = true := by
    rw [nm_beq]
    exact decide_eq_true ((sn_no _).2.1.1 hk)
  generalize (⟨(vN cs.data.toList).toArray⟩ : ByteArray) = C at *
  have HL : Hid (Bts a l w) := hb
  have HN : Hid (n = l.length) := hn
  have HCV : Hid (∀ wx, Below w.heap.size w wx → (convert 38 9 (.slice a n cap)).run Tryd.prog wx = .ok (.string ⟨l.toArray⟩) wx) := fun wx hx => by
    rw [hn]
    exact bts_back (hb.below hx) cap
  clear hn hb
  go_enter Tryd.func32, Tryd.ntmps32
  go_wp2_with fail
  refine HNM.mono ?_
  rintro e w1 ⟨rfl, hb1⟩
  have HB1 : Hid (Below w.heap.size w w1) := hb1
  clear HNM hb1
  go_wp2_with fail
  go_loopw [26] (fun i wr => ∃ k : Nat, k ≤ n ∧ i = .int .i64 k ∧ Hid (Below w.heap.size w wr) ∧ Hid (∀ j, j < k → ∀ h : j < l.length, (l[j]).toNat ≤ 127)) (fun i _ => n - (intOf i).toNat)
  case atStart => exact ⟨0, Nat.zero_le _, rfl, HB1.out, fun j h => (by omega)⟩
  case round =>
    obtain ⟨k, hk9, rfl, HB, HA⟩ := hrel
    clear HB1
    by_cases hlt : k < n
    · have hkl : k < l.length := by rw [← HN.out]; exact hlt
      obtain ⟨g, o, rfl, hg, hc⟩ := HL.out.cell k hkl
      obtain ⟨c, hcc⟩ : ∃ c, c = l[k] := ⟨_, rfl⟩
      rw [← hcc] at hc
      have hc2 : wr.cell? ⟨g, o + k, none⟩ = some (.int .u8 (c.toNat : Int)) := (HB.out.cell (p := ⟨g, o + k, none⟩) hg).trans hc
      by_cases h1 : c.toNat ≤ 127
      · have HAA : Hid (∀ j, j < k + 1 → ∀ h : j < l.length, (l[j]).toNat ≤ 127) := fun j hj h => by
          rcases (by omega : j < k ∨ j = k) with h2 | rfl
          · exact HA.out j h2 h
          · rw [← hcc]; exact h1
        have h1i : ¬ 127 < (c.toNat : Int) := by omega
        clear hcc hc HA h1
        go_wp2_with fail
        go_roundw
        case rel => exact ⟨k + 1, by omega, by go_num, HB.out, HAA.out⟩
        case measure => simp [intOf]; omega
      · have h1i : 127 < (c.toNat : Int) := by omega
        have HR : Hid (csT 2 l = none) := by
          show csT 2 l = none
          have hne : badN 13 l ≠ l.length := fun h => by
            have := asc_le l h k hkl
            rw [← hcc] at this
            omega
          simp [csT, hne]
        clear hcc hc HA h1
        go_wp2_with fail
        refine bodyPost_ret (v := .tuple #[.string ⟨#[]⟩, .bool false]) (by simp [results, Tryd.results32, go_sem]) rfl ⟨⟨_, _, rfl, by rw [HR.out]; rfl⟩, HB.out⟩
    · obtain rfl : k = n := by omega
      have HR : Hid (csT 2 l = some l) := by
        show csT 2 l = some l
        have he : badN 13 l = l.length := asc_of l (fun j hj => HA.out j (by rw [HN.out]; exact hj) hj)
        simp [csT, he]
      have hcv := HCV.out wr HB.out
      clear HA hk9 hlt
      go_wp2_with fail
      refine bodyPost_ret (v := .tuple #[.string ⟨l.toArray⟩, .bool true]) (by simp [results, Tryd.results32, go_sem]) rfl ⟨⟨_, _, rfl, by rw [HR.out]; simp⟩, HB.out⟩
end Go.Proofs.YtdgepnfgjgbkoaaDoor
