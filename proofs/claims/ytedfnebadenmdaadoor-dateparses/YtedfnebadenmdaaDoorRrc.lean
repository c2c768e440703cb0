/-
  The document's reader of dates: capitals, name.
-/
import Derived.Test.YtedfnebadenmdaaDoorRrn
import Derived.Test.YtedfnebadenmdaaDoorRwri
namespace Go.Proofs.YtedfnebadenmdaaDoor
open Go.RowKit

theorem UpRel.put32 {s : ByteArray} {B : Nat} {w wr : World} {k : Nat} (h : UpRel s B w k wr) (hk : k < s.size) (h1 : 97 ≤ (s.data.toList.getD k 0).toNat) (h2 : (s.data.toList.getD k 0).toNat ≤ 122) :
    UpRel s B w (k + 1) (wr.setCell ⟨B, k, none⟩ (.int .u8 (((s.data.toList.getD k 0).toNat : Int) - 32))) := by
  have := h.put hk h1 h2
  rw [show ((s.data.toList.getD k 0).toNat : Int) - 97 + 65 = ((s.data.toList.getD k 0).toNat : Int) - 32 by omega] at this
  exact this
set_option maxRecDepth 100000 in
set_option maxHeartbeats 1000000 in
theorem rcaps_any (s : ByteArray) (w : World) (hs : s.size ≤ maxLen) :
    Calls Tryd.prog 62 #[.string s] w fun e w' => e = .returned (.string (upS s)) ∧ Below w.heap.size w w' := by
  unfold maxLen at hs
  have hconv := run_bytes_of_string (P := Tryd.prog) w 9 82 5 s Tryd.underlying9 Tryd.underlying82 Tryd.underlying5
  obtain ⟨cap, hcap⟩ : ∃ c, c = grownCap w s.size 0 5 := ⟨_, rfl⟩
  rw [← hcap] at hconv
  obtain ⟨n, hn⟩ : ∃ n, n = (bytesRow s cap).size := ⟨_, rfl⟩
  rw [← hn] at hconv
  have HR : Hid (UpRel s w.heap.size w 0 (w.alloc (.cells (bytesRow s cap) 5 (n, n + 1))).drew) := UpRel.start s w cap n hn
  clear hcap hn
  go_enter Tryd.func62, Tryd.ntmps62
  go_wp2
  go_loopw [4] (fun i wr => ∃ k : Nat, k ≤ s.size ∧ i = .int .i64 k ∧ Hid (UpRel s w.heap.size w k wr)) (fun i _ => s.size - (intOf i).toNat)
  case atStart => exact ⟨0, Nat.zero_le _, rfl, HR⟩
  case round =>
    obtain ⟨k, hk, rfl, HK⟩ := hrel
    by_cases hlt : k < s.size
    · have hc := HK.out.cell k hlt
      have hf := HK.out.free k hlt
      rw [upAt_self] at hc
      obtain ⟨x, hx⟩ : ∃ x : UInt8, x = s.data.toList.getD k 0 := ⟨_, rfl⟩
      rw [← hx] at hc
      have HX : Hid (x = s.data.toList.getD k 0) := hx
      clear hx
      have hx1 : x.toNat < 256 := x.toNat_lt
      by_cases h1 : 97 ≤ x.toNat
      · by_cases h2 : x.toNat ≤ 122
        · have HN : Hid (UpRel s w.heap.size w (k + 1) (wr.setCell ⟨w.heap.size, k, none⟩ (.int .u8 ((x.toNat : Int) - 32)))) := by
            have := HK.out.put32 hlt (by rw [← HX.out]; exact h1) (by rw [← HX.out]; exact h2)
            rw [← HX.out] at this
            exact this
          clear HK
          go_wp2
          go_roundw
          case rel => exact ⟨k + 1, by omega, by go_num, HN⟩
          case measure => simp [intOf]; omega
        · have HN : Hid (UpRel s w.heap.size w (k + 1) wr) := HK.out.same (by rw [← HX.out]; omega)
          clear HK
          go_wp2
          go_roundw
          case rel => exact ⟨k + 1, by omega, by go_num, HN⟩
          case measure => simp [intOf]; omega
      · have HN : Hid (UpRel s w.heap.size w (k + 1) wr) := HK.out.same (by rw [← HX.out]; omega)
        clear HK
        go_wp2
        go_roundw
        case rel => exact ⟨k + 1, by omega, by go_num, HN⟩
        case measure => simp [intOf]; omega
    · have he : k = s.size := by omega
      subst he
      have hback := HK.out.back cap
      have HB : Hid (Below w.heap.size w wr) := HK.out.below
      clear HK
      go_wp2
      go_ret
      exact ⟨rfl, HB.out⟩
/-- A row of names in capitals. -/
structure Ums (b : ByteArray) (ns : List (List UInt8)) : Prop where
  size : b.size = 3 * ns.length
  few : ns.length ≤ 12
  up : ∀ i, (h : i < ns.length) → (nmS b i).data.toList = ns[i]
theorem ums_wd : Ums wdU wdL := ⟨by decide, by decide, by decide +kernel⟩
theorem ums_mo : Ums moU moL := ⟨by decide, by decide, by decide +kernel⟩
theorem beq_list (a b : ByteArray) (x y : List UInt8) (ha : a.data.toList = x) (hb : b.data.toList = y) : (a.toList == b.toList) = decide (x = y) := by
  rw [ByteArray.toList_eq, ByteArray.toList_eq, ha, hb, Bool.eq_iff_iff]
  simp only [beq_iff_eq, decide_eq_true_eq]
theorem upS_list (q : ByteArray) : (upS q).data.toList = upL q.data.toList := rfl
set_option maxHeartbeats 2000000 in
theorem rname_rd (g : Nat) (s : ByteArray) (k : Nat) (e p : Int) (b : ByteArray) (ns : List (List UInt8)) (hb : Ums b ns) (w : World) (hr : Rd0 64 w g s k e p) (hs : s.size ≤ maxLen) :
    Calls Tryd.prog 42 #[.pointer (some ⟨g, 0, none⟩), .string b] w fun x w' => ∃ v k' e' p', x = .returned (.int .i64 v) ∧ -1 ≤ v ∧ v ≤ 11 ∧ Rd0 64 w' g s k' e' p' ∧ Step s.size (pName ns) (stOf s k e p) (stOf s k' e' p') v ∧ But g w w' := by
  obtain ⟨c0, c1, c2, c3⟩ := hr.cells
  have hk := hr.le
  have hm := bad_in 1 s k hk
  have hrow := rrow_rd g s k e p letS (by decide) w hr hs
  rw [rowN_let] at hrow
  unfold letS at hrow
  have HX : Hid ((s.extract k (k + badN 1 (s.data.toList.drop k))).data.toList = (s.data.toList.drop k).take (badN 1 (s.data.toList.drop k))) := ext_list s k _
  have hxs := ext_size s k _ hm
  clear hr
  unfold maxLen at hs
  obtain ⟨m, em⟩ : ∃ m, m = badN 1 (s.data.toList.drop k) := ⟨_, rfl⟩
  obtain ⟨q, eq⟩ : ∃ q, q = s.extract k (k + badN 1 (s.data.toList.drop k)) := ⟨_, rfl⟩
  rw [← em] at hm HX hxs eq
  rw [← em, ← eq] at hrow
  rw [← eq] at HX hxs
  have EM : Hid (m = badN 1 (s.data.toList.drop k)) := em
  have HNS : Hid (Ums b ns) := hb
  have hbs := hb.size
  have hbf := hb.few
  clear em eq hb
  go_enter Tryd.func42, Tryd.ntmps42
  go_wp2_with fail
  refine hrow.mono ?_
  rintro x w1 ⟨rfl, hr1, hb1⟩
  have HR1 : Hid (Rd0 64 w1 g s (k + m) e p) := hr1
  have HB1 : Hid (But g w w1) := hb1
  clear hr1 hb1 hrow c0 c1 c2 c3
  go_wp2_with fail
  refine (rcaps_any q w1 (by unfold maxLen; omega)).mono ?_
  rintro x w2 ⟨rfl, hb2⟩
  have HR2 : Hid (Rd0 64 w2 g s (k + m) e p) := HR1.out.below hb2
  have HB2 : Hid (But g w w2) := HB1.out.trans (But.of_below hb2)
  have HU : Hid ((upS q).data.toList = upL ((s.data.toList.drop k).take m)) := by show _ = _; rw [upS_list, HX.out]
  clear hb2 HR1 HB1
  generalize upS q = U at HU ⊢
  go_wp2
  go_loop [7] (fun i => ∃ j : Nat, j ≤ ns.length ∧ i = .int .i64 (j : Int) ∧ Hid (∀ i, (h : i < j) → (h2 : i < ns.length) → ns[i] ≠ upL ((s.data.toList.drop k).take m))) (fun i => ns.length - (intOf i).toNat)
  case atStart => exact ⟨0, Nat.zero_le _, rfl, fun i h => by omega⟩
  case round =>
    obtain ⟨j, hj, rfl, HJ⟩ := hrel
    by_cases hlt : j < ns.length
    · have t0 : (3 : Int) * (j : Int) < (b.size : Int) := by omega
      have t1 : (3 : Int) * (j : Int) ≤ 3 * (j : Int) + 3 := by omega
      have t2 : (3 : Int) * (j : Int) + 3 ≤ (b.size : Int) := by omega
      have HEX : b.extract (3 * (j : Int)).toNat (3 * (j : Int) + 3).toNat = nmS b j := by
        unfold nmS
        congr 1
      have ES : Hid (((nmS b j).toList == U.toList) = decide (ns[j] = upL ((s.data.toList.drop k).take m))) := beq_list _ _ _ _ (HNS.out.up j hlt) HU.out
      by_cases hq : ((nmS b j).toList == U.toList) = true
      · have hq2 : ns[j] = upL ((s.data.toList.drop k).take m) := by
          rw [ES.out] at hq
          exact of_decide_eq_true hq
        have HG : Hid (pName ns (s.data.toList.drop k) = .ok (j : Int) (s.data.toList.drop (k + m))) := by
          show _ = _
          unfold pName
          rw [← EM.out, nameAt_some ns _ j hlt hq2 (fun i hi => HJ.out i hi (by omega)), List.drop_drop]
        clear hq2
        go_wp2
        go_ret
        exact ⟨(j : Int), rfl, by omega, by omega, k + m, e, p, HR2.out, Step.go (fun _ => HG.out), HB2.out⟩
      · have hq' : ((nmS b j).toList == U.toList) = false := by simpa using hq
        have HN : Hid (∀ i, (h : i < j + 1) → (h2 : i < ns.length) → ns[i] ≠ upL ((s.data.toList.drop k).take m)) := by
          intro i hi h2
          by_cases e : i = j
          · subst e
            intro h
            rw [ES.out, decide_eq_true h] at hq'
            cases hq'
          · exact HJ.out i (by omega) h2
        clear hq
        go_wp2
        go_round
        case rel => exact ⟨j + 1, by omega, by go_num, HN⟩
        case measure => simp [intOf]; omega
    · have hje : j = ns.length := by omega
      have t0 : ¬ (3 : Int) * (j : Int) < (b.size : Int) := by omega
      have HG : Hid (pName ns (s.data.toList.drop k) = .bad 60 (s.data.toList.drop k)) := by
        show _ = _
        unfold pName
        rw [← EM.out, nameAt_none ns _ (fun i hi => HJ.out i (by omega) hi)]
      clear hje
      go_wp2_with fail
      refine (rfail_any g s _ e p 60 (k : Int) w2 HR2.out).mono ?_
      rintro x w3 ⟨rfl, hr3, hb3⟩
      have HE : Hid (Rd0 64 w3 g s (k + m) (if e = 0 then 60 else e) (if e = 0 then (k : Int) else p) ∧ But g w w3) := ⟨hr3, HB2.out.trans hb3⟩
      clear hr3 hb3
      go_wp2
      go_ret
      exact ⟨-1, _, _, _, rfl, by omega, by omega, HE.out.1, Step.fail (-1) hk (by decide) (fun _ => HG.out), HE.out.2⟩
end Go.Proofs.YtedfnebadenmdaaDoor
