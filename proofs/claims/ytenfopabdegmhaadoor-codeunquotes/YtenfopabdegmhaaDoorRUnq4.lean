/-
  The contracts of the document's goes and Unquote.
-/
import Derived.Test.YtenfopabdegmhaaDoorRRow4
import Derived.Test.YtenfopabdegmhaaDoorUqs
namespace Go.Proofs.YtenfopabdegmhaaDoor
open Go.RowKit

theorem goes_val (l : List UInt8) (h : ∀ c, l.getLast? = some c → c ≠ 13) : goesB l = (rowK l || rowK (l ++ [48])) := by
  unfold rowK
  rw [goes_two]
  unfold goesB
  cases hl : l.getLast? with
  | none => simp
  | some c => simp [h c hl]
theorem goes_val13 (l : List UInt8) (h : l.getLast? = some 13) : goesB l = ((rowK l || rowK (l ++ [48])) || rowK l.dropLast) := by
  unfold rowK
  rw [goes_two]
  unfold goesB
  rw [h]
  simp

set_option maxHeartbeats 4000000 in
set_option maxRecDepth 100000 in
theorem goes_any (s : ByteArray) (w : World) (hs : s.size ≤ 140737488355328) :
    Calls Tryd.prog 20 #[.string s] w fun e w' => e = .returned (.bool (goesB s.data.toList)) ∧ Below w.heap.size w w' := by
  have HL : Hid (s.data.toList.length = s.size) := len_list s
  have HR : Hid (∀ (t : ByteArray) (wx : World), t.size ≤ 9223372036854775807 → Calls Tryd.prog 19 #[.string t] wx fun e w' => ∃ v, e = .returned (.tuple #[v, .bool (rowS t.data.toList), .bool (rowK t.data.toList)]) ∧ Below wx.heap.size wx w') := fun t wx ht => by
    refine (rrow_any t wx ht).mono ?_
    rintro e w' ⟨v, rfl, _, hb⟩
    exact ⟨v, rfl, hb⟩
  have hcat : (s ++ (⟨#[48]⟩ : ByteArray)).data.toList = s.data.toList ++ [48] := by simp
  have HCS : Hid ((s ++ (⟨#[48]⟩ : ByteArray)).size ≤ 9223372036854775807) := by
    show _ ≤ _
    rw [← len_list, hcat, List.length_append, HL.out]
    simp
    omega
  have HR1 := HR.out s
  have HR2 := HR.out (s ++ (⟨#[48]⟩ : ByteArray))
  rw [hcat] at HR2
  have HR1' : Hid _ := HR1
  have HR2' : Hid _ := HR2
  clear HR1 HR2 hcat
  have n6 : ¬ 9223372036854775807 < s.size + 1 := by omega
  by_cases h13 : ∃ h : 0 < s.size, (s[s.size - 1]'(by omega)).toNat = 13
  · obtain ⟨h0, h13⟩ := h13
    have hv := goes_val13 s.data.toList (by
      rw [List.getLast?_eq_getElem?, HL.out, List.getElem?_eq_getElem (by rw [HL.out]; omega)]
      exact congrArg some (UInt8.toNat_inj.1 h13))
    have hdl : (s.extract 0 (s.size - 1)).data.toList = s.data.toList.dropLast := by
      rw [ext_list, List.drop_zero, List.dropLast_eq_take, HL.out]
    have HR3 := HR.out (s.extract 0 (s.size - 1))
    rw [hdl] at HR3
    have HX : Hid ((s.extract 0 (s.size - 1)).size ≤ 9223372036854775807) := by
      show _ ≤ _
      rw [ByteArray.size_extract]
      omega
    rw [hv]
    generalize rowK s.data.toList = K1 at HR1'
    generalize rowK (s.data.toList ++ [48]) = K2 at HR2'
    generalize rowK s.data.toList.dropLast = K3 at HR3
    obtain ⟨m, hm⟩ : ∃ m, s.size = m + 1 := ⟨s.size - 1, by omega⟩
    have hlt : m < s.size := by omega
    have h13' : (s[m]'hlt).toNat = 13 := by
      have : (s[s.size - 1]'(by omega)).toNat = (s[m]'hlt).toNat := by congr 2; omega
      rw [← this]
      exact h13
    have HR3' : Hid (∀ wx : World, Calls Tryd.prog 19 #[.string (s.extract 0 m)] wx fun e w' => ∃ v, e = .returned (.tuple #[v, .bool (rowS s.data.toList.dropLast), .bool K3]) ∧ Below wx.heap.size wx w') := fun wx => by
      have := HR3 wx HX.out
      rw [show s.size - 1 = m by omega] at this
      exact this
    have HS1 : Hid (s.size ≤ 9223372036854775807) := by show _ ≤ _; omega
    clear hv hdl HR3 HX HR HL h13 h0
    go_enter Tryd.func20, Tryd.ntmps20
    go_wp2_with fail
    refine Calls.mono (HR1'.out _ HS1.out) ?_
    rintro e w1 ⟨v1, rfl, hb1⟩
    have HB1 : Hid (Below w.heap.size w w1) := hb1
    clear hb1
    go_wp2_with fail
    refine Calls.mono (HR2'.out _ HCS.out) ?_
    rintro e w2 ⟨v2, rfl, hb2⟩
    have HB2 : Hid (Below w.heap.size w w2) := HB1.out.trans (hb2.mono HB1.out.size)
    clear hb2 HB1
    go_wp2_with fail
    refine Calls.mono (HR3'.out _) ?_
    rintro e w3 ⟨v3, rfl, hb3⟩
    have HB3 : Hid (Below w.heap.size w w3) := HB2.out.trans (hb3.mono HB2.out.size)
    clear hb3 HB2
    cases K1
    · cases K2
      · go_wp2
        go_ret
        exact ⟨rfl, HB3.out⟩
      · go_wp2
        go_ret
        exact ⟨rfl, HB3.out⟩
    · go_wp2
      go_ret
      exact ⟨by simp, HB3.out⟩
  · have hv := goes_val s.data.toList (fun c hc e => by
      rw [List.getLast?_eq_getElem?, HL.out] at hc
      obtain ⟨hlt, hcc⟩ := List.getElem?_eq_some_iff.1 hc
      rw [HL.out] at hlt
      refine h13 ⟨by omega, ?_⟩
      have : s[s.size - 1] = c := hcc
      rw [this, e]
      rfl)
    rw [hv]
    generalize rowK s.data.toList = K1 at HR1'
    generalize rowK (s.data.toList ++ [48]) = K2 at HR2'
    have HS1 : Hid (s.size ≤ 9223372036854775807) := by show _ ≤ _; omega
    have hz : s.size = 0 ∨ ∃ (m : Nat) (hlt : m < s.size), s.size = m + 1 ∧ (((s[m]'hlt).toNat : Int) == 13) = false := by
      rcases Nat.eq_zero_or_pos s.size with h | h
      · exact .inl h
      · refine .inr ⟨s.size - 1, by omega, by omega, ?_⟩
        have : ¬ (s[s.size - 1]'(by omega)).toNat = 13 := fun e => h13 ⟨h, e⟩
        simp
        omega
    clear hv HR HL h13
    rcases hz with hz | ⟨m, hlt, hm, hz⟩
    all_goals
      go_enter Tryd.func20, Tryd.ntmps20
      go_wp2_with fail
      refine Calls.mono (HR1'.out _ HS1.out) ?_
      rintro e w1 ⟨v1, rfl, hb1⟩
      have HB1 : Hid (Below w.heap.size w w1) := hb1
      clear hb1
      go_wp2_with fail
      refine Calls.mono (HR2'.out _ HCS.out) ?_
      rintro e w2 ⟨v2, rfl, hb2⟩
      have HB2 : Hid (Below w.heap.size w w2) := HB1.out.trans (hb2.mono HB1.out.size)
      clear hb2 HB1
      cases K1
      · cases K2
        · go_wp2
          go_ret
          exact ⟨rfl, HB2.out⟩
        · go_wp2
          go_ret
          exact ⟨rfl, HB2.out⟩
      · go_wp2
        go_ret
        exact ⟨by simp, HB2.out⟩
end Go.Proofs.YtenfopabdegmhaaDoor
