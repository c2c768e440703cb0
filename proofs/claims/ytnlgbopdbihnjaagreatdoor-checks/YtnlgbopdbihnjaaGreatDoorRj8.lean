/-
  The document's joined.
-/
import Derived.Test.YtnlgbopdbihnjaaGreatDoorRd8
import Derived.Test.YtnlgbopdbihnjaaGreatDoorRa8
namespace Go.Proofs.YtnlgbopdbihnjaaGreatDoor
open Go.RowKit

theorem hexD_len (n : Nat) : (hexD n).length ≤ 17 := by
  have := digF_len 16 16 n
  rw [digF_hex] at this
  exact this
theorem rhex_any (n : Nat) (hn : n < 65536) (w : World) : Calls Tryz.prog 69 #[.int .i64 (n : Nat), .int .i64 16] w fun e w' => e = .returned (.string ⟨(hexD n).toArray⟩) ∧ Below w.heap.size w w' := by
  have := rdig_any 16 (by omega) (by omega) 16 n (by omega) (Nat.lt_of_lt_of_le hn (by decide)) (by omega) w
  rw [digF_hex] at this
  exact this
theorem join_short (sep : List UInt8) (m : Nat) (L : List (List UInt8)) (h : ∀ x ∈ L, x.length ≤ m) : (joinL sep L).length ≤ L.length * (m + sep.length) := by
  induction L with
  | nil => simp [joinL]
  | cons x L ih =>
    cases L with
    | nil =>
      have := h x (by simp)
      simp [joinL]
      omega
    | cons y r =>
      have h1 := h x (by simp)
      have h2 := ih fun z hz => h z (by simp [hz])
      rw [joinL, List.length_append, List.length_append]
      rw [List.length_cons, Nat.add_mul]
      omega
set_option maxHeartbeats 4000000 in
set_option maxRecDepth 100000 in
theorem rjoin_any (a : Option Addr) (l : List Nat) (cap : Nat) (w : World) (hn : Nts .i64 a (natI l) w) (hl : l.length ≤ 8) (hx : ∀ x ∈ l, x < 65536) (hc : l.length ≤ cap) :
    Calls Tryz.prog 70 #[.slice a l.length cap] w fun e w' => e = .returned (.string ⟨(joinL [58] (l.map hexD)).toArray⟩) ∧ Below w.heap.size w w' := by
  have HL : Hid (Nts .i64 a (natI l) w) := hn
  have HX : Hid (∀ x ∈ l, x < 65536) := hx
  clear hn hx
  go_enter Tryz.func70, Tryz.ntmps70
  go_wp2_with fail
  go_loopw [3, 8] (fun u c wr => ∃ i : Nat, i ≤ l.length ∧ c = .int .i64 i ∧ Hid (Below w.heap.size w wr) ∧ Hid (wr.ownsRow w.heap.size 9 1 u i (cellsS ((l.take i).map hexD)))) (fun _ c _ => l.length - (intOf c).toNat)
  case atStart => exact ⟨0, by omega, rfl, Below.refl _ _, ⟨rfl, .inl ⟨rfl, rfl⟩⟩⟩
  case round =>
    obtain ⟨i, hi, rfl, HB, HO⟩ := hrel
    by_cases hlt : i < l.length
    · have hlt' : (i : Int) < (l.length : Int) := by omega
      have hi0 : (0 : Int) ≤ (i : Int) := by omega
      obtain ⟨g, o, rfl, hg, hcell⟩ := (HL.out.below HB.out).cell i (by rw [natI_length]; exact hlt)
      have hv : (natI l)[i]'(by rw [natI_length]; exact hlt) = (l[i] : Int) := by simp [natI]
      rw [hv] at hcell
      have hx1 := HX.out _ (List.getElem_mem hlt)
      have HTK : Hid ((l.take (i + 1)).map hexD = (l.take i).map hexD ++ [hexD l[i]]) := by
        show _ = _
        rw [List.take_succ_eq_append_getElem hlt, List.map_append]
        rfl
      generalize l[i] = x at hcell hx1 HTK
      have HD := rhex_any x hx1
      generalize hexD x = y at HTK HD
      clear hv
      go_wp2_with fail
      refine (HD _).mono ?_
      rintro e w3 ⟨rfl, b3⟩
      have HB3 : Hid (Below w.heap.size w w3) := HB.out.trans (b3.mono HB.out.size)
      have HO3 : Hid (w3.ownsRow w.heap.size 9 1 u3 i (cellsS ((l.take i).map hexD))) := ownN_below HO.out b3
      have hzw := HB3.out.size
      clear b3 HB HO HD
      go_wp2_with (at_builtin; refine wpList_append_str rfl _ _ rfl w.heap.size _ i ((l.take i).map hexD) rfl (ownN_below HO3.out ((Below.refl _ _).alloc (Nat.le_refl _) _)) w3.heap.size y 1 rfl (by simp) (by omega) (by simp; omega) ?_)
      intro v4 w4 hown4 hgrow4
      have hg4 := grown_on (World.grownBy_alloc w3 _ (u3 : Value).ownBlock) hgrow4 (fun _ h => .inl h.symm)
      have HB9 : Hid (Below w.heap.size w w4) := HB3.out.grown hg4 HB3.out.size (fun q hq => (HO3.out.lt q hq).1)
      have HO9 : Hid (w4.ownsRow w.heap.size 9 1 v4 (i + 1) (cellsS ((l.take (i + 1)).map hexD))) := by
        show World.ownsRow _ _ _ _ _ _ _
        rw [HTK.out, List.map_take]
        exact hown4
      clear hown4 hgrow4 hg4 HO3 HB3
      go_wp2
      go_roundw
      case rel => exact ⟨i + 1, by omega, by go_num, HB9, HO9⟩
      case measure => simp [intOf]; omega
    · obtain rfl : i = l.length := by omega
      have hlt' : ¬ (l.length : Int) < (l.length : Int) := by omega
      have HJ : Hid (Calls Tryz.prog 50 #[u3, .string ⟨#[58]⟩] wr fun e w' => e = .returned (.string ⟨(joinL [58] (l.map hexD)).toArray⟩) ∧ Below wr.heap.size wr w') := by
        have ho := HO.out
        rw [List.take_of_length_le (Nat.le_refl _)] at ho
        by_cases hnil : l = []
        · subst hnil
          obtain ⟨_, h2⟩ := ho
          obtain ⟨a', c', rfl⟩ : ∃ a' c', u3 = .slice a' 0 c' := by
            rcases h2 with ⟨h, _⟩ | ⟨g, c, cur, h, _⟩
            · exact ⟨_, _, h⟩
            · exact ⟨_, _, h⟩
          exact (Tryz.strings_Join_none a' c' ⟨#[58]⟩ wr).mono fun e w' h => ⟨h.1, by rw [h.2]; exact Below.refl _ _⟩
        · have hlen := join_short [58] 17 (l.map hexD) fun x hx => by
            obtain ⟨y, _, rfl⟩ := List.mem_map.1 hx
            exact hexD_len y
          rw [List.length_map] at hlen
          have hlen2 : (joinL [58] (l.map hexD)).length ≤ 1000 := by
            have : l.length * (17 + ([58] : List UInt8).length) ≤ 8 * 18 := Nat.mul_le_mul hl (Nat.le_refl _)
            omega
          exact join_own ho (by simpa using hnil) ⟨#[58]⟩ (by rw [List.length_map]; omega) (Nat.le_trans hlen2 (by decide))
      obtain ⟨J, hJ⟩ : ∃ J, J = joinL [58] (l.map hexD) := ⟨_, rfl⟩
      rw [← hJ] at HJ
      have HE : Hid (J = joinL [58] (l.map hexD)) := hJ
      clear hJ
      clear HO
      go_wp2_with fail
      refine HJ.out.mono ?_
      rintro e w3 ⟨rfl, b3⟩
      have HB3 : Hid (Below w.heap.size w w3) := HB.out.trans (b3.mono HB.out.size)
      clear b3 HJ HB
      go_wp2_with fail
      go_ret
      exact ⟨by rw [← HE.out]; rfl, HB3.out⟩
end Go.Proofs.YtnlgbopdbihnjaaGreatDoor
