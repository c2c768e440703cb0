/-
  The contract of domain.asciiLabel.
-/
import Derived.Test.YtnlgbopdbihnjabGreatDoorNum
import Derived.Test.YtnlgbopdbihnjabGreatDoorDec
import Derived.Test.YtnlgbopdbihnjabGreatDoorPun
import Derived.Test.YtnlgbopdbihnjabGreatDoorWd8
import Derived.Test.YtnlgbopdbihnjabGreatDoorSame
namespace Go.Proofs.YtnlgbopdbihnjabGreatDoor
open Go.RowKit

theorem punL_len (l : List Int) : ∀ (rest : List Nat) (f : Nat → Int) (n : Int) (i h bias : Nat) (first : Bool) (d : List UInt8), punL l rest f n i h bias first = some d → d.length ≤ 11 * rest.length
  | [], _, _, _, _, _, _, d, e => by
    simp only [punL] at e
    injection e with e
    subst e
    exact Nat.zero_le _
  | a :: rest, f, n, i, h, bias, first, d, e => by
    simp only [punL] at e
    split at e
    · cases e
    · rename_i hov
      rw [Option.map_eq_some_iff] at e
      obtain ⟨d', e1, e2⟩ := e
      subst e2
      have h1 := punL_len l rest _ _ _ _ _ _ d' e1
      have h2 := digs_short (stp l f n i h a).toNat 0 bias 10 (by omega)
      rw [List.length_append, List.length_cons]
      omega
theorem punT_small (l : List Int) : (punT l).size ≤ 12 * l.length + 1 := by
  unfold punT
  split
  · exact Nat.zero_le _
  · cases hd : punD l with
    | none => exact Nat.zero_le _
    | some d =>
      have h1 := punL_len l _ _ _ _ _ _ _ d hd
      have h2 := ordW_length l
      have h3 := lowB_length l l.length
      show (punH l ++ d).toArray.size ≤ _
      rw [List.size_toArray, List.length_append]
      unfold punH
      rw [List.length_append]
      have h4 : (if lowB l l.length = [] then ([] : List UInt8) else [45]).length ≤ 1 := by split <;> simp
      omega
/-- What a label becomes on old wires. -/
def asciiL (l : List UInt8) : List UInt8 := if l.all (fun c => decide (c.toNat < 128)) = true then l else [120, 110, 45, 45] ++ (punT (decR l)).data.toList
theorem spB_all (f : UInt8 → Bool) : ∀ l : List UInt8, spB f l = l.length ↔ l.all f = true
  | [] => by simp [spB]
  | c :: r => by
    have := spB_all f r
    have hle := spB_le f r
    rw [spB, List.length_cons, List.all_cons, Bool.and_eq_true, ← this]
    by_cases h : f c = true
    · rw [if_pos h]
      simp [h]
    · rw [if_neg h]
      simp [h]
/-- All tables. -/
structure Tc (w : World) : Prop where
  tb : Tb w
  pow : PowTab w
  ml : ∃ m, w.cell? ⟨2, 0, none⟩ = some (.int .i64 m)
theorem Tc.below {w w' : World} (h : Tc w) (hb : Below w.heap.size w w') : Tc w' := by
  obtain ⟨m, hm⟩ := h.ml
  exact ⟨h.tb.below hb, h.pow.below hb, m, (hb.cell (p := ⟨2, 0, none⟩) (World.block_lt_of_cell? w _ hm)).trans hm⟩
theorem decE_two (l : List UInt8) : ∃ a b : Int, decE l = #[.int .i64 a, .int .i64 b] := by
  unfold decE
  split
  · exact ⟨_, _, rfl⟩
  · exact ⟨_, _, rfl⟩
theorem decR_len (l : List UInt8) : (decR l).length ≤ l.length := by
  unfold decR
  split
  · exact Nat.zero_le _
  · exact decL_length l
set_option maxHeartbeats 2000000 in
set_option maxRecDepth 100000 in
theorem al_any (s : ByteArray) (w : World) (hT : Tb w) (hs : s.size ≤ 1000) : Calls Tryz.prog 60 #[.string s] w fun e w' => e = .returned (.string ⟨(asciiL s.data.toList).toArray⟩) ∧ Below w.heap.size w w' := by
  have HBAD : Hid (Calls Tryz.prog 48 #[.int .i64 13, .string s] w fun e w' => e = .returned (.int .i64 (spB (fun c => decide (c.toNat < 128)) s.data.toList : Nat)) ∧ w' = w) := by
    have := bad_anyT 13 s w hT.cls (by unfold maxLen; omega)
    rw [badN_spB 13 (fun c => decide (c.toNat < 128)) (fun b => (ld_is b).2.2.2.2)] at this
    exact this
  have hiff := spB_all (fun c => decide (c.toNat < 128)) s.data.toList
  rw [len_list] at hiff
  have HF : Hid (Fst w) := hT.fst
  obtain ⟨n, hn⟩ : ∃ n, n = spB (fun c => decide (c.toNat < 128)) s.data.toList := ⟨_, rfl⟩
  rw [← hn] at HBAD hiff
  clear hn hT
  by_cases hall : n = s.size
  · have HV : Hid (asciiL s.data.toList = s.data.toList) := by
      show _ = _
      unfold asciiL
      rw [if_pos (hiff.1 hall)]
    have he : ((n : Int) == (s.size : Int)) = true := by rw [beq_iff_eq]; omega
    clear hall hiff
    go_enter Tryz.func60, Tryz.ntmps60
    go_wp2_with fail
    refine HBAD.out.mono ?_
    rintro e w1 ⟨rfl, rfl⟩
    go_wp2_with fail
    go_ret
    exact ⟨by rw [HV.out, Array.toArray_toList]; rfl, Below.refl _ _⟩
  · have HV : Hid (asciiL s.data.toList = [120, 110, 45, 45] ++ (punT (decR s.data.toList)).data.toList) := by
      show _ = _
      unfold asciiL
      rw [if_neg (fun h => hall (hiff.2 h))]
    have he : ((n : Int) == (s.size : Int)) = false := by rw [beq_eq_false_iff_ne]; omega
    obtain ⟨ea, eb, hE⟩ := decE_two s.data.toList
    have HD := dec_any s w HF.out (by omega)
    rw [hE] at HD
    have HDD : Hid (Calls Tryz.prog 76 #[.string s] w fun e w' => (∃ v, e = .returned (.tuple #[v, .agg #[.int .i64 ea, .int .i64 eb]]) ∧ w'.ownsRow w.heap.size 21 1 v (decR s.data.toList).length (cellsN .i32 (decR s.data.toList))) ∧ Below w.heap.size w w') := HD
    have hdl := decR_len s.data.toList
    rw [len_list] at hdl
    have hps := punT_small (decR s.data.toList)
    generalize decR s.data.toList = l at HV HDD hdl hps
    have HF2 : Hid ((⟨(asciiL s.data.toList).toArray⟩ : ByteArray) = ⟨#[120, 110, 45, 45]⟩ ++ punT l) := by
      show _ = _
      rw [HV.out, show (⟨#[120, 110, 45, 45]⟩ : ByteArray) = ⟨([120, 110, 45, 45] : List UInt8).toArray⟩ from rfl]
      conv => rhs; rw [show punT l = ⟨(punT l).data.toList.toArray⟩ from by rw [Array.toArray_toList]]
      rw [str_append]
    have ad1 : ∀ W, (Op.stringOp .add ⟨#[120, 110, 45, 45]⟩ (punT l)).run Tryz.prog W = .ok (.string (⟨#[120, 110, 45, 45]⟩ ++ punT l)) W := fun W => run_string_add_sum _ _ _ (by show 4 + (punT l).size ≤ _; omega)
    clear hall hiff HD hE HV
    go_enter Tryz.func60, Tryz.ntmps60
    go_wp2_with fail
    refine HBAD.out.mono ?_
    rintro e w1 ⟨rfl, rfl⟩
    go_wp2_with fail
    refine HDD.out.mono ?_
    rintro e w2 ⟨⟨v, rfl, ho⟩, hb2⟩
    obtain ⟨a, cap, rfl, hnt, -⟩ := own_nts ho
    have HN : Hid (Nts .i32 a l (w2.alloc (.cells #[.int .i64 ea, .int .i64 eb] 26))) := hnt.below ((Below.refl _ _).alloc (Nat.le_refl _) _)
    have HB2 : Hid (Below w1.heap.size w1 (w2.alloc (.cells #[.int .i64 ea, .int .i64 eb] 26))) := hb2.alloc hb2.size _
    clear ho hnt hb2 HDD HBAD
    go_upto_region 4 with fail
    generalize w2.alloc (.cells #[.int .i64 ea, .int .i64 eb] 26) = w3 at HN HB2 ⊢
    go_wp2_with fail
    refine (puny_any a l cap w3 HN.out (by omega)).mono ?_
    rintro e w4 ⟨rfl, hb4⟩
    have HB4 : Hid (Below w1.heap.size w1 w4) := HB2.out.trans (hb4.mono HB2.out.size)
    clear hb4
    go_wp2_with fail
    go_ret
    exact ⟨by rw [HF2.out]; rfl, HB4.out⟩
end Go.Proofs.YtnlgbopdbihnjabGreatDoor
/-
  The contract of domain.small: for every text it answers the text in small letters, in new memory, and nothing old has turned.
-/
namespace Go.Proofs.YtnlgbopdbihnjabGreatDoor
open Go.RowKit

def smS (s : ByteArray) : ByteArray := ⟨(sml s.data.toList).toArray⟩
theorem smB_no (b : UInt8) (h : ¬ (65 ≤ b.toNat ∧ b.toNat ≤ 90)) : smB b = b := if_neg h
theorem smB_yes (b : UInt8) (h1 : 65 ≤ b.toNat) (h2 : b.toNat ≤ 90) : (smB b).toNat = b.toNat + 32 := by
  unfold smB
  rw [if_pos ⟨h1, h2⟩]
  simp
  omega
/-- The first k bytes in small letters, the others as they are: the byte at j. -/
def smAt (l : List UInt8) (k j : Nat) : UInt8 := if j < k then smB (l.getD j 0) else l.getD j 0
theorem smAt_zero (l : List UInt8) (j : Nat) : smAt l 0 j = l.getD j 0 := by simp [smAt]
theorem smAt_self (l : List UInt8) (k : Nat) : smAt l k k = l.getD k 0 := by simp [smAt]
theorem smAt_step (l : List UInt8) (k : Nat) : smAt l (k + 1) k = smB (l.getD k 0) := by simp [smAt]
theorem smAt_other (l : List UInt8) (k j : Nat) (h : j ≠ k) : smAt l (k + 1) j = smAt l k j := by
  unfold smAt
  by_cases h1 : j < k
  · rw [if_pos h1, if_pos (by omega)]
  · rw [if_neg h1, if_neg (by omega)]
theorem smAt_all (l : List UInt8) (n j : Nat) (hn : n = l.length) (h : j < (sml l).length) : smAt l n j = (sml l)[j] := by
  have h' : j < l.length := by simpa [sml] using h
  subst hn
  simp [smAt, sml, h', List.getD_eq_getElem?_getD]
/-- The bytes in the new row, when k of them are done. -/
structure SmRel (s : ByteArray) (B : Nat) (w : World) (k : Nat) (wr : World) : Prop where
  cell : ∀ j, j < s.size → wr.cell? ⟨B, j, none⟩ = some (.int .u8 ((smAt s.data.toList k j).toNat : Int))
  free : ∀ j, j < s.size → wr.frozen? ⟨B, j, none⟩ = false
  below : Below B w wr

theorem SmRel.same {s : ByteArray} {B : Nat} {w wr : World} {k : Nat} (h : SmRel s B w k wr) (hn : ¬ (65 ≤ (s.data.toList.getD k 0).toNat ∧ (s.data.toList.getD k 0).toNat ≤ 90)) : SmRel s B w (k + 1) wr := by
  refine ⟨fun j hj => ?_, h.free, h.below⟩
  rw [h.cell j hj]
  by_cases e : j = k
  · subst e
    rw [smAt_self, smAt_step, smB_no _ hn]
  · rw [smAt_other _ _ _ e]

theorem SmRel.put {s : ByteArray} {B : Nat} {w wr : World} {k : Nat} (h : SmRel s B w k wr) (hk : k < s.size) (h1 : 65 ≤ (s.data.toList.getD k 0).toNat) (h2 : (s.data.toList.getD k 0).toNat ≤ 90) :
    SmRel s B w (k + 1) (wr.setCell ⟨B, k, none⟩ (.int .u8 (((s.data.toList.getD k 0).toNat : Int) - 65 + 97))) := by
  refine ⟨fun j hj => ?_, fun j hj => ?_, h.below.setCell (Nat.le_refl _) _⟩
  · by_cases e : j = k
    · subst e
      rw [World.cell?_setCell_same _ _ _ (h.cell j hj), smAt_step, smB_yes _ h1 h2]
      congr 2
      omega
    · rw [World.cell?_setCell_other _ _ _ _ (by intro h'; injection h' with _ h'; omega), h.cell j hj, smAt_other _ _ _ e]
  · rw [World.frozen?_setCell]
    exact h.free j hj

theorem SmRel.start (s : ByteArray) (w : World) (cap : Nat) (n : Nat) (hn : n = (bytesRow s cap).size) : SmRel s w.heap.size w 0 (w.alloc (.cells (bytesRow s cap) 5 (n, n + 1))).drew := by
  refine ⟨fun j hj => ?_, fun j hj => ?_, ((Below.refl _ _).alloc (Nat.le_refl _) _).drew⟩
  · have := World.cell?_alloc_mark w (bytesRow s cap) 5 (n, n + 1) j
    rw [bytesRow_at s cap j hj] at this
    rw [smAt_zero]
    refine Eq.trans this ?_
    rw [List.getD_eq_getElem?_getD, Array.getElem?_toList, Array.getElem?_eq_getElem hj, Option.getD_some]
  · have := World.frozen?_alloc_mark w (bytesRow s cap) 5 n (n + 1) j
    refine Eq.trans this ?_
    have h2 := bytes_lt s cap
    have h3 : s.size = s.data.size := rfl
    rw [decide_eq_false (by omega), Bool.false_and]

theorem SmRel.back {s : ByteArray} {B : Nat} {w wr : World} (h : SmRel s B w s.size wr) (cap : Nat) :
    (convert 77 9 (.slice (some ⟨B, 0, none⟩) s.size cap)).run Tryz.prog wr = .ok (.string (smS s)) wr := by
  have hl : (sml s.data.toList).length = s.size := by rw [sml, List.length_map, Array.length_toList]; rfl
  have := run_convert_bytes_back (P := Tryz.prog) wr 77 9 5 ⟨B, 0, none⟩ cap (sml s.data.toList) Tryz.underlying77 Tryz.underlying5 Tryz.underlying9 (fun j hj => by
    have hj' : j < s.size := by omega
    have he : (⟨B, 0, none⟩ : Addr).add j = ⟨B, j, none⟩ := by rw [Addr.add_lit, Nat.zero_add]
    rw [he, h.cell j hj']
    rw [smAt_all s.data.toList s.size j (by rw [Array.length_toList]; rfl) hj])
  rw [hl] at this
  exact this

set_option maxRecDepth 100000 in
set_option maxHeartbeats 400000 in
theorem small_any (s : ByteArray) (w : World) (hs : s.size ≤ maxLen) :
    Calls Tryz.prog 40 #[.string s] w fun e w' => e = .returned (.string (smS s)) ∧ Below w.heap.size w w' := by
  unfold maxLen at hs
  have hconv := run_bytes_of_string (P := Tryz.prog) w 9 77 5 s Tryz.underlying9 Tryz.underlying77 Tryz.underlying5
  obtain ⟨cap, hcap⟩ : ∃ c, c = grownCap w s.size 0 5 := ⟨_, rfl⟩
  rw [← hcap] at hconv
  obtain ⟨n, hn⟩ : ∃ n, n = (bytesRow s cap).size := ⟨_, rfl⟩
  rw [← hn] at hconv
  have HR : Hid (SmRel s w.heap.size w 0 (w.alloc (.cells (bytesRow s cap) 5 (n, n + 1))).drew) := SmRel.start s w cap n hn
  clear hcap hn
  go_enter Tryz.func40, Tryz.ntmps40
  go_wp2
  go_loopw [10] (fun i wr => ∃ k : Nat, k ≤ s.size ∧ i = .int .i64 k ∧ Hid (SmRel s w.heap.size w k wr)) (fun i _ => s.size - (intOf i).toNat)
  case atStart => exact ⟨0, Nat.zero_le _, rfl, HR⟩
  case round =>
    obtain ⟨k, hk, rfl, HK⟩ := hrel
    by_cases hlt : k < s.size
    · have hc := HK.out.cell k hlt
      have hf := HK.out.free k hlt
      rw [smAt_self] at hc
      obtain ⟨x, hx⟩ : ∃ x : UInt8, x = s.data.toList.getD k 0 := ⟨_, rfl⟩
      rw [← hx] at hc
      have HX : Hid (x = s.data.toList.getD k 0) := hx
      clear hx
      have hx1 : x.toNat < 256 := x.toNat_lt
      by_cases h1 : 65 ≤ x.toNat
      · by_cases h2 : x.toNat ≤ 90
        · have HN : Hid (SmRel s w.heap.size w (k + 1) (wr.setCell ⟨w.heap.size, k, none⟩ (.int .u8 ((x.toNat : Int) - 65 + 97)))) := by
            have := HK.out.put hlt (by rw [← HX.out]; exact h1) (by rw [← HX.out]; exact h2)
            rw [← HX.out] at this
            exact this
          clear HK
          go_wp2
          go_roundw
          case rel => exact ⟨k + 1, by omega, by go_num, HN⟩
          case measure => simp [intOf]; omega
        · have HN : Hid (SmRel s w.heap.size w (k + 1) wr) := HK.out.same (by rw [← HX.out]; omega)
          clear HK
          go_wp2
          go_roundw
          case rel => exact ⟨k + 1, by omega, by go_num, HN⟩
          case measure => simp [intOf]; omega
      · have HN : Hid (SmRel s w.heap.size w (k + 1) wr) := HK.out.same (by rw [← HX.out]; omega)
        clear HK
        go_wp2
        go_roundw
        case rel => exact ⟨k + 1, by omega, by go_num, HN⟩
        case measure => simp [intOf]; omega
    · have he : k = s.size := by omega
      subst he
      have hback := HK.out.back cap
      have HB : Hid (Below w.heap.size w wr) := HK.out.below
      clear HK
      go_wp2
      go_ret
      exact ⟨rfl, HB.out⟩
end Go.Proofs.YtnlgbopdbihnjabGreatDoor
