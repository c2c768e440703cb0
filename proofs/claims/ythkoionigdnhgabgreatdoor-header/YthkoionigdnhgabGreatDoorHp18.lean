/-
  Rows of texts and of bytes; bytes.Cut at a line end.
-/
import Derived.Test.YthkoionigdnhgabGreatDoorPureUp
import Derived.Test.YthkoionigdnhgabGreatDoorRowl
import Derived.Test.YthkoionigdnhgabGreatDoorAdP
import Derived.Test.YthkoionigdnhgabGreatDoorShelf
import Derived.Lib.SlBytesConst
namespace Go.Proofs.YthkoionigdnhgabGreatDoor
open Go.RowKit

def hS (l : List UInt8) : ByteArray := ⟨l.toArray⟩
theorem hS_size (l : List UInt8) : (hS l).size = l.length := List.size_toArray ..
theorem u8vH {c n : UInt8} {m : Int} (h : c = n) (hm : m = (n.toNat : Int) := by rfl) : ((c.toNat : Int) == m) = true := by subst h hm; simp
theorem u8wH {c n : UInt8} {m : Int} (h : ¬ c = n) (hm : m = (n.toNat : Int) := by rfl) : ((c.toNat : Int) == m) = false := by
  subst hm
  rw [beq_eq_false_iff_ne]
  intro e
  exact h (UInt8.toNat_inj.1 (by exact_mod_cast e))
def numsH (l : List UInt8) : List Int := l.map fun c => (c.toNat : Int)
theorem bytes_numsH (l : List UInt8) : Lib.bytesOf (numsH l) = l := by
  unfold Lib.bytesOf numsH
  rw [List.map_map]
  conv => rhs; rw [← List.map_id l]
  apply List.map_congr_left
  intro c _
  simp
theorem nums_inH (l : List UInt8) : ∀ x ∈ numsH l, 0 ≤ x ∧ x < 256 := fun x hx => by
  unfold numsH at hx
  obtain ⟨c, _, rfl⟩ := List.mem_map.1 hx
  have := c.toNat_lt
  omega
theorem bytesIn_of {a : Option Addr} {l : List UInt8} {w : World} (h : Bts a l w) : Lib.BytesIn w a l.length (numsH l) := fun hn => by
  rcases h with rfl | ⟨g, o, e, _, hr⟩
  · simp at hn
  · refine ⟨g, o, e, fun i hi => ?_⟩
    rw [hr i hi]
    unfold numsH
    simp [List.getD, hi]
/-- Where a row begins that is cut at k. -/
def slH (a : Option Addr) (k cap : Nat) : Option Addr := if cap = k then a else a.map (·.add k)
theorem Bts.cutH {a : Option Addr} {l : List UInt8} {w : World} (h : Bts a l w) (p cap : Nat) (hc : l.length ≤ cap) : Bts (slH a p cap) (l.drop p) w := by
  unfold slH
  split
  · exact .inl (List.drop_eq_nil_of_le (by omega))
  · rcases h with rfl | ⟨g, o, rfl, hg, hr⟩
    · exact .inl (by simp)
    · refine .inr ⟨g, o + p, by simp [Addr.add], hg, fun j hj => ?_⟩
      rw [List.length_drop] at hj
      have := hr (p + j) (by omega)
      rw [Nat.add_assoc, this, List.getElem_drop]
theorem bcut_any (a : Option Addr) (l : List UInt8) (n c : Nat) (hn : n = l.length) (hc : n ≤ c) (hnn : a = none → c = 0) (g : Nat) (m : Int) (w : World) (hb : Bts a l w) (hg : Bts (some ⟨g, 0, none⟩) [13, 10] w) (hl : l.length < 4294967281) (hm : w.cell? ⟨0, 0, none⟩ = some (.int .i64 m)) :
    Calls Tryz.prog 28 #[.slice a n c, .slice (some ⟨g, 0, none⟩) 2 2] w fun e w' => ((e = .returned (.tuple #[.slice a n c, .slice none 0 0, .bool false]) ∧ noCL l) ∨ ∃ i : Nat, e = .returned (.tuple #[.slice a i c, .slice (slH a (i + 2) c) (n - (i + 2)) (c - (i + 2)), .bool true]) ∧ i + 2 ≤ n ∧ l = l.take i ++ 13 :: 10 :: l.drop (i + 2) ∧ noCL (l.take i ++ [13])) ∧ Below w.heap.size w w' := by
  subst hn
  have h2 := bytesIn_of hg
  have := Tryz.bytes_Cut_all a (some ⟨g, 0, none⟩) l.length c 2 2 (numsH l) (numsH [13, 10]) m w (by simp [numsH]) (by simp [numsH]) (nums_inH l) (nums_inH _) (bytesIn_of hb) h2 hnn hc hl (by decide) hm
  rw [bytes_numsH, bytes_numsH] at this
  refine this.mono ?_
  rintro e w' ⟨he, q, rfl⟩
  refine ⟨?_, ⟨rfl, rfl, rfl, Nat.le_refl _, fun _ _ => rfl⟩⟩
  subst he
  rcases index_crlf l with ⟨h1, h3⟩ | ⟨i, h1, h3, h4, h5⟩
  · refine .inl ⟨?_, h3⟩
    rw [h1]
    rfl
  · refine .inr ⟨i, ?_, h3, h4, h5⟩
    rw [h1]
    unfold Lib.cutV
    rw [if_pos (by omega)]
    unfold Lib.fromV slH
    rw [Int.toNat_natCast]
end Go.Proofs.YthkoionigdnhgabGreatDoor
/-
  The program's isLineOf and Hops.
-/
namespace Go.Proofs.YthkoionigdnhgabGreatDoor
open Go.RowKit

def nmRcv : ByteArray := ⟨#[82, 101, 99, 101, 105, 118, 101, 100]⟩
/-- Is it a line of the name Received? -/
def rcvH (l : List UInt8) : Bool := decide (8 < l.length) && (l[8]? == some 58 && sameB (hS (l.take 8)) nmRcv)
def hopsH (l : List UInt8) : Nat := hopsB rcvH l
theorem rcv_nil : rcvH [] = false := rfl
set_option maxRecDepth 100000 in
set_option maxHeartbeats 2000000 in
theorem isl_any (a : Option Addr) (l : List UInt8) (n c : Nat) (hn : n = l.length) (hc : n ≤ c) (w : World) (hb : Bts a l w) (hl : l.length ≤ 281474976710656) (hcm : c ≤ 9223372036854775807) :
    Calls Tryz.prog 29 #[.string ⟨#[82, 101, 99, 101, 105, 118, 101, 100]⟩, .slice a n c] w fun e w' => e = .returned (.bool (rcvH l)) ∧ Below w.heap.size w w' := by
  have HS : Hid (∀ w', Calls Tryz.prog 17 #[.string (hS (l.take 8)), .string ⟨#[82, 101, 99, 101, 105, 118, 101, 100]⟩] w' fun e w2 => e = .returned (.bool (sameB (hS (l.take 8)) nmRcv)) ∧ Below w'.heap.size w' w2) := fun w' => same_any _ _ w' (by rw [hS_size, List.length_take]; unfold maxLen; omega) (by decide)
  have HR : Hid (rcvH l = (decide (8 < n) && (l[8]? == some 58 && sameB (hS (l.take 8)) nmRcv))) := by subst hn; rfl
  by_cases h8 : 8 < n
  · obtain ⟨g, o, rfl, hg, hrow⟩ : ∃ g o, a = some ⟨g, o, none⟩ ∧ g < w.heap.size ∧ RowL l g o w := by
      rcases hb with e | h
      · subst e; simp at hn; omega
      · exact h
    have h8l : 8 < l.length := by omega
    have hcell := hrow 8 h8l
    have HCV : Hid ((convert 53 9 (.slice (some ⟨g, o, none⟩) 8 c)).run Tryz.prog w = .ok (.string (hS (l.take 8))) w) := by
      have hb8 : Bts (some ⟨g, o, none⟩) (l.take 8) w := Bts.take (.inr ⟨g, o, rfl, hg, hrow⟩) 8
      have := bts_back hb8 c
      rw [List.length_take, Nat.min_eq_left (by omega)] at this
      exact this
    have hq : l[8]? = some l[8] := List.getElem?_eq_getElem h8l
    have h8I : (8 : Int) < (n : Int) := by omega
    have h8c : (8 : Int) ≤ (c : Int) := by omega
    have HR2 : Hid (rcvH l = (l[8] == 58 && sameB (hS (l.take 8)) nmRcv)) := by
      show _ = _
      rw [HR.out, hq]
      simp [h8]
    generalize sameB (hS (l.take 8)) nmRcv = S at *
    generalize hS (l.take 8) = T at *
    generalize l[8] = z at *
    generalize rcvH l = R at *
    clear HR hrow hq hb
    by_cases h58 : z = 58
    · have k58 := u8vH (m := 58) h58
      subst h58
      go_enter Tryz.func29, Tryz.ntmps29
      go_wp2_with (first | rw [HCV.out] | (go_at_call 17; refine (HS.out _).mono ?_; rintro e w1 ⟨rfl, hB1⟩))
      go_ret
      exact ⟨by rw [HR2.out]; simp, hB1⟩
    · have k58 := u8wH (m := 58) h58
      have hz : (z == 58) = false := by simp [h58]
      go_enter Tryz.func29, Tryz.ntmps29
      go_wp2_with fail
      go_ret
      exact ⟨by rw [HR2.out, hz]; simp, Below.refl _ _⟩
  · have h8I : ¬ (8 : Int) < (n : Int) := by omega
    generalize rcvH l = R at *
    have HR2 : Hid (R = false) := by
      show _ = _
      rw [HR.out]
      simp [h8]
    clear HR HS
    go_enter Tryz.func29, Tryz.ntmps29
    go_wp2_with fail
    go_ret
    exact ⟨by rw [HR2.out]; rfl, Below.refl _ _⟩
/-- A literal's row of bytes. -/
theorem litH (w : World) (l : List UInt8) (fr : Nat × Nat) : Bts (some ⟨w.heap.size, 0, none⟩) l (w.alloc (.cells (rowV l) 5 fr)) := by
  refine .inr ⟨w.heap.size, 0, rfl, by simp, fun j hj => ?_⟩
  rw [Nat.zero_add, cell_of_row _ w.heap.size j (rowV l) 5 fr (heap_alloc_last w _), rowV_at l j hj]
theorem lt_of_cellH {w : World} {g k : Nat} {v : Value} (h : w.cell? ⟨g, k, none⟩ = some v) : g < w.heap.size := by
  rcases Nat.lt_or_ge g w.heap.size with h' | h'
  · exact h'
  · simp [World.cell?, Array.getElem?_eq_none h'] at h
set_option maxRecDepth 100000 in
set_option maxHeartbeats 4000000 in
theorem hops_any (a : Option Addr) (l : List UInt8) (n c : Nat) (hn : n = l.length) (hc : n ≤ c) (hnn : a = none → c = 0) (hcm : c ≤ 9223372036854775807) (m : Int) (w : World) (hb : Bts a l w) (hl : l.length < 4294967281) (hm : w.cell? ⟨0, 0, none⟩ = some (.int .i64 m)) :
    Calls Tryz.prog 13 #[.slice a n c] w fun e w' => e = .returned (.int .i64 (hopsH l : Nat)) ∧ Below w.heap.size w w' := by
  have HM : Hid (w.cell? ⟨0, 0, none⟩ = some (.int .i64 m)) := hm
  have HM0 : Hid (0 < w.heap.size) := lt_of_cellH hm
  have HBT : Hid (Bts a l w) := hb
  clear hb hm
  have hlI : l.length ≤ 4294967281 := by omega
  go_enter Tryz.func13, Tryz.ntmps13
  go_wp2_with fail
  go_loopw [0, 3, 4, 5, 6] (fun mv hv _ _ _ wr => ∃ (a' : Option Addr) (r : List UInt8) (c' k : Nat), mv = .slice a' r.length c' ∧ hv = .int .i64 (k : Int) ∧ r.length ≤ l.length ∧ r.length ≤ c' ∧ c' ≤ 9223372036854775807 ∧ Hid (a' = none → c' = 0) ∧ Hid (Bts a' r wr) ∧ Hid (k + hopsH r = hopsH l) ∧ Hid (k + r.length ≤ l.length) ∧ Hid (Below w.heap.size w wr)) (fun mv _ _ _ _ _ => match mv with | .slice _ n _ => n | _ => 0)
  case atStart => exact ⟨a, l, c, 0, by rw [hn], rfl, Nat.le_refl _, by omega, hcm, hnn, HBT.out, by show _ = _; omega, by show _ ≤ _; omega, Below.refl _ _⟩
  case round =>
    obtain ⟨a', r, c', k, rfl, rfl, hrl, hrc, hrm, HN, HB, HK, HKL, HBL⟩ := hrel
    have hkl := HKL.out
    by_cases h0 : 0 < r.length
    · have h0I : (0 : Int) < (r.length : Int) := by omega
      obtain ⟨W1, hW1⟩ : ∃ W1, W1 = wr.alloc (.cells (rowV [13, 10]) 5 (2, 3)) := ⟨_, rfl⟩
      have hcv : (convert 53 53 (.slice (some ⟨wr.heap.size, 0, none⟩) 2 2)).run Tryz.prog (wr.alloc (.cells #[.int .u8 13, .int .u8 10] 5)) = .ok (.slice (some ⟨wr.heap.size, 0, none⟩) 2 2) W1 := by subst hW1; exact Lib.run_convert_bytes_const wr 53 5 _ 2 2 Tryz.underlying53 Tryz.underlying5
      have hB1 : Below wr.heap.size wr W1 := by subst hW1; exact (Below.refl _ _).alloc (Nat.le_refl _) _
      have HB1 : Hid (Below w.heap.size w W1) := HBL.out.trans (hB1.mono HBL.out.size)
      have HC := bcut_any a' r r.length c' rfl hrc HN.out wr.heap.size m W1 (HB.out.below hB1) (by subst hW1; exact litH wr [13, 10] _) (by omega) ((HB1.out.cell (p := ⟨0, 0, none⟩) HM0.out).trans HM.out)
      have HBT1 : Hid (Bts a' r W1) := HB.out.below hB1
      clear hW1 hB1 HB HBL
      go_wp2_with (rw [hcv])
      refine HC.mono ?_
      rintro e w2 ⟨hcase, hB2⟩
      have HB2 : Hid (Below w.heap.size w w2) := HB1.out.trans (hB2.mono HB1.out.size)
      have HBT2 : Hid (Bts a' r w2) := HBT1.out.below hB2
      clear hB2 HB1 HBT1 HC hcv
      rcases hcase with ⟨rfl, hno⟩ | ⟨i, rfl, hi, hsp, hno⟩
      · have HTOT : Hid ((if rcvH r = true then k + 1 else k) = hopsH l) := by
          show _ = _
          rw [← HK.out]
          unfold hopsH
          rw [hops_no rcvH rcv_nil hno]
          by_cases e : rcvH r = true
          · rw [if_pos e, if_pos e]
          · rw [if_neg e, if_neg e]; rfl
        have HIS := isl_any a' r r.length c' rfl hrc w2 HBT2.out (by omega) hrm
        have hne : ((r.length : Int) == 0) = false := by rw [beq_eq_false_iff_ne]; omega
        clear HK hno HBT2 HKL
        generalize rcvH r = R at *
        go_wp2_with fail
        refine HIS.mono ?_
        rintro e w3 ⟨rfl, hB3⟩
        have HB3 : Hid (Below w.heap.size w w3) := HB2.out.trans (hB3.mono HB2.out.size)
        clear hB3 HB2 HIS
        cases R with
        | true =>
          have hh : hopsH l = k + 1 := by have := HTOT.out; simpa using this.symm
          go_wp2_with fail
          go_roundw
          case rel => exact ⟨none, [], 0, k + 1, rfl, by go_num, by simp, by simp, by simp, fun _ => rfl, .inl rfl, by show _ = _; rw [hh]; unfold hopsH; rw [hops_nil rcvH rcv_nil], by show _ ≤ _; simp; omega, HB3.out⟩
          case measure => simp; omega
        | false =>
          have hh : hopsH l = k := by have := HTOT.out; simpa using this.symm
          go_wp2_with fail
          go_roundw
          case rel => exact ⟨none, [], 0, k, rfl, rfl, by simp, by simp, by simp, fun _ => rfl, .inl rfl, by show _ = _; rw [hh]; unfold hopsH; rw [hops_nil rcvH rcv_nil]; rfl, by show _ ≤ _; simp; omega, HB3.out⟩
          case measure => simp; omega
      · have hcut := hops_cut rcvH (r := r.drop (i + 2)) hno
        rw [← hsp] at hcut
        have hK2 : k + hopsH r = hopsH l := HK.out
        unfold hopsH at hK2
        rw [hcut] at hK2
        by_cases hi0 : i = 0
        · subst hi0
          rw [if_pos (List.take_zero)] at hK2
          have hh : hopsH l = k := by unfold hopsH; omega
          clear HK hno HBT2 HKL hcut hK2 hsp
          go_wp2_with fail
          go_ret
          exact ⟨by rw [hh]; rfl, HB2.out⟩
        · have hne2 : ¬ r.take i = [] := fun e => by have := congrArg List.length e; rw [List.length_take, List.length_nil] at this; omega
          rw [if_neg hne2] at hK2
          have hlt : (r.take i).length = i := by rw [List.length_take]; omega
          have HIS := isl_any a' (r.take i) i c' hlt.symm (by omega) w2 (Bts.take HBT2.out i) (by omega) hrm
          have hne : ((i : Int) == 0) = false := by rw [beq_eq_false_iff_ne]; omega
          have HBT3 : Hid (Bts (slH a' (i + 2) c') (r.drop (i + 2)) w2) := Bts.cutH HBT2.out (i + 2) c' hrc
          have hdl : (r.drop (i + 2)).length = r.length - (i + 2) := List.length_drop
          have HTOT : Hid ((if rcvH (r.take i) = true then k + 1 else k) + hopsH (r.drop (i + 2)) = hopsH l) := by
            show _ = _
            unfold hopsH
            rw [← hK2]
            by_cases e : rcvH (r.take i) = true
            · rw [if_pos e, if_pos e]; omega
            · rw [if_neg e, if_neg e]; omega
          have HNN : Hid (slH a' (i + 2) c' = none → c' - (i + 2) = 0) := fun e => by
            unfold slH at e
            split at e
            · have := HN.out e; omega
            · cases a' with
              | none => have := HN.out rfl; omega
              | some x => simp at e
          clear HK hno HBT2 HKL hcut hK2 hsp hne2 hlt HN
          generalize rcvH (r.take i) = R at *
          generalize slH a' (i + 2) c' = sa at *
          rw [← hdl]
          have hdc : (r.drop (i + 2)).length ≤ c' - (i + 2) := by omega
          have hdr : (r.drop (i + 2)).length + 2 ≤ r.length := by omega
          have hcc : c' - (i + 2) ≤ 9223372036854775807 := by omega
          generalize r.drop (i + 2) = r2 at *
          generalize c' - (i + 2) = c2 at *
          clear hdl
          go_wp2_with fail
          refine HIS.mono ?_
          rintro e w3 ⟨rfl, hB3⟩
          have HB3 : Hid (Below w.heap.size w w3) := HB2.out.trans (hB3.mono HB2.out.size)
          have HBT4 : Hid (Bts sa r2 w3) := HBT3.out.below hB3
          clear hB3 HB2 HIS HBT3
          cases R with
          | true =>
            have HTT : Hid (k + 1 + hopsH r2 = hopsH l) := by show _ = _; have := HTOT.out; simpa using this
            clear HTOT
            go_wp2_with fail
            go_roundw
            case rel => exact ⟨sa, r2, c2, k + 1, rfl, by go_num, by omega, hdc, hcc, HNN.out, HBT4.out, HTT.out, by show _ ≤ _; omega, HB3.out⟩
            case measure => simp; omega
          | false =>
            have HTT : Hid (k + hopsH r2 = hopsH l) := by show _ = _; have := HTOT.out; simpa using this
            clear HTOT
            go_wp2_with fail
            go_roundw
            case rel => exact ⟨sa, r2, c2, k, rfl, rfl, by omega, hdc, hcc, HNN.out, HBT4.out, HTT.out, by show _ ≤ _; omega, HB3.out⟩
            case measure => simp; omega
    · obtain rfl : r = [] := List.eq_nil_of_length_eq_zero (by omega)
      have hh : hopsH l = k := by have := HK.out; unfold hopsH at this ⊢; rw [hops_nil rcvH rcv_nil] at this; omega
      clear HK HB HM HBT
      go_wp2_with fail
      go_ret
      exact ⟨by rw [hh]; rfl, HBL.out⟩
end Go.Proofs.YthkoionigdnhgabGreatDoor
