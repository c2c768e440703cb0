/-
  The digest of pieces and of bytes, the program's.
-/
import Derived.Test.YtlkflikhbkhpeabDoorSum
namespace Go.Proofs.YtlkflikhbkhpeabDoor
open Go.RowKit

/-- A piece: where it lies, its bytes, its room. -/
structure Pc where
  at_ : Option Addr
  bs : List UInt8
  cap : Nat
def Pc.val (p : Pc) : Value := .slice p.at_ p.bs.length p.cap
/-- All bytes, one piece behind the other. -/
def cat (ps : List Pc) : List UInt8 := (ps.map (·.bs)).flatten
theorem cat_append (a b : List Pc) : cat (a ++ b) = cat a ++ cat b := by simp [cat]
theorem cat_one (p : Pc) : cat [p] = p.bs := by simp [cat]
theorem cat_two (p q : Pc) : cat [p, q] = p.bs ++ q.bs := by simp [cat]
theorem cat_snoc (ps : List Pc) (k : Nat) (h : k < ps.length) : cat (ps.take (k + 1)) = cat (ps.take k) ++ ps[k].bs := by
  rw [List.take_succ_eq_append_getElem h, cat_append, cat_one]
theorem cat_le (ps : List Pc) (k : Nat) : (cat (ps.take k)).length ≤ (cat ps).length := by
  have h := cat_append (ps.take k) (ps.drop k)
  rw [List.take_append_drop] at h
  rw [h, List.length_append]
  omega
/-- The pieces lie in block gp. -/
structure Pcs (ps : List Pc) (gp : Nat) (w : World) : Prop where
  cell : ∀ j, (h : j < ps.length) → w.cell? ⟨gp, j, none⟩ = some ps[j].val
  bts : ∀ j, (h : j < ps.length) → Bts ps[j].at_ ps[j].bs w
  room : ∀ j, (h : j < ps.length) → ps[j].bs.length ≤ ps[j].cap
  lt : ∀ j, (h : j < ps.length) → ∀ ad, ps[j].at_ = some ad → ad.block < w.heap.size
  here : gp < w.heap.size
theorem Pcs.below {ps : List Pc} {gp : Nat} {w w' : World} (h : Pcs ps gp w) (hb : Below w.heap.size w w') : Pcs ps gp w' :=
  ⟨fun j hj => (hb.cell (p := ⟨gp, j, none⟩) h.here).trans (h.cell j hj), fun j hj => (h.bts j hj).below hb, h.room, fun j hj ad e => Nat.lt_of_lt_of_le (h.lt j hj ad e) hb.size, Nat.lt_of_lt_of_le h.here hb.size⟩

set_option maxRecDepth 100000 in
theorem digestOf_any (ps : List Pc) (gp cp : Nat) (w : World) (hp : Pcs ps gp w) (hn : ps.length ≤ 100) (ht : Tabs w) (hl : (cat ps).length ≤ 1152921504606846000) :
    Calls Tryd.prog 18 #[.slice (some ⟨gp, 0, none⟩) ps.length cp] w fun e w' => e = .returned (.agg (rowV (md5 (cat ps)))) ∧ Below w.heap.size w w' := by
  have HP : Hid (Pcs ps gp w) := hp
  have HT : Hid (Tabs w) := ht
  have HL : Hid ((cat ps).length ≤ 1152921504606846000) := hl
  clear hp ht hl
  obtain ⟨K, hK⟩ : ∃ K, K = ps.length := ⟨_, rfl⟩
  have HK : Hid (K = ps.length) := hK
  rw [← hK] at hn
  rw [← hK]
  clear hK
  go_enter Tryd.func18, Tryd.ntmps18
  go_wp2_with fail
  rw [zeroD_spelt]
  refine (new_any _).mono ?_
  rintro e w1 ⟨g, rfl, hg, h1, hb1⟩
  have H1 : Hid (HashAt w1 g (cat (ps.take 0))) := h1
  have HD1 : Hid (Lies w1 w.heap.size zeroD 24) := (Lies.new w zeroD 24).below hb1 (by simp)
  have HB1 : Hid (Below w.heap.size w w1) := ((Below.refl _ _).alloc (Nat.le_refl _) _).trans (hb1.mono (by simp))
  have hgs : w.heap.size + 1 ≤ g := by simpa using hg
  have hg2 : 2 ≤ g := by have := HT.out.size; omega
  clear hg h1 hb1
  go_wp2_with fail
  go_loopw [9] (fun i wr => ∃ k : Nat, k ≤ K ∧ i = .int .i64 k ∧ Hid (HashAt wr g (cat (ps.take k))) ∧ Hid (Lies wr w.heap.size zeroD 24) ∧ Hid (Below w.heap.size w wr)) (fun i _ => K - (intOf i).toNat)
  case atStart => exact ⟨0, by omega, rfl, H1, HD1, HB1⟩
  case round =>
    obtain ⟨k, hk, rfl, HH, HD, HB⟩ := hrel
    by_cases hlt : k < K
    · have hkp : k < ps.length := by rw [← HK.out]; exact hlt
      have HPW : Hid (Pcs ps gp wr) := HP.out.below HB.out
      have hc : wr.cell? ⟨gp, k, none⟩ = some (.slice ps[k].at_ ps[k].bs.length ps[k].cap) := HPW.out.cell k hkp
      have HTK : Hid (Bts ps[k].at_ ps[k].bs wr ∧ ps[k].bs.length ≤ ps[k].cap ∧ ∀ ad, ps[k].at_ = some ad → ad.block ≠ g) := ⟨HPW.out.bts k hkp, HPW.out.room k hkp, fun ad e => by have := HP.out.lt k hkp ad e; omega⟩
      have HCT : Hid (cat (ps.take (k + 1)) = cat (ps.take k) ++ ps[k].bs) := cat_snoc ps k hkp
      have HLE : Hid ((cat (ps.take k)).length + ps[k].bs.length ≤ 1152921504606846976) := by
        have h := cat_le ps (k + 1)
        rw [HCT.out, List.length_append] at h
        have := HL.out
        show _ ≤ _
        omega
      clear HPW
      generalize ps[k] = p at hc HTK HCT HLE
      go_wp2_with fail
      refine (take_any g _ p.bs p.at_ p.cap wr HH.out HTK.out.1 HTK.out.2.2 HTK.out.2.1 hg2 (HT.out.below HB.out) HLE.out).mono ?_
      rintro e w2 ⟨rfl, h2, hb2⟩
      have H2 : Hid (HashAt w2 g (cat (ps.take (k + 1)))) := by rw [HCT.out]; exact h2
      have HD2 : Hid (Lies w2 w.heap.size zeroD 24) := hb2.lies HD.out (by omega)
      have HB2 : Hid (Below w.heap.size w w2) := HB.out.trans (hb2.below (by omega) HB.out.size)
      clear h2 hb2 hc
      go_wp2
      go_roundw
      case rel => exact ⟨k + 1, by omega, by go_num, H2, HD2, HB2⟩
      case measure => simp [intOf]; omega
    · have HH2 : Hid (HashAt wr g (cat ps)) := by
        have h := HH.out
        rw [List.take_of_length_le (by rw [← HK.out]; omega)] at h
        exact h
      go_wp2_with fail
      refine (sum_any g (cat ps) wr HH2.out (HT.out.below HB.out) HL.out).mono ?_
      rintro e w2 ⟨rfl, hb2⟩
      have HD2 : Hid (Lies w2 w.heap.size zeroD 24) := HD.out.below hb2 HD.out.lt
      have HB2 : Hid (Below w.heap.size w w2) := HB.out.trans (hb2.mono HB.out.size)
      clear hb2
      go_wp2_with (refine wpList_store_row rfl 24 _ _ rfl w.heap.size rfl zeroD (rowV (md5 (cat ps))) rfl 24 HD2.out (infoMd _) (by rw [rowV_size, md5_length]; rfl) (rowV_one _) rfl ?_)
      refine bodyPost_ret (v := .agg (rowV (md5 (cat ps)))) ?_ rfl ⟨rfl, below_row HB2.out (Nat.le_refl _) _⟩
      exact results_cell_row rfl _ _ _ 24 _ (0, 0) _ rfl (HD2.out.row _) Tryd.underlying24 rfl (infoMd _)

set_option maxRecDepth 100000 in
theorem md5_any (a : Option Addr) (l : List UInt8) (cap : Nat) (w : World) (h : Bts a l w) (hlt : ∀ ad, a = some ad → ad.block < w.heap.size) (hcap : l.length ≤ cap) (ht : Tabs w) (hl : l.length ≤ 1152921504606846000) :
    Calls Tryd.prog 6 #[.slice a l.length cap] w fun e w' => e = .returned (.agg (rowV (md5 l))) ∧ Below w.heap.size w w' := by
  have HH : Hid (Bts a l w) := h
  have HLT : Hid (∀ ad, a = some ad → ad.block < w.heap.size) := hlt
  have HCAP : Hid (l.length ≤ cap) := hcap
  have HT : Hid (Tabs w) := ht
  clear h hlt hcap ht
  go_enter Tryd.func6, Tryd.ntmps6
  go_wp2_with fail
  rw [zeroD_spelt]
  have HB2 : Hid (Below w.heap.size w ((w.alloc (.cells zeroD 24)).alloc (.cells #[.slice a l.length cap] 22))) := ((Below.refl _ _).alloc (Nat.le_refl _) _).alloc (by simp) _
  have hp : Pcs [⟨a, l, cap⟩] (w.heap.size + 1) ((w.alloc (.cells zeroD 24)).alloc (.cells #[.slice a l.length cap] 22)) := by
    refine ⟨fun j hj => ?_, fun j hj => ?_, fun j hj => ?_, fun j hj ad e => ?_, by simp⟩
    · obtain rfl : j = 0 := by simpa using hj
      exact (new_one w _ _ 22).cell 0
    · obtain rfl : j = 0 := by simpa using hj
      exact HH.out.below HB2.out
    · obtain rfl : j = 0 := by simpa using hj
      exact HCAP.out
    · obtain rfl : j = 0 := by simpa using hj
      have := HLT.out ad e
      simp
      omega
  have hcat : cat [⟨a, l, cap⟩] = l := cat_one _
  have hd := digestOf_any [⟨a, l, cap⟩] (w.heap.size + 1) 1 _ hp (by simp) (HT.out.below HB2.out) (by rw [hcat]; exact hl)
  rw [hcat] at hd
  refine hd.mono ?_
  clear hd hp hcat
  rintro e w3 ⟨rfl, hb3⟩
  have HD3 : Hid (Lies w3 w.heap.size zeroD 24) := ((Lies.new w zeroD 24).alloc _).below hb3 (by simp; omega)
  have HB3 : Hid (Below w.heap.size w w3) := HB2.out.trans (hb3.mono (by simp; omega))
  clear hb3
  go_wp2_with (refine wpList_store_row rfl 24 _ _ rfl w.heap.size rfl zeroD (rowV (md5 l)) rfl 24 HD3.out (infoMd _) (by rw [rowV_size, md5_length]; rfl) (rowV_one _) rfl ?_)
  refine bodyPost_ret (v := .agg (rowV (md5 l))) ?_ rfl ⟨rfl, below_row HB3.out (Nat.le_refl _) _⟩
  exact results_cell_row rfl _ _ _ 24 _ (0, 0) _ rfl (HD3.out.row _) Tryd.underlying24 rfl (infoMd _)
end Go.Proofs.YtlkflikhbkhpeabDoor
