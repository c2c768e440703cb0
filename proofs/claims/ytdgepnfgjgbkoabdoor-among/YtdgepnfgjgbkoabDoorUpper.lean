/-
  Small laws on bytes, texts and lists.
-/
import Derived.Test.YtdgepnfgjgbkoabDoorBase
import Derived.Test.YtdgepnfgjgbkoabDoorProg
import Derived.Test.YtdgepnfgjgbkoabDoorPureUp
import Derived.WalkKit
import Derived.WalkSpells
import Derived.Below
import Derived.Laws.IdiomStrings
namespace Go.Proofs.YtdgepnfgjgbkoabDoor
open Go.RowKit

theorem pad_eq (c : UInt8) : ((c.toNat : Int) == 61) = decide (c = 61) := by
  rw [Bool.eq_iff_iff]
  simp only [beq_iff_eq, decide_eq_true_eq]
  constructor
  · intro h
    exact UInt8.toNat_inj.1 (by simpa using (by omega : c.toNat = 61))
  · intro h
    rw [h]
    rfl
theorem pad_ne (c : UInt8) : ((c.toNat : Int) != 61) = !decide (c = 61) := by
  rw [bne, pad_eq]

theorem ext_list (s : ByteArray) (a b : Nat) : (s.extract a b).data.toList = (s.data.toList.take b).drop a := by
  simp [ByteArray.data_extract, List.drop_take]
theorem len_list (s : ByteArray) : s.data.toList.length = s.size := by rw [Array.length_toList]; rfl
theorem at_list (s : ByteArray) (k : Nat) (h : k < s.size) : s.data.toList[k]'(by rw [len_list]; exact h) = s[k] := rfl

/-- Three bytes that have just been laid. -/
theorem three_bts (w : World) (t : TypeId) (x y z : Int) (a b c : UInt8) (hx : x = (a.toNat : Int)) (hy : y = (b.toNat : Int)) (hz : z = (c.toNat : Int)) (n : Nat) :
    Bts (some ⟨w.heap.size, 0, none⟩) ([a, b, c].take n) (w.alloc (.cells #[.int .u8 x, .int .u8 y, .int .u8 z] t)) := by
  subst hx hy hz
  refine Bts.take (.inr ⟨w.heap.size, 0, rfl, by simp, fun j hj => ?_⟩) n
  have h3 : j < 3 := hj
  match j, h3 with
  | 0, _ => simp
  | 1, _ => simp
  | 2, _ => simp

theorem take4 (l : List UInt8) (k : Nat) (h : k + 3 < l.length) : l.take (k + 4) = l.take k ++ [l[k], l[k + 1], l[k + 2], l[k + 3]] := by
  have e3 := List.take_succ_eq_append_getElem (l := l) (i := k + 3) (by omega)
  have e2 := List.take_succ_eq_append_getElem (l := l) (i := k + 2) (by omega)
  have e1 := List.take_succ_eq_append_getElem (l := l) (i := k + 1) (by omega)
  have e0 := List.take_succ_eq_append_getElem (l := l) (i := k) (by omega)
  rw [show l.take (k + 4) = _ from e3, show l.take (k + 3) = _ from e2, show l.take (k + 2) = _ from e1, e0]
  simp only [List.append_assoc, List.cons_append, List.nil_append]
theorem own_nil (w : World) (B : Nat) : w.ownsRow B 5 1 (.slice none 0 0) ([] : List UInt8).length (cellsB []) := ⟨rfl, .inl ⟨rfl, rfl⟩⟩

end Go.Proofs.YtdgepnfgjgbkoabDoor
/-
  The contract of octet.Upper: for every text it answers the text in capitals, in new memory, and nothing old has turned.
-/
namespace Go.Proofs.YtdgepnfgjgbkoabDoor
open Go.RowKit

theorem ret_string {a b : ByteArray} (h : a = b) : Ending.returned (.string a) = .returned (.string b) := by rw [h]

/-- The bytes in the new row, when k of them are done. -/
structure UpRel (s : ByteArray) (B : Nat) (w : World) (k : Nat) (wr : World) : Prop where
  cell : ∀ j, j < s.size → wr.cell? ⟨B, j, none⟩ = some (.int .u8 ((upAt s.data.toList k j).toNat : Int))
  free : ∀ j, j < s.size → wr.frozen? ⟨B, j, none⟩ = false
  below : Below B w wr

theorem UpRel.same {s : ByteArray} {B : Nat} {w wr : World} {k : Nat} (h : UpRel s B w k wr) (hn : ¬ (97 ≤ (s.data.toList.getD k 0).toNat ∧ (s.data.toList.getD k 0).toNat ≤ 122)) : UpRel s B w (k + 1) wr := by
  refine ⟨fun j hj => ?_, h.free, h.below⟩
  rw [h.cell j hj]
  by_cases e : j = k
  · subst e
    rw [upAt_self, upAt_step, upB_no _ hn]
  · rw [upAt_other _ _ _ e]

theorem UpRel.put {s : ByteArray} {B : Nat} {w wr : World} {k : Nat} (h : UpRel s B w k wr) (hk : k < s.size) (h1 : 97 ≤ (s.data.toList.getD k 0).toNat) (h2 : (s.data.toList.getD k 0).toNat ≤ 122) :
    UpRel s B w (k + 1) (wr.setCell ⟨B, k, none⟩ (.int .u8 (((s.data.toList.getD k 0).toNat : Int) - 97 + 65))) := by
  refine ⟨fun j hj => ?_, fun j hj => ?_, h.below.setCell (Nat.le_refl _) _⟩
  · by_cases e : j = k
    · subst e
      rw [World.cell?_setCell_same _ _ _ (h.cell j hj), upAt_step, upB_yes _ h1 h2]
      congr 2
      omega
    · rw [World.cell?_setCell_other _ _ _ _ (by intro h'; injection h' with _ h'; omega), h.cell j hj, upAt_other _ _ _ e]
  · rw [World.frozen?_setCell]
    exact h.free j hj

theorem bytes_lt (s : ByteArray) (cap : Nat) : s.data.size ≤ (bytesRow s cap).size := by
  simp [bytesRow]

theorem UpRel.start (s : ByteArray) (w : World) (cap : Nat) (n : Nat) (hn : n = (bytesRow s cap).size) : UpRel s w.heap.size w 0 (w.alloc (.cells (bytesRow s cap) 5 (n, n + 1))).drew := by
  refine ⟨fun j hj => ?_, fun j hj => ?_, ((Below.refl _ _).alloc (Nat.le_refl _) _).drew⟩
  · have := World.cell?_alloc_mark w (bytesRow s cap) 5 (n, n + 1) j
    rw [bytesRow_at s cap j hj] at this
    rw [upAt_zero]
    refine Eq.trans this ?_
    rw [List.getD_eq_getElem?_getD, Array.getElem?_toList, Array.getElem?_eq_getElem hj, Option.getD_some]
  · have := World.frozen?_alloc_mark w (bytesRow s cap) 5 n (n + 1) j
    refine Eq.trans this ?_
    have h2 := bytes_lt s cap
    have h3 : s.size = s.data.size := rfl
    rw [decide_eq_false (by omega), Bool.false_and]

theorem UpRel.back {s : ByteArray} {B : Nat} {w wr : World} (h : UpRel s B w s.size wr) (cap : Nat) :
    (convert 44 9 (.slice (some ⟨B, 0, none⟩) s.size cap)).run Tryd.prog wr = .ok (.string (upS s)) wr := by
  have hl : (upL s.data.toList).length = s.size := by rw [upL, List.length_map, Array.length_toList]; rfl
  have := run_convert_bytes_back (P := Tryd.prog) wr 44 9 5 ⟨B, 0, none⟩ cap (upL s.data.toList) Tryd.underlying44 Tryd.underlying5 Tryd.underlying9 (fun j hj => by
    have hj' : j < s.size := by omega
    have he : (⟨B, 0, none⟩ : Addr).add j = ⟨B, j, none⟩ := by rw [Addr.add_lit, Nat.zero_add]
    rw [he, h.cell j hj']
    rw [upAt_all s.data.toList s.size j (by rw [Array.length_toList]; rfl) hj])
  rw [hl] at this
  exact this

set_option maxRecDepth 100000 in
set_option maxHeartbeats 400000 in
theorem upper_any (s : ByteArray) (w : World) (hs : s.size ≤ maxLen) :
    Calls Tryd.prog 36 #[.string s] w fun e w' => e = .returned (.string (upS s)) ∧ Below w.heap.size w w' := by
  unfold maxLen at hs
  have hconv := run_bytes_of_string (P := Tryd.prog) w 9 44 5 s Tryd.underlying9 Tryd.underlying44 Tryd.underlying5
  obtain ⟨cap, hcap⟩ : ∃ c, c = grownCap w s.size 0 5 := ⟨_, rfl⟩
  rw [← hcap] at hconv
  obtain ⟨n, hn⟩ : ∃ n, n = (bytesRow s cap).size := ⟨_, rfl⟩
  rw [← hn] at hconv
  have HR : Hid (UpRel s w.heap.size w 0 (w.alloc (.cells (bytesRow s cap) 5 (n, n + 1))).drew) := UpRel.start s w cap n hn
  clear hcap hn
  go_enter Tryd.func36, Tryd.ntmps36
  go_wp2
  go_loopw [10] (fun i wr => ∃ k : Nat, k ≤ s.size ∧ i = .int .i64 k ∧ Hid (UpRel s w.heap.size w k wr)) (fun i _ => s.size - (intOf i).toNat)
  case atStart => exact ⟨0, Nat.zero_le _, rfl, HR⟩
  case round =>
    obtain ⟨k, hk, rfl, HK⟩ := hrel
    by_cases hlt : k < s.size
    · have hc := HK.out.cell k hlt
      have hf := HK.out.free k hlt
      rw [upAt_self] at hc
      obtain ⟨x, hx⟩ : ∃ x : UInt8, x = s.data.toList.getD k 0 := ⟨_, rfl⟩
      rw [← hx] at hc
      have HX : Hid (x = s.data.toList.getD k 0) := hx
      clear hx
      have hx1 : x.toNat < 256 := x.toNat_lt
      by_cases h1 : 97 ≤ x.toNat
      · by_cases h2 : x.toNat ≤ 122
        · have HN : Hid (UpRel s w.heap.size w (k + 1) (wr.setCell ⟨w.heap.size, k, none⟩ (.int .u8 ((x.toNat : Int) - 97 + 65)))) := by
            have := HK.out.put hlt (by rw [← HX.out]; exact h1) (by rw [← HX.out]; exact h2)
            rw [← HX.out] at this
            exact this
          clear HK
          go_wp2
          go_roundw
          case rel => exact ⟨k + 1, by omega, by go_num, HN⟩
          case measure => simp [intOf]; omega
        · have HN : Hid (UpRel s w.heap.size w (k + 1) wr) := HK.out.same (by rw [← HX.out]; omega)
          clear HK
          go_wp2
          go_roundw
          case rel => exact ⟨k + 1, by omega, by go_num, HN⟩
          case measure => simp [intOf]; omega
      · have HN : Hid (UpRel s w.heap.size w (k + 1) wr) := HK.out.same (by rw [← HX.out]; omega)
        clear HK
        go_wp2
        go_roundw
        case rel => exact ⟨k + 1, by omega, by go_num, HN⟩
        case measure => simp [intOf]; omega
    · have he : k = s.size := by omega
      subst he
      have hback := HK.out.back cap
      have HB : Hid (Below w.heap.size w wr) := HK.out.below
      clear HK
      go_wp2
      go_ret
      exact ⟨rfl, HB.out⟩
end Go.Proofs.YtdgepnfgjgbkoabDoor
