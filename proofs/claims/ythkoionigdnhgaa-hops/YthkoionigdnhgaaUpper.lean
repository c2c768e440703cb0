/-
  The contract of octet.Upper: for every text it answers the text in capitals, in new memory, and nothing old has turned.
-/
import Derived.Test.YthkoionigdnhgaaProg
import Derived.Test.YthkoionigdnhgaaPureUp
import Derived.WalkKit
import Derived.WalkSpells
import Derived.Below
import Derived.Laws.IdiomStrings
namespace Go.Proofs.Ythkoionigdnhgaa
open Go.RowKit

theorem ret_string {a b : ByteArray} (h : a = b) : Ending.returned (.string a) = .returned (.string b) := by rw [h]

/-- The bytes in the new row, when k of them are done. -/
structure UpRel (s : ByteArray) (B : Nat) (w : World) (k : Nat) (wr : World) : Prop where
  cell : ∀ j, j < s.size → wr.cell? ⟨B, j, none⟩ = some (.int .u8 ((upAt s.data.toList k j).toNat : Int))
  free : ∀ j, j < s.size → wr.frozen? ⟨B, j, none⟩ = false
  below : Below B w wr

theorem UpRel.same {s : ByteArray} {B : Nat} {w wr : World} {k : Nat} (h : UpRel s B w k wr) (hn : ¬ (97 ≤ (s.data.toList.getD k 0).toNat ∧ (s.data.toList.getD k 0).toNat ≤ 122)) : UpRel s B w (k + 1) wr := by
  refine ⟨fun j hj => ?_, h.free, h.below⟩
  rw [h.cell j hj]
  by_cases e : j = k
  · subst e
    rw [upAt_self, upAt_step, upB_no _ hn]
  · rw [upAt_other _ _ _ e]

theorem UpRel.put {s : ByteArray} {B : Nat} {w wr : World} {k : Nat} (h : UpRel s B w k wr) (hk : k < s.size) (h1 : 97 ≤ (s.data.toList.getD k 0).toNat) (h2 : (s.data.toList.getD k 0).toNat ≤ 122) :
    UpRel s B w (k + 1) (wr.setCell ⟨B, k, none⟩ (.int .u8 (((s.data.toList.getD k 0).toNat : Int) - 97 + 65))) := by
  refine ⟨fun j hj => ?_, fun j hj => ?_, h.below.setCell (Nat.le_refl _) _⟩
  · by_cases e : j = k
    · subst e
      rw [World.cell?_setCell_same _ _ _ (h.cell j hj), upAt_step, upB_yes _ h1 h2]
      congr 2
      omega
    · rw [World.cell?_setCell_other _ _ _ _ (by intro h'; injection h' with _ h'; omega), h.cell j hj, upAt_other _ _ _ e]
  · rw [World.frozen?_setCell]
    exact h.free j hj

theorem bytes_lt (s : ByteArray) (cap : Nat) : s.data.size ≤ (bytesRow s cap).size := by
  simp [bytesRow]

theorem UpRel.start (s : ByteArray) (w : World) (cap : Nat) (n : Nat) (hn : n = (bytesRow s cap).size) : UpRel s w.heap.size w 0 (w.alloc (.cells (bytesRow s cap) 5 (n, n + 1))).drew := by
  refine ⟨fun j hj => ?_, fun j hj => ?_, ((Below.refl _ _).alloc (Nat.le_refl _) _).drew⟩
  · have := World.cell?_alloc_mark w (bytesRow s cap) 5 (n, n + 1) j
    rw [bytesRow_at s cap j hj] at this
    rw [upAt_zero]
    refine Eq.trans this ?_
    rw [List.getD_eq_getElem?_getD, Array.getElem?_toList, Array.getElem?_eq_getElem hj, Option.getD_some]
  · have := World.frozen?_alloc_mark w (bytesRow s cap) 5 n (n + 1) j
    refine Eq.trans this ?_
    have h2 := bytes_lt s cap
    have h3 : s.size = s.data.size := rfl
    rw [decide_eq_false (by omega), Bool.false_and]

theorem UpRel.back {s : ByteArray} {B : Nat} {w wr : World} (h : UpRel s B w s.size wr) (cap : Nat) :
    (convert 22 9 (.slice (some ⟨B, 0, none⟩) s.size cap)).run Try.prog wr = .ok (.string (upS s)) wr := by
  have hl : (upL s.data.toList).length = s.size := by rw [upL, List.length_map, Array.length_toList]; rfl
  have := run_convert_bytes_back (P := Try.prog) wr 22 9 5 ⟨B, 0, none⟩ cap (upL s.data.toList) Try.underlying22 Try.underlying5 Try.underlying9 (fun j hj => by
    have hj' : j < s.size := by omega
    have he : (⟨B, 0, none⟩ : Addr).add j = ⟨B, j, none⟩ := by rw [Addr.add_lit, Nat.zero_add]
    rw [he, h.cell j hj']
    rw [upAt_all s.data.toList s.size j (by rw [Array.length_toList]; rfl) hj])
  rw [hl] at this
  exact this

set_option maxRecDepth 100000 in
set_option maxHeartbeats 400000 in
theorem upper_any (s : ByteArray) (w : World) (hs : s.size ≤ maxLen) :
    Calls Try.prog 22 #[.string s] w fun e w' => e = .returned (.string (upS s)) ∧ Below w.heap.size w w' := by
  unfold maxLen at hs
  have hconv := run_bytes_of_string (P := Try.prog) w 9 22 5 s Try.underlying9 Try.underlying22 Try.underlying5
  obtain ⟨cap, hcap⟩ : ∃ c, c = grownCap w s.size 0 5 := ⟨_, rfl⟩
  rw [← hcap] at hconv
  obtain ⟨n, hn⟩ : ∃ n, n = (bytesRow s cap).size := ⟨_, rfl⟩
  rw [← hn] at hconv
  have HR : Hid (UpRel s w.heap.size w 0 (w.alloc (.cells (bytesRow s cap) 5 (n, n + 1))).drew) := UpRel.start s w cap n hn
  clear hcap hn
  go_enter Try.func22, Try.ntmps22
  go_wp2
  go_loopw [10] (fun i wr => ∃ k : Nat, k ≤ s.size ∧ i = .int .i64 k ∧ Hid (UpRel s w.heap.size w k wr)) (fun i _ => s.size - (intOf i).toNat)
  case atStart => exact ⟨0, Nat.zero_le _, rfl, HR⟩
  case round =>
    obtain ⟨k, hk, rfl, HK⟩ := hrel
    by_cases hlt : k < s.size
    · have hc := HK.out.cell k hlt
      have hf := HK.out.free k hlt
      rw [upAt_self] at hc
      obtain ⟨x, hx⟩ : ∃ x : UInt8, x = s.data.toList.getD k 0 := ⟨_, rfl⟩
      rw [← hx] at hc
      have HX : Hid (x = s.data.toList.getD k 0) := hx
      clear hx
      have hx1 : x.toNat < 256 := x.toNat_lt
      by_cases h1 : 97 ≤ x.toNat
      · by_cases h2 : x.toNat ≤ 122
        · have HN : Hid (UpRel s w.heap.size w (k + 1) (wr.setCell ⟨w.heap.size, k, none⟩ (.int .u8 ((x.toNat : Int) - 97 + 65)))) := by
            have := HK.out.put hlt (by rw [← HX.out]; exact h1) (by rw [← HX.out]; exact h2)
            rw [← HX.out] at this
            exact this
          clear HK
          go_wp2
          go_roundw
          case rel => exact ⟨k + 1, by omega, by go_num, HN⟩
          case measure => simp [intOf]; omega
        · have HN : Hid (UpRel s w.heap.size w (k + 1) wr) := HK.out.same (by rw [← HX.out]; omega)
          clear HK
          go_wp2
          go_roundw
          case rel => exact ⟨k + 1, by omega, by go_num, HN⟩
          case measure => simp [intOf]; omega
      · have HN : Hid (UpRel s w.heap.size w (k + 1) wr) := HK.out.same (by rw [← HX.out]; omega)
        clear HK
        go_wp2
        go_roundw
        case rel => exact ⟨k + 1, by omega, by go_num, HN⟩
        case measure => simp [intOf]; omega
    · have he : k = s.size := by omega
      subst he
      have hback := HK.out.back cap
      have HB : Hid (Below w.heap.size w wr) := HK.out.below
      clear HK
      go_wp2
      go_ret
      exact ⟨rfl, HB.out⟩
end Go.Proofs.Ythkoionigdnhgaa
