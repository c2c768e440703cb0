/-
  The plain mathematics of bytes in digits to the base sixteen: no Go in sight.
-/
import Derived.Test.YtjpmfgmoekpcpabGreatDoorPureBad
import Derived.Test.YtjpmfgmoekpcpabGreatDoorSpan4
import Derived.Test.YtjpmfgmoekpcpabGreatDoorGrown
import Derived.Deep.RegionHeld3
namespace Go.Proofs.YtjpmfgmoekpcpabGreatDoor

/-- The digit of a number below sixteen. -/
def hexD (n : Nat) : UInt8 := if n < 10 then UInt8.ofNat (48 + n) else UInt8.ofNat (55 + n)
/-- Two digits a byte. -/
def hexL : List UInt8 → List UInt8
  | [] => []
  | b :: r => hexD (b.toNat / 16) :: hexD (b.toNat % 16) :: hexL r
def hexS (s : ByteArray) : ByteArray := ⟨(hexL s.data.toList).toArray⟩

theorem hexL_length : ∀ l : List UInt8, (hexL l).length = 2 * l.length
  | [] => rfl
  | b :: r => by have := hexL_length r; simp only [hexL, List.length_cons]; omega
theorem hexL_append (r : List UInt8) : ∀ l : List UInt8, hexL (l ++ r) = hexL l ++ hexL r
  | [] => rfl
  | b :: l => by rw [List.cons_append, hexL, hexL, hexL_append r l]; rfl
theorem hexL_take (l : List UInt8) (k : Nat) (h : k < l.length) : hexL (l.take (k + 1)) = hexL (l.take k) ++ [hexD (l[k].toNat / 16), hexD (l[k].toNat % 16)] := by
  rw [List.take_succ_eq_append_getElem h, hexL_append]
  rfl

/-- What a digit says. -/
def hexV (c : Nat) : Nat := if 97 ≤ c then c - 87 else if 65 ≤ c then c - 55 else c - 48
/-- Pairs of digits read. -/
def unL : List UInt8 → List UInt8
  | a :: b :: r => UInt8.ofNat (hexV a.toNat * 16 + hexV b.toNat) :: unL r
  | _ => []
theorem unL_length : ∀ l : List UInt8, (unL l).length = l.length / 2
  | [] => rfl
  | [_] => by simp [unL]
  | a :: b :: r => by have := unL_length r; simp only [unL, List.length_cons, this]; omega

theorem unL_at : ∀ (l : List UInt8) (k : Nat) (h : 2 * k + 1 < l.length) (h' : k < (unL l).length), (unL l)[k] = UInt8.ofNat (hexV l[2 * k].toNat * 16 + hexV l[2 * k + 1].toNat)
  | [], k, h, _ => by simp at h
  | [_], k, h, _ => by simp at h
  | a :: b :: r, 0, h, _ => rfl
  | a :: b :: r, k + 1, h, h' => by
    have h1 : 2 * k + 1 < r.length := by simp only [List.length_cons] at h; omega
    have h2 : k < (unL r).length := by rw [unL_length]; omega
    have := unL_at r k h1 h2
    simpa [unL, Nat.mul_add] using this

/-- A text that Unhex takes. -/
def hexOk (l : List UInt8) : Prop := badN 4 l = l.length ∧ l.length % 2 = 0
instance (l : List UInt8) : Decidable (hexOk l) := by unfold hexOk; infer_instance

theorem hex_fin : ∀ b : Fin 256, isB 4 (b.val : Int) = true → (48 ≤ b.val ∧ b.val ≤ 57) ∨ (65 ≤ b.val ∧ b.val ≤ 70) ∨ (97 ≤ b.val ∧ b.val ≤ 102) := by decide +kernel
theorem hex_iff (b : UInt8) (h : isB 4 (b.toNat : Int) = true) : (48 ≤ b.toNat ∧ b.toNat ≤ 57) ∨ (65 ≤ b.toNat ∧ b.toNat ≤ 70) ∨ (97 ≤ b.toNat ∧ b.toNat ≤ 102) :=
  hex_fin ⟨b.toNat, b.toNat_lt⟩ h
theorem hexV_lt (b : UInt8) (h : isB 4 (b.toNat : Int) = true) : hexV b.toNat < 16 := by
  have := hex_iff b h
  unfold hexV
  split
  · omega
  · split <;> omega
theorem hexOk_at (l : List UInt8) (h : badN 4 l = l.length) : ∀ k, (hk : k < l.length) → isB 4 (l[k].toNat : Int) = true := by
  have all : ∀ (l : List UInt8), badN 4 l = l.length → ∀ k, (hk : k < l.length) → isB 4 (l[k].toNat : Int) = true := by
    intro l
    induction l with
    | nil => intro _ k hk; simp at hk
    | cons b r ih =>
      intro hb k hk
      unfold badN at hb
      by_cases hi : isB 4 (b.toNat : Int) = true
      · rw [if_pos hi] at hb
        cases k with
        | zero => exact hi
        | succ k => exact ih (by simpa using hb) k (by simpa using hk)
      · rw [if_neg hi] at hb
        simp at hb
  exact all l h
end Go.Proofs.YtjpmfgmoekpcpabGreatDoor
/-
  The contracts of octet.Unhex and of its helper.
-/
namespace Go.Proofs.YtjpmfgmoekpcpabGreatDoor
open Go.RowKit

theorem Table.keep {w w' : World} (h : Table w) (hb : Below w.heap.size w w') : Table w' := by
  intro c hc
  have h0 : (0 : Nat) < w.heap.size := World.block_lt_of_cell? w _ (h c hc)
  rw [hb.cell (p := ⟨0, c, none⟩) h0]
  exact h c hc

set_option maxHeartbeats 400000 in
theorem hexv_any (c : Nat) (w : World) (h0 : 48 ≤ c) (h1 : c ≤ 102) :
    Calls Tryz.prog 87 #[.int .u8 (c : Int)] w fun e w' => e = .returned (.int .u8 (hexV c : Int)) ∧ w' = w := by
  by_cases a : 97 ≤ c
  · have e : ((hexV c : Nat) : Int) = (c : Int) - 97 + 10 := by unfold hexV; rw [if_pos a]; omega
    rw [e]
    go_enter Tryz.func87, Tryz.ntmps87
    go_wp2
    go_ret
    exact ⟨rfl, rfl⟩
  · by_cases b : 65 ≤ c
    · have e : ((hexV c : Nat) : Int) = (c : Int) - 65 + 10 := by unfold hexV; rw [if_neg a, if_pos b]; omega
      rw [e]
      go_enter Tryz.func87, Tryz.ntmps87
      go_wp2
      go_ret
      exact ⟨rfl, rfl⟩
    · have e : ((hexV c : Nat) : Int) = (c : Int) - 48 := by unfold hexV; rw [if_neg a, if_neg b]; omega
      rw [e]
      go_enter Tryz.func87, Tryz.ntmps87
      go_wp2
      go_ret
      exact ⟨rfl, rfl⟩

set_option maxRecDepth 100000 in
set_option maxHeartbeats 1000000 in
theorem unhex_bad (s : ByteArray) (w : World) (ht : Table w) (hs : s.size ≤ maxLen) (hok : ¬ hexOk s.data.toList) :
    Calls Tryz.prog 43 #[.string s] w fun e w' => e = .returned (.tuple #[.slice none 0 0, .agg #[.int .i64 10, .int .i64 (badN 4 s.data.toList)]]) ∧ Below w.heap.size w w' := by
  have hl : s.data.toList.length = s.size := by rw [Array.length_toList]; rfl
  unfold hexOk at hok
  rw [hl] at hok
  have hb := badN_le 4 s.data.toList
  rw [hl] at hb
  have ms := hs
  unfold maxLen at ms
  have HT : Hid (Table w) := ht
  obtain ⟨n, hn⟩ : ∃ n : Nat, n = badN 4 s.data.toList := ⟨_, rfl⟩
  have hn' : badN 4 s.data.toList = n := hn.symm
  rw [← hn] at hok hb
  clear hn hl ht
  by_cases h1 : n < s.size
  · go_enter Tryz.func43, Tryz.ntmps43
    go_wp2_with fail
    refine (bad_anyT 4 s _ (HT.out.keep ((Below.refl _ _).alloc (Nat.le_refl _) _)) hs).mono ?_
    rintro e w' ⟨rfl, rfl⟩
    go_wp2
    refine bodyPost_ret (v := .tuple #[.slice none 0 0, .agg #[.int .i64 10, .int .i64 (n : Int)]]) (by simp [results, Tryz.results43, go_sem]) rfl ⟨by rw [hn'], ?_⟩
    exact (Below.refl _ _).alloc (Nat.le_refl _) _
  · have h2 : ((s.size : Int) % 2 != 0) = true := by simp; omega
    go_enter Tryz.func43, Tryz.ntmps43
    go_wp2_with fail
    refine (bad_anyT 4 s _ (HT.out.keep ((Below.refl _ _).alloc (Nat.le_refl _) _)) hs).mono ?_
    rintro e w' ⟨rfl, rfl⟩
    go_wp2
    refine bodyPost_ret (v := .tuple #[.slice none 0 0, .agg #[.int .i64 10, .int .i64 (n : Int)]]) (by simp [results, Tryz.results43, go_sem]) rfl ⟨by rw [hn'], ?_⟩
    exact (Below.refl _ _).alloc (Nat.le_refl _) _
end Go.Proofs.YtjpmfgmoekpcpabGreatDoor
