/-
  Rows of texts and of bytes; bytes.Cut at a line end.
-/
import Derived.Test.YthkoionigdnhgaaLate5
import Derived.Test.YthkoionigdnhgaaSame
import Derived.Test.YthkoionigdnhgaaBase2
import Derived.Test.YthkoionigdnhgaaHoP
import Derived.Test.YthkoionigdnhgaaShelf
namespace Go.Proofs.Ythkoionigdnhgaa
open Go.RowKit

def hS (l : List UInt8) : ByteArray := ⟨l.toArray⟩
theorem hS_list (l : List UInt8) : (hS l).data.toList = l := rfl
theorem hS_size (l : List UInt8) : (hS l).size = l.length := List.size_toArray ..
def celH (L : List (List UInt8)) : List Value := L.map fun x => Value.string (hS x)
theorem celH_len (L : List (List UInt8)) : (celH L).length = L.length := by simp [celH]
theorem celH_one (L : List (List UInt8)) : ∀ v ∈ celH L, v.oneCell' = true := by
  intro v hv
  simp only [celH, List.mem_map] at hv
  obtain ⟨b, _, rfl⟩ := hv
  rfl
theorem info9H : (Try.prog.info? 9).map (fun i => (i.zero, i.size, i.bytes)) = some (some (.string ⟨#[]⟩), 1, 16) := by kernel_rfl
theorem u8vH {c n : UInt8} {m : Int} (h : c = n) (hm : m = (n.toNat : Int) := by rfl) : ((c.toNat : Int) == m) = true := by subst h hm; simp
theorem u8wH {c n : UInt8} {m : Int} (h : ¬ c = n) (hm : m = (n.toNat : Int) := by rfl) : ((c.toNat : Int) == m) = false := by
  subst hm
  rw [beq_eq_false_iff_ne]
  intro e
  exact h (UInt8.toNat_inj.1 (by exact_mod_cast e))
/-- One text more behind a row of the call's own. -/
theorem wpList_append_strH {ops : Array Oper} {rest : List Oper} {o : Oper} {a : Act} {w : World} {Q : Exit → Act → World → Prop} (hgd : o.guard = none) (s x : Operand)
    (ho : o.op = .call { callee := .builtin .append, args := #[s, x], argTypes := #[27, 27] }) (base : Nat) (v : Value) (n : Nat) (xs : List (List UInt8)) (hs : a.eval s = v) (hown : w.ownsRow base 9 1 v n (celH xs))
    (g : Nat) (y : List UInt8) (c : Nat) (hx : a.eval x = .slice (some ⟨g, 0, none⟩) 1 c) (hb : w.cell? ⟨g, 0, none⟩ = some (.string (hS y))) (hbytes : (n + 1) * 16 ≤ 140737488355328) (hbase : base ≤ w.heap.size)
    (h : ∀ v' w', w'.ownsRow base 9 1 v' (n + 1) (celH (xs ++ [y])) → w.grownBy w' v.ownBlock → wpList Try.prog ops Q rest (a.put o.dst v') w') : wpList Try.prog ops Q (o :: rest) a w := by
  obtain ⟨i0, hi, hz0, hz1, hz2⟩ := info_parts info9H
  refine wpList_append_own _ hgd s x 27 ho base 9 i0 (.string ⟨#[]⟩) 1 16 Try.underlying27 hi hz0 hz1 hz2 rfl (by decide) v n _ hs hown ⟨g, 0, none⟩ 1 c (celH [y]) hx rfl (fun j u hu => ?_) (celH_one _) (by unfold maxLen; omega) hbytes hbase ?_
  · cases j with
    | zero =>
      obtain rfl : Value.string (hS y) = u := by simpa [celH] using hu
      exact hb
    | succ j => simp [celH] at hu
  · intro v' w' ho' hg' _
    exact h v' w' (by rw [celH, List.map_append]; exact ho') hg'
theorem own_shapeH {w : World} {base n : Nat} {v : Value} {L : List (List UInt8)} (h : w.ownsRow base 9 1 v n (celH L)) : n = L.length ∧ ∃ a cp, v = .slice a n cp ∧ n ≤ cp ∧ cp ≤ 9223372036854775807 ∧ (L ≠ [] → ∃ g, a = some ⟨g, 0, none⟩ ∧ g < w.heap.size ∧ ∀ j x, L[j]? = some x → w.cell? ⟨g, j, none⟩ = some (.string (hS x))) := by
  have hl : n = L.length := by have := h.1; rw [celH_len] at this; omega
  refine ⟨hl, ?_⟩
  rcases h.2 with ⟨hv, h0⟩ | ⟨g, cap, cur, hv, hbg, hg, hnc, hcm, hcs, ht⟩
  · refine ⟨none, 0, by rw [hv, h0], by omega, by omega, fun hne => ?_⟩
    exact absurd (List.eq_nil_of_length_eq_zero (by omega)) hne
  · refine ⟨_, cap, hv, hnc, by unfold maxLen at hcm; omega, fun hne => ⟨g, rfl, (Array.getElem?_eq_some_iff.1 hg).1, fun j x hx => ?_⟩⟩
    subst hv
    have hj := (List.getElem?_eq_some_iff.1 hx).1
    have := h.cellAt j (by omega)
    rw [this]
    simp [celH, hx]
def numsH (l : List UInt8) : List Int := l.map fun c => (c.toNat : Int)
theorem bytes_numsH (l : List UInt8) : Lib.bytesOf (numsH l) = l := by
  unfold Lib.bytesOf numsH
  rw [List.map_map]
  conv => rhs; rw [← List.map_id l]
  apply List.map_congr_left
  intro c _
  simp
theorem nums_inH (l : List UInt8) : ∀ x ∈ numsH l, 0 ≤ x ∧ x < 256 := fun x hx => by
  unfold numsH at hx
  obtain ⟨c, _, rfl⟩ := List.mem_map.1 hx
  have := c.toNat_lt
  omega
theorem bytesIn_of {a : Option Addr} {l : List UInt8} {w : World} (h : Bts a l w) : Lib.BytesIn w a l.length (numsH l) := fun hn => by
  rcases h with rfl | ⟨g, o, e, _, hr⟩
  · simp at hn
  · refine ⟨g, o, e, fun i hi => ?_⟩
    rw [hr i hi]
    unfold numsH
    simp [List.getD, hi]
/-- Where a row begins that is cut at k. -/
def slH (a : Option Addr) (k cap : Nat) : Option Addr := if cap = k then a else a.map (·.add k)
theorem Bts.cutH {a : Option Addr} {l : List UInt8} {w : World} (h : Bts a l w) (p cap : Nat) (hc : l.length ≤ cap) : Bts (slH a p cap) (l.drop p) w := by
  unfold slH
  split
  · exact .inl (List.drop_eq_nil_of_le (by omega))
  · rcases h with rfl | ⟨g, o, rfl, hg, hr⟩
    · exact .inl (by simp)
    · refine .inr ⟨g, o + p, by simp [Addr.add], hg, fun j hj => ?_⟩
      rw [List.length_drop] at hj
      have := hr (p + j) (by omega)
      rw [Nat.add_assoc, this, List.getElem_drop]
theorem run_slH (a : Option Addr) (n cap p : Nat) (h1 : p ≤ n) (w : World) : (Instr.sliceAt 22 (.slice a n cap) (some (.int .i64 (p : Int))) none none).run Try.prog w = .ok (.slice (slH a p cap) (n - p) (cap - p)) w := by
  have hu : Try.prog.underlying 22 = some (.slice (Try.prog.elem 22)) := Try.underlying22
  have hs : (sizeOf (Try.prog.elem 22)).run Try.prog w = .ok 1 w := by
    obtain ⟨i0, hi0, hz0, hz1, hz2⟩ := info_parts info5
    have : (sizeOf 5).run Try.prog w = .ok 1 w := by go_simp
    exact this
  rw [run_sliceAt_slice (h := hu), run_slice_l (ht := hu) (h0 := by omega) (h1 := by omega), hs]
  simp [Result.andThen, sliced, slH]
theorem run_slHH (a : Option Addr) (n cap p q : Nat) (h1 : p ≤ q) (h2 : q ≤ cap) (w : World) : (Instr.sliceAt 22 (.slice a n cap) (some (.int .i64 (p : Int))) (some (.int .i64 (q : Int))) none).run Try.prog w = .ok (.slice (slH a p cap) (q - p) (cap - p)) w := by
  have hu : Try.prog.underlying 22 = some (.slice (Try.prog.elem 22)) := Try.underlying22
  have hs : (sizeOf (Try.prog.elem 22)).run Try.prog w = .ok 1 w := by
    obtain ⟨i0, hi0, hz0, hz1, hz2⟩ := info_parts info5
    have : (sizeOf 5).run Try.prog w = .ok 1 w := by go_simp
    exact this
  rw [run_sliceAt_slice (h := hu), run_slice_lh (ht := hu) (h0 := by omega) (h1 := by omega) (h2 := by omega), hs]
  simp [Result.andThen, sliced, slH]
theorem bcut_any (a : Option Addr) (l : List UInt8) (n c : Nat) (hn : n = l.length) (hc : n ≤ c) (hnn : a = none → c = 0) (g : Nat) (m : Int) (w : World) (hb : Bts a l w) (hg : Bts (some ⟨g, 0, none⟩) [13, 10] w) (hl : l.length < 4294967281) (hm : w.cell? ⟨0, 0, none⟩ = some (.int .i64 m)) :
    Calls Try.prog 10 #[.slice a n c, .slice (some ⟨g, 0, none⟩) 2 2] w fun e w' => ((e = .returned (.tuple #[.slice a n c, .slice none 0 0, .bool false]) ∧ noCL l) ∨ ∃ i : Nat, e = .returned (.tuple #[.slice a i c, .slice (slH a (i + 2) c) (n - (i + 2)) (c - (i + 2)), .bool true]) ∧ i + 2 ≤ n ∧ l = l.take i ++ 13 :: 10 :: l.drop (i + 2) ∧ noCL (l.take i ++ [13])) ∧ Below w.heap.size w w' := by
  subst hn
  have h2 := bytesIn_of hg
  have := Try.bytes_Cut_all a (some ⟨g, 0, none⟩) l.length c 2 2 (numsH l) (numsH [13, 10]) m w (by simp [numsH]) (by simp [numsH]) (nums_inH l) (nums_inH _) (bytesIn_of hb) h2 hnn hc hl (by decide) hm
  rw [bytes_numsH, bytes_numsH] at this
  refine this.mono ?_
  rintro e w' ⟨he, q, rfl⟩
  refine ⟨?_, ⟨rfl, rfl, rfl, Nat.le_refl _, fun _ _ => rfl⟩⟩
  subst he
  rcases index_crlf l with ⟨h1, h3⟩ | ⟨i, h1, h3, h4, h5⟩
  · refine .inl ⟨?_, h3⟩
    rw [h1]
    rfl
  · refine .inr ⟨i, ?_, h3, h4, h5⟩
    rw [h1]
    unfold Lib.cutV
    rw [if_pos (by omega)]
    unfold Lib.fromV slH
    rw [Int.toNat_natCast]
end Go.Proofs.Ythkoionigdnhgaa
