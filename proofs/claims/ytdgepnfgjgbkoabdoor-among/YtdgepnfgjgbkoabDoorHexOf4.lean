/-
  isBlank, room, charsetOf.
-/
import Derived.Test.YtdgepnfgjgbkoabDoorWdP
import Derived.Test.YtdgepnfgjgbkoabDoorUpper
import Derived.Test.YtdgepnfgjgbkoabDoorBase
import Derived.WalkKit
import Derived.Below
import Derived.Test.YtdgepnfgjgbkoabDoorPureUp
import Derived.Deep.RegionHeld3
import Derived.Deep.AppendLies
import Derived.Deep.DeepAppendRoom
namespace Go.Proofs.YtdgepnfgjgbkoabDoor
open Go.RowKit

theorem u8x (c n : UInt8) (m : Int) (hm : m = (n.toNat : Int) := by rfl) : ((c.toNat : Int) == m) = (c == n) := by
  subst hm
  rw [Bool.eq_iff_iff]
  simp only [beq_iff_eq]
  exact ⟨fun h => UInt8.toNat_inj.1 (by omega), fun h => by rw [h]⟩
/-- The text of a coding: B or Q. -/
def cdS (q : Bool) : ByteArray := if q then ⟨#[81]⟩ else ⟨#[66]⟩
theorem wblank_any (c : UInt8) (w : World) : Calls Tryd.prog 34 #[.int .u8 (c.toNat : Int)] w fun e w' => e = .returned (.bool (blk c)) ∧ w' = w := by
  have k1 := u8x c 32 32
  have k2 := u8x c 9 9
  unfold blk
  cases h1 : (c == 32) <;> cases h2 : (c == 9) <;> rw [h1] at k1 <;> rw [h2] at k2 <;> clear h1 h2
  all_goals
    go_enter Tryd.func34, Tryd.ntmps34
    go_wp2
    go_ret
    exact ⟨rfl, rfl⟩
theorem wroom_any (q : Bool) (w : World) : Calls Tryd.prog 28 #[.string (cdS q)] w fun e w' => e = .returned (.int .i64 (roW q : Nat)) ∧ w' = w := by
  cases q
  all_goals
    unfold cdS roW
    go_enter Tryd.func28, Tryd.ntmps28
    go_wp2
    go_ret
    exact ⟨rfl, rfl⟩
theorem beqd (l m : List UInt8) : (l == m) = decide (l = m) := Bool.eq_iff_iff.2 ⟨fun h => decide_eq_true (beq_iff_eq.1 h), fun h => beq_iff_eq.2 (of_decide_eq_true h)⟩
theorem ups_list (s : ByteArray) : (upS s).toList = upL s.data.toList := by rw [ByteArray.toList_eq]; simp [upS]
theorem wcsof_any (s : ByteArray) (w : World) (hs : s.size ≤ maxLen) : Calls Tryd.prog 38 #[.string s] w fun e w' => e = .returned (.int .i64 (csNo s.data.toList : Nat)) ∧ Below w.heap.size w w' := by
  have hU := upper_any s w hs
  have HL := ups_list s
  obtain ⟨U, hU2⟩ : ∃ U, U = upS s := ⟨_, rfl⟩
  rw [← hU2] at hU HL
  have k1 : (U.toList == [85, 84, 70, 45, 56]) = decide (upL s.data.toList = nmU) := by rw [HL]; exact beqd _ nmU
  have k2 : (U.toList == [85, 83, 45, 65, 83, 67, 73, 73]) = decide (upL s.data.toList = nmA) := by rw [HL]; exact beqd _ nmA
  have k3 : (U.toList == [73, 83, 79, 45, 56, 56, 53, 57, 45, 49]) = decide (upL s.data.toList = nmI) := by rw [HL]; exact beqd _ nmI
  clear hU2 HL
  unfold csNo
  by_cases h1 : upL s.data.toList = nmU <;> by_cases h2 : upL s.data.toList = nmA <;> by_cases h3 : upL s.data.toList = nmI
  all_goals
    simp only [h1, h2, h3, decide_true, decide_false, if_true, if_false] at k1 k2 k3 ⊢
    try clear h1
    try clear h2
    try clear h3
    go_enter Tryd.func38, Tryd.ntmps38
    go_wp2_with fail
    refine hU.mono ?_
    rintro e w' ⟨rfl, hb⟩
    go_wp2
    go_ret
    exact ⟨rfl, hb⟩
end Go.Proofs.YtdgepnfgjgbkoabDoor
/-
  Worlds that have grown, one behind the other.
-/
namespace Go.Proofs.YtdgepnfgjgbkoabDoor
open Go.RowKit

theorem grown_on {w w1 w2 : World} {row row2 : Option Nat} (h1 : w.grownBy w1 row) (h2 : w1.grownBy w2 row2) (h : ∀ k, row2 = some k → some k = row ∨ w.heap.size ≤ k) : w.grownBy w2 row :=
  ⟨h2.os.trans h1.os, h2.tape.trans h1.tape, h2.output.trans h1.output, Nat.le_trans h1.size h2.size, fun k hk hne => (h2.block k (Nat.lt_of_lt_of_le hk h1.size) (fun e => by
    rcases h k e.symm with h' | h'
    · exact hne h'
    · omega)).trans (h1.block k hk hne)⟩
theorem two_alloc {w w' : World} (a b : Obj) {r : Option Nat} (h : ((w.alloc a).alloc b).grownBy w' r) : w.grownBy w' r :=
  grown_on (grown_on (World.grownBy_alloc w a r) (World.grownBy_alloc _ b r) (fun _ h => .inl h.symm)) h (fun _ h => .inl h.symm)
theorem base_le {w : World} {base base' e size n : Nat} {v : Value} {xs : List Value} (h : w.ownsRow base e size v n xs) (hb : base' ≤ base) : w.ownsRow base' e size v n xs := by
  obtain ⟨h1, h2⟩ := h
  refine ⟨h1, ?_⟩
  rcases h2 with h2 | ⟨g, cap, cur, hv, hg, r⟩
  · exact .inl h2
  · exact .inr ⟨g, cap, cur, hv, by omega, r⟩
theorem bcell {W w1 : World} (hb : Below W.heap.size W w1) : (∀ b o, b < W.heap.size → w1.cell? ⟨b, o, none⟩ = W.cell? ⟨b, o, none⟩) ∧ (∀ b o, b < W.heap.size → w1.frozen? ⟨b, o, none⟩ = W.frozen? ⟨b, o, none⟩) :=
  ⟨fun b o h => hb.cell (p := ⟨b, o, none⟩) h, fun b o h => hb.frozen (p := ⟨b, o, none⟩) h⟩
theorem own_conv {w : World} {base n : Nat} {v : Value} {l : List UInt8} (h : w.ownsRow base 5 1 v n (cellsB l)) : (convert 44 9 v).run Tryd.prog w = .ok (.string ⟨l.toArray⟩) w := by
  obtain ⟨a, cap, rfl, hb, hl, _⟩ := own_bts h
  subst hl
  exact bts_back hb cap
end Go.Proofs.YtdgepnfgjgbkoabDoor
/-
  Bytes that lie in a row of memory.
-/
namespace Go.Proofs.YtdgepnfgjgbkoabDoor
open Go.RowKit

/-- The bytes of s lie in block g from place o on. -/
def RowAt (s : ByteArray) (g o : Nat) (w : World) : Prop := ∀ j, (h : j < s.size) → w.cell? ⟨g, o + j, none⟩ = some (.int .u8 (s[j].toNat : Int))

theorem RowAt.below {s : ByteArray} {g o B : Nat} {w w' : World} (h : RowAt s g o w) (hb : Below B w w') (hg : g < B) : RowAt s g o w' := fun j hj =>
  (hb.cell (p := ⟨g, o + j, none⟩) hg).trans (h j hj)
end Go.Proofs.YtdgepnfgjgbkoabDoor
/-
  The contract of octet.HexOf.
-/
namespace Go.Proofs.YtdgepnfgjgbkoabDoor
open Go.RowKit

/-- append where there is room, as one step of a region that draws its order. -/
theorem step_append_spare {P : Program} {w : World} {ops : Array Oper} {o : Oper} {a : Act} {K : Act → World → Prop} {Q : Exit → Act → World → Prop} {E : Prop} (hgd : o.guard = none) (s x : Operand) (t : TypeId)
    (ho : o.op = .call { callee := .builtin .append, args := #[s, x], argTypes := #[t, t] })
    (base : Nat) (e : TypeId) (i : TypeInfo) (size : Nat) (ht : P.underlying t = some (.slice e)) (hi : P.info? e = some i) (hsize : i.size = size)
    (g n cap : Nat) (xs : List Value) (hs : a.eval s = .slice (some ⟨g, 0, none⟩) n cap) (hown : w.ownsRow base e size (.slice (some ⟨g, 0, none⟩) n cap) n xs)
    (ad : Addr) (m c : Nat) (news : List Value) (hx : a.eval x = .slice (some ad) m c) (hl : news.length = m * size) (hnews : ∀ j u, news[j]? = some u → w.cell? (ad.add j) = some u) (h1 : ∀ u ∈ news, u.oneCell' = true)
    (hroom : n + m ≤ cap)
    (h : ∀ w', w'.ownsRow base e size (.slice (some ⟨g, 0, none⟩) (n + m) cap) (n + m) (xs ++ news) → w.grownBy w' (some g) → K (a.put o.dst (.slice (some ⟨g, 0, none⟩) (n + m) cap)) w') :
    if Region.wanted o (yielded ops a.tmps) = true then Oper.wp P o a w K Q else E := by
  have hw : Region.wanted o (yielded ops a.tmps) = true := by simp [Region.wanted, hgd]
  rw [if_pos hw]
  exact wp_append_own_spare w s x t ho base e i size ht hi hsize g n cap xs hs hown ad m c news hx hl hnews h1 hroom h

theorem hx_and15 : ∀ b : Fin 256, bits .and .u8 (b.val : Int) 15 = (b.val : Int) % 16 := by decide +kernel
theorem dig16 : ∀ n : Fin 16, ((⟨#[48, 49, 50, 51, 52, 53, 54, 55, 56, 57, 65, 66, 67, 68, 69, 70]⟩ : ByteArray)[n.val]'n.isLt).toNat = (hexD n.val).toNat := by decide
theorem dig16_at (i n : Nat) (h : i = n) (hi : i < 16) : ((⟨#[48, 49, 50, 51, 52, 53, 54, 55, 56, 57, 65, 66, 67, 68, 69, 70]⟩ : ByteArray)[i]'hi).toNat = (hexD n).toNat := by
  subst h
  exact dig16 ⟨i, hi⟩

set_option maxRecDepth 100000 in
set_option maxHeartbeats 2000000 in
theorem hexof_any (s : ByteArray) (g o cap : Nat) (w : World) (hr : RowAt s g o w) (hs : 2 * s.size ≤ 281474976710656) :
    Calls Tryd.prog 62 #[.slice (some ⟨g, o, none⟩) s.size cap] w fun e w' => e = .returned (.string (hexS s)) ∧ Below w.heap.size w w' := by
  obtain ⟨i0, hi, hz0, hz1, hz2⟩ := info_parts info5
  have HR : Hid (RowAt s g o w) := hr
  clear hr
  go_enter Tryd.func62, Tryd.ntmps62
  go_wp2_with (at_make; refine wpList_make_own _ rfl _ _ 44 rfl w.heap.size 5 i0 (.int .u8 0) 1 Tryd.underlying44 hi hz0 hz1 .i64 .i64 _ (2 * s.size) rfl rfl (by omega) (by rw [hz2]; omega) (by unfold maxLen; omega) (Nat.le_refl _) ?_)
  intro w1 hown hgrow
  have HB : Hid (Below w.heap.size w w1) := (Below.refl _ _).grown hgrow (Nat.le_refl _) (fun k h => by cases h)
  have HO : Hid (w1.ownsRow w.heap.size 5 1 (.slice (some ⟨w.heap.size, 0, none⟩) 0 (2 * s.size)) 0 []) := hown
  clear hgrow hown
  go_wp2
  go_loopw [3, 12] (fun v i wr => ∃ k : Nat, k ≤ s.size ∧ i = .int .i64 k ∧ v = .slice (some ⟨w.heap.size, 0, none⟩) (2 * k) (2 * s.size) ∧ Hid (wr.ownsRow w.heap.size 5 1 (.slice (some ⟨w.heap.size, 0, none⟩) (2 * k) (2 * s.size)) (2 * k) (cellsB (hexL (s.data.toList.take k)))) ∧ Hid (Below w.heap.size w wr)) (fun _ i _ => s.size - (intOf i).toNat)
  case atStart => exact ⟨0, Nat.zero_le _, rfl, rfl, HO, HB⟩
  case round =>
    obtain ⟨k, hk, rfl, rfl, HO, HB⟩ := hrel
    by_cases hlt : k < s.size
    · have hg : g < w.heap.size := World.block_lt_of_cell? w _ (HR.out k hlt)
      have hc : wr.cell? ⟨g, o + k, none⟩ = some (.int .u8 (s[k].toNat : Int)) := (HB.out.cell (p := ⟨g, o + k, none⟩) hg).trans (HR.out k hlt)
      have hx := s[k].toNat_lt
      obtain ⟨x, hxx⟩ : ∃ x : Nat, x = s[k].toNat := ⟨_, rfl⟩
      rw [← hxx] at hc hx
      have HX : Hid (x = s[k].toNat) := hxx
      clear hxx
      have ha := hx_and15 ⟨x, hx⟩
      simp only at ha
      have hlo0 : (0 : Int) ≤ (x : Int) % 16 := by omega
      have hlo1 : (x : Int) % 16 < 16 := by omega
      have hhi0 : (0 : Int) ≤ (x : Int) / 16 := by omega
      have hhi1 : (x : Int) / 16 < 16 := by omega
      have hd1 := dig16_at ((x : Int) / 16).toNat (x / 16) (by omega) (by omega)
      have hd2 := dig16_at ((x : Int) % 16).toNat (x % 16) (by omega) (by omega)
      go_wp2_with fail
      have hown := HO.out
      go_region_held3 (fun w' => True) (trivial)
        ((refine step_append_spare (by rfl) _ _ _ (by rfl) w.heap.size 5 i0 1 Tryd.underlying44 hi hz1 w.heap.size (2 * k) (2 * s.size) _ (by rfl) ((hown.alloc _).drew) ⟨wr.heap.size, 0, none⟩ 2 2 [.int .u8 ((hexD (x / 16)).toNat : Int), .int .u8 ((hexD (x % 16)).toNat : Int)] (by rfl) (by rfl) (World.news_of_block (cs := #[.int .u8 ((hexD (x / 16)).toNat : Int), .int .u8 ((hexD (x % 16)).toNat : Int)]) (t := 5) (fr := (0, 0)) (heap_alloc_new wr _)) (by simp [Value.oneCell']) (by omega) ?_; intro w2 hown2 hgrow))
      all_goals
        have R : Hid (w2.ownsRow w.heap.size 5 1 (.slice (some ⟨w.heap.size, 0, none⟩) (2 * (k + 1)) (2 * s.size)) (2 * (k + 1)) (cellsB (hexL (s.data.toList.take (k + 1))))) := by
          show w2.ownsRow _ _ _ _ _ _
          have e := hexL_take s.data.toList k (by simpa using hlt)
          have e2 : s.data.toList[k]'(by simpa using hlt) = s[k] := rfl
          rw [e2, ← HX.out] at e
          rw [e, cellsB_append]
          exact hown2
        have HB3 : Hid (Below w.heap.size w w2) := (HB.out.alloc HB.out.size _).drew.grown hgrow (by have := HB.out.size; simp; omega) (fun q hq => by injection hq with hq; omega)
        clear hown hown2 hgrow HO HB
        go_wp2
        go_roundw
        case rel => exact ⟨k + 1, by omega, by go_num, rfl, R, HB3⟩
        case measure => simp [intOf]; omega
    · obtain rfl : k = s.size := by omega
      have e : s.data.toList.take s.size = s.data.toList := List.take_of_length_le (by simp)
      rw [e] at HO
      have hl : (hexL s.data.toList).length = 2 * s.size := by rw [hexL_length]; simp
      have ho : wr.ownsRow w.heap.size 5 1 (.slice (some ⟨w.heap.size, 0, none⟩) (2 * s.size) (2 * s.size)) (hexL s.data.toList).length (cellsB (hexL s.data.toList)) := by rw [hl]; exact HO.out
      have hback := own_conv ho
      clear HO e hl ho
      go_wp2
      go_ret
      exact ⟨rfl, HB.out⟩

set_option maxRecDepth 100000 in
set_option maxHeartbeats 2000000 in
theorem hexof_none (a : Option Addr) (cap : Nat) (w : World) :
    Calls Tryd.prog 62 #[.slice a 0 cap] w fun e w' => e = .returned (.string ⟨#[]⟩) ∧ Below w.heap.size w w' := by
  obtain ⟨i0, hi, hz0, hz1, hz2⟩ := info_parts info5
  go_enter Tryd.func62, Tryd.ntmps62
  go_wp2_with (at_make; refine wpList_make_own _ rfl _ _ 44 rfl w.heap.size 5 i0 (.int .u8 0) 1 Tryd.underlying44 hi hz0 hz1 .i64 .i64 _ 0 rfl rfl (by omega) (by rw [hz2]; omega) (by unfold maxLen; omega) (Nat.le_refl _) ?_)
  intro w1 hown hgrow
  have HB : Hid (Below w.heap.size w w1) := (Below.refl _ _).grown hgrow (Nat.le_refl _) (fun k h => by cases h)
  have hback := own_conv (l := []) hown
  clear hgrow hown
  go_wp2
  refine wp_loop_rounds 1 ?_
  rw [rounds_succ]
  go_wp2
  go_ret
  exact ⟨rfl, HB.out⟩
end Go.Proofs.YtdgepnfgjgbkoabDoor
