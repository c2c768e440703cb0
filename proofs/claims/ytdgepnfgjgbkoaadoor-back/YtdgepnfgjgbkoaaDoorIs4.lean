/-
  The contract of octet.HexOf.
-/
import Derived.Test.YtdgepnfgjgbkoaaDoorRow
import Derived.Test.YtdgepnfgjgbkoaaDoorPureUp
import Derived.Deep.RegionHeld3
import Derived.Deep.AppendLies
import Derived.Deep.DeepAppendRoom
import Derived.Test.YtdgepnfgjgbkoaaDoorBase
import Derived.WalkKit
import Derived.WalkSpells
import Derived.Below
namespace Go.Proofs.YtdgepnfgjgbkoaaDoor
open Go.RowKit

/-- append where there is room, as one step of a region that draws its order. -/
theorem step_append_spare {P : Program} {w : World} {ops : Array Oper} {o : Oper} {a : Act} {K : Act → World → Prop} {Q : Exit → Act → World → Prop} {E : Prop} (hgd : o.guard = none) (s x : Operand) (t : TypeId)
    (ho : o.op = .call { callee := .builtin .append, args := #[s, x], argTypes := #[t, t] })
    (base : Nat) (e : TypeId) (i : TypeInfo) (size : Nat) (ht : P.underlying t = some (.slice e)) (hi : P.info? e = some i) (hsize : i.size = size)
    (g n cap : Nat) (xs : List Value) (hs : a.eval s = .slice (some ⟨g, 0, none⟩) n cap) (hown : w.ownsRow base e size (.slice (some ⟨g, 0, none⟩) n cap) n xs)
    (ad : Addr) (m c : Nat) (news : List Value) (hx : a.eval x = .slice (some ad) m c) (hl : news.length = m * size) (hnews : ∀ j u, news[j]? = some u → w.cell? (ad.add j) = some u) (h1 : ∀ u ∈ news, u.oneCell' = true)
    (hroom : n + m ≤ cap)
    (h : ∀ w', w'.ownsRow base e size (.slice (some ⟨g, 0, none⟩) (n + m) cap) (n + m) (xs ++ news) → w.grownBy w' (some g) → K (a.put o.dst (.slice (some ⟨g, 0, none⟩) (n + m) cap)) w') :
    if Region.wanted o (yielded ops a.tmps) = true then Oper.wp P o a w K Q else E := by
  have hw : Region.wanted o (yielded ops a.tmps) = true := by simp [Region.wanted, hgd]
  rw [if_pos hw]
  exact wp_append_own_spare w s x t ho base e i size ht hi hsize g n cap xs hs hown ad m c news hx hl hnews h1 hroom h

theorem hx_and15 : ∀ b : Fin 256, bits .and .u8 (b.val : Int) 15 = (b.val : Int) % 16 := by decide +kernel
theorem dig16 : ∀ n : Fin 16, ((⟨#[48, 49, 50, 51, 52, 53, 54, 55, 56, 57, 65, 66, 67, 68, 69, 70]⟩ : ByteArray)[n.val]'n.isLt).toNat = (hexD n.val).toNat := by decide
theorem dig16_at (i n : Nat) (h : i = n) (hi : i < 16) : ((⟨#[48, 49, 50, 51, 52, 53, 54, 55, 56, 57, 65, 66, 67, 68, 69, 70]⟩ : ByteArray)[i]'hi).toNat = (hexD n).toNat := by
  subst h
  exact dig16 ⟨i, hi⟩

set_option maxRecDepth 100000 in
set_option maxHeartbeats 2000000 in
theorem hexof_any (s : ByteArray) (g o cap : Nat) (w : World) (hr : RowAt s g o w) (hs : 2 * s.size ≤ 281474976710656) :
    Calls Tryd.prog 87 #[.slice (some ⟨g, o, none⟩) s.size cap] w fun e w' => e = .returned (.string (hexS s)) ∧ Below w.heap.size w w' := by
  obtain ⟨i0, hi, hz0, hz1, hz2⟩ := info_parts info5
  have HR : Hid (RowAt s g o w) := hr
  clear hr
  go_enter Tryd.func87, Tryd.ntmps87
  go_wp2_with (at_make; refine wpList_make_own _ rfl _ _ 38 rfl w.heap.size 5 i0 (.int .u8 0) 1 Tryd.underlying38 hi hz0 hz1 .i64 .i64 _ (2 * s.size) rfl rfl (by omega) (by rw [hz2]; omega) (by unfold maxLen; omega) (Nat.le_refl _) ?_)
  intro w1 hown hgrow
  have HB : Hid (Below w.heap.size w w1) := (Below.refl _ _).grown hgrow (Nat.le_refl _) (fun k h => by cases h)
  have HO : Hid (w1.ownsRow w.heap.size 5 1 (.slice (some ⟨w.heap.size, 0, none⟩) 0 (2 * s.size)) 0 []) := hown
  clear hgrow hown
  go_wp2
  go_loopw [3, 12] (fun v i wr => ∃ k : Nat, k ≤ s.size ∧ i = .int .i64 k ∧ v = .slice (some ⟨w.heap.size, 0, none⟩) (2 * k) (2 * s.size) ∧ Hid (wr.ownsRow w.heap.size 5 1 (.slice (some ⟨w.heap.size, 0, none⟩) (2 * k) (2 * s.size)) (2 * k) (cellsB (hexL (s.data.toList.take k)))) ∧ Hid (Below w.heap.size w wr)) (fun _ i _ => s.size - (intOf i).toNat)
  case atStart => exact ⟨0, Nat.zero_le _, rfl, rfl, HO, HB⟩
  case round =>
    obtain ⟨k, hk, rfl, rfl, HO, HB⟩ := hrel
    by_cases hlt : k < s.size
    · have hg : g < w.heap.size := World.block_lt_of_cell? w _ (HR.out k hlt)
      have hc : wr.cell? ⟨g, o + k, none⟩ = some (.int .u8 (s[k].toNat : Int)) := (HB.out.cell (p := ⟨g, o + k, none⟩) hg).trans (HR.out k hlt)
      have hx := s[k].toNat_lt
      obtain ⟨x, hxx⟩ : ∃ x : Nat, x = s[k].toNat := ⟨_, rfl⟩
      rw [← hxx] at hc hx
      have HX : Hid (x = s[k].toNat) := hxx
      clear hxx
      have ha := hx_and15 ⟨x, hx⟩
      simp only at ha
      have hlo0 : (0 : Int) ≤ (x : Int) % 16 := by omega
      have hlo1 : (x : Int) % 16 < 16 := by omega
      have hhi0 : (0 : Int) ≤ (x : Int) / 16 := by omega
      have hhi1 : (x : Int) / 16 < 16 := by omega
      have hd1 := dig16_at ((x : Int) / 16).toNat (x / 16) (by omega) (by omega)
      have hd2 := dig16_at ((x : Int) % 16).toNat (x % 16) (by omega) (by omega)
      go_wp2_with fail
      have hown := HO.out
      go_region_held3 (fun w' => True) (trivial)
        ((refine step_append_spare (by rfl) _ _ _ (by rfl) w.heap.size 5 i0 1 Tryd.underlying38 hi hz1 w.heap.size (2 * k) (2 * s.size) _ (by rfl) ((hown.alloc _).drew) ⟨wr.heap.size, 0, none⟩ 2 2 [.int .u8 ((hexD (x / 16)).toNat : Int), .int .u8 ((hexD (x % 16)).toNat : Int)] (by rfl) (by rfl) (World.news_of_block (cs := #[.int .u8 ((hexD (x / 16)).toNat : Int), .int .u8 ((hexD (x % 16)).toNat : Int)]) (t := 5) (fr := (0, 0)) (heap_alloc_new wr _)) (by simp [Value.oneCell']) (by omega) ?_; intro w2 hown2 hgrow))
      all_goals
        have R : Hid (w2.ownsRow w.heap.size 5 1 (.slice (some ⟨w.heap.size, 0, none⟩) (2 * (k + 1)) (2 * s.size)) (2 * (k + 1)) (cellsB (hexL (s.data.toList.take (k + 1))))) := by
          show w2.ownsRow _ _ _ _ _ _
          have e := hexL_take s.data.toList k (by simpa using hlt)
          have e2 : s.data.toList[k]'(by simpa using hlt) = s[k] := rfl
          rw [e2, ← HX.out] at e
          rw [e, cellsB_append]
          exact hown2
        have HB3 : Hid (Below w.heap.size w w2) := (HB.out.alloc HB.out.size _).drew.grown hgrow (by have := HB.out.size; simp; omega) (fun q hq => by injection hq with hq; omega)
        clear hown hown2 hgrow HO HB
        go_wp2
        go_roundw
        case rel => exact ⟨k + 1, by omega, by go_num, rfl, R, HB3⟩
        case measure => simp [intOf]; omega
    · obtain rfl : k = s.size := by omega
      have e : s.data.toList.take s.size = s.data.toList := List.take_of_length_le (by simp)
      rw [e] at HO
      have hl : (hexL s.data.toList).length = 2 * s.size := by rw [hexL_length]; simp
      have ho : wr.ownsRow w.heap.size 5 1 (.slice (some ⟨w.heap.size, 0, none⟩) (2 * s.size) (2 * s.size)) (hexL s.data.toList).length (cellsB (hexL s.data.toList)) := by rw [hl]; exact HO.out
      have hback := own_conv ho
      clear HO e hl ho
      go_wp2
      go_ret
      exact ⟨rfl, HB.out⟩

set_option maxRecDepth 100000 in
set_option maxHeartbeats 2000000 in
theorem hexof_none (a : Option Addr) (cap : Nat) (w : World) :
    Calls Tryd.prog 87 #[.slice a 0 cap] w fun e w' => e = .returned (.string ⟨#[]⟩) ∧ Below w.heap.size w w' := by
  obtain ⟨i0, hi, hz0, hz1, hz2⟩ := info_parts info5
  go_enter Tryd.func87, Tryd.ntmps87
  go_wp2_with (at_make; refine wpList_make_own _ rfl _ _ 38 rfl w.heap.size 5 i0 (.int .u8 0) 1 Tryd.underlying38 hi hz0 hz1 .i64 .i64 _ 0 rfl rfl (by omega) (by rw [hz2]; omega) (by unfold maxLen; omega) (Nat.le_refl _) ?_)
  intro w1 hown hgrow
  have HB : Hid (Below w.heap.size w w1) := (Below.refl _ _).grown hgrow (Nat.le_refl _) (fun k h => by cases h)
  have hback := own_conv (l := []) hown
  clear hgrow hown
  go_wp2
  refine wp_loop_rounds 1 ?_
  rw [rounds_succ]
  go_wp2
  go_ret
  exact ⟨rfl, HB.out⟩
end Go.Proofs.YtdgepnfgjgbkoaaDoor
/-
  The contracts of octet.Is, and of the document's Has, shown and Is: what each answers for every class and byte.
-/
namespace Go.Proofs.YtdgepnfgjgbkoaaDoor
open Go.RowKit

theorem ret_bool {a b : Bool} (h : a = b) : Ending.returned (.bool a) = .returned (.bool b) := by rw [h]

set_option maxHeartbeats 400000 in
theorem is_loop (c : Nat) (b : Int) (s : ByteArray) (w : World) (hc : c < 15) (hs : s.size ≤ 100) (hcell : w.cell? ⟨1, c, none⟩ = some (.string s)) :
    Calls Tryd.prog 71 #[.int .i64 c, .int .u8 b] w fun e w' => e = .returned (.bool (inPairs s.data.toList b)) ∧ w' = w := by
  go_enter Tryd.func71, Tryd.ntmps71
  go_wp2
  go_loop [6] (fun i => ∃ k : Nat, k ≤ s.size + 1 ∧ i = .int .i64 k ∧ Hid (inPairs s.data.toList b = inPairs (s.data.toList.drop k) b)) (fun i => s.size + 1 - (intOf i).toNat)
  case atStart => exact ⟨0, Nat.zero_le _, rfl, rfl⟩
  case round =>
    obtain ⟨k, hk, rfl, HH⟩ := hrel
    by_cases hlt : k + 1 < s.size
    · have HS : Hid (inPairs (s.data.toList.drop k) b = ((decide ((s[k].toNat : Int) ≤ b) && decide (b ≤ (s[k + 1].toNat : Int))) || inPairs (s.data.toList.drop (k + 2)) b)) := inPairs_drop s.data.toList b k (by simpa using hlt)
      by_cases h1 : (s[k].toNat : Int) ≤ b
      · by_cases h2 : b ≤ (s[k + 1].toNat : Int)
        · go_wp2
          go_ret
          exact ⟨ret_bool (by rw [HH.out, HS.out]; simp [h1, h2]), rfl⟩
        · have HN : Hid (inPairs s.data.toList b = inPairs (s.data.toList.drop (k + 2)) b) := by
            show _ = _
            rw [HH.out, HS.out, decide_eq_false h2, Bool.and_false, Bool.false_or]
          go_wp2
          go_round
          case rel => exact ⟨k + 2, by omega, by go_num, HN⟩
          case measure => simp [intOf]; omega
      · have HN : Hid (inPairs s.data.toList b = inPairs (s.data.toList.drop (k + 2)) b) := by
          show _ = _
          rw [HH.out, HS.out, decide_eq_false h1, Bool.false_and, Bool.false_or]
        go_wp2
        go_round
        case rel => exact ⟨k + 2, by omega, by go_num, HN⟩
        case measure => simp [intOf]; omega
    · go_wp2
      go_ret
      exact ⟨ret_bool (by rw [HH.out, inPairs_end _ _ _ (by simp; omega)]), rfl⟩

/-- The table, as the walks ask for it. -/
def Table (w : World) : Prop := ∀ c : Nat, c < 15 → w.cell? ⟨1, c, none⟩ = some (.string ⟨(classRows.getD c []).toArray⟩)

theorem rows_short : ∀ c : Fin 15, (classRows.getD c.val []).length ≤ 100 := by decide +kernel

theorem is_out (c b : Int) (w : World) (hc : c < 0 ∨ 15 ≤ c) :
    Calls Tryd.prog 71 #[.int .i64 c, .int .u8 b] w fun e w' => e = .returned (.bool false) ∧ w' = w := by
  rcases hc with hc | hc
  · go_enter Tryd.func71, Tryd.ntmps71
    go_wp2
    go_ret
    exact ⟨rfl, rfl⟩
  · have hn : ¬ c < 0 := by omega
    go_enter Tryd.func71, Tryd.ntmps71
    go_wp2
    go_ret
    exact ⟨rfl, rfl⟩

/-- octet.Is. -/
theorem is_any (c b : Int) (w : World) (ht : Table w) :
    Calls Tryd.prog 71 #[.int .i64 c, .int .u8 b] w fun e w' => e = .returned (.bool (isB c b)) ∧ w' = w := by
  by_cases hc : c < 0 ∨ 15 ≤ c
  · unfold isB
    rw [if_pos hc]
    exact is_out c b w hc
  · obtain ⟨n, rfl⟩ := Int.eq_ofNat_of_zero_le (show 0 ≤ c by omega)
    have hn : n < 15 := by omega
    have he : isB (n : Int) b = inPairs (classRows.getD n []) b := by unfold isB; rw [if_neg hc]; rfl
    rw [he]
    exact is_loop n b ⟨(classRows.getD n []).toArray⟩ w hn (by have := rows_short ⟨n, hn⟩; simpa [ByteArray.size] using this) (ht n hn)

end Go.Proofs.YtdgepnfgjgbkoaaDoor
