/-
  What the document's own examples come to.
-/
import Derived.Test.YtdgepnfgjgbkoaaDoorPcP
import Derived.Test.YtdgepnfgjgbkoaaDoorGrown
import Derived.Test.YtdgepnfgjgbkoaaDoorSpB16
import Derived.Test.YtdgepnfgjgbkoaaDoorPureUp
import Derived.Deep.RegionHeld3
import Derived.Deep.AppendLies
import Derived.Deep.DeepAppendRoom
namespace Go.Proofs.YtdgepnfgjgbkoaaDoor

theorem decL_lit (rs : List Int) (l : List UInt8) (h : ∀ r ∈ rs, isR r) (e : encL rs = l) : decL l = rs ∧ badU l = l.length := by
  subst e
  exact decL_encL rs h
theorem enc_lit (sh : Bool) (rs : List Int) (l t : List UInt8) (h : ∀ r ∈ rs, isR r) (e : encL rs = l) (hb : (if sh = true ∧ (jnW (wrS true [] rs)).length < (jnW (wrS false [] rs)).length then jnW (wrS true [] rs) else jnW (wrS false [] rs)) = t) : encW l sh = t ∧ encE l = 0 := by
  obtain ⟨h1, h2⟩ := decL_lit rs l h e
  unfold encW encE wrT
  have hn : ¬ badU l < l.length := by omega
  rw [if_neg hn, if_neg hn, h1]
  exact ⟨hb, rfl⟩
theorem kn_e1 : encW [71, 114, 195, 188, 195, 159, 101] true = [61, 63, 85, 84, 70, 45, 56, 63, 66, 63, 82, 51, 76, 68, 118, 77, 79, 102, 90, 81, 61, 61, 63, 61] ∧ encE [71, 114, 195, 188, 195, 159, 101] = 0 := enc_lit true [71, 114, 252, 223, 101] _ _ (by decide) (by decide +kernel) (by decide +kernel)
theorem kn_e2 : encW [97, 98, 99, 100, 101, 102, 103, 104, 105] true = [61, 63, 85, 84, 70, 45, 56, 63, 81, 63, 97, 98, 99, 100, 101, 102, 103, 104, 105, 63, 61] ∧ encE [97, 98, 99, 100, 101, 102, 103, 104, 105] = 0 := enc_lit true [97, 98, 99, 100, 101, 102, 103, 104, 105] _ _ (by decide) (by decide +kernel) (by decide +kernel)
theorem kn_d1 : decW [97, 32, 61, 63, 117, 116, 102, 45, 56, 63, 113, 63, 98, 63, 61, 32, 32, 61, 63, 85, 84, 70, 45, 56, 63, 66, 63, 89, 119, 61, 61, 63, 61, 32, 100] = ([97, 32, 98, 99, 32, 100], 0, 0) := by decide +kernel
theorem kn_n1 : needW [195, 169] = true := by decide +kernel
theorem kn_n2 : needW [97, 32, 98] = false := by decide +kernel
theorem kd_0 : decW [61, 63, 105, 115, 111, 45, 56, 56, 53, 57, 45, 49, 63, 81, 63, 99, 97, 102, 61, 101, 57, 95, 97, 117, 63, 61] = ([99, 97, 102, 195, 169, 32, 97, 117], 0, 0) := by decide +kernel
theorem kd_1 : decW [61, 63, 117, 115, 45, 97, 115, 99, 105, 105, 42, 101, 110, 63, 113, 63, 120, 61, 51, 68, 63, 61] = ([120, 61], 0, 0) := by decide +kernel
theorem kd_2 : decW [] = ([], 0, 0) := by decide +kernel
theorem kd_3 : decW [61, 63, 120, 63, 81, 63, 97, 63, 61] = ([], 171, 2) := by decide +kernel
theorem kd_4 : decW [61, 63, 85, 84, 70, 45, 56, 63, 66, 63, 89, 81, 63, 61] = ([], 170, 12) := by decide +kernel
theorem kd_5 : decW [61, 63, 85, 84, 70, 45, 56, 63, 81, 63, 97, 61, 52, 63, 61] = ([], 170, 11) := by decide +kernel
theorem kd_6 : decW [61, 63, 85, 84, 70, 45, 56, 63, 81, 63, 61, 70, 70, 63, 61] = ([], 170, 10) := by decide +kernel
theorem kd_7 : decW [61, 63, 117, 115, 45, 97, 115, 99, 105, 105, 63, 113, 63, 61, 56, 48, 63, 61] = ([], 170, 13) := by decide +kernel
theorem kd_8 : decW [61, 63, 85, 84, 70, 45, 56, 63, 88, 63, 97, 63, 61] = ([61, 63, 85, 84, 70, 45, 56, 63, 88, 63, 97, 63, 61], 0, 0) := by decide +kernel
theorem kd_9 : decW [120, 61, 63, 85, 84, 70, 45, 56, 63, 81, 63, 97, 63, 61] = ([120, 61, 63, 85, 84, 70, 45, 56, 63, 81, 63, 97, 63, 61], 0, 0) := by decide +kernel
theorem kd_10 : decW [61, 63, 85, 84, 70, 45, 56, 63, 81, 63, 97, 32, 98, 63, 61] = ([61, 63, 85, 84, 70, 45, 56, 63, 81, 63, 97, 32, 98, 63, 61], 0, 0) := by decide +kernel
theorem kd_11 : decW [61, 63, 63, 81, 63, 97, 63, 61] = ([61, 63, 63, 81, 63, 97, 63, 61], 0, 0) := by decide +kernel
theorem kd_12 : decW [61, 63, 85, 84, 70, 45, 56, 63, 81, 63, 63, 61] = ([], 0, 0) := by decide +kernel
theorem kd_13 : decW [255, 32, 0] = ([255, 32, 0], 0, 0) := by decide +kernel
theorem kn_e3 : encW [97, 32, 98, 195, 169] true = [61, 63, 85, 84, 70, 45, 56, 63, 66, 63, 89, 83, 66, 105, 119, 54, 107, 61, 63, 61] ∧ encE [97, 32, 98, 195, 169] = 0 := enc_lit true [97, 32, 98, 233] _ _ (by decide) (by decide +kernel) (by decide +kernel)
theorem kn_e4 : encW [] true = [] ∧ encE [] = 0 := enc_lit true [] _ _ (by decide) (by decide +kernel) (by decide +kernel)
theorem kn_e5 : encW [97, 255] true = [] ∧ encE [97, 255] = 50 := by
  have h : badU [97, 255] < ([97, 255] : List UInt8).length := by decide +kernel
  unfold encW encE
  rw [if_pos h, if_pos h]
  exact ⟨rfl, rfl⟩
theorem kx_0 : needW [61, 63] = false := by decide +kernel
theorem kx_1 : needW [61, 63, 120, 63, 113, 63, 63, 61] = true := by decide +kernel
theorem kx_2 : needW [97, 13] = true := by decide +kernel
theorem kx_3 : needW [] = false := by decide +kernel
theorem kx_4 : needW [97, 9, 98] = false := by decide +kernel
end Go.Proofs.YtdgepnfgjgbkoaaDoor
/-
  The contract of octet.HexOf.
-/
namespace Go.Proofs.YtdgepnfgjgbkoaaDoor
open Go.RowKit

/-- append where there is room, as one step of a region that draws its order. -/
theorem step_append_spare {P : Program} {w : World} {ops : Array Oper} {o : Oper} {a : Act} {K : Act → World → Prop} {Q : Exit → Act → World → Prop} {E : Prop} (hgd : o.guard = none) (s x : Operand) (t : TypeId)
    (ho : o.op = .call { callee := .builtin .append, args := #[s, x], argTypes := #[t, t] })
    (base : Nat) (e : TypeId) (i : TypeInfo) (size : Nat) (ht : P.underlying t = some (.slice e)) (hi : P.info? e = some i) (hsize : i.size = size)
    (g n cap : Nat) (xs : List Value) (hs : a.eval s = .slice (some ⟨g, 0, none⟩) n cap) (hown : w.ownsRow base e size (.slice (some ⟨g, 0, none⟩) n cap) n xs)
    (ad : Addr) (m c : Nat) (news : List Value) (hx : a.eval x = .slice (some ad) m c) (hl : news.length = m * size) (hnews : ∀ j u, news[j]? = some u → w.cell? (ad.add j) = some u) (h1 : ∀ u ∈ news, u.oneCell' = true)
    (hroom : n + m ≤ cap)
    (h : ∀ w', w'.ownsRow base e size (.slice (some ⟨g, 0, none⟩) (n + m) cap) (n + m) (xs ++ news) → w.grownBy w' (some g) → K (a.put o.dst (.slice (some ⟨g, 0, none⟩) (n + m) cap)) w') :
    if Region.wanted o (yielded ops a.tmps) = true then Oper.wp P o a w K Q else E := by
  have hw : Region.wanted o (yielded ops a.tmps) = true := by simp [Region.wanted, hgd]
  rw [if_pos hw]
  exact wp_append_own_spare w s x t ho base e i size ht hi hsize g n cap xs hs hown ad m c news hx hl hnews h1 hroom h

theorem hx_and15 : ∀ b : Fin 256, bits .and .u8 (b.val : Int) 15 = (b.val : Int) % 16 := by decide +kernel
theorem dig16 : ∀ n : Fin 16, ((⟨#[48, 49, 50, 51, 52, 53, 54, 55, 56, 57, 65, 66, 67, 68, 69, 70]⟩ : ByteArray)[n.val]'n.isLt).toNat = (hexD n.val).toNat := by decide
theorem dig16_at (i n : Nat) (h : i = n) (hi : i < 16) : ((⟨#[48, 49, 50, 51, 52, 53, 54, 55, 56, 57, 65, 66, 67, 68, 69, 70]⟩ : ByteArray)[i]'hi).toNat = (hexD n).toNat := by
  subst h
  exact dig16 ⟨i, hi⟩

set_option maxRecDepth 100000 in
set_option maxHeartbeats 2000000 in
theorem hexof_any (s : ByteArray) (g o cap : Nat) (w : World) (hr : RowAt s g o w) (hs : 2 * s.size ≤ 281474976710656) :
    Calls Tryd.prog 87 #[.slice (some ⟨g, o, none⟩) s.size cap] w fun e w' => e = .returned (.string (hexS s)) ∧ Below w.heap.size w w' := by
  obtain ⟨i0, hi, hz0, hz1, hz2⟩ := info_parts info5
  have HR : Hid (RowAt s g o w) := hr
  clear hr
  go_enter Tryd.func87, Tryd.ntmps87
  go_wp2_with (at_make; refine wpList_make_own _ rfl _ _ 38 rfl w.heap.size 5 i0 (.int .u8 0) 1 Tryd.underlying38 hi hz0 hz1 .i64 .i64 _ (2 * s.size) rfl rfl (by omega) (by rw [hz2]; omega) (by unfold maxLen; omega) (Nat.le_refl _) ?_)
  intro w1 hown hgrow
  have HB : Hid (Below w.heap.size w w1) := (Below.refl _ _).grown hgrow (Nat.le_refl _) (fun k h => by cases h)
  have HO : Hid (w1.ownsRow w.heap.size 5 1 (.slice (some ⟨w.heap.size, 0, none⟩) 0 (2 * s.size)) 0 []) := hown
  clear hgrow hown
  go_wp2
  go_loopw [3, 12] (fun v i wr => ∃ k : Nat, k ≤ s.size ∧ i = .int .i64 k ∧ v = .slice (some ⟨w.heap.size, 0, none⟩) (2 * k) (2 * s.size) ∧ Hid (wr.ownsRow w.heap.size 5 1 (.slice (some ⟨w.heap.size, 0, none⟩) (2 * k) (2 * s.size)) (2 * k) (cellsB (hexL (s.data.toList.take k)))) ∧ Hid (Below w.heap.size w wr)) (fun _ i _ => s.size - (intOf i).toNat)
  case atStart => exact ⟨0, Nat.zero_le _, rfl, rfl, HO, HB⟩
  case round =>
    obtain ⟨k, hk, rfl, rfl, HO, HB⟩ := hrel
    by_cases hlt : k < s.size
    · have hg : g < w.heap.size := World.block_lt_of_cell? w _ (HR.out k hlt)
      have hc : wr.cell? ⟨g, o + k, none⟩ = some (.int .u8 (s[k].toNat : Int)) := (HB.out.cell (p := ⟨g, o + k, none⟩) hg).trans (HR.out k hlt)
      have hx := s[k].toNat_lt
      obtain ⟨x, hxx⟩ : ∃ x : Nat, x = s[k].toNat := ⟨_, rfl⟩
      rw [← hxx] at hc hx
      have HX : Hid (x = s[k].toNat) := hxx
      clear hxx
      have ha := hx_and15 ⟨x, hx⟩
      simp only at ha
      have hlo0 : (0 : Int) ≤ (x : Int) % 16 := by omega
      have hlo1 : (x : Int) % 16 < 16 := by omega
      have hhi0 : (0 : Int) ≤ (x : Int) / 16 := by omega
      have hhi1 : (x : Int) / 16 < 16 := by omega
      have hd1 := dig16_at ((x : Int) / 16).toNat (x / 16) (by omega) (by omega)
      have hd2 := dig16_at ((x : Int) % 16).toNat (x % 16) (by omega) (by omega)
      go_wp2_with fail
      have hown := HO.out
      go_region_held3 (fun w' => True) (trivial)
        ((refine step_append_spare (by rfl) _ _ _ (by rfl) w.heap.size 5 i0 1 Tryd.underlying38 hi hz1 w.heap.size (2 * k) (2 * s.size) _ (by rfl) ((hown.alloc _).drew) ⟨wr.heap.size, 0, none⟩ 2 2 [.int .u8 ((hexD (x / 16)).toNat : Int), .int .u8 ((hexD (x % 16)).toNat : Int)] (by rfl) (by rfl) (World.news_of_block (cs := #[.int .u8 ((hexD (x / 16)).toNat : Int), .int .u8 ((hexD (x % 16)).toNat : Int)]) (t := 5) (fr := (0, 0)) (heap_alloc_new wr _)) (by simp [Value.oneCell']) (by omega) ?_; intro w2 hown2 hgrow))
      all_goals
        have R : Hid (w2.ownsRow w.heap.size 5 1 (.slice (some ⟨w.heap.size, 0, none⟩) (2 * (k + 1)) (2 * s.size)) (2 * (k + 1)) (cellsB (hexL (s.data.toList.take (k + 1))))) := by
          show w2.ownsRow _ _ _ _ _ _
          have e := hexL_take s.data.toList k (by simpa using hlt)
          have e2 : s.data.toList[k]'(by simpa using hlt) = s[k] := rfl
          rw [e2, ← HX.out] at e
          rw [e, cellsB_append]
          exact hown2
        have HB3 : Hid (Below w.heap.size w w2) := (HB.out.alloc HB.out.size _).drew.grown hgrow (by have := HB.out.size; simp; omega) (fun q hq => by injection hq with hq; omega)
        clear hown hown2 hgrow HO HB
        go_wp2
        go_roundw
        case rel => exact ⟨k + 1, by omega, by go_num, rfl, R, HB3⟩
        case measure => simp [intOf]; omega
    · obtain rfl : k = s.size := by omega
      have e : s.data.toList.take s.size = s.data.toList := List.take_of_length_le (by simp)
      rw [e] at HO
      have hl : (hexL s.data.toList).length = 2 * s.size := by rw [hexL_length]; simp
      have ho : wr.ownsRow w.heap.size 5 1 (.slice (some ⟨w.heap.size, 0, none⟩) (2 * s.size) (2 * s.size)) (hexL s.data.toList).length (cellsB (hexL s.data.toList)) := by rw [hl]; exact HO.out
      have hback := own_conv ho
      clear HO e hl ho
      go_wp2
      go_ret
      exact ⟨rfl, HB.out⟩

set_option maxRecDepth 100000 in
set_option maxHeartbeats 2000000 in
theorem hexof_none (a : Option Addr) (cap : Nat) (w : World) :
    Calls Tryd.prog 87 #[.slice a 0 cap] w fun e w' => e = .returned (.string ⟨#[]⟩) ∧ Below w.heap.size w w' := by
  obtain ⟨i0, hi, hz0, hz1, hz2⟩ := info_parts info5
  go_enter Tryd.func87, Tryd.ntmps87
  go_wp2_with (at_make; refine wpList_make_own _ rfl _ _ 38 rfl w.heap.size 5 i0 (.int .u8 0) 1 Tryd.underlying38 hi hz0 hz1 .i64 .i64 _ 0 rfl rfl (by omega) (by rw [hz2]; omega) (by unfold maxLen; omega) (Nat.le_refl _) ?_)
  intro w1 hown hgrow
  have HB : Hid (Below w.heap.size w w1) := (Below.refl _ _).grown hgrow (Nat.le_refl _) (fun k h => by cases h)
  have hback := own_conv (l := []) hown
  clear hgrow hown
  go_wp2
  refine wp_loop_rounds 1 ?_
  rw [rounds_succ]
  go_wp2
  go_ret
  exact ⟨rfl, HB.out⟩
end Go.Proofs.YtdgepnfgjgbkoaaDoor
