/-
  The contract of octet.HexOf.
-/
import Derived.Test.YtdgepnfgjgbkoaaDoorChk
import Derived.Test.YtdgepnfgjgbkoaaDoorNum
import Derived.Test.YtdgepnfgjgbkoaaDoorPureUp
import Derived.Deep.RegionHeld3
import Derived.Deep.AppendLies
import Derived.Deep.DeepAppendRoom
import Derived.Test.YtdgepnfgjgbkoaaDoorSpan4
import Derived.Test.YtdgepnfgjgbkoaaDoorRows
import Derived.Test.YtdgepnfgjgbkoaaDoorCards
import Derived.Test.YtdgepnfgjgbkoaaDoorTie
import Derived.ProofKit
import Derived.OpenShut
import Derived.Lib.LaidTab
import Derived.Deep.DeepHandedRow
import Derived.ShutString
import Derived.SizedLaws
import Derived.ChangeOld
namespace Go.Proofs.YtdgepnfgjgbkoaaDoor
open Go.RowKit

/-- append where there is room, as one step of a region that draws its order. -/
theorem step_append_spare {P : Program} {w : World} {ops : Array Oper} {o : Oper} {a : Act} {K : Act → World → Prop} {Q : Exit → Act → World → Prop} {E : Prop} (hgd : o.guard = none) (s x : Operand) (t : TypeId)
    (ho : o.op = .call { callee := .builtin .append, args := #[s, x], argTypes := #[t, t] })
    (base : Nat) (e : TypeId) (i : TypeInfo) (size : Nat) (ht : P.underlying t = some (.slice e)) (hi : P.info? e = some i) (hsize : i.size = size)
    (g n cap : Nat) (xs : List Value) (hs : a.eval s = .slice (some ⟨g, 0, none⟩) n cap) (hown : w.ownsRow base e size (.slice (some ⟨g, 0, none⟩) n cap) n xs)
    (ad : Addr) (m c : Nat) (news : List Value) (hx : a.eval x = .slice (some ad) m c) (hl : news.length = m * size) (hnews : ∀ j u, news[j]? = some u → w.cell? (ad.add j) = some u) (h1 : ∀ u ∈ news, u.oneCell' = true)
    (hroom : n + m ≤ cap)
    (h : ∀ w', w'.ownsRow base e size (.slice (some ⟨g, 0, none⟩) (n + m) cap) (n + m) (xs ++ news) → w.grownBy w' (some g) → K (a.put o.dst (.slice (some ⟨g, 0, none⟩) (n + m) cap)) w') :
    if Region.wanted o (yielded ops a.tmps) = true then Oper.wp P o a w K Q else E := by
  have hw : Region.wanted o (yielded ops a.tmps) = true := by simp [Region.wanted, hgd]
  rw [if_pos hw]
  exact wp_append_own_spare w s x t ho base e i size ht hi hsize g n cap xs hs hown ad m c news hx hl hnews h1 hroom h

theorem hx_and15 : ∀ b : Fin 256, bits .and .u8 (b.val : Int) 15 = (b.val : Int) % 16 := by decide +kernel
theorem dig16 : ∀ n : Fin 16, ((⟨#[48, 49, 50, 51, 52, 53, 54, 55, 56, 57, 65, 66, 67, 68, 69, 70]⟩ : ByteArray)[n.val]'n.isLt).toNat = (hexD n.val).toNat := by decide
theorem dig16_at (i n : Nat) (h : i = n) (hi : i < 16) : ((⟨#[48, 49, 50, 51, 52, 53, 54, 55, 56, 57, 65, 66, 67, 68, 69, 70]⟩ : ByteArray)[i]'hi).toNat = (hexD n).toNat := by
  subst h
  exact dig16 ⟨i, hi⟩

set_option maxRecDepth 100000 in
set_option maxHeartbeats 2000000 in
theorem hexof_any (s : ByteArray) (g o cap : Nat) (w : World) (hr : RowAt s g o w) (hs : 2 * s.size ≤ 281474976710656) :
    Calls Tryd.prog 87 #[.slice (some ⟨g, o, none⟩) s.size cap] w fun e w' => e = .returned (.string (hexS s)) ∧ Below w.heap.size w w' := by
  obtain ⟨i0, hi, hz0, hz1, hz2⟩ := info_parts info5
  have HR : Hid (RowAt s g o w) := hr
  clear hr
  go_enter Tryd.func87, Tryd.ntmps87
  go_wp2_with (at_make; refine wpList_make_own _ rfl _ _ 38 rfl w.heap.size 5 i0 (.int .u8 0) 1 Tryd.underlying38 hi hz0 hz1 .i64 .i64 _ (2 * s.size) rfl rfl (by omega) (by rw [hz2]; omega) (by unfold maxLen; omega) (Nat.le_refl _) ?_)
  intro w1 hown hgrow
  have HB : Hid (Below w.heap.size w w1) := (Below.refl _ _).grown hgrow (Nat.le_refl _) (fun k h => by cases h)
  have HO : Hid (w1.ownsRow w.heap.size 5 1 (.slice (some ⟨w.heap.size, 0, none⟩) 0 (2 * s.size)) 0 []) := hown
  clear hgrow hown
  go_wp2
  go_loopw [3, 12] (fun v i wr => ∃ k : Nat, k ≤ s.size ∧ i = .int .i64 k ∧ v = .slice (some ⟨w.heap.size, 0, none⟩) (2 * k) (2 * s.size) ∧ Hid (wr.ownsRow w.heap.size 5 1 (.slice (some ⟨w.heap.size, 0, none⟩) (2 * k) (2 * s.size)) (2 * k) (cellsB (hexL (s.data.toList.take k)))) ∧ Hid (Below w.heap.size w wr)) (fun _ i _ => s.size - (intOf i).toNat)
  case atStart => exact ⟨0, Nat.zero_le _, rfl, rfl, HO, HB⟩
  case round =>
    obtain ⟨k, hk, rfl, rfl, HO, HB⟩ := hrel
    by_cases hlt : k < s.size
    · have hg : g < w.heap.size := World.block_lt_of_cell? w _ (HR.out k hlt)
      have hc : wr.cell? ⟨g, o + k, none⟩ = some (.int .u8 (s[k].toNat : Int)) := (HB.out.cell (p := ⟨g, o + k, none⟩) hg).trans (HR.out k hlt)
      have hx := s[k].toNat_lt
      obtain ⟨x, hxx⟩ : ∃ x : Nat, x = s[k].toNat := ⟨_, rfl⟩
      rw [← hxx] at hc hx
      have HX : Hid (x = s[k].toNat) := hxx
      clear hxx
      have ha := hx_and15 ⟨x, hx⟩
      simp only at ha
      have hlo0 : (0 : Int) ≤ (x : Int) % 16 := by omega
      have hlo1 : (x : Int) % 16 < 16 := by omega
      have hhi0 : (0 : Int) ≤ (x : Int) / 16 := by omega
      have hhi1 : (x : Int) / 16 < 16 := by omega
      have hd1 := dig16_at ((x : Int) / 16).toNat (x / 16) (by omega) (by omega)
      have hd2 := dig16_at ((x : Int) % 16).toNat (x % 16) (by omega) (by omega)
      go_wp2_with fail
      have hown := HO.out
      go_region_held3 (fun w' => True) (trivial)
        ((refine step_append_spare (by rfl) _ _ _ (by rfl) w.heap.size 5 i0 1 Tryd.underlying38 hi hz1 w.heap.size (2 * k) (2 * s.size) _ (by rfl) ((hown.alloc _).drew) ⟨wr.heap.size, 0, none⟩ 2 2 [.int .u8 ((hexD (x / 16)).toNat : Int), .int .u8 ((hexD (x % 16)).toNat : Int)] (by rfl) (by rfl) (World.news_of_block (cs := #[.int .u8 ((hexD (x / 16)).toNat : Int), .int .u8 ((hexD (x % 16)).toNat : Int)]) (t := 5) (fr := (0, 0)) (heap_alloc_new wr _)) (by simp [Value.oneCell']) (by omega) ?_; intro w2 hown2 hgrow))
      all_goals
        have R : Hid (w2.ownsRow w.heap.size 5 1 (.slice (some ⟨w.heap.size, 0, none⟩) (2 * (k + 1)) (2 * s.size)) (2 * (k + 1)) (cellsB (hexL (s.data.toList.take (k + 1))))) := by
          show w2.ownsRow _ _ _ _ _ _
          have e := hexL_take s.data.toList k (by simpa using hlt)
          have e2 : s.data.toList[k]'(by simpa using hlt) = s[k] := rfl
          rw [e2, ← HX.out] at e
          rw [e, cellsB_append]
          exact hown2
        have HB3 : Hid (Below w.heap.size w w2) := (HB.out.alloc HB.out.size _).drew.grown hgrow (by have := HB.out.size; simp; omega) (fun q hq => by injection hq with hq; omega)
        clear hown hown2 hgrow HO HB
        go_wp2
        go_roundw
        case rel => exact ⟨k + 1, by omega, by go_num, rfl, R, HB3⟩
        case measure => simp [intOf]; omega
    · obtain rfl : k = s.size := by omega
      have e : s.data.toList.take s.size = s.data.toList := List.take_of_length_le (by simp)
      rw [e] at HO
      have hl : (hexL s.data.toList).length = 2 * s.size := by rw [hexL_length]; simp
      have ho : wr.ownsRow w.heap.size 5 1 (.slice (some ⟨w.heap.size, 0, none⟩) (2 * s.size) (2 * s.size)) (hexL s.data.toList).length (cellsB (hexL s.data.toList)) := by rw [hl]; exact HO.out
      have hback := own_conv ho
      clear HO e hl ho
      go_wp2
      go_ret
      exact ⟨rfl, HB.out⟩

set_option maxRecDepth 100000 in
set_option maxHeartbeats 2000000 in
theorem hexof_none (a : Option Addr) (cap : Nat) (w : World) :
    Calls Tryd.prog 87 #[.slice a 0 cap] w fun e w' => e = .returned (.string ⟨#[]⟩) ∧ Below w.heap.size w w' := by
  obtain ⟨i0, hi, hz0, hz1, hz2⟩ := info_parts info5
  go_enter Tryd.func87, Tryd.ntmps87
  go_wp2_with (at_make; refine wpList_make_own _ rfl _ _ 38 rfl w.heap.size 5 i0 (.int .u8 0) 1 Tryd.underlying38 hi hz0 hz1 .i64 .i64 _ 0 rfl rfl (by omega) (by rw [hz2]; omega) (by unfold maxLen; omega) (Nat.le_refl _) ?_)
  intro w1 hown hgrow
  have HB : Hid (Below w.heap.size w w1) := (Below.refl _ _).grown hgrow (Nat.le_refl _) (fun k h => by cases h)
  have hback := own_conv (l := []) hown
  clear hgrow hown
  go_wp2
  refine wp_loop_rounds 1 ?_
  rw [rounds_succ]
  go_wp2
  go_ret
  exact ⟨rfl, HB.out⟩
end Go.Proofs.YtdgepnfgjgbkoaaDoor
/-
  What a row's list and the world's shape give the walks; a world for the witnesses.
-/
namespace Go.Proofs.YtdgepnfgjgbkoaaDoor
open Go.ChangeShapes Go.WideShapes Go.ChangeAt Go.RowKit

theorem gCl : Tryd.prog.globalNamed "posthorn/octet.classes" = some 1 := by kernel_rfl
theorem tCl : (Tryd.prog.globals[(1 : Nat)]?).map (·.type) = some 119 := by kernel_rfl
theorem cellsCl : Tryd.prog.cellsOf 119 = 15 := by kernel_rfl
theorem cellsStr : Tryd.prog.cellsOf 9 = 1 := by kernel_rfl

theorem laid_rows : (Rows.laid_posthorn_octet_classes : DataW Unit) = .agg (classRows.map fun l => .lit (.string l)) := rfl

theorem table_of_trod {enc : TypeId × Value → Unit} {W : World} {base : Nat} {sp : Nat → Bool} {held : Bool} {cs : Array Value} {fuel : Nat} {p : List MemPlace}
    (hv : W.var? Tryd.prog "posthorn/octet.classes" = some cs)
    (hd : DataW.trod enc Tryd.prog W base sp held fuel 119 cs.toList = some (Rows.laid_posthorn_octet_classes, p)) : Table W := by
  obtain ⟨xs, m, _, hx, hlen, hn, hel⟩ := DataW.trod_array Tryd.underlying119 hd
  rw [laid_rows] at hx
  simp only [Prod.mk.injEq, DataW.agg.injEq] at hx
  obtain ⟨hx, -⟩ := hx
  intro c hc
  have h1 := hel c hc
  have hxc : c < xs.length := by omega
  rw [List.getElem?_eq_getElem hxc] at h1
  obtain ⟨s, e1, e2, _⟩ := DataW.trod_string Tryd.underlying9 h1
  have h2 := congrArg (fun l => l[c]?) hx
  simp only [List.getElem?_map, List.getElem?_eq_getElem hxc, Option.map_some, e2] at h2
  have hcl : c < classRows.length := hc
  rw [List.getElem?_eq_getElem hcl] at h2
  simp only [Option.map_some, Option.some.injEq, DataW.lit.injEq, Lit.string.injEq] at h2
  have h3 := World.var?_cell gCl hv c
  rw [h3]
  rw [cellsStr, Nat.mul_one] at e1
  have h4 := congrArg (fun l => l[0]?) e1
  simp only [List.getElem?_take, List.getElem?_drop] at h4
  have h5 : cs[c]? = some (.string s) := by simpa using h4
  rw [h5]
  have h6 : classRows.getD c [] = s.data.toList := by
    rw [List.getD_eq_getElem?_getD, List.getElem?_eq_getElem hcl, Option.getD_some, h2]
  rw [h6]

/-- The table stands first on the list. -/
theorem table_of_head {W : World} {rest : List (String × DataW Unit)} (h : laidMet Tryd.prog (("posthorn/octet.classes", Rows.laid_posthorn_octet_classes) :: rest) W) : Table W := by
  obtain ⟨ps, ⟨g, t, cs, fuel, p, q, hg, ht, hv, hd, _, _⟩, _⟩ := h
  obtain rfl := Option.some.inj (gCl.symm.trans hg)
  obtain rfl := Option.some.inj (tCl.symm.trans ht)
  exact table_of_trod hv hd

theorem own : ownKnob Tryd.prog.godebug = none := by kernel_rfl

/-- A table's data as cells. -/
def datCells : DataW Unit → Array Value
  | .agg l => (l.map fun
    | .lit (.int k z) => Value.int k z
    | .lit (.string b) => Value.string ⟨b.toArray⟩
    | _ => Value.int .i64 0).toArray
  | _ => #[]

def layCells (d : DataW Unit) : Obj → Obj
  | .cells _ t frozen => .cells (datCells d) t frozen
  | o => o

theorem laidOut : laidOutB Tryd.prog = true := by kernel_rfl
noncomputable def laidWorld (os : Os) : World :=
  { World.holding Tryd.prog os ⟨#[], #[], []⟩ with heap := (World.holding Tryd.prog os ⟨#[], #[], []⟩).heap.modify 1 (layCells Rows.laid_posthorn_octet_classes) }
theorem cell_lt {w : World} {g k : Nat} {v : Value} (h : w.cell? ⟨g, k, none⟩ = some v) : g < w.heap.size := by
  rcases Nat.lt_or_ge g w.heap.size with h' | h'
  · exact h'
  · simp [World.cell?, Array.getElem?_eq_none h'] at h
theorem tabsX_of {W : World} {rest : List (String × DataW Unit)} (h : laidMet Tryd.prog (("posthorn/octet.classes", Rows.laid_posthorn_octet_classes) :: rest) W) (_ : W.ShapedOpen Tryd.prog) : Table W := table_of_head h
theorem bulk_mem {H : Type} {d : DataW H} : ∀ {l : List (DataW H)}, d ∈ l → Rows.uptoBulk d ≤ Rows.uptoBulkAll l
  | x :: r, h => by
    simp only [Rows.uptoBulkAll]
    rcases List.mem_cons.1 h with rfl | h
    · omega
    · have := bulk_mem h
      omega
theorem bulk_string {H : Type} {s : ByteArray} {l : List (DataW H)} (hk : Rows.uptoSmall H l = true) (h : DataW.lit (.string s.data.toList) ∈ l) : s.size ≤ 1048576 := by
  have h1 : Rows.uptoBulkAll l ≤ 1048576 := of_decide_eq_true hk
  have h2 := bulk_mem h
  simp only [Rows.uptoBulk, Array.length_toList] at h2
  have h3 : s.data.size = s.size := rfl
  omega
end Go.Proofs.YtdgepnfgjgbkoaaDoor
