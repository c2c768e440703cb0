/-
  What bytes mean: (charset).text.
-/
import Derived.Test.YtdgepnfgjgbkoaaDoorSpan4
import Derived.Test.YtdgepnfgjgbkoaaDoorSpB16
import Derived.Test.YtdgepnfgjgbkoaaDoorChk2
import Derived.Test.YtdgepnfgjgbkoaaDoorUnhex4
import Derived.Test.YtdgepnfgjgbkoaaDoorLate5
namespace Go.Proofs.YtdgepnfgjgbkoaaDoor
open Go.RowKit

set_option maxRecDepth 100000 in
theorem spanb_nil (c : Int) (a : Option Addr) (cap : Nat) (w : World) : Calls Tryd.prog 86 #[.int .i64 c, .slice a 0 cap, .int .i64 0] w fun e w' => e = .returned (.int .i64 0) ∧ w' = w := by
  go_enter Tryd.func86, Tryd.ntmps86
  go_wp2
  refine wp_loop_rounds 1 ?_
  rw [rounds_succ]
  go_wp2
  go_ret
  exact ⟨rfl, rfl⟩
theorem badb_any (c : Int) (a : Option Addr) (l : List UInt8) (n cap : Nat) (hn : n = l.length) (w : World) (ht : Table w) (hb : Bts a l w) (hs : l.length ≤ maxLen) :
    Calls Tryd.prog 65 #[.int .i64 c, .slice a n cap] w fun e w' => e = .returned (.int .i64 (badN c l : Nat)) ∧ w' = w := by
  subst hn
  rcases hb with rfl | ⟨g, o, rfl, hg, hr⟩
  · have h := spanb_nil c a cap w
    go_enter Tryd.func65, Tryd.ntmps65
    go_wp2_with fail
    refine h.mono ?_
    rintro e w' ⟨rfl, rfl⟩
    go_wp2
    go_ret
    exact ⟨rfl, rfl⟩
  · exact bad_anyB c ⟨l.toArray⟩ g o cap w ht hr hs
/-- The row of runes, when k bytes are done. -/
def rnK (l : List UInt8) (k : Nat) : List Int := (l.take k).map (fun c => (c.toNat : Int)) ++ List.replicate (l.length - k) 0
theorem rnK_zero (l : List UInt8) : rnK l 0 = List.replicate l.length 0 := by simp [rnK]
theorem rnK_len (l : List UInt8) (k : Nat) (h : k ≤ l.length) : (rnK l k).length = l.length := by simp [rnK]; omega
theorem rnK_set (l : List UInt8) (k : Nat) (h : k < l.length) : (rnK l k).set k (l[k].toNat : Int) = rnK l (k + 1) := by
  unfold rnK
  have hl : ((l.take k).map (fun c => (c.toNat : Int))).length = k := by simp; omega
  rw [List.set_append, if_neg (by omega), hl, Nat.sub_self, List.take_succ_eq_append_getElem h, List.map_append, show l.length - k = (l.length - (k + 1)) + 1 by omega, List.replicate_succ, List.set_cons_zero]
  simp
theorem rnK_all (l : List UInt8) : rnK l l.length = (l.map UInt8.toNat).map fun (n : Nat) => (n : Int) := by simp [rnK]
theorem cN_cell {w : World} {g : Nat} {cs : List Int} {t : TypeId} (h : Lies w g (cellsN .i32 cs).toArray t) (k : Nat) (x : Int) (hx : cs[k]? = some x) : w.cell? ⟨g, k, none⟩ = some (.int .i32 x) := by
  rw [h.cell k]
  simp [cellsN, hx]
theorem cN_set {w : World} {g : Nat} {cs : List Int} {t : TypeId} (h : Lies w g (cellsN .i32 cs).toArray t) (k : Nat) (x : Int) : Lies (w.setCell ⟨g, k, none⟩ (.int .i32 x)) g (cellsN .i32 (cs.set k x)).toArray t := by
  have := h.set k (.int .i32 x)
  have e : (cellsN .i32 (cs.set k x)).toArray = (cellsN .i32 cs).toArray.setIfInBounds k (.int .i32 x) := by
    rw [List.setIfInBounds_toArray]
    simp only [cellsN, List.map_set]
  rw [e]
  exact this
theorem make_runes (w : World) (n : Nat) (hn : n ≤ 1099511627776) : (Instr.makeSlice 50 (.int .i64 (n : Int)) (.int .i64 (n : Int))).run Tryd.prog w = .ok (.slice (some ⟨w.heap.size, 0, none⟩) n n) (w.alloc (.cells (cellsN .i32 (List.replicate n 0)).toArray 21)) := by
  obtain ⟨i0, hi, hz0, hz1, hz2⟩ := info_parts infoR
  have hr := run_make (P := Tryd.prog) w 50 21 i0 (.int .i32 0) Tryd.underlying50 hi hz0 .i64 .i64 n n (by omega) (by omega) (by rw [hz2]; omega) (by omega)
  rw [hr]
  have e : madeCells (Value.int IntKind.i32 0).cells (n * i0.size) = (cellsN .i32 (List.replicate n 0)).toArray := by
    rw [hz1, Nat.mul_one, show (Value.int IntKind.i32 0).cells = #[Value.int .i32 0] from rfl]
    apply Array.ext
    · simp [madeCells, cellsN]
    · intro i h1 h2
      simp [madeCells, cellsN, Nat.mod_one]
  simp only [Int.toNat_natCast]
  rw [e]
/-- The text of ISO-8859-1. -/
def laT (l : List UInt8) : ByteArray := runesBytes ((l.map UInt8.toNat).map fun (n : Nat) => (n : Int))
theorem laT_list (l : List UInt8) : (laT l).data.toList = l.flatMap fun c => Lib.encodeRune (c.toNat : Int) := by
  unfold laT
  rw [rb_list, List.flatMap_map]
set_option maxRecDepth 100000 in
set_option maxHeartbeats 4000000 in
theorem wctxt_lat (a : Option Addr) (l : List UInt8) (cap n : Nat) (w : World) (hn : n = l.length) (hb : Bts a l w) (hl : l.length ≤ 1099511627776) (hcap : n ≤ cap) (hcap2 : cap ≤ 9223372036854775807) :
    Calls Tryd.prog 44 #[.int .i64 3, .slice a n cap] w fun e w' => e = .returned (.tuple #[.string (laT l), .bool true]) ∧ Below w.heap.size w w' := by
  have HL : Hid (Bts a l w) := hb
  have HN : Hid (n = l.length) := hn
  rw [← hn] at hl
  have hmk := make_runes w n hl
  have HW : Hid (Lies (w.alloc (.cells (cellsN .i32 (List.replicate n 0)).toArray 21)) w.heap.size (cellsN .i32 (rnK l 0)).toArray 21) := by
    show Lies _ _ _ _
    rw [rnK_zero, ← hn]
    exact Lies.new w _ _
  have HB1 : Hid (Below w.heap.size w (w.alloc (.cells (cellsN .i32 (List.replicate n 0)).toArray 21))) := (Below.refl _ _).alloc (Nat.le_refl _) _
  clear hn hb
  go_enter Tryd.func44, Tryd.ntmps44
  go_wp2
  go_loopw [35] (fun i wr => ∃ k : Nat, k ≤ n ∧ i = .int .i64 k ∧ Hid (Lies wr w.heap.size (cellsN .i32 (rnK l k)).toArray 21) ∧ Hid (Below w.heap.size w wr)) (fun i _ => n - (intOf i).toNat)
  case atStart => exact ⟨0, Nat.zero_le _, rfl, HW, HB1⟩
  case round =>
    obtain ⟨k, hk, rfl, HLr, HB⟩ := hrel
    clear HW HB1 hmk
    by_cases hlt : k < n
    · have hkl : k < l.length := by rw [← HN.out]; exact hlt
      obtain ⟨g, o, rfl, hg, hc⟩ := HL.out.cell k hkl
      have hst := rnK_set l k hkl
      obtain ⟨c, hcc⟩ : ∃ c, c = l[k] := ⟨_, rfl⟩
      rw [← hcc] at hc hst
      have hc2 : wr.cell? ⟨g, o + k, none⟩ = some (.int .u8 (c.toNat : Int)) := (HB.out.cell (p := ⟨g, o + k, none⟩) hg).trans hc
      have hlr := rnK_len l k (by omega)
      obtain ⟨x0, hx0⟩ : ∃ x0, (rnK l k)[k]? = some x0 := ⟨_, List.getElem?_eq_getElem (by omega)⟩
      have hold := cN_cell HLr.out k x0 hx0
      have hfr := HLr.out.frozen k
      have hcn := c.toNat_lt
      have hwr : IntKind.i32.wrap (c.toNat : Int) = (c.toNat : Int) := by rw [IntKind.wrap_i32]; omega
      have HL2 : Hid (Lies (wr.setCell ⟨w.heap.size, k, none⟩ (.int .i32 (c.toNat : Int))) w.heap.size (cellsN .i32 (rnK l (k + 1))).toArray 21) := by
        show Lies _ _ _ _
        rw [← hst]
        exact cN_set HLr.out k _
      have HB2 : Hid (Below w.heap.size w (wr.setCell ⟨w.heap.size, k, none⟩ (.int .i32 (c.toNat : Int)))) := HB.out.setCell (Nat.le_refl _) _
      clear hst hcc hc hlr hx0
      go_wp2
      go_roundw
      case rel => exact ⟨k + 1, by omega, by go_num, HL2, HB2⟩
      case measure => simp [intOf]; omega
    · obtain rfl : k = n := by omega
      have hcv : (convert 50 9 (.slice (some ⟨w.heap.size, 0, none⟩) k k)).run Tryd.prog wr = .ok (.string (laT l)) wr := by
        have hlk : (rnK l k).length = k := by rw [rnK_len l k (by rw [HN.out]; exact Nat.le_refl _), HN.out]
        have h := run_convert_runes (P := Tryd.prog) wr 50 9 21 ⟨w.heap.size, 0, none⟩ k k (rnK l k) (by omega) Tryd.underlying50 Tryd.underlying21 Tryd.underlying9 (fun j hj => by
          rw [Addr.add_lit, Nat.zero_add, cN_cell HLr.out j _ (List.getElem?_eq_getElem hj), List.getD_eq_getElem?_getD, List.getElem?_eq_getElem hj]
          rfl)
        rw [h, List.take_of_length_le (by omega)]
        have e : rnK l k = (l.map UInt8.toNat).map fun (n : Nat) => (n : Int) := by rw [HN.out]; exact rnK_all l
        rw [e]
        rfl
      clear hk hlt
      go_wp2
      go_ret2
      exact ⟨rfl, HB.out⟩
set_option maxRecDepth 100000 in
set_option maxHeartbeats 4000000 in
theorem wctxt_utf (a : Option Addr) (l : List UInt8) (cap n : Nat) (w : World) (hn : n = l.length) (hf : Fst w) (hb : Bts a l w) (hl : l.length ≤ 1099511627776) :
    Calls Tryd.prog 44 #[.int .i64 1, .slice a n cap] w fun e w' => e = .returned (.tuple #[.string ⟨l.toArray⟩, .bool (decide (badU l = n))]) ∧ Below w.heap.size w w' := by
  have HL : Hid (Bts a l w) := hb
  have HN : Hid (n = l.length) := hn
  have hCA : Calls Tryd.prog 64 #[.slice a n cap] w.drew fun e w' => e = .returned (.int .i64 (badU l)) ∧ Below w.heap.size w w' := by
    rw [hn]
    refine (ubb_any a l cap w.drew (hf.below (Below.refl _ _).drew hf.lt) (hb.below (Below.refl _ _).drew) (by omega)).mono ?_
    exact fun e w' h => ⟨h.1, (Below.refl _ w).drew.trans h.2⟩
  have hcv : ∀ wx, Below w.heap.size w wx → (convert 38 9 (.slice a n cap)).run Tryd.prog wx = .ok (.string ⟨l.toArray⟩) wx := fun wx hx => by
    rw [hn]
    exact bts_back (hb.below hx) cap
  have HCV : Hid (∀ wx, Below w.heap.size w wx → (convert 38 9 (.slice a n cap)).run Tryd.prog wx = .ok (.string ⟨l.toArray⟩) wx) := hcv
  obtain ⟨y, hy⟩ : ∃ y, y = badU l := ⟨_, rfl⟩
  rw [← hy] at hCA ⊢
  rw [← hn] at hl
  clear hn hb hf hcv hy
  go_enter Tryd.func44, Tryd.ntmps44
  go_wp2_with fail
  refine wp_region_late (fun wx => Below w.heap.size w wx) 9 (by kernel_rfl) (Below.refl _ _).drew (fun hHeld => ?_)
  refine wpAnyE_tk (i := 0) (d := some 12) (v := .slice a n cap) rfl (by kernel_rfl) (by kernel_rfl) (by kernel_rfl) rfl (fun _ _ _ h => h) rfl rfl ?hy (by assumption) ?_
  case hy => (intro w' hSw; (try dsimp only at hSw); go_simp <;> (first | with_reducible rfl | omega | skip))
  simp only [Act.put, List.setIfInBounds_toArray, List.set_cons_zero, List.set_cons_succ]
  refine wpAnyE_tk (i := 2) (d := some 14) (v := .slice a n cap) rfl (by kernel_rfl) (by kernel_rfl) (by kernel_rfl) rfl (fun _ _ _ h => h) rfl rfl ?hy (by assumption) ?_
  case hy => (intro w' hSw; (try dsimp only at hSw); go_simp <;> (first | with_reducible rfl | omega | skip))
  simp only [Act.put, List.setIfInBounds_toArray, List.set_cons_zero, List.set_cons_succ]
  refine wpAnyE_tk (i := 4) (d := some 16) (v := .slice a n cap) rfl (by kernel_rfl) (by kernel_rfl) (by kernel_rfl) rfl (fun _ _ _ h => h) rfl rfl ?hy (by assumption) ?_
  case hy => (intro w' hSw; (try dsimp only at hSw); go_simp <;> (first | with_reducible rfl | omega | skip))
  simp only [Act.put, List.setIfInBounds_toArray, List.set_cons_zero, List.set_cons_succ]
  refine wpAnyE_tk (i := 1) (d := some 13) (v := .string ⟨l.toArray⟩) rfl (by kernel_rfl) (by kernel_rfl) (by kernel_rfl) rfl (fun _ _ _ h => h) rfl rfl ?hy (by assumption) ?_
  case hy => (intro w' hSw; have h := HCV.out w' hSw; go_simp)
  simp only [Act.put, List.setIfInBounds_toArray, List.set_cons_zero, List.set_cons_succ]
  refine wpAnyE_tk (i := 5) (d := some 17) (v := .int .i64 (n : Int)) rfl (by kernel_rfl) (by kernel_rfl) (by kernel_rfl) rfl (fun _ _ _ h => h) rfl rfl ?hy (by assumption) ?_
  case hy => (intro w' hSw; (try dsimp only at hSw); go_simp <;> (first | with_reducible rfl | omega | skip))
  simp only [Act.put, List.setIfInBounds_toArray, List.set_cons_zero, List.set_cons_succ]
  refine wpAnyE_on (i := 3) (by kernel_rfl) rfl rfl ?_
  go_simp
  refine hCA.mono ?_
  rintro e w2 ⟨rfl, hb2⟩
  refine ⟨hb2, ?_⟩
  have HB2 : Hid (Below w.heap.size w w2) := hb2
  have hdq : ((y : Int) == (n : Int)) = decide (y = n) := by rw [Bool.eq_iff_iff]; simp; omega
  refine wpAnyE_tk (i := 6) (d := some 18) (v := .bool (decide (y = n))) rfl (by kernel_rfl) (by kernel_rfl) (by kernel_rfl) rfl (fun _ _ _ h => h) rfl rfl ?hy (by assumption) ?_
  case hy => (intro w' hSw; (try dsimp only at hSw); go_simp <;> (first | with_reducible rfl | omega | skip))
  simp only [Act.put, List.setIfInBounds_toArray, List.set_cons_zero, List.set_cons_succ]
  refine wpAnyE_tk (i := 7) (d := some 4) (v := .string ⟨l.toArray⟩) rfl (by kernel_rfl) (by kernel_rfl) (by kernel_rfl) rfl (fun _ _ _ h => h) rfl rfl ?hy (by assumption) ?_
  case hy => (intro w' hSw; (try dsimp only at hSw); go_simp <;> (first | with_reducible rfl | omega | skip))
  simp only [Act.put, List.setIfInBounds_toArray, List.set_cons_zero, List.set_cons_succ]
  refine wpAnyE_tk (i := 8) (d := some 5) (v := .bool (decide (y = n))) rfl (by kernel_rfl) (by kernel_rfl) (by kernel_rfl) rfl (fun _ _ _ h => h) rfl rfl ?hy (by assumption) ?_
  case hy => (intro w' hSw; (try dsimp only at hSw); go_simp <;> (first | with_reducible rfl | omega | skip))
  simp only [Act.put, List.setIfInBounds_toArray, List.set_cons_zero, List.set_cons_succ]
  refine wpAnyE_done (by kernel_rfl) ?_ _
  clear hHeld hdq
  go_wp2
  go_ret2
  exact ⟨rfl, HB2.out⟩
set_option maxRecDepth 100000 in
set_option maxHeartbeats 4000000 in
theorem wctxt_asc (a : Option Addr) (l : List UInt8) (cap n : Nat) (w : World) (hn : n = l.length) (ht : Table w) (hb : Bts a l w) (hl : l.length ≤ 1099511627776) :
    Calls Tryd.prog 44 #[.int .i64 2, .slice a n cap] w fun e w' => e = .returned (.tuple #[.string ⟨l.toArray⟩, .bool (decide (badN 13 l = n))]) ∧ Below w.heap.size w w' := by
  have HL : Hid (Bts a l w) := hb
  have HN : Hid (n = l.length) := hn
  have hCA : Calls Tryd.prog 65 #[.int .i64 13, .slice a n cap] w.drew fun e w' => e = .returned (.int .i64 (badN 13 l : Nat)) ∧ Below w.heap.size w w' := by
    refine (badb_any 13 a l n cap hn w.drew (ht.keep (Below.refl _ _).drew) (hb.below (Below.refl _ _).drew) (by unfold maxLen; omega)).mono ?_
    exact fun e w' h => ⟨h.1, by rw [h.2]; exact (Below.refl _ w).drew⟩
  have hcv : ∀ wx, Below w.heap.size w wx → (convert 38 9 (.slice a n cap)).run Tryd.prog wx = .ok (.string ⟨l.toArray⟩) wx := fun wx hx => by
    rw [hn]
    exact bts_back (hb.below hx) cap
  have HCV : Hid (∀ wx, Below w.heap.size w wx → (convert 38 9 (.slice a n cap)).run Tryd.prog wx = .ok (.string ⟨l.toArray⟩) wx) := hcv
  obtain ⟨y, hy⟩ : ∃ y, y = badN 13 l := ⟨_, rfl⟩
  rw [← hy] at hCA ⊢
  rw [← hn] at hl
  clear hn hb ht hcv hy
  go_enter Tryd.func44, Tryd.ntmps44
  go_wp2_with fail
  refine wp_region_late (fun wx => Below w.heap.size w wx) 9 (by kernel_rfl) (Below.refl _ _).drew (fun hHeld => ?_)
  refine wpAnyE_tk (i := 0) (d := some 21) (v := .slice a n cap) rfl (by kernel_rfl) (by kernel_rfl) (by kernel_rfl) rfl (fun _ _ _ h => h) rfl rfl ?hy (by assumption) ?_
  case hy => (intro w' hSw; (try dsimp only at hSw); go_simp <;> (first | with_reducible rfl | omega | skip))
  simp only [Act.put, List.setIfInBounds_toArray, List.set_cons_zero, List.set_cons_succ]
  refine wpAnyE_tk (i := 2) (d := some 23) (v := .slice a n cap) rfl (by kernel_rfl) (by kernel_rfl) (by kernel_rfl) rfl (fun _ _ _ h => h) rfl rfl ?hy (by assumption) ?_
  case hy => (intro w' hSw; (try dsimp only at hSw); go_simp <;> (first | with_reducible rfl | omega | skip))
  simp only [Act.put, List.setIfInBounds_toArray, List.set_cons_zero, List.set_cons_succ]
  refine wpAnyE_tk (i := 4) (d := some 25) (v := .slice a n cap) rfl (by kernel_rfl) (by kernel_rfl) (by kernel_rfl) rfl (fun _ _ _ h => h) rfl rfl ?hy (by assumption) ?_
  case hy => (intro w' hSw; (try dsimp only at hSw); go_simp <;> (first | with_reducible rfl | omega | skip))
  simp only [Act.put, List.setIfInBounds_toArray, List.set_cons_zero, List.set_cons_succ]
  refine wpAnyE_tk (i := 1) (d := some 22) (v := .string ⟨l.toArray⟩) rfl (by kernel_rfl) (by kernel_rfl) (by kernel_rfl) rfl (fun _ _ _ h => h) rfl rfl ?hy (by assumption) ?_
  case hy => (intro w' hSw; have h := HCV.out w' hSw; go_simp)
  simp only [Act.put, List.setIfInBounds_toArray, List.set_cons_zero, List.set_cons_succ]
  refine wpAnyE_tk (i := 5) (d := some 26) (v := .int .i64 (n : Int)) rfl (by kernel_rfl) (by kernel_rfl) (by kernel_rfl) rfl (fun _ _ _ h => h) rfl rfl ?hy (by assumption) ?_
  case hy => (intro w' hSw; (try dsimp only at hSw); go_simp <;> (first | with_reducible rfl | omega | skip))
  simp only [Act.put, List.setIfInBounds_toArray, List.set_cons_zero, List.set_cons_succ]
  refine wpAnyE_on (i := 3) (by kernel_rfl) rfl rfl ?_
  go_simp
  refine hCA.mono ?_
  rintro e w2 ⟨rfl, hb2⟩
  refine ⟨hb2, ?_⟩
  have HB2 : Hid (Below w.heap.size w w2) := hb2
  have hdq : ((y : Int) == (n : Int)) = decide (y = n) := by rw [Bool.eq_iff_iff]; simp; omega
  refine wpAnyE_tk (i := 6) (d := some 27) (v := .bool (decide (y = n))) rfl (by kernel_rfl) (by kernel_rfl) (by kernel_rfl) rfl (fun _ _ _ h => h) rfl rfl ?hy (by assumption) ?_
  case hy => (intro w' hSw; (try dsimp only at hSw); go_simp <;> (first | with_reducible rfl | omega | skip))
  simp only [Act.put, List.setIfInBounds_toArray, List.set_cons_zero, List.set_cons_succ]
  refine wpAnyE_tk (i := 7) (d := some 4) (v := .string ⟨l.toArray⟩) rfl (by kernel_rfl) (by kernel_rfl) (by kernel_rfl) rfl (fun _ _ _ h => h) rfl rfl ?hy (by assumption) ?_
  case hy => (intro w' hSw; (try dsimp only at hSw); go_simp <;> (first | with_reducible rfl | omega | skip))
  simp only [Act.put, List.setIfInBounds_toArray, List.set_cons_zero, List.set_cons_succ]
  refine wpAnyE_tk (i := 8) (d := some 5) (v := .bool (decide (y = n))) rfl (by kernel_rfl) (by kernel_rfl) (by kernel_rfl) rfl (fun _ _ _ h => h) rfl rfl ?hy (by assumption) ?_
  case hy => (intro w' hSw; (try dsimp only at hSw); go_simp <;> (first | with_reducible rfl | omega | skip))
  simp only [Act.put, List.setIfInBounds_toArray, List.set_cons_zero, List.set_cons_succ]
  refine wpAnyE_done (by kernel_rfl) ?_ _
  clear hHeld hdq
  go_wp2
  go_ret2
  exact ⟨rfl, HB2.out⟩
/-- What bytes mean in a charset. -/
theorem wctxt_any (k : Nat) (hk1 : 1 ≤ k) (hk3 : k ≤ 3) (a : Option Addr) (l : List UInt8) (cap n : Nat) (w : World) (hn : n = l.length) (ht : Table w) (hf : Fst w) (hb : Bts a l w) (hl : l.length ≤ 1099511627776) (hcap : n ≤ cap) (hcap2 : cap ≤ 9223372036854775807) :
    Calls Tryd.prog 44 #[.int .i64 (k : Nat), .slice a n cap] w fun e w' => ∃ (T : ByteArray) (b : Bool), (e = .returned (.tuple #[.string T, .bool b]) ∧ csT k l = if b then some T.data.toList else none) ∧ Below w.heap.size w w' := by
  by_cases h1 : k = 1
  · subst h1
    refine (wctxt_utf a l cap n w hn hf hb hl).mono ?_
    rintro e w' ⟨rfl, h⟩
    refine ⟨_, _, ⟨rfl, ?_⟩, h⟩
    subst hn
    by_cases hq : badU l = l.length <;> simp [csT, hq]
  by_cases h2 : k = 2
  · subst h2
    refine (wctxt_asc a l cap n w hn ht hb hl).mono ?_
    rintro e w' ⟨rfl, h⟩
    refine ⟨_, _, ⟨rfl, ?_⟩, h⟩
    subst hn
    by_cases hq : badN 13 l = l.length <;> simp [csT, hq]
  obtain rfl : k = 3 := by omega
  refine (wctxt_lat a l cap n w hn hb hl hcap hcap2).mono ?_
  rintro e w' ⟨rfl, h⟩
  refine ⟨_, _, ⟨rfl, ?_⟩, h⟩
  rw [laT_list]
  simp [csT]
end Go.Proofs.YtdgepnfgjgbkoaaDoor
