/-
  The contracts of octet.Is, and of the document's Has, shown and Is: what each answers for every class and byte.
-/
import Derived.Test.YtdgepnfgjgbkoaaDoorBase
import Derived.Test.YtdgepnfgjgbkoaaDoorPureUp
import Derived.WalkKit
import Derived.WalkSpells
import Derived.Below
import Derived.Test.YtdgepnfgjgbkoaaDoorChk2
import Derived.Test.YtdgepnfgjgbkoaaDoorProg
import Derived.Laws.IdiomStrings
import Derived.Test.YtdgepnfgjgbkoaaDoorPcP
namespace Go.Proofs.YtdgepnfgjgbkoaaDoor
open Go.RowKit

theorem ret_bool {a b : Bool} (h : a = b) : Ending.returned (.bool a) = .returned (.bool b) := by rw [h]

set_option maxHeartbeats 400000 in
theorem is_loop (c : Nat) (b : Int) (s : ByteArray) (w : World) (hc : c < 15) (hs : s.size ≤ 100) (hcell : w.cell? ⟨1, c, none⟩ = some (.string s)) :
    Calls Tryd.prog 71 #[.int .i64 c, .int .u8 b] w fun e w' => e = .returned (.bool (inPairs s.data.toList b)) ∧ w' = w := by
  go_enter Tryd.func71, Tryd.ntmps71
  go_wp2
  go_loop [6] (fun i => ∃ k : Nat, k ≤ s.size + 1 ∧ i = .int .i64 k ∧ Hid (inPairs s.data.toList b = inPairs (s.data.toList.drop k) b)) (fun i => s.size + 1 - (intOf i).toNat)
  case atStart => exact ⟨0, Nat.zero_le _, rfl, rfl⟩
  case round =>
    obtain ⟨k, hk, rfl, HH⟩ := hrel
    by_cases hlt : k + 1 < s.size
    · have HS : Hid (inPairs (s.data.toList.drop k) b = ((decide ((s[k].toNat : Int) ≤ b) && decide (b ≤ (s[k + 1].toNat : Int))) || inPairs (s.data.toList.drop (k + 2)) b)) := inPairs_drop s.data.toList b k (by simpa using hlt)
      by_cases h1 : (s[k].toNat : Int) ≤ b
      · by_cases h2 : b ≤ (s[k + 1].toNat : Int)
        · go_wp2
          go_ret
          exact ⟨ret_bool (by rw [HH.out, HS.out]; simp [h1, h2]), rfl⟩
        · have HN : Hid (inPairs s.data.toList b = inPairs (s.data.toList.drop (k + 2)) b) := by
            show _ = _
            rw [HH.out, HS.out, decide_eq_false h2, Bool.and_false, Bool.false_or]
          go_wp2
          go_round
          case rel => exact ⟨k + 2, by omega, by go_num, HN⟩
          case measure => simp [intOf]; omega
      · have HN : Hid (inPairs s.data.toList b = inPairs (s.data.toList.drop (k + 2)) b) := by
          show _ = _
          rw [HH.out, HS.out, decide_eq_false h1, Bool.false_and, Bool.false_or]
        go_wp2
        go_round
        case rel => exact ⟨k + 2, by omega, by go_num, HN⟩
        case measure => simp [intOf]; omega
    · go_wp2
      go_ret
      exact ⟨ret_bool (by rw [HH.out, inPairs_end _ _ _ (by simp; omega)]), rfl⟩

/-- The table, as the walks ask for it. -/
def Table (w : World) : Prop := ∀ c : Nat, c < 15 → w.cell? ⟨1, c, none⟩ = some (.string ⟨(classRows.getD c []).toArray⟩)

theorem rows_short : ∀ c : Fin 15, (classRows.getD c.val []).length ≤ 100 := by decide +kernel

theorem is_out (c b : Int) (w : World) (hc : c < 0 ∨ 15 ≤ c) :
    Calls Tryd.prog 71 #[.int .i64 c, .int .u8 b] w fun e w' => e = .returned (.bool false) ∧ w' = w := by
  rcases hc with hc | hc
  · go_enter Tryd.func71, Tryd.ntmps71
    go_wp2
    go_ret
    exact ⟨rfl, rfl⟩
  · have hn : ¬ c < 0 := by omega
    go_enter Tryd.func71, Tryd.ntmps71
    go_wp2
    go_ret
    exact ⟨rfl, rfl⟩

/-- octet.Is. -/
theorem is_any (c b : Int) (w : World) (ht : Table w) :
    Calls Tryd.prog 71 #[.int .i64 c, .int .u8 b] w fun e w' => e = .returned (.bool (isB c b)) ∧ w' = w := by
  by_cases hc : c < 0 ∨ 15 ≤ c
  · unfold isB
    rw [if_pos hc]
    exact is_out c b w hc
  · obtain ⟨n, rfl⟩ := Int.eq_ofNat_of_zero_le (show 0 ≤ c by omega)
    have hn : n < 15 := by omega
    have he : isB (n : Int) b = inPairs (classRows.getD n []) b := by unfold isB; rw [if_neg hc]; rfl
    rw [he]
    exact is_loop n b ⟨(classRows.getD n []).toArray⟩ w hn (by have := rows_short ⟨n, hn⟩; simpa [ByteArray.size] using this) (ht n hn)

end Go.Proofs.YtdgepnfgjgbkoaaDoor
/-
  The laid variables that the walks read.
-/
namespace Go.Proofs.YtdgepnfgjgbkoaaDoor
open Go.RowKit

structure Tb (w : World) : Prop where
  cls : Table w
  fst : Fst w
  ml : ∃ m, w.cell? ⟨2, 0, none⟩ = some (.int .i64 m)
theorem Tb.below {w w' : World} (h : Tb w) (hb : Below w.heap.size w w') : Tb w' := by
  obtain ⟨m, hm⟩ := h.ml
  exact ⟨fun c hc => (hb.cell (p := ⟨1, c, none⟩) (World.block_lt_of_cell? w _ (h.cls c hc))).trans (h.cls c hc), h.fst.below hb h.fst.lt, m, (hb.cell (p := ⟨2, 0, none⟩) (World.block_lt_of_cell? w _ hm)).trans hm⟩
end Go.Proofs.YtdgepnfgjgbkoaaDoor
/-
  The contract of octet.Upper: for every text it answers the text in capitals, in new memory, and nothing old has turned.
-/
namespace Go.Proofs.YtdgepnfgjgbkoaaDoor
open Go.RowKit

theorem ret_string {a b : ByteArray} (h : a = b) : Ending.returned (.string a) = .returned (.string b) := by rw [h]

/-- The bytes in the new row, when k of them are done. -/
structure UpRel (s : ByteArray) (B : Nat) (w : World) (k : Nat) (wr : World) : Prop where
  cell : ∀ j, j < s.size → wr.cell? ⟨B, j, none⟩ = some (.int .u8 ((upAt s.data.toList k j).toNat : Int))
  free : ∀ j, j < s.size → wr.frozen? ⟨B, j, none⟩ = false
  below : Below B w wr

theorem UpRel.same {s : ByteArray} {B : Nat} {w wr : World} {k : Nat} (h : UpRel s B w k wr) (hn : ¬ (97 ≤ (s.data.toList.getD k 0).toNat ∧ (s.data.toList.getD k 0).toNat ≤ 122)) : UpRel s B w (k + 1) wr := by
  refine ⟨fun j hj => ?_, h.free, h.below⟩
  rw [h.cell j hj]
  by_cases e : j = k
  · subst e
    rw [upAt_self, upAt_step, upB_no _ hn]
  · rw [upAt_other _ _ _ e]

theorem UpRel.put {s : ByteArray} {B : Nat} {w wr : World} {k : Nat} (h : UpRel s B w k wr) (hk : k < s.size) (h1 : 97 ≤ (s.data.toList.getD k 0).toNat) (h2 : (s.data.toList.getD k 0).toNat ≤ 122) :
    UpRel s B w (k + 1) (wr.setCell ⟨B, k, none⟩ (.int .u8 (((s.data.toList.getD k 0).toNat : Int) - 97 + 65))) := by
  refine ⟨fun j hj => ?_, fun j hj => ?_, h.below.setCell (Nat.le_refl _) _⟩
  · by_cases e : j = k
    · subst e
      rw [World.cell?_setCell_same _ _ _ (h.cell j hj), upAt_step, upB_yes _ h1 h2]
      congr 2
      omega
    · rw [World.cell?_setCell_other _ _ _ _ (by intro h'; injection h' with _ h'; omega), h.cell j hj, upAt_other _ _ _ e]
  · rw [World.frozen?_setCell]
    exact h.free j hj

theorem bytes_lt (s : ByteArray) (cap : Nat) : s.data.size ≤ (bytesRow s cap).size := by
  simp [bytesRow]

theorem UpRel.start (s : ByteArray) (w : World) (cap : Nat) (n : Nat) (hn : n = (bytesRow s cap).size) : UpRel s w.heap.size w 0 (w.alloc (.cells (bytesRow s cap) 5 (n, n + 1))).drew := by
  refine ⟨fun j hj => ?_, fun j hj => ?_, ((Below.refl _ _).alloc (Nat.le_refl _) _).drew⟩
  · have := World.cell?_alloc_mark w (bytesRow s cap) 5 (n, n + 1) j
    rw [bytesRow_at s cap j hj] at this
    rw [upAt_zero]
    refine Eq.trans this ?_
    rw [List.getD_eq_getElem?_getD, Array.getElem?_toList, Array.getElem?_eq_getElem hj, Option.getD_some]
  · have := World.frozen?_alloc_mark w (bytesRow s cap) 5 n (n + 1) j
    refine Eq.trans this ?_
    have h2 := bytes_lt s cap
    have h3 : s.size = s.data.size := rfl
    rw [decide_eq_false (by omega), Bool.false_and]

theorem UpRel.back {s : ByteArray} {B : Nat} {w wr : World} (h : UpRel s B w s.size wr) (cap : Nat) :
    (convert 38 9 (.slice (some ⟨B, 0, none⟩) s.size cap)).run Tryd.prog wr = .ok (.string (upS s)) wr := by
  have hl : (upL s.data.toList).length = s.size := by rw [upL, List.length_map, Array.length_toList]; rfl
  have := run_convert_bytes_back (P := Tryd.prog) wr 38 9 5 ⟨B, 0, none⟩ cap (upL s.data.toList) Tryd.underlying38 Tryd.underlying5 Tryd.underlying9 (fun j hj => by
    have hj' : j < s.size := by omega
    have he : (⟨B, 0, none⟩ : Addr).add j = ⟨B, j, none⟩ := by rw [Addr.add_lit, Nat.zero_add]
    rw [he, h.cell j hj']
    rw [upAt_all s.data.toList s.size j (by rw [Array.length_toList]; rfl) hj])
  rw [hl] at this
  exact this

set_option maxRecDepth 100000 in
set_option maxHeartbeats 400000 in
theorem upper_any (s : ByteArray) (w : World) (hs : s.size ≤ maxLen) :
    Calls Tryd.prog 40 #[.string s] w fun e w' => e = .returned (.string (upS s)) ∧ Below w.heap.size w w' := by
  unfold maxLen at hs
  have hconv := run_bytes_of_string (P := Tryd.prog) w 9 38 5 s Tryd.underlying9 Tryd.underlying38 Tryd.underlying5
  obtain ⟨cap, hcap⟩ : ∃ c, c = grownCap w s.size 0 5 := ⟨_, rfl⟩
  rw [← hcap] at hconv
  obtain ⟨n, hn⟩ : ∃ n, n = (bytesRow s cap).size := ⟨_, rfl⟩
  rw [← hn] at hconv
  have HR : Hid (UpRel s w.heap.size w 0 (w.alloc (.cells (bytesRow s cap) 5 (n, n + 1))).drew) := UpRel.start s w cap n hn
  clear hcap hn
  go_enter Tryd.func40, Tryd.ntmps40
  go_wp2
  go_loopw [10] (fun i wr => ∃ k : Nat, k ≤ s.size ∧ i = .int .i64 k ∧ Hid (UpRel s w.heap.size w k wr)) (fun i _ => s.size - (intOf i).toNat)
  case atStart => exact ⟨0, Nat.zero_le _, rfl, HR⟩
  case round =>
    obtain ⟨k, hk, rfl, HK⟩ := hrel
    by_cases hlt : k < s.size
    · have hc := HK.out.cell k hlt
      have hf := HK.out.free k hlt
      rw [upAt_self] at hc
      obtain ⟨x, hx⟩ : ∃ x : UInt8, x = s.data.toList.getD k 0 := ⟨_, rfl⟩
      rw [← hx] at hc
      have HX : Hid (x = s.data.toList.getD k 0) := hx
      clear hx
      have hx1 : x.toNat < 256 := x.toNat_lt
      by_cases h1 : 97 ≤ x.toNat
      · by_cases h2 : x.toNat ≤ 122
        · have HN : Hid (UpRel s w.heap.size w (k + 1) (wr.setCell ⟨w.heap.size, k, none⟩ (.int .u8 ((x.toNat : Int) - 97 + 65)))) := by
            have := HK.out.put hlt (by rw [← HX.out]; exact h1) (by rw [← HX.out]; exact h2)
            rw [← HX.out] at this
            exact this
          clear HK
          go_wp2
          go_roundw
          case rel => exact ⟨k + 1, by omega, by go_num, HN⟩
          case measure => simp [intOf]; omega
        · have HN : Hid (UpRel s w.heap.size w (k + 1) wr) := HK.out.same (by rw [← HX.out]; omega)
          clear HK
          go_wp2
          go_roundw
          case rel => exact ⟨k + 1, by omega, by go_num, HN⟩
          case measure => simp [intOf]; omega
      · have HN : Hid (UpRel s w.heap.size w (k + 1) wr) := HK.out.same (by rw [← HX.out]; omega)
        clear HK
        go_wp2
        go_roundw
        case rel => exact ⟨k + 1, by omega, by go_num, HN⟩
        case measure => simp [intOf]; omega
    · have he : k = s.size := by omega
      subst he
      have hback := HK.out.back cap
      have HB : Hid (Below w.heap.size w wr) := HK.out.below
      clear HK
      go_wp2
      go_ret
      exact ⟨rfl, HB.out⟩
end Go.Proofs.YtdgepnfgjgbkoaaDoor
/-
  isBlank, room, charsetOf.
-/
namespace Go.Proofs.YtdgepnfgjgbkoaaDoor
open Go.RowKit

theorem u8x (c n : UInt8) (m : Int) (hm : m = (n.toNat : Int) := by rfl) : ((c.toNat : Int) == m) = (c == n) := by
  subst hm
  rw [Bool.eq_iff_iff]
  simp only [beq_iff_eq]
  exact ⟨fun h => UInt8.toNat_inj.1 (by omega), fun h => by rw [h]⟩
/-- The text of a coding: B or Q. -/
def cdS (q : Bool) : ByteArray := if q then ⟨#[81]⟩ else ⟨#[66]⟩
theorem wblank_any (c : UInt8) (w : World) : Calls Tryd.prog 38 #[.int .u8 (c.toNat : Int)] w fun e w' => e = .returned (.bool (blk c)) ∧ w' = w := by
  have k1 := u8x c 32 32
  have k2 := u8x c 9 9
  unfold blk
  cases h1 : (c == 32) <;> cases h2 : (c == 9) <;> rw [h1] at k1 <;> rw [h2] at k2 <;> clear h1 h2
  all_goals
    go_enter Tryd.func38, Tryd.ntmps38
    go_wp2
    go_ret
    exact ⟨rfl, rfl⟩
theorem wroom_any (q : Bool) (w : World) : Calls Tryd.prog 45 #[.string (cdS q)] w fun e w' => e = .returned (.int .i64 (roW q : Nat)) ∧ w' = w := by
  cases q
  all_goals
    unfold cdS roW
    go_enter Tryd.func45, Tryd.ntmps45
    go_wp2
    go_ret
    exact ⟨rfl, rfl⟩
theorem beqd (l m : List UInt8) : (l == m) = decide (l = m) := Bool.eq_iff_iff.2 ⟨fun h => decide_eq_true (beq_iff_eq.1 h), fun h => beq_iff_eq.2 (of_decide_eq_true h)⟩
theorem ups_list (s : ByteArray) : (upS s).toList = upL s.data.toList := by rw [ByteArray.toList_eq]; simp [upS]
theorem wcsof_any (s : ByteArray) (w : World) (hs : s.size ≤ maxLen) : Calls Tryd.prog 42 #[.string s] w fun e w' => e = .returned (.int .i64 (csNo s.data.toList : Nat)) ∧ Below w.heap.size w w' := by
  have hU := upper_any s w hs
  have HL := ups_list s
  obtain ⟨U, hU2⟩ : ∃ U, U = upS s := ⟨_, rfl⟩
  rw [← hU2] at hU HL
  have k1 : (U.toList == [85, 84, 70, 45, 56]) = decide (upL s.data.toList = nmU) := by rw [HL]; exact beqd _ nmU
  have k2 : (U.toList == [85, 83, 45, 65, 83, 67, 73, 73]) = decide (upL s.data.toList = nmA) := by rw [HL]; exact beqd _ nmA
  have k3 : (U.toList == [73, 83, 79, 45, 56, 56, 53, 57, 45, 49]) = decide (upL s.data.toList = nmI) := by rw [HL]; exact beqd _ nmI
  clear hU2 HL
  unfold csNo
  by_cases h1 : upL s.data.toList = nmU <;> by_cases h2 : upL s.data.toList = nmA <;> by_cases h3 : upL s.data.toList = nmI
  all_goals
    simp only [h1, h2, h3, decide_true, decide_false, if_true, if_false] at k1 k2 k3 ⊢
    try clear h1
    try clear h2
    try clear h3
    go_enter Tryd.func42, Tryd.ntmps42
    go_wp2_with fail
    refine hU.mono ?_
    rintro e w' ⟨rfl, hb⟩
    go_wp2
    go_ret
    exact ⟨rfl, hb⟩
end Go.Proofs.YtdgepnfgjgbkoaaDoor
/-
  The contracts of octet.Span and octet.Bad of a text.
-/
namespace Go.Proofs.YtdgepnfgjgbkoaaDoor
open Go.RowKit

theorem ret_i64T {a b : Int} (h : a = b) : Ending.returned (.int .i64 a) = .returned (.int .i64 b) := by rw [h]

set_option maxRecDepth 100000 in
set_option maxHeartbeats 400000 in
theorem span_negT (c f : Int) (s : ByteArray) (w : World) (hf : f < 0) :
    Calls Tryd.prog 49 #[.int .i64 c, .string s, .int .i64 f] w fun e w' => e = .returned (.int .i64 f) ∧ w' = w := by
  go_enter Tryd.func49, Tryd.ntmps49
  go_wp2
  go_ret
  exact ⟨rfl, rfl⟩

set_option maxRecDepth 100000 in
set_option maxHeartbeats 400000 in
theorem span_behindT (c f : Int) (s : ByteArray) (w : World) (hs : s.size ≤ maxLen) (hf : (s.size : Int) ≤ f) :
    Calls Tryd.prog 49 #[.int .i64 c, .string s, .int .i64 f] w fun e w' => e = .returned (.int .i64 f) ∧ w' = w := by
  unfold maxLen at hs
  have hn : ¬ f < 0 := by omega
  have hl : ¬ f < (s.size : Int) := by omega
  go_enter Tryd.func49, Tryd.ntmps49
  go_wp2
  refine wp_loop_rounds 1 ?_
  rw [rounds_succ]
  go_wp2
  go_ret
  exact ⟨rfl, rfl⟩

set_option maxRecDepth 100000 in
set_option maxHeartbeats 400000 in
theorem span_inT (c : Int) (f : Nat) (s : ByteArray) (w : World) (ht : Table w) (hs : s.size ≤ maxLen) (hf : f ≤ s.size) :
    Calls Tryd.prog 49 #[.int .i64 c, .string s, .int .i64 f] w fun e w' => e = .returned (.int .i64 (f + badN c (s.data.toList.drop f))) ∧ w' = w := by
  unfold maxLen at hs
  have HT : Hid (Table w) := ht
  clear ht
  go_enter Tryd.func49, Tryd.ntmps49
  go_wp2
  go_loop [7] (fun i => ∃ m : Nat, m ≤ s.size ∧ i = .int .i64 m ∧ Hid (f + badN c (s.data.toList.drop f) = m + badN c (s.data.toList.drop m))) (fun i => s.size - (intOf i).toNat)
  case atStart => exact ⟨f, hf, rfl, rfl⟩
  case round =>
    obtain ⟨m, hm, rfl, HM⟩ := hrel
    by_cases hlt : m < s.size
    · by_cases hb : isB c (s[m].toNat : Int) = true
      · have HN : Hid (f + badN c (s.data.toList.drop f) = (m + 1) + badN c (s.data.toList.drop (m + 1))) := by
          have := badN_yes c s.data.toList m (by simpa using hlt) hb
          show _ = _
          rw [HM.out, this]; omega
        go_wp2_with (go_at_call 71; refine (is_any _ _ _ HT.out).mono ?_; rintro e w' ⟨rfl, rfl⟩)
        go_round
        case rel => exact ⟨m + 1, by omega, by go_num, HN⟩
        case measure => simp [intOf]; omega
      · have hb' : isB c (s[m].toNat : Int) = false := by simpa using hb
        have HN : Hid (f + badN c (s.data.toList.drop f) = m) := by
          have := badN_no c s.data.toList m (by simpa using hlt) hb'
          show _ = _
          rw [HM.out, this]; omega
        clear hb
        go_wp2_with (go_at_call 71; refine (is_any _ _ _ HT.out).mono ?_; rintro e w' ⟨rfl, rfl⟩)
        go_ret
        exact ⟨ret_i64T (by have := HN.out; omega), rfl⟩
    · have HN : Hid (f + badN c (s.data.toList.drop f) = m) := by
        have := badN_end c s.data.toList m (by simp; omega)
        show _ = _
        rw [HM.out, this]; omega
      go_wp2
      go_ret
      exact ⟨ret_i64T (by have := HN.out; omega), rfl⟩

theorem span_anyT (c f : Int) (s : ByteArray) (w : World) (ht : Table w) (hs : s.size ≤ maxLen) :
    Calls Tryd.prog 49 #[.int .i64 c, .string s, .int .i64 f] w fun e w' => e = .returned (.int .i64 (spanI c s.data.toList f)) ∧ w' = w := by
  by_cases h0 : f < 0
  · rw [spanI_neg _ _ _ h0]
    exact span_negT c f s w h0
  · by_cases h1 : (s.size : Int) ≤ f
    · rw [spanI_behind _ _ _ (by simpa using h1)]
      exact span_behindT c f s w hs h1
    · obtain ⟨n, rfl⟩ := Int.eq_ofNat_of_zero_le (show 0 ≤ f by omega)
      rw [spanI_nat]
      exact span_inT c n s w ht hs (by omega)

set_option maxRecDepth 100000 in
theorem bad_anyT (c : Int) (s : ByteArray) (w : World) (ht : Table w) (hs : s.size ≤ maxLen) :
    Calls Tryd.prog 24 #[.int .i64 c, .string s] w fun e w' => e = .returned (.int .i64 (badN c s.data.toList)) ∧ w' = w := by
  have hz := spanI_zero c s.data.toList
  go_enter Tryd.func24, Tryd.ntmps24
  go_wp2_with fail
  refine (span_anyT c 0 s _ ht hs).mono ?_
  rintro e w' ⟨rfl, rfl⟩
  go_wp2
  go_ret
  exact ⟨rfl, rfl⟩
end Go.Proofs.YtdgepnfgjgbkoaaDoor
