/-
  The document's Decode.
-/
import Derived.Test.YtnlgbopdbihnjaaGreatDoorChk
import Derived.Test.YtnlgbopdbihnjaaGreatDoorDec
import Derived.Lib.ConvBytes
import Derived.Test.YtnlgbopdbihnjaaGreatDoorV4a
namespace Go.Proofs.YtnlgbopdbihnjaaGreatDoor
open Go.RowKit

theorem conv_bytes (w : World) (s : ByteArray) : ∃ c w', (convert 9 88 (.string s)).run Tryz.prog w = .ok (.slice (some ⟨w.heap.size, 0, none⟩) s.size c) w' ∧ RowL s.data.toList w.heap.size 0 w' ∧ s.size ≤ c ∧ (s.size ≤ maxLen → c ≤ maxLen) ∧ Below w.heap.size w w' ∧ w.heap.size < w'.heap.size ∧ w'.heap.size = w.heap.size + 1 := by
  refine ⟨_, _, Lib.run_convert_string_bytes w 9 88 5 s Tryz.underlying9 Tryz.underlying88 Tryz.underlying5, fun j hj => ?_, grownCap_ge _ _ _ _, fun h => grownCap_le_maxLen _ _ _ _ h, ?_, ?_, Lib.bytesWorld_size _ _ _⟩
  · rw [Nat.zero_add, Lib.bytesWorld_cell w 5 s j (by rw [len_list] at hj; exact hj)]
    congr 3
    rw [List.getD_eq_getElem?_getD, List.getElem?_eq_getElem hj]
    rfl
  · exact ⟨rfl, rfl, rfl, by rw [Lib.bytesWorld_size]; omega, fun k hk => Lib.bytesWorld_at_old w 5 s k hk⟩
  · rw [Lib.bytesWorld_size]
    omega

set_option maxHeartbeats 4000000 in
set_option maxRecDepth 100000 in
theorem ddec_any (s : ByteArray) (w : World) (hs : s.size ≤ 35184372088000) :
    Calls Tryz.prog 59 #[.string s] w fun e w' => (∃ v, e = .returned (.tuple #[v, .agg (decE s.data.toList)]) ∧ w'.ownsRow w.heap.size 21 1 v (decR s.data.toList).length (cellsN .i32 (decR s.data.toList))) ∧ Below w.heap.size w w' := by
  have hll := len_list s
  obtain ⟨c, w2, hconv, hrow, hc1, -, hb2, hz2, hl2⟩ := conv_bytes (w.alloc (.cells #[.int .i64 0, .int .i64 0] 30)) s
  have HW2 : Hid (Below w.heap.size w w2) := ((Below.refl _ w).alloc (Nat.le_refl _) _).trans (hb2.mono (by simp))
  have HS2 : Hid (Lies w2 w.heap.size #[.int .i64 0, .int .i64 0] 30) := (Lies.new w _ _).below hb2 (by simp)
  have hq2 : w2.heap.size = w.heap.size + 2 := by rw [hl2]; simp
  have HBT : Hid (Bts (some ⟨w.heap.size + 1, 0, none⟩) s.data.toList w2) := .inr ⟨w.heap.size + 1, 0, rfl, by omega, by rw [World.size_alloc] at hrow; exact hrow⟩
  have hD := dbad_any (some ⟨w.heap.size + 1, 0, none⟩) s.data.toList c w2 HBT.out (by omega) (by omega)
  rw [hll] at hD
  rw [World.size_alloc] at hconv
  have hbl := badU_le s.data.toList
  rw [hll] at hbl
  clear hrow hb2 hz2 hl2
  go_enter Tryz.func59, Tryz.ntmps59
  go_wp2_with fail
  refine hD.mono ?_
  rintro e w3 ⟨rfl, b3⟩
  have HW3 : Hid (Below w.heap.size w w3) := HW2.out.trans (b3.mono (by omega))
  have HS3 : Hid (Lies w3 w.heap.size #[.int .i64 0, .int .i64 0] 30) := HS2.out.below b3 (by omega)
  have HBT3 : Hid (Bts (some ⟨w.heap.size + 1, 0, none⟩) s.data.toList w3) := HBT.out.below b3
  have hq3 : w.heap.size + 2 ≤ w3.heap.size := by have := b3.size; omega
  clear hD b3 hconv HBT HS2 HW2 hq2
  by_cases hA : badU s.data.toList < s.size
  · have HE : Hid (decE s.data.toList = #[.int .i64 50, .int .i64 (badU s.data.toList)]) := if_pos (by omega)
    have HR : Hid (decR s.data.toList = []) := if_pos (by omega)
    have c0 := HS3.out.cell 0
    have c1 := HS3.out.cell 1
    have f0 := HS3.out.frozen 0
    have f1 := HS3.out.frozen 1
    simp at c0 c1
    generalize badU s.data.toList = bd at *
    go_wp2
    have HZ : Hid (Lies ((w3.setCell ⟨w.heap.size, 0, none⟩ (.int .i64 50)).setCell ⟨w.heap.size, 1, none⟩ (.int .i64 bd)) w.heap.size #[.int .i64 50, .int .i64 bd] 30) := (HS3.out.set 0 _).set 1 _
    have z0 := HZ.out.cell 0
    have z1 := HZ.out.cell 1
    simp at z0 z1
    (try simp only [Exit.inBlock, Exit.then])
    refine bodyPost_ret (v := .tuple #[.slice none 0 0, .agg #[.int .i64 50, .int .i64 bd]]) (by simp [results, Tryz.results59, go_sem, z0, z1]) rfl ⟨⟨_, by rw [HE.out], by rw [HR.out]; exact ⟨rfl, .inl ⟨rfl, rfl⟩⟩⟩, (HW3.out.setCell (p := ⟨w.heap.size, 0, none⟩) (Nat.le_refl _) _).setCell (p := ⟨w.heap.size, 1, none⟩) (Nat.le_refl _) _⟩
  · have HE : Hid (decE s.data.toList = #[.int .i64 0, .int .i64 0]) := if_neg (by omega)
    have HR : Hid (decR s.data.toList = decL s.data.toList) := if_neg (by omega)
    have hbe : badU s.data.toList = s.size := by omega
    have HBE : Hid (badU s.data.toList = s.data.toList.length) := hbe.trans hll.symm
    clear hA hbl
    rw [hbe]
    clear hbe
    go_wp2_with fail
    go_loopw [6, 7, 8, 9] (fun u p _ _ wr => ∃ (j : Nat) (acc : List Int), p = .int .i64 j ∧ j ≤ s.size ∧ acc.length ≤ j ∧ Hid (Below w3.heap.size w3 wr) ∧ Hid (wr.ownsRow w3.heap.size 21 1 u acc.length (cellsN .i32 acc)) ∧ Hid (decL s.data.toList = acc ++ decL (s.data.toList.drop j)) ∧ Hid (badU (s.data.toList.drop j) = (s.data.toList.drop j).length)) (fun _ p _ _ _ => s.size - (intOf p).toNat)
    case atStart => exact ⟨0, [], rfl, Nat.zero_le _, Nat.le_refl _, Below.refl _ _, ⟨rfl, .inl ⟨rfl, rfl⟩⟩, by show _ = _; rw [List.drop_zero]; rfl, by show _ = _; rw [List.drop_zero]; exact HBE.out⟩
    case round =>
      obtain ⟨j, acc, rfl, hj, hal, HW, HO, HP, HQ⟩ := hrel
      have hwz := HW.out.size
      by_cases hjs : j < s.size
      · obtain ⟨r, n, h, hrest⟩ := oneN_whole HQ.out (by rw [List.length_drop]; omega)
        have hm := done_any (some ⟨w.heap.size + 1, 0, none⟩) s.data.toList c j wr (HBT3.out.below HW.out) (by omega) (by omega) (by omega)
        have e1 : oneT (s.data.toList.drop j) = (r, n) := by unfold oneT; rw [h]; rfl
        rw [e1, hll] at hm
        obtain ⟨h1, h2, h3, -⟩ := one_okX h
        rw [List.length_drop] at h1
        have HP2 : Hid (decL s.data.toList = (acc ++ [r]) ++ decL (s.data.toList.drop (j + n))) := by show _ = _; rw [HP.out, decL_some h, List.drop_drop]; simp
        have HQ2 : Hid (badU (s.data.toList.drop (j + n)) = (s.data.toList.drop (j + n)).length) := by show _ = _; rw [List.drop_drop] at hrest; exact hrest
        clear h e1 hrest HP HQ
        go_wp2_with fail
        refine hm.mono ?_
        rintro e w5 ⟨rfl, b5⟩
        have HW5 : Hid (Below w3.heap.size w3 w5) := HW.out.trans (b5.mono HW.out.size)
        have HO5 : Hid (w5.ownsRow w3.heap.size 21 1 _ acc.length (cellsN .i32 acc)) := ownN_below HO.out b5
        have hz5 := HW5.out.size
        clear hm b5 HO HW
        go_wp2_with (at_builtin; refine wpList_append_num rfl _ _ 84 21 4 .i32 Tryz.underlying84 infoR (by omega) rfl w3.heap.size _ acc.length acc rfl (HO5.out.alloc _) ⟨w5.heap.size, 0, none⟩ r 1 rfl (one_nts _ _ _ _) (by omega) (by simp; omega) ?_)
        intro v4 w4 hown4 hgrow4
        have hg4 := grown_on (World.grownBy_alloc w5 _ (u6 : Value).ownBlock) hgrow4 (fun _ h => .inl h.symm)
        have HW4 : Hid (Below w3.heap.size w3 w4) := HW5.out.grown hg4 HW5.out.size (fun q hq => (HO5.out.lt q hq).1)
        have HO4 : Hid (w4.ownsRow w3.heap.size 21 1 v4 (acc ++ [r]).length (cellsN .i32 (acc ++ [r]))) := by
          show World.ownsRow _ _ _ _ _ _ _
          rw [List.length_append]
          exact hown4
        clear hown4 hgrow4 hg4 HO5 HW5
        go_wp2
        go_roundw
        case rel => exact ⟨j + n, acc ++ [r], by go_num, by omega, by simp; omega, HW4, HO4, HP2, HQ2⟩
        case measure => simp [intOf]; omega
      · obtain rfl : j = s.size := by omega
        have HP3 : Hid (decL s.data.toList = acc) := by
          show _ = _
          rw [HP.out, List.drop_eq_nil_of_le (by omega), decL_none (l := []) rfl, List.append_nil]
        have HS4 : Hid (Lies wr w.heap.size #[.int .i64 0, .int .i64 0] 30) := HS3.out.below HW.out (by omega)
        have HW4 : Hid (Below w.heap.size w wr) := HW3.out.trans (HW.out.mono (by omega))
        have c0 := HS4.out.cell 0
        have c1 := HS4.out.cell 1
        have f0 := HS4.out.frozen 0
        have f1 := HS4.out.frozen 1
        simp at c0 c1
        clear HW hjs
        go_wp2
        have hS5 : ((wr.setCell ⟨w.heap.size, 0, none⟩ (.int .i64 0)).setCell ⟨w.heap.size, 1, none⟩ (.int .i64 0)).ownsRow w3.heap.size 21 1 u6 acc.length (cellsN .i32 acc) := by
          have hap := ownN_apart HO.out HS4.out (by decide)
          exact ownN_keep HO.out (fun k hk => (Below.heap_setCell _ _ _ _ (hap k hk)).trans (Below.heap_setCell _ _ _ _ (hap k hk)))
        (try simp only [Exit.inBlock, Exit.then])
        refine bodyPost_ret (v := .tuple #[u6, .agg #[.int .i64 0, .int .i64 0]]) (by simp [results, Tryz.results59, go_sem, c0, c1]) rfl ⟨⟨u6, by rw [HE.out], by rw [HR.out, HP3.out]; exact base_le hS5 (by omega)⟩, (HW4.out.setCell (p := ⟨w.heap.size, 0, none⟩) (Nat.le_refl _) _).setCell (p := ⟨w.heap.size, 1, none⟩) (Nat.le_refl _) _⟩
end Go.Proofs.YtnlgbopdbihnjaaGreatDoor
/-
  The contracts of domain's groups: room, whole, take, open.
-/
namespace Go.Proofs.YtnlgbopdbihnjaaGreatDoor
open Go.RowKit

def l8 (l : List Nat) : List Nat := l ++ List.replicate (8 - l.length) 0
/-- The cells of groups. -/
def grC (g : Gs) : Array Value := ((l8 g.l).map (fun n => Value.int .u16 (n : Nat)) ++ [Value.int .i64 (g.l.length : Nat), Value.bool g.gap.isSome, Value.int .i64 (g.gap.getD 0 : Nat)]).toArray
structure Gs.Ok (g : Gs) : Prop where
  le : g.l.length ≤ 8
  gap : ∀ k, g.gap = some k → k ≤ g.l.length ∧ g.l.length ≤ 6
  lt : ∀ n ∈ g.l, n < 65536
theorem l8_length (l : List Nat) (h : l.length ≤ 8) : (l8 l).length = 8 := by simp [l8]; omega
theorem grC_at (g : Gs) (h : g.l.length ≤ 8) (k : Nat) (hk : k < 8) : (grC g)[k]? = some (.int .u16 ((l8 g.l)[k]'(by rw [l8_length _ h]; exact hk) : Nat)) := by
  unfold grC
  rw [List.getElem?_toArray, List.getElem?_append_left (by rw [List.length_map, l8_length _ h]; exact hk), List.getElem?_map, List.getElem?_eq_getElem (by rw [l8_length _ h]; exact hk)]
  rfl
theorem grC_n (g : Gs) (h : g.l.length ≤ 8) : (grC g)[8]? = some (.int .i64 (g.l.length : Nat)) ∧ (grC g)[9]? = some (.bool g.gap.isSome) ∧ (grC g)[10]? = some (.int .i64 (g.gap.getD 0 : Nat)) := by
  have e : ((l8 g.l).map (fun n => Value.int .u16 (n : Nat))).length = 8 := by rw [List.length_map, l8_length _ h]
  unfold grC
  refine ⟨?_, ?_, ?_⟩ <;> rw [List.getElem?_toArray, List.getElem?_append_right (by omega), e] <;> rfl
/-- Groups in a block. -/
structure GrAt (w : World) (b : Nat) (g : Gs) : Prop where
  lies : Lies w b (grC g) 61
  ok : g.Ok
theorem GrAt.cells {w : World} {b : Nat} {g : Gs} (h : GrAt w b g) : w.cell? ⟨b, 8, none⟩ = some (.int .i64 (g.l.length : Nat)) ∧ w.cell? ⟨b, 9, none⟩ = some (.bool g.gap.isSome) ∧ w.cell? ⟨b, 10, none⟩ = some (.int .i64 (g.gap.getD 0 : Nat)) := by
  obtain ⟨h1, h2, h3⟩ := grC_n g h.ok.le
  exact ⟨(h.lies.cell 8).trans h1, (h.lies.cell 9).trans h2, (h.lies.cell 10).trans h3⟩
theorem GrAt.but {w w' : World} {b c : Nat} {g : Gs} (h : GrAt w b g) (hb : But c w w') (hne : b ≠ c) : GrAt w' b g := ⟨hb.lies h.lies hne, h.ok⟩
theorem GrAt.below {w w' : World} {b : Nat} {g : Gs} (h : GrAt w b g) (hb : Below w.heap.size w w') : GrAt w' b g := ⟨h.lies.below hb h.lies.lt, h.ok⟩

set_option maxHeartbeats 1000000 in
theorem room_any (b : Nat) (g : Gs) (w : World) (h : GrAt w b g) : Calls Tryz.prog 42 #[.pointer (some ⟨b, 0, none⟩)] w fun e w' => e = .returned (.int .i64 (g.room : Nat)) ∧ w' = w := by
  obtain ⟨c8, c9, _⟩ := h.cells
  have hle := h.ok.le
  have hgp := h.ok.gap
  have hb := h.lies.lt
  unfold Gs.room
  obtain ⟨n, hn⟩ : ∃ n, n = g.l.length := ⟨_, rfl⟩
  rw [← hn] at c8 hle hgp ⊢
  clear h hn
  cases hg : g.gap with
  | none =>
    rw [hg] at c9
    simp only [Option.isSome_none] at c9 ⊢
    clear hgp hg
    go_enter Tryz.func42, Tryz.ntmps42
    go_wp2
    go_ret
    exact ⟨by congr 2; simp; omega, rfl⟩
  | some k =>
    obtain ⟨_, h6⟩ := hgp k hg
    rw [hg] at c9
    simp only [Option.isSome_some] at c9 ⊢
    clear hgp hg
    go_enter Tryz.func42, Tryz.ntmps42
    go_wp2
    go_ret
    exact ⟨by congr 2; simp; omega, rfl⟩

set_option maxHeartbeats 1000000 in
theorem whole_any (b : Nat) (g : Gs) (k : Nat) (w : World) (h : GrAt w b g) : Calls Tryz.prog 43 #[.pointer (some ⟨b, 0, none⟩), .int .i64 (k : Nat)] w fun e w' => e = .returned (.bool (g.whole k)) ∧ w' = w := by
  obtain ⟨_, c9, _⟩ := h.cells
  have hb := h.lies.lt
  have HR : Hid (Calls Tryz.prog 42 #[.pointer (some ⟨b, 0, none⟩)] w fun e w' => e = .returned (.int .i64 (g.room : Nat)) ∧ w' = w) := room_any b g w h
  have hroom : g.room ≤ 8 := by unfold Gs.room; split <;> omega
  unfold Gs.whole
  generalize g.room = r at HR hroom ⊢
  clear h
  cases hg : g.gap with
  | none =>
    rw [hg] at c9
    simp only [Option.isSome_none] at c9 ⊢
    go_enter Tryz.func43, Tryz.ntmps43
    go_wp2_with (go_at_call 42; refine HR.out.mono ?_; rintro e w' ⟨rfl, rfl⟩)
    go_ret
    exact ⟨ret_bl (by show ((k : Int) == (r : Int)) = _; rw [Bool.eq_iff_iff]; simp; omega), rfl⟩
  | some k0 =>
    rw [hg] at c9
    simp only [Option.isSome_some] at c9 ⊢
    by_cases hkr : k ≤ r
    · have hkr' : (k : Int) ≤ (r : Int) := by omega
      go_enter Tryz.func43, Tryz.ntmps43
      go_wp2_with (go_at_call 42; refine HR.out.mono ?_; rintro e w' ⟨rfl, rfl⟩)
      go_ret
      exact ⟨by congr 2; simp [hkr], rfl⟩
    · have hkr' : ¬ (k : Int) ≤ (r : Int) := by omega
      go_enter Tryz.func43, Tryz.ntmps43
      go_wp2_with (go_at_call 42; refine HR.out.mono ?_; rintro e w' ⟨rfl, rfl⟩)
      go_ret
      exact ⟨ret_bl (by show ((k : Int) == (r : Int)) = _; rw [Bool.eq_iff_iff]; simp; omega), rfl⟩

theorem grC_put (g : Gs) (n : Nat) (h : g.l.length < 8) : ((grC g).setIfInBounds g.l.length (.int .u16 (n : Nat))).setIfInBounds 8 (.int .i64 ((g.l.length + 1 : Nat) : Int)) = grC (g.put n) := by
  obtain ⟨l, gp⟩ := g
  unfold grC Gs.put l8
  simp only at h
  rw [List.setIfInBounds_toArray, List.setIfInBounds_toArray]
  congr 1
  match l, h with
  | [], _ => rfl
  | [_], _ => rfl
  | [_, _], _ => rfl
  | [_, _, _], _ => rfl
  | [_, _, _, _], _ => rfl
  | [_, _, _, _, _], _ => rfl
  | [_, _, _, _, _, _], _ => rfl
  | [_, _, _, _, _, _, _], _ => rfl
theorem grC_open (g : Gs) (h : g.l.length ≤ 8) : ((grC g).setIfInBounds 9 (.bool true)).setIfInBounds 10 (.int .i64 (g.l.length : Nat)) = grC g.open' := by
  have e : ((l8 g.l).map (fun n => Value.int .u16 (n : Nat))).length = 8 := by rw [List.length_map, l8_length _ h]
  unfold grC Gs.open'
  rw [List.setIfInBounds_toArray, List.setIfInBounds_toArray]
  congr 1
  dsimp only
  rw [List.set_append_right _ _ (by omega), List.set_append_right _ _ (by omega), e]
  rfl
theorem Gs.Ok.put {g : Gs} (h : g.Ok) (n : Nat) (hn : n < 65536) (hr : 0 < g.room) : (g.put n).Ok := by
  have hr' := hr
  unfold Gs.room at hr'
  refine ⟨?_, fun k hk => ?_, fun m hm => ?_⟩
  · simp only [Gs.put, List.length_append, List.length_singleton]
    split at hr' <;> omega
  · have hk' : g.gap = some k := hk
    obtain ⟨h1, h2⟩ := h.gap k hk'
    rw [hk', Option.isSome_some, if_pos rfl] at hr'
    simp only [Gs.put, List.length_append, List.length_singleton]
    omega
  · rcases List.mem_append.1 hm with hm | hm
    · exact h.lt m hm
    · rw [List.mem_singleton.1 hm]; exact hn
theorem Gs.Ok.open' {g : Gs} (h : g.Ok) (hr : g.l.length ≤ 6) : g.open'.Ok := ⟨h.le, fun k hk => by
  have : g.l.length = k := by injection hk
  show k ≤ g.l.length ∧ g.l.length ≤ 6
  omega, h.lt⟩

set_option maxHeartbeats 2000000 in
set_option maxRecDepth 100000 in
theorem take_any8 (b : Nat) (g : Gs) (n : Nat) (hn : n < 65536) (w : World) (h : GrAt w b g) (hr : 0 < g.room) : Calls Tryz.prog 44 #[.pointer (some ⟨b, 0, none⟩), .int .u16 (n : Nat)] w fun e w' => e = .returned (.tuple #[]) ∧ GrAt w' b (g.put n) ∧ But b w w' := by
  obtain ⟨c8, _, _⟩ := h.cells
  have hb := h.lies.lt
  have hok := h.ok.put n hn hr
  have hl : g.l.length < 8 := by
    have := hok.le
    simp only [Gs.put, List.length_append, List.length_singleton] at this
    omega
  have f8 := h.lies.frozen 8
  have fl := h.lies.frozen g.l.length
  have cl : w.cell? ⟨b, g.l.length, none⟩ = some (.int .u16 ((l8 g.l)[g.l.length]'(by rw [l8_length _ (by omega)]; exact hl) : Nat)) := (h.lies.cell _).trans (grC_at g (by omega) _ hl)
  generalize ((l8 g.l)[g.l.length]'(by rw [l8_length _ (by omega)]; exact hl) : Nat) = old at cl
  have HL : Hid (Lies ((w.setCell ⟨b, g.l.length, none⟩ (.int .u16 (n : Nat))).setCell ⟨b, 8, none⟩ (.int .i64 ((g.l.length + 1 : Nat) : Int))) b (grC (g.put n)) 61) := by
    have := (h.lies.set g.l.length (.int .u16 (n : Nat))).set 8 (.int .i64 ((g.l.length + 1 : Nat) : Int))
    rw [grC_put g n hl] at this
    exact this
  have HB : Hid (But b w ((w.setCell ⟨b, g.l.length, none⟩ (.int .u16 (n : Nat))).setCell ⟨b, 8, none⟩ (.int .i64 ((g.l.length + 1 : Nat) : Int)))) := ((But.refl b w).set _ _).set _ _
  clear h
  generalize hm : g.l.length = m at c8 hl fl cl HL HB
  have hne : m ≠ 8 := by omega
  have h0 : (0 : Int) ≤ (m : Int) := by omega
  have h8 : (m : Int) < 8 := by omega
  clear hm
  go_enter Tryz.func44, Tryz.ntmps44
  go_wp2_with fail
  go_region
  all_goals go_wp2
  all_goals go_end0
  all_goals exact ⟨rfl, ⟨HL.out, hok⟩, ⟨HB.out.os, HB.out.tape, HB.out.output, HB.out.size, HB.out.block⟩⟩

set_option maxHeartbeats 2000000 in
set_option maxRecDepth 100000 in
theorem open_any8 (b : Nat) (g : Gs) (w : World) (h : GrAt w b g) (hm : g.mayOpen = true) : Calls Tryz.prog 39 #[.pointer (some ⟨b, 0, none⟩)] w fun e w' => e = .returned (.bool true) ∧ GrAt w' b g.open' ∧ But b w w' := by
  obtain ⟨c8, c9, c10⟩ := h.cells
  have hb := h.lies.lt
  have hle := h.ok.le
  obtain ⟨hgn, h6⟩ : g.gap.isSome = false ∧ g.l.length ≤ 6 := by simpa [Gs.mayOpen] using hm
  have hok := h.ok.open' h6
  have f9 := h.lies.frozen 9
  have f10 := h.lies.frozen 10
  rw [hgn] at c9
  have h6' : ¬ (6 : Int) < (g.l.length : Int) := by omega
  have HL : Hid (Lies ((w.setCell ⟨b, 9, none⟩ (.bool true)).setCell ⟨b, 10, none⟩ (.int .i64 (g.l.length : Nat))) b (grC g.open') 61) := by
    have := (h.lies.set 9 (.bool true)).set 10 (.int .i64 (g.l.length : Nat))
    rw [grC_open g hle] at this
    exact this
  have HB : Hid (But b w ((w.setCell ⟨b, 9, none⟩ (.bool true)).setCell ⟨b, 10, none⟩ (.int .i64 (g.l.length : Nat)))) := ((But.refl b w).set _ _).set _ _
  clear h hm hgn
  go_enter Tryz.func39, Tryz.ntmps39
  go_wp2
  go_ret
  exact ⟨rfl, ⟨HL.out, hok⟩, HB.out⟩
set_option maxHeartbeats 2000000 in
set_option maxRecDepth 100000 in
theorem open_no8 (b : Nat) (g : Gs) (w : World) (h : GrAt w b g) (hm : g.mayOpen = false) : Calls Tryz.prog 39 #[.pointer (some ⟨b, 0, none⟩)] w fun e w' => e = .returned (.bool false) ∧ w' = w := by
  obtain ⟨c8, c9, c10⟩ := h.cells
  have hb := h.lies.lt
  have hle := h.ok.le
  unfold Gs.mayOpen at hm
  clear h
  cases hg : g.gap with
  | none =>
    have h6' : (6 : Int) < (g.l.length : Int) := by
      rw [hg] at hm
      simp at hm
      omega
    rw [hg] at c9
    simp only [Option.isSome_none] at c9
    clear hm hg
    go_enter Tryz.func39, Tryz.ntmps39
    go_wp2
    go_ret
    exact ⟨rfl, rfl⟩
  | some k =>
    rw [hg] at c9
    simp only [Option.isSome_some] at c9
    clear hm hg
    go_enter Tryz.func39, Tryz.ntmps39
    go_wp2
    go_ret
    exact ⟨rfl, rfl⟩
end Go.Proofs.YtnlgbopdbihnjaaGreatDoor
