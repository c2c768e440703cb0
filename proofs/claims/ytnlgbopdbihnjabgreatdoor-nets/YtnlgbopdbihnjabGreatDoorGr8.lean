/-
  The contracts of domain's groups: room, whole, take, open.
-/
import Derived.Test.YtnlgbopdbihnjabGreatDoorV4a
namespace Go.Proofs.YtnlgbopdbihnjabGreatDoor
open Go.RowKit

def l8 (l : List Nat) : List Nat := l ++ List.replicate (8 - l.length) 0
/-- The cells of groups. -/
def grC (g : Gs) : Array Value := ((l8 g.l).map (fun n => Value.int .u16 (n : Nat)) ++ [Value.int .i64 (g.l.length : Nat), Value.bool g.gap.isSome, Value.int .i64 (g.gap.getD 0 : Nat)]).toArray
structure Gs.Ok (g : Gs) : Prop where
  le : g.l.length ≤ 8
  gap : ∀ k, g.gap = some k → k ≤ g.l.length ∧ g.l.length ≤ 6
  lt : ∀ n ∈ g.l, n < 65536
theorem l8_length (l : List Nat) (h : l.length ≤ 8) : (l8 l).length = 8 := by simp [l8]; omega
theorem grC_at (g : Gs) (h : g.l.length ≤ 8) (k : Nat) (hk : k < 8) : (grC g)[k]? = some (.int .u16 ((l8 g.l)[k]'(by rw [l8_length _ h]; exact hk) : Nat)) := by
  unfold grC
  rw [List.getElem?_toArray, List.getElem?_append_left (by rw [List.length_map, l8_length _ h]; exact hk), List.getElem?_map, List.getElem?_eq_getElem (by rw [l8_length _ h]; exact hk)]
  rfl
theorem grC_n (g : Gs) (h : g.l.length ≤ 8) : (grC g)[8]? = some (.int .i64 (g.l.length : Nat)) ∧ (grC g)[9]? = some (.bool g.gap.isSome) ∧ (grC g)[10]? = some (.int .i64 (g.gap.getD 0 : Nat)) := by
  have e : ((l8 g.l).map (fun n => Value.int .u16 (n : Nat))).length = 8 := by rw [List.length_map, l8_length _ h]
  unfold grC
  refine ⟨?_, ?_, ?_⟩ <;> rw [List.getElem?_toArray, List.getElem?_append_right (by omega), e] <;> rfl
/-- Groups in a block. -/
structure GrAt (w : World) (b : Nat) (g : Gs) : Prop where
  lies : Lies w b (grC g) 56
  ok : g.Ok
theorem GrAt.cells {w : World} {b : Nat} {g : Gs} (h : GrAt w b g) : w.cell? ⟨b, 8, none⟩ = some (.int .i64 (g.l.length : Nat)) ∧ w.cell? ⟨b, 9, none⟩ = some (.bool g.gap.isSome) ∧ w.cell? ⟨b, 10, none⟩ = some (.int .i64 (g.gap.getD 0 : Nat)) := by
  obtain ⟨h1, h2, h3⟩ := grC_n g h.ok.le
  exact ⟨(h.lies.cell 8).trans h1, (h.lies.cell 9).trans h2, (h.lies.cell 10).trans h3⟩
theorem GrAt.but {w w' : World} {b c : Nat} {g : Gs} (h : GrAt w b g) (hb : But c w w') (hne : b ≠ c) : GrAt w' b g := ⟨hb.lies h.lies hne, h.ok⟩
theorem GrAt.below {w w' : World} {b : Nat} {g : Gs} (h : GrAt w b g) (hb : Below w.heap.size w w') : GrAt w' b g := ⟨h.lies.below hb h.lies.lt, h.ok⟩

set_option maxHeartbeats 1000000 in
theorem room_any (b : Nat) (g : Gs) (w : World) (h : GrAt w b g) : Calls Tryz.prog 26 #[.pointer (some ⟨b, 0, none⟩)] w fun e w' => e = .returned (.int .i64 (g.room : Nat)) ∧ w' = w := by
  obtain ⟨c8, c9, _⟩ := h.cells
  have hle := h.ok.le
  have hgp := h.ok.gap
  have hb := h.lies.lt
  unfold Gs.room
  obtain ⟨n, hn⟩ : ∃ n, n = g.l.length := ⟨_, rfl⟩
  rw [← hn] at c8 hle hgp ⊢
  clear h hn
  cases hg : g.gap with
  | none =>
    rw [hg] at c9
    simp only [Option.isSome_none] at c9 ⊢
    clear hgp hg
    go_enter Tryz.func26, Tryz.ntmps26
    go_wp2
    go_ret
    exact ⟨by congr 2; simp; omega, rfl⟩
  | some k =>
    obtain ⟨_, h6⟩ := hgp k hg
    rw [hg] at c9
    simp only [Option.isSome_some] at c9 ⊢
    clear hgp hg
    go_enter Tryz.func26, Tryz.ntmps26
    go_wp2
    go_ret
    exact ⟨by congr 2; simp; omega, rfl⟩

set_option maxHeartbeats 1000000 in
theorem whole_any (b : Nat) (g : Gs) (k : Nat) (w : World) (h : GrAt w b g) : Calls Tryz.prog 27 #[.pointer (some ⟨b, 0, none⟩), .int .i64 (k : Nat)] w fun e w' => e = .returned (.bool (g.whole k)) ∧ w' = w := by
  obtain ⟨_, c9, _⟩ := h.cells
  have hb := h.lies.lt
  have HR : Hid (Calls Tryz.prog 26 #[.pointer (some ⟨b, 0, none⟩)] w fun e w' => e = .returned (.int .i64 (g.room : Nat)) ∧ w' = w) := room_any b g w h
  have hroom : g.room ≤ 8 := by unfold Gs.room; split <;> omega
  unfold Gs.whole
  generalize g.room = r at HR hroom ⊢
  clear h
  cases hg : g.gap with
  | none =>
    rw [hg] at c9
    simp only [Option.isSome_none] at c9 ⊢
    go_enter Tryz.func27, Tryz.ntmps27
    go_wp2_with (go_at_call 26; refine HR.out.mono ?_; rintro e w' ⟨rfl, rfl⟩)
    go_ret
    exact ⟨ret_bl (by show ((k : Int) == (r : Int)) = _; rw [Bool.eq_iff_iff]; simp; omega), rfl⟩
  | some k0 =>
    rw [hg] at c9
    simp only [Option.isSome_some] at c9 ⊢
    by_cases hkr : k ≤ r
    · have hkr' : (k : Int) ≤ (r : Int) := by omega
      go_enter Tryz.func27, Tryz.ntmps27
      go_wp2_with (go_at_call 26; refine HR.out.mono ?_; rintro e w' ⟨rfl, rfl⟩)
      go_ret
      exact ⟨by congr 2; simp [hkr], rfl⟩
    · have hkr' : ¬ (k : Int) ≤ (r : Int) := by omega
      go_enter Tryz.func27, Tryz.ntmps27
      go_wp2_with (go_at_call 26; refine HR.out.mono ?_; rintro e w' ⟨rfl, rfl⟩)
      go_ret
      exact ⟨ret_bl (by show ((k : Int) == (r : Int)) = _; rw [Bool.eq_iff_iff]; simp; omega), rfl⟩

theorem grC_put (g : Gs) (n : Nat) (h : g.l.length < 8) : ((grC g).setIfInBounds g.l.length (.int .u16 (n : Nat))).setIfInBounds 8 (.int .i64 ((g.l.length + 1 : Nat) : Int)) = grC (g.put n) := by
  obtain ⟨l, gp⟩ := g
  unfold grC Gs.put l8
  simp only at h
  rw [List.setIfInBounds_toArray, List.setIfInBounds_toArray]
  congr 1
  match l, h with
  | [], _ => rfl
  | [_], _ => rfl
  | [_, _], _ => rfl
  | [_, _, _], _ => rfl
  | [_, _, _, _], _ => rfl
  | [_, _, _, _, _], _ => rfl
  | [_, _, _, _, _, _], _ => rfl
  | [_, _, _, _, _, _, _], _ => rfl
theorem grC_open (g : Gs) (h : g.l.length ≤ 8) : ((grC g).setIfInBounds 9 (.bool true)).setIfInBounds 10 (.int .i64 (g.l.length : Nat)) = grC g.open' := by
  have e : ((l8 g.l).map (fun n => Value.int .u16 (n : Nat))).length = 8 := by rw [List.length_map, l8_length _ h]
  unfold grC Gs.open'
  rw [List.setIfInBounds_toArray, List.setIfInBounds_toArray]
  congr 1
  dsimp only
  rw [List.set_append_right _ _ (by omega), List.set_append_right _ _ (by omega), e]
  rfl
theorem Gs.Ok.put {g : Gs} (h : g.Ok) (n : Nat) (hn : n < 65536) (hr : 0 < g.room) : (g.put n).Ok := by
  have hr' := hr
  unfold Gs.room at hr'
  refine ⟨?_, fun k hk => ?_, fun m hm => ?_⟩
  · simp only [Gs.put, List.length_append, List.length_singleton]
    split at hr' <;> omega
  · have hk' : g.gap = some k := hk
    obtain ⟨h1, h2⟩ := h.gap k hk'
    rw [hk', Option.isSome_some, if_pos rfl] at hr'
    simp only [Gs.put, List.length_append, List.length_singleton]
    omega
  · rcases List.mem_append.1 hm with hm | hm
    · exact h.lt m hm
    · rw [List.mem_singleton.1 hm]; exact hn
theorem Gs.Ok.open' {g : Gs} (h : g.Ok) (hr : g.l.length ≤ 6) : g.open'.Ok := ⟨h.le, fun k hk => by
  have : g.l.length = k := by injection hk
  show k ≤ g.l.length ∧ g.l.length ≤ 6
  omega, h.lt⟩

set_option maxHeartbeats 2000000 in
set_option maxRecDepth 100000 in
theorem take_any8 (b : Nat) (g : Gs) (n : Nat) (hn : n < 65536) (w : World) (h : GrAt w b g) (hr : 0 < g.room) : Calls Tryz.prog 28 #[.pointer (some ⟨b, 0, none⟩), .int .u16 (n : Nat)] w fun e w' => e = .returned (.tuple #[]) ∧ GrAt w' b (g.put n) ∧ But b w w' := by
  obtain ⟨c8, _, _⟩ := h.cells
  have hb := h.lies.lt
  have hok := h.ok.put n hn hr
  have hl : g.l.length < 8 := by
    have := hok.le
    simp only [Gs.put, List.length_append, List.length_singleton] at this
    omega
  have f8 := h.lies.frozen 8
  have fl := h.lies.frozen g.l.length
  have cl : w.cell? ⟨b, g.l.length, none⟩ = some (.int .u16 ((l8 g.l)[g.l.length]'(by rw [l8_length _ (by omega)]; exact hl) : Nat)) := (h.lies.cell _).trans (grC_at g (by omega) _ hl)
  generalize ((l8 g.l)[g.l.length]'(by rw [l8_length _ (by omega)]; exact hl) : Nat) = old at cl
  have HL : Hid (Lies ((w.setCell ⟨b, g.l.length, none⟩ (.int .u16 (n : Nat))).setCell ⟨b, 8, none⟩ (.int .i64 ((g.l.length + 1 : Nat) : Int))) b (grC (g.put n)) 56) := by
    have := (h.lies.set g.l.length (.int .u16 (n : Nat))).set 8 (.int .i64 ((g.l.length + 1 : Nat) : Int))
    rw [grC_put g n hl] at this
    exact this
  have HB : Hid (But b w ((w.setCell ⟨b, g.l.length, none⟩ (.int .u16 (n : Nat))).setCell ⟨b, 8, none⟩ (.int .i64 ((g.l.length + 1 : Nat) : Int)))) := ((But.refl b w).set _ _).set _ _
  clear h
  generalize hm : g.l.length = m at c8 hl fl cl HL HB
  have hne : m ≠ 8 := by omega
  have h0 : (0 : Int) ≤ (m : Int) := by omega
  have h8 : (m : Int) < 8 := by omega
  clear hm
  go_enter Tryz.func28, Tryz.ntmps28
  go_wp2_with fail
  go_region
  all_goals go_wp2
  all_goals go_end0
  all_goals exact ⟨rfl, ⟨HL.out, hok⟩, ⟨HB.out.os, HB.out.tape, HB.out.output, HB.out.size, HB.out.block⟩⟩

set_option maxHeartbeats 2000000 in
set_option maxRecDepth 100000 in
theorem open_any8 (b : Nat) (g : Gs) (w : World) (h : GrAt w b g) (hm : g.mayOpen = true) : Calls Tryz.prog 23 #[.pointer (some ⟨b, 0, none⟩)] w fun e w' => e = .returned (.bool true) ∧ GrAt w' b g.open' ∧ But b w w' := by
  obtain ⟨c8, c9, c10⟩ := h.cells
  have hb := h.lies.lt
  have hle := h.ok.le
  obtain ⟨hgn, h6⟩ : g.gap.isSome = false ∧ g.l.length ≤ 6 := by simpa [Gs.mayOpen] using hm
  have hok := h.ok.open' h6
  have f9 := h.lies.frozen 9
  have f10 := h.lies.frozen 10
  rw [hgn] at c9
  have h6' : ¬ (6 : Int) < (g.l.length : Int) := by omega
  have HL : Hid (Lies ((w.setCell ⟨b, 9, none⟩ (.bool true)).setCell ⟨b, 10, none⟩ (.int .i64 (g.l.length : Nat))) b (grC g.open') 56) := by
    have := (h.lies.set 9 (.bool true)).set 10 (.int .i64 (g.l.length : Nat))
    rw [grC_open g hle] at this
    exact this
  have HB : Hid (But b w ((w.setCell ⟨b, 9, none⟩ (.bool true)).setCell ⟨b, 10, none⟩ (.int .i64 (g.l.length : Nat)))) := ((But.refl b w).set _ _).set _ _
  clear h hm hgn
  go_enter Tryz.func23, Tryz.ntmps23
  go_wp2
  go_ret
  exact ⟨rfl, ⟨HL.out, hok⟩, HB.out⟩
set_option maxHeartbeats 2000000 in
set_option maxRecDepth 100000 in
theorem open_no8 (b : Nat) (g : Gs) (w : World) (h : GrAt w b g) (hm : g.mayOpen = false) : Calls Tryz.prog 23 #[.pointer (some ⟨b, 0, none⟩)] w fun e w' => e = .returned (.bool false) ∧ w' = w := by
  obtain ⟨c8, c9, c10⟩ := h.cells
  have hb := h.lies.lt
  have hle := h.ok.le
  unfold Gs.mayOpen at hm
  clear h
  cases hg : g.gap with
  | none =>
    have h6' : (6 : Int) < (g.l.length : Int) := by
      rw [hg] at hm
      simp at hm
      omega
    rw [hg] at c9
    simp only [Option.isSome_none] at c9
    clear hm hg
    go_enter Tryz.func23, Tryz.ntmps23
    go_wp2
    go_ret
    exact ⟨rfl, rfl⟩
  | some k =>
    rw [hg] at c9
    simp only [Option.isSome_some] at c9
    clear hm hg
    go_enter Tryz.func23, Tryz.ntmps23
    go_wp2
    go_ret
    exact ⟨rfl, rfl⟩
end Go.Proofs.YtnlgbopdbihnjabGreatDoor
